/- Walks: what the law MachinesCheck calls besides: landed, zero; Diff where the second machine is wrong. -/
import Derived.Test.YtgdpbdgaldiggaaGreatDoorZMDiff
import Derived.Test.YtgdpbdgaldiggaaGreatDoorZMRCheck2

namespace Go.Proofs.YtgdpbdgaldiggaaGreatDoor
open Go.RowKit Go.Shelf

theorem name_a : P.nameS ⟨#[97]⟩ = true := by decide +kernel
theorem landed_any (w : World) : Calls Tryz.prog 9 #[] w fun e w' => e = .returned (.bool true) ∧ w = w' := by
  have H := fun W => isName_any ⟨#[97]⟩ (by decide) W
  rw [name_a] at H
  replace H := Lib.hid H
  go_enter Tryz.func9, Tryz.ntmps9
  go_wp2_with (go_at_call 57; refine (H.out _).mono ?_; rintro e w' ⟨rfl, rfl⟩)
  go_ret
  exact ⟨rfl, rfl⟩
theorem equalS_nil (w : World) : Calls Tryz.prog 46 #[.slice none 0 0, .slice none 0 0] w fun e w' => e = .returned (.bool true) ∧ w = w' := by
  go_enter Tryz.func46, Tryz.ntmps46
  go_wp2_with fail
  refine wp_loop_rounds 1 ?_
  rw [rounds_succ]
  go_wp2
  go_ret
  exact ⟨rfl, rfl⟩
theorem equalF_nil (w : World) : Calls Tryz.prog 109 #[.slice none 0 0, .slice none 0 0] w fun e w' => e = .returned (.bool true) ∧ w = w' := by
  go_enter Tryz.func109, Tryz.ntmps109
  go_wp2_with fail
  refine wp_loop_rounds 1 ?_
  rw [rounds_succ]
  go_wp2
  go_ret
  exact ⟨rfl, rfl⟩
theorem equalV_nil (w : World) : Calls Tryz.prog 110 #[.slice none 0 0, .slice none 0 0] w fun e w' => e = .returned (.bool true) ∧ w = w' := by
  go_enter Tryz.func110, Tryz.ntmps110
  go_wp2_with fail
  refine wp_loop_rounds 1 ?_
  rw [rounds_succ]
  go_wp2
  go_ret
  exact ⟨rfl, rfl⟩
set_option maxRecDepth 100000 in
theorem same_zero (w : World) : Calls Tryz.prog 43 #[.agg mz, .agg mz] w fun e w' => e = .returned (.bool true) ∧ Below w.heap.size w w' := by
  have H1 := Lib.hid equalS_nil
  have H2 := Lib.hid equalF_nil
  have H3 := Lib.hid equalV_nil
  have HB := Lib.hid (below2 w (.cells mz 26) (.cells mz 26))
  go_enter Tryz.func43, Tryz.ntmps43
  go_wp2_with (first
    | (go_at_call 46; refine (H1.out _).mono ?_; rintro e w' ⟨rfl, rfl⟩)
    | (go_at_call 109; refine (H2.out _).mono ?_; rintro e w' ⟨rfl, rfl⟩)
    | (go_at_call 110; refine (H3.out _).mono ?_; rintro e w' ⟨rfl, rfl⟩))
  go_ret
  exact ⟨rfl, HB.out⟩
theorem zero_any (w : World) : Calls Tryz.prog 17 #[.agg mz] w fun e w' => e = .returned (.bool true) ∧ Below w.heap.size w w' := by
  have H := Lib.hid same_zero
  go_enter Tryz.func17, Tryz.ntmps17
  go_wp2_with fail
  refine (H.out _).mono ?_
  rintro x w1 ⟨rfl, hb⟩
  have HB := Lib.hid (bstep (below_alloc _ _) hb)
  clear hb
  go_wp2_with fail
  go_ret
  exact ⟨rfl, HB.out⟩
set_option maxRecDepth 100000 in
theorem diff_bad2 (s1 s2 s3 s4 t1 t2 t3 t4 : Value) (f : Int) (hf : f ≠ 0) (w : World) (h : ChecksTo (.agg #[s1, s2, s3, s4]) 0 w) (h2 : ChecksTo (.agg #[t1, t2, t3, t4]) f w) :
    Calls Tryz.prog 12 #[.agg #[s1, s2, s3, s4], .agg #[t1, t2, t3, t4]] w fun x w' => x = .returned (.tuple #[.slice none 0 0, .int .i64 f]) ∧ Below w.heap.size w w' := by
  have H := Lib.hid h.2
  have H2 := Lib.hid h2.2
  have g : (f != 0) = true := by simpa using hf
  clear h h2 hf
  go_enter Tryz.func12, Tryz.ntmps12
  go_wp2_with fail
  refine (H.out _ (below2 _ _ _)).mono ?_
  rintro x w1 ⟨rfl, hb⟩
  have hRB := (HasRow.new (w.alloc (.cells #[s1, s2, s3, s4] 26)) #[t1, t2, t3, t4] 26).below hb
  rw [World.size_alloc] at hRB
  obtain ⟨q1, q2, q3, q4, q5⟩ := hrow4 hRB
  have HB := Lib.hid (bstep (below2 _ _ _) hb)
  clear hb hRB
  go_wp2_with fail
  refine (H2.out _ HB.out).mono ?_
  rintro x w2 ⟨rfl, hb⟩
  have HB2 := Lib.hid (bstep HB.out hb)
  clear hb
  go_wp2_with fail
  go_ret2
  exact ⟨rfl, HB2.out⟩
end Go.Proofs.YtgdpbdgaldiggaaGreatDoor
