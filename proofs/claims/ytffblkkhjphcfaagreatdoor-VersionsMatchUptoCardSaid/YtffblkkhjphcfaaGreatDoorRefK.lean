/- Walks: Next of package outref2. -/
import Derived.Test.YtffblkkhjphcfaaGreatDoorRefJ
namespace Go.Proofs.YtffblkkhjphcfaaGreatDoor
open Go.RowKit Go.Shelf

theorem first2_at (x y : Int) (nb : Nat) (W : World) (t : TypeId) (hn : nb = W.heap.size) :
    Calls Tryz.prog 10 #[.slice (some ⟨nb, 0, none⟩) 2 2] (W.alloc (.cells #[.int .i64 x, .int .i64 y] t)) fun e w' => e = .returned (.int .i64 (P.orI [x, y])) ∧ (W.alloc (.cells #[.int .i64 x, .int .i64 y] t)) = w' := by
  subst hn
  exact first_any W.heap.size [x, y] (by simp) (W.alloc (.cells #[.int .i64 x, .int .i64 y] t)) (fun j hj => by
    rw [World.cell?_alloc_at _ _ _ _ rfl]
    match j, hj with
    | 0, _ => rfl
    | 1, _ => rfl)
theorem orI_two (x y : Int) : P.orI [x, y] = if x = 0 then y else x := by
  unfold P.orI; split
  · simp only [P.orI]; split
    · rename_i h; exact h.symm
    · rfl
  · rfl
theorem below_start2 (w : World) (o o' : Obj) : Below w.heap.size w ((w.alloc o).alloc o') := (below_alloc w o).trans ((below_alloc _ _).mono (by simp))

set_option maxHeartbeats 4000000 in
theorem nextOf_bad (a b c : Int) (s : ByteArray) (p : Int) (hs : s.size ≤ 4294967280) (w : World) (hw : Good w) (h : P.verr a b c s ≠ 0) :
    Calls Tryz.prog 14 #[.agg #[.int .i64 a, .int .i64 b, .int .i64 c, .string s], .int .i64 p] w fun e w' => e = .returned (nextV a b c s p) ∧ Below w.heap.size w w' := by
  have HV := Lib.hid (nextV_bad (nextErr_bad (p := p) h) h)
  have h' : (P.verr a b c s != 0) = true := by simpa using h
  have HE := Lib.hid (fun nb W hn hW => verr1_at a b c s hs nb W hn hW)
  have HI := Lib.hid (in_any p 0 2)
  have HWh := Lib.hid (when_any (!(decide (0 ≤ p) && decide (p ≤ 2))) 3)
  have HF := fun nb W t hn => first2_at (P.verr a b c s) (if (!(decide (0 ≤ p) && decide (p ≤ 2))) = true then 3 else 0) nb W t hn
  rw [orI_two, if_neg h] at HF
  have HF := Lib.hid HF
  generalize (if (!(decide (0 ≤ p) && decide (p ≤ 2))) = true then (3 : Int) else 0) = y at *
  generalize (decide (0 ≤ p) && decide (p ≤ 2)) = pb at *
  generalize P.verr a b c s = x at *
  clear h
  have Hw := Lib.hid hw
  clear hw
  go_enter Tryz.func14, Tryz.ntmps14
  go_wp2_with fail
  refine (HE.out _ _ (by simp) (Hw.out.mono (below_start2 _ _ _))).mono ?_
  rintro e w1 ⟨rfl, hb1⟩
  have R0 := (((HasRow.new w _ _).alloc _).alloc _).below hb1
  have R1 := ((HasRow.new (w.alloc _) _ _).alloc _).below hb1
  simp only [World.size_alloc] at R1
  have HB1 := Lib.hid (below_step (below_step (below_start2 _ _ _) (below_alloc _ _)) hb1)
  obtain ⟨c0, c1, c2, c3, k0, k1, k2, k3, hlt0⟩ := row4 R0
  obtain ⟨d0, d1, d2, d3, f0, f1, f2, f3, hlt⟩ := row4 R1
  have HR0 := Lib.hid R0
  have HR1 := Lib.hid R1
  clear hb1 R0 R1
  go_wp2_with (first | (go_at_call 59; refine (HI.out _).mono ?_; rintro e w' ⟨rfl, rfl⟩) | (go_at_call 37; refine (HWh.out _).mono ?_; rintro e w' ⟨rfl, rfl⟩) | (go_at_call 10; refine (HF.out _ _ _ (by simp)).mono ?_; rintro e w' ⟨rfl, rfl⟩))
  refine bodyPost_ret (v := .tuple #[.agg #[.int .i64 0, .int .i64 0, .int .i64 0, .string ⟨#[]⟩], .int .i64 x]) ?_ rfl ⟨by rw [HV.out], ?_⟩
  · clear HB1 HE HI HWh HF HV Hw HR0 HR1
    simp [results, Tryz.results14, go_sem, d0, d1, d2, d3, hlt]
  · exact (below_set4' HB1.out (Nat.le_succ _) _ _ _ _).alloc (by have := HB1.out.size; simpa [World.setCell] using this) _

set_option maxHeartbeats 4000000 in
theorem nextOf_part (a b c : Int) (s : ByteArray) (p : Int) (hs : s.size ≤ 4294967280) (w : World) (hw : Good w) (h : P.verr a b c s = 0) (hp : p < 0 ∨ 2 < p) :
    Calls Tryz.prog 14 #[.agg #[.int .i64 a, .int .i64 b, .int .i64 c, .string s], .int .i64 p] w fun e w' => e = .returned (nextV a b c s p) ∧ Below w.heap.size w w' := by
  have HV := Lib.hid (nextV_bad (nextErr_part (p := p) h hp) (by decide))
  have HE := fun nb W hn hW => verr1_at a b c s hs nb W hn hW
  rw [h] at HE
  have HE := Lib.hid HE
  have hpb : (decide (0 ≤ p) && decide (p ≤ 2)) = false := by rw [Bool.and_eq_false_iff, decide_eq_false_iff_not, decide_eq_false_iff_not]; omega
  have HI := in_any p 0 2
  rw [hpb] at HI
  have HI := Lib.hid HI
  have HWh := Lib.hid (when_any true 3)
  have HF := fun nb W t hn => first2_at 0 3 nb W t hn
  rw [show P.orI [0, 3] = 3 from rfl] at HF
  have HF := Lib.hid HF
  clear h hp hpb
  have Hw := Lib.hid hw
  clear hw
  go_enter Tryz.func14, Tryz.ntmps14
  go_wp2_with fail
  refine (HE.out _ _ (by simp) (Hw.out.mono (below_start2 _ _ _))).mono ?_
  rintro e w1 ⟨rfl, hb1⟩
  have R0 := (((HasRow.new w _ _).alloc _).alloc _).below hb1
  have R1 := ((HasRow.new (w.alloc _) _ _).alloc _).below hb1
  simp only [World.size_alloc] at R1
  have HB1 := Lib.hid (below_step (below_step (below_start2 _ _ _) (below_alloc _ _)) hb1)
  obtain ⟨c0, c1, c2, c3, k0, k1, k2, k3, hlt0⟩ := row4 R0
  obtain ⟨d0, d1, d2, d3, f0, f1, f2, f3, hlt⟩ := row4 R1
  have HR0 := Lib.hid R0
  have HR1 := Lib.hid R1
  clear hb1 R0 R1
  go_wp2_with (first | (go_at_call 59; refine (HI.out _).mono ?_; rintro e w' ⟨rfl, rfl⟩) | (go_at_call 37; refine (HWh.out _).mono ?_; rintro e w' ⟨rfl, rfl⟩) | (go_at_call 10; refine (HF.out _ _ _ (by simp)).mono ?_; rintro e w' ⟨rfl, rfl⟩))
  refine bodyPost_ret (v := .tuple #[.agg #[.int .i64 0, .int .i64 0, .int .i64 0, .string ⟨#[]⟩], .int .i64 3]) ?_ rfl ⟨by rw [HV.out], ?_⟩
  · clear HB1 HE HI HWh HF HV Hw HR0 HR1
    simp [results, Tryz.results14, go_sem, d0, d1, d2, d3, hlt]
  · exact (below_set4' HB1.out (Nat.le_succ _) _ _ _ _).alloc (by have := HB1.out.size; simpa [World.setCell] using this) _
end Go.Proofs.YtffblkkhjphcfaaGreatDoor
