/- Walks: the order of versions of package outref2: where numbers differ, where a tail is empty; the whole. -/
import Derived.Test.YtffblkkhjphcfaaGreatDoorRefI
namespace Go.Proofs.YtffblkkhjphcfaaGreatDoor
open Go.RowKit Go.Shelf

theorem orI_snoc {x y z t : Int} : P.orI [x, y, z, t] = if P.orI [x, y, z] = 0 then t else P.orI [x, y, z] := by
  unfold P.orI
  by_cases hx : x = 0
  · rw [if_pos hx, if_pos hx]
    unfold P.orI
    by_cases hy : y = 0
    · rw [if_pos hy, if_pos hy]
      unfold P.orI
      by_cases hz : z = 0
      · rw [if_pos hz, if_pos hz]
        unfold P.orI
        by_cases ht : t = 0
        · rw [if_pos ht]; simp [P.orI, ht]
        · rw [if_neg ht]; simp [P.orI]
      · rw [if_neg hz, if_neg hz, if_neg hz]
    · rw [if_neg hy, if_neg hy, if_neg hy]
  · rw [if_neg hx, if_neg hx, if_neg hx]

theorem earlyCmp_min {a b : ByteArray} (h : a.toList.isEmpty = true ∨ b.toList.isEmpty = true) : Lib.compareInt (min 1 (b.size : Int)) (min 1 (a.size : Int)) = P.earlyCmp a b := by
  have z : ∀ s : ByteArray, s.toList.isEmpty = true → s.size = 0 := fun s hs => by rw [P.empty_iff] at hs; rw [← P.size_len, hs]; rfl
  have p : ∀ s : ByteArray, s.toList.isEmpty = false → 0 < s.size := fun s hs => pos_of hs
  have n : ∀ s : ByteArray, s.toList.isEmpty = true → s.toList = [] := fun s hs => eq_of hs
  unfold P.earlyCmp
  cases ha : a.toList.isEmpty with
  | true =>
    cases hb : b.toList.isEmpty with
    | true => rw [n a ha, n b hb, z a ha, z b hb]; rfl
    | false =>
      have := p b hb
      have hne : (a.toList == b.toList) = false := by rw [n a ha, beq_eq_false_iff_ne]; intro e; rw [← e] at hb; cases hb
      rw [hne, z a ha, P.compareInt_gt (by omega)]; rfl
  | false =>
    cases hb : b.toList.isEmpty with
    | false => rw [ha, hb] at h; rcases h with h | h <;> cases h
    | true =>
      have := p a ha
      have hne : (a.toList == b.toList) = false := by rw [n b hb, beq_eq_false_iff_ne]; intro e; rw [e] at ha; cases ha
      rw [hne, z b hb, P.compareInt_lt (by omega)]; rfl

set_option maxHeartbeats 8000000 in
set_option maxRecDepth 100000 in
theorem compareOf_nums (a1 a2 a3 b1 b2 b3 : Int) (a4 b4 : ByteArray) (hz : P.orI [Lib.compareInt a1 b1, Lib.compareInt a2 b2, Lib.compareInt a3 b3] ≠ 0) (w : World) (hw : Good w) :
    Calls Tryz.prog 24 #[.agg #[.int .i64 a1, .int .i64 a2, .int .i64 a3, .string a4], .agg #[.int .i64 b1, .int .i64 b2, .int .i64 b3, .string b4]] w fun e w' =>
      e = .returned (.int .i64 (P.orI [Lib.compareInt a1 b1, Lib.compareInt a2 b2, Lib.compareInt a3 b3])) ∧ Below w.heap.size w w' := by
  have H1 := Lib.hid (Tryz.cmp_Compare_int a1 b1)
  have H2 := Lib.hid (Tryz.cmp_Compare_int a2 b2)
  have H3 := Lib.hid (Tryz.cmp_Compare_int a3 b3)
  generalize Lib.compareInt a1 b1 = x1 at *
  generalize Lib.compareInt a2 b2 = x2 at *
  generalize Lib.compareInt a3 b3 = x3 at *
  have HO := Lib.hid (fun nb W hn => three_cmp x1 x2 x3 nb W hn)
  have hz' : (P.orI [x1, x2, x3] != 0) = true := by simpa using hz
  generalize P.orI [x1, x2, x3] = c at *
  go_enter Tryz.func24, Tryz.ntmps24
  go_wp2_with fail
  go_region_held3 (fun W => W.cell? ⟨w.heap.size, 0, none⟩ = some (.int .i64 a1) ∧ W.cell? ⟨w.heap.size, 1, none⟩ = some (.int .i64 a2) ∧ W.cell? ⟨w.heap.size, 2, none⟩ = some (.int .i64 a3) ∧ W.cell? ⟨w.heap.size, 3, none⟩ = some (.string a4) ∧
      W.cell? ⟨w.heap.size + 1, 0, none⟩ = some (.int .i64 b1) ∧ W.cell? ⟨w.heap.size + 1, 1, none⟩ = some (.int .i64 b2) ∧ W.cell? ⟨w.heap.size + 1, 2, none⟩ = some (.int .i64 b3) ∧ W.cell? ⟨w.heap.size + 1, 3, none⟩ = some (.string b4) ∧ Frm w W ∧ w.heap.size + 1 < W.heap.size)
    (first | exact box2_start _ _ _ _ _ _ _ _ _ _ _ rfl | with_reducible assumption | exact box2_step (by with_reducible assumption) (by with_reducible assumption) | exact box2_step (by with_reducible assumption) (below_alloc _ _))
    (first
      | (go_at_call_of 73 (Value.int IntKind.i64 a1); refine (H1.out _).mono ?_; rintro e w' ⟨rfl, rfl⟩)
      | (go_at_call_of 73 (Value.int IntKind.i64 a2); refine (H2.out _).mono ?_; rintro e w' ⟨rfl, rfl⟩)
      | (go_at_call_of 73 (Value.int IntKind.i64 a3); refine (H3.out _).mono ?_; rintro e w' ⟨rfl, rfl⟩)
      | (go_at_call 72; refine (HO.out _ _ (by simp)).mono ?_; rintro e w' ⟨rfl, rfl⟩))
  go_wp2
  go_ret
  exact ⟨rfl, (held2_frm (by with_reducible assumption)).1⟩

set_option maxHeartbeats 8000000 in
set_option maxRecDepth 100000 in
theorem compareOf_empty (a1 a2 a3 b1 b2 b3 : Int) (a4 b4 : ByteArray) (hz : P.orI [Lib.compareInt a1 b1, Lib.compareInt a2 b2, Lib.compareInt a3 b3] = 0) (h : a4.toList.isEmpty = true ∨ (a4.toList.isEmpty = false ∧ b4.toList.isEmpty = true)) (hsa : a4.size ≤ 4294967280) (hsb : b4.size ≤ 4294967280) (w : World) (hw : Good w) :
    Calls Tryz.prog 24 #[.agg #[.int .i64 a1, .int .i64 a2, .int .i64 a3, .string a4], .agg #[.int .i64 b1, .int .i64 b2, .int .i64 b3, .string b4]] w fun e w' =>
      e = .returned (.int .i64 (P.earlyCmp a4 b4)) ∧ Below w.heap.size w w' := by
  rw [← earlyCmp_min (h.imp id (·.2))]
  have HM := Lib.hid (Tryz.cmp_Compare_int (min 1 (b4.size : Int)) (min 1 (a4.size : Int)))
  generalize Lib.compareInt (min 1 (b4.size : Int)) (min 1 (a4.size : Int)) = mm at *
  have H1 := Lib.hid (Tryz.cmp_Compare_int a1 b1)
  have H2 := Lib.hid (Tryz.cmp_Compare_int a2 b2)
  have H3 := Lib.hid (Tryz.cmp_Compare_int a3 b3)
  generalize Lib.compareInt a1 b1 = x1 at *
  generalize Lib.compareInt a2 b2 = x2 at *
  generalize Lib.compareInt a3 b3 = x3 at *
  have hO := fun nb W hn => three_cmp x1 x2 x3 nb W hn
  rw [hz] at hO
  have HO := Lib.hid hO
  clear hO hz
  rcases h with g1 | ⟨g1, g2⟩
  all_goals
    go_enter Tryz.func24, Tryz.ntmps24
    go_wp2_with fail
    go_region_held3 (fun W => W.cell? ⟨w.heap.size, 0, none⟩ = some (.int .i64 a1) ∧ W.cell? ⟨w.heap.size, 1, none⟩ = some (.int .i64 a2) ∧ W.cell? ⟨w.heap.size, 2, none⟩ = some (.int .i64 a3) ∧ W.cell? ⟨w.heap.size, 3, none⟩ = some (.string a4) ∧
        W.cell? ⟨w.heap.size + 1, 0, none⟩ = some (.int .i64 b1) ∧ W.cell? ⟨w.heap.size + 1, 1, none⟩ = some (.int .i64 b2) ∧ W.cell? ⟨w.heap.size + 1, 2, none⟩ = some (.int .i64 b3) ∧ W.cell? ⟨w.heap.size + 1, 3, none⟩ = some (.string b4) ∧ Frm w W ∧ w.heap.size + 1 < W.heap.size)
      (first | exact box2_start _ _ _ _ _ _ _ _ _ _ _ rfl | with_reducible assumption | exact box2_step (by with_reducible assumption) (by with_reducible assumption) | exact box2_step (by with_reducible assumption) (below_alloc _ _))
      (first
        | (go_at_call_of 73 (Value.int IntKind.i64 a1); refine (H1.out _).mono ?_; rintro e w' ⟨rfl, rfl⟩)
        | (go_at_call_of 73 (Value.int IntKind.i64 a2); refine (H2.out _).mono ?_; rintro e w' ⟨rfl, rfl⟩)
        | (go_at_call_of 73 (Value.int IntKind.i64 a3); refine (H3.out _).mono ?_; rintro e w' ⟨rfl, rfl⟩)
        | (go_at_call 72; refine (HO.out _ _ (by simp)).mono ?_; rintro e w' ⟨rfl, rfl⟩))
    obtain ⟨W1, hW1, hS1⟩ : ∃ W1, W1 = (((w.alloc (.cells #[.int .i64 a1, .int .i64 a2, .int .i64 a3, .string a4] 23)).alloc (.cells #[.int .i64 b1, .int .i64 b2, .int .i64 b3, .string b4] 23)).alloc (.cells #[.int .i64 x1, .int .i64 x2, .int .i64 x3] 3)).drew ∧ (W1.cell? ⟨w.heap.size, 3, none⟩ = some (.string a4) ∧ W1.cell? ⟨w.heap.size + 1, 3, none⟩ = some (.string b4) ∧ w.heap.size + 1 < W1.heap.size ∧ Below w.heap.size w W1) :=
      ⟨_, rfl, (by assumption : _ ∧ _ ∧ _ ∧ _ ∧ _ ∧ _ ∧ _ ∧ _ ∧ _ ∧ _).2.2.2.1, (by assumption : _ ∧ _ ∧ _ ∧ _ ∧ _ ∧ _ ∧ _ ∧ _ ∧ _ ∧ _).2.2.2.2.2.2.2.1, (by assumption : _ ∧ _ ∧ _ ∧ _ ∧ _ ∧ _ ∧ _ ∧ _ ∧ _ ∧ _).2.2.2.2.2.2.2.2.2, (held2_frm (by assumption)).1⟩
    rw [← hW1]
    obtain ⟨p1, p2, p3, p4⟩ := hS1
    have HB1 := Lib.hid p4
    clear p4 hW1 H1 H2 H3 HO
    go_wp2_with (go_at_call 73; refine (HM.out _).mono ?_; rintro e w' ⟨rfl, rfl⟩)
    go_ret
    exact ⟨rfl, HB1.out⟩

theorem compareOf_any (a1 a2 a3 b1 b2 b3 : Int) (a4 b4 : ByteArray) (ha : P.verr a1 a2 a3 a4 = 0) (hb : P.verr b1 b2 b3 b4 = 0) (w : World) (hw : Good w) :
    Calls Tryz.prog 24 #[.agg #[.int .i64 a1, .int .i64 a2, .int .i64 a3, .string a4], .agg #[.int .i64 b1, .int .i64 b2, .int .i64 b3, .string b4]] w fun e w' =>
      e = .returned (.int .i64 (P.verCmp a1 a2 a3 a4 b1 b2 b3 b4)) ∧ Below w.heap.size w w' := by
  have hv : P.verCmp a1 a2 a3 a4 b1 b2 b3 b4 = if P.orI [Lib.compareInt a1 b1, Lib.compareInt a2 b2, Lib.compareInt a3 b3] = 0 then P.earlyCmp a4 b4 else P.orI [Lib.compareInt a1 b1, Lib.compareInt a2 b2, Lib.compareInt a3 b3] := orI_snoc
  rw [hv]
  have sz : ∀ {n1 n2 n3 : Int} {s : ByteArray}, P.verr n1 n2 n3 s = 0 → s.size ≤ 4294967280 := fun {n1 n2 n3 s} h => by
    cases he : s.toList.isEmpty with
    | true => rw [P.empty_iff] at he; rw [← P.size_len, he]; decide
    | false => have := (P.verr_words h he).1; omega
  by_cases hz : P.orI [Lib.compareInt a1 b1, Lib.compareInt a2 b2, Lib.compareInt a3 b3] = 0
  · rw [if_pos hz]
    cases g1 : a4.toList.isEmpty with
    | true => exact compareOf_empty a1 a2 a3 b1 b2 b3 a4 b4 hz (.inl g1) (sz ha) (sz hb) w hw
    | false =>
      cases g2 : b4.toList.isEmpty with
      | true => exact compareOf_empty a1 a2 a3 b1 b2 b3 a4 b4 hz (.inr ⟨g1, g2⟩) (sz ha) (sz hb) w hw
      | false =>
        rw [P.earlyCmp_both g1 g2]
        exact compareOf_words a1 a2 a3 b1 b2 b3 a4 b4 ha hb g1 g2 hz w hw
  · rw [if_neg hz]
    exact compareOf_nums a1 a2 a3 b1 b2 b3 a4 b4 hz w hw
end Go.Proofs.YtffblkkhjphcfaaGreatDoor
