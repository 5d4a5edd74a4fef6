/- Walks: Next of package ver. -/
import Derived.Test.YtffblkkhjphcfaaGreatDoorNext
import Derived.RegionTactic
import Derived.BigRegion
namespace Go.Proofs.YtffblkkhjphcfaaGreatDoor
open Go.RowKit Go.Shelf

/-- a version as Go has it -/
theorem three_boxes {w w1 w2 : World} {u0 u1 u2 u3 v0 v1 v2 v3 x0 x1 x2 x3 : Value} {t t' t'' : TypeId}
    (hb : Below ((w.alloc (.cells #[u0, u1, u2, u3] t)).alloc (.cells #[v0, v1, v2, v3] t')).heap.size ((w.alloc (.cells #[u0, u1, u2, u3] t)).alloc (.cells #[v0, v1, v2, v3] t')) w1)
    (hb2 : Below (w1.alloc (.cells #[x0, x1, x2, x3] t'')).heap.size (w1.alloc (.cells #[x0, x1, x2, x3] t'')) w2) :
    (∀ i, w2.cell? ⟨w.heap.size + 1, i, none⟩ = (#[v0, v1, v2, v3] : Array Value)[i]?) ∧ (∀ i, w2.cell? ⟨w1.heap.size, i, none⟩ = (#[x0, x1, x2, x3] : Array Value)[i]?) ∧
    (∀ i, w2.frozen? ⟨w.heap.size + 1, i, none⟩ = false) ∧ w.heap.size + 1 < w2.heap.size ∧ w1.heap.size < w2.heap.size ∧ Below w.heap.size w w2 := by
  obtain ⟨_, k1, f1, hlt⟩ := two_boxes hb
  have hs := hb2.size
  simp at hs
  refine ⟨fun i => ?_, fun i => ?_, fun i => ?_, by omega, by omega, ?_⟩
  · rw [hb2.cell (p := ⟨w.heap.size + 1, i, none⟩) (by simp; omega), World.cell?_alloc_past _ _ _ (by simpa using hlt)]; exact k1 i
  · rw [hb2.cell (p := ⟨w1.heap.size, i, none⟩) (by simp), World.cell?_alloc_at _ _ _ _ rfl]
  · rw [hb2.frozen (p := ⟨w.heap.size + 1, i, none⟩) (by simp; omega), World.frozen?_alloc_past _ _ _ (by simpa using hlt)]; exact f1 i
  · exact below_step (below_step (below_step (by go_grown) hb) (below_alloc _ _)) hb2

theorem below_set4 {w w1 : World} (h : Below w.heap.size w w1) (v0 v1 v2 v3 : Value) :
    Below w.heap.size w ((((w1.setCell ⟨w.heap.size + 1, 0, none⟩ v0).setCell ⟨w.heap.size + 1, 1, none⟩ v1).setCell ⟨w.heap.size + 1, 2, none⟩ v2).setCell ⟨w.heap.size + 1, 3, none⟩ v3) :=
  (((h.setCell (Nat.le_succ _) _).setCell (Nat.le_succ _) _).setCell (Nat.le_succ _) _).setCell (Nat.le_succ _) _

theorem nextErr_bad {a b c : Int} {s : ByteArray} {p : Int} (h : P.verr a b c s ≠ 0) : P.nextErr a b c s p = P.verr a b c s := if_neg h
theorem nextErr_part {a b c : Int} {s : ByteArray} {p : Int} (h : P.verr a b c s = 0) (hp : p < 0 ∨ 2 < p) : P.nextErr a b c s p = 3 := by unfold P.nextErr; rw [if_pos h, if_pos hp]
theorem nextErr_ok {a b c : Int} {s : ByteArray} {p : Int} (h : P.verr a b c s = 0) (hp : ¬ (p < 0 ∨ 2 < p)) :
    P.nextErr a b c s p = P.verr (P.nextRaw a b c s.toList.isEmpty p).1 (P.nextRaw a b c s.toList.isEmpty p).2.1 (P.nextRaw a b c s.toList.isEmpty p).2.2 P.empty := by unfold P.nextErr; rw [if_pos h, if_neg hp]

/-- What Next returns. -/
def nextV (a b c : Int) (s : ByteArray) (p : Int) : Value :=
  .tuple #[.agg #[.int .i64 (P.guardN (P.nextErr a b c s p) (P.nextRaw a b c s.toList.isEmpty p).1), .int .i64 (P.guardN (P.nextErr a b c s p) (P.nextRaw a b c s.toList.isEmpty p).2.1),
    .int .i64 (P.guardN (P.nextErr a b c s p) (P.nextRaw a b c s.toList.isEmpty p).2.2), .string P.empty], .int .i64 (P.nextErr a b c s p)]
theorem nextV_bad {a b c : Int} {s : ByteArray} {p : Int} {e : Int} (he : P.nextErr a b c s p = e) (h : e ≠ 0) : nextV a b c s p = .tuple #[.agg #[.int .i64 0, .int .i64 0, .int .i64 0, .string ⟨#[]⟩], .int .i64 e] := by
  unfold nextV P.guardN; rw [he]; simp [h, P.empty]
theorem nextV_ok {a b c : Int} {s : ByteArray} {p : Int} {n1 n2 n3 : Int} (he : P.nextErr a b c s p = 0) (h : P.nextRaw a b c s.toList.isEmpty p = (n1, n2, n3)) : nextV a b c s p = .tuple #[.agg #[.int .i64 n1, .int .i64 n2, .int .i64 n3, .string ⟨#[]⟩], .int .i64 0] := by
  unfold nextV P.guardN; rw [he, h]; simp [P.empty]

set_option maxHeartbeats 1000000 in
theorem next_bad (a b c : Int) (s : ByteArray) (p : Int) (hs : s.size ≤ 4294967280) (w : World) (hw : Good w) (h : P.verr a b c s ≠ 0) :
    Calls Tryz.prog 13 #[.agg #[.int .i64 a, .int .i64 b, .int .i64 c, .string s], .int .i64 p] w fun e w' => e = .returned (nextV a b c s p) ∧ Below w.heap.size w w' := by
  have HC := Lib.hid (fun W hW => check_any a b c s hs W hW)
  have HV := Lib.hid (nextV_bad (nextErr_bad (p := p) h) h)
  have h' : (P.verr a b c s != 0) = true := by simpa using h
  generalize P.verr a b c s = x at *
  have Hw := Lib.hid hw
  clear hw
  go_enter Tryz.func13, Tryz.ntmps13
  go_wp2_with fail
  refine (HC.out _ (Hw.out.mono (by go_grown))).mono ?_
  rintro e w1 ⟨rfl, hb1⟩
  obtain ⟨_, k1, f1, hlt⟩ := two_boxes hb1
  have d0 := k1 0; have d1 := k1 1; have d2 := k1 2; have d3 := k1 3
  have f0 := f1 0; have f2 := f1 1; have f3 := f1 2; have f4 := f1 3
  clear k1 f1
  simp only [List.getElem?_toArray, List.getElem?_cons_zero, List.getElem?_cons_succ] at d0 d1 d2 d3
  have HB1 := Lib.hid hb1
  clear hb1
  go_wp2_with fail
  refine bodyPost_ret (v := .tuple #[.agg #[.int .i64 0, .int .i64 0, .int .i64 0, .string ⟨#[]⟩], .int .i64 x]) ?_ rfl ⟨by rw [HV.out], ?_⟩
  · clear HB1 HC HV Hw h' h
    simp [results, Tryz.results13, go_sem, d0, d1, d2, d3]
  · exact below_set4 (below_step (by go_grown) HB1.out) _ _ _ _

set_option maxHeartbeats 1000000 in
theorem next_part (a b c : Int) (s : ByteArray) (p : Int) (hs : s.size ≤ 4294967280) (w : World) (hw : Good w) (h : P.verr a b c s = 0) (hp : p < 0 ∨ 2 < p) :
    Calls Tryz.prog 13 #[.agg #[.int .i64 a, .int .i64 b, .int .i64 c, .string s], .int .i64 p] w fun e w' => e = .returned (nextV a b c s p) ∧ Below w.heap.size w w' := by
  have HC := Lib.hid (fun W hW => check_any a b c s hs W hW)
  have HV := Lib.hid (nextV_bad (nextErr_part (p := p) h hp) (by decide))
  rw [h] at HC
  have p0 : (p == 0) = false := by rw [beq_eq_false_iff_ne]; omega
  have p1 : (p == 1) = false := by rw [beq_eq_false_iff_ne]; omega
  have p2 : (p == 2) = false := by rw [beq_eq_false_iff_ne]; omega
  clear h hp
  have Hw := Lib.hid hw
  clear hw
  go_enter Tryz.func13, Tryz.ntmps13
  go_wp2_with fail
  refine (HC.out _ (Hw.out.mono (by go_grown))).mono ?_
  rintro e w1 ⟨rfl, hb1⟩
  obtain ⟨k0, k1, f1, hlt⟩ := two_boxes hb1
  have c0 := k0 0; have c1 := k0 1; have c2 := k0 2; have c3 := k0 3
  have d0 := k1 0; have d1 := k1 1; have d2 := k1 2; have d3 := k1 3
  have f0 := f1 0; have f2 := f1 1; have f3 := f1 2; have f4 := f1 3
  clear k1 k0 f1
  simp only [List.getElem?_toArray, List.getElem?_cons_zero, List.getElem?_cons_succ] at c0 c1 c2 c3 d0 d1 d2 d3
  have HB1 := Lib.hid hb1
  clear hb1
  go_wp2_with fail
  refine bodyPost_ret (v := .tuple #[.agg #[.int .i64 0, .int .i64 0, .int .i64 0, .string ⟨#[]⟩], .int .i64 3]) ?_ rfl ⟨by rw [HV.out], ?_⟩
  · clear HB1 HC HV Hw
    simp [results, Tryz.results13, go_sem, d0, d1, d2, d3, hlt]
  · exact (below_set4 (below_step (by go_grown) HB1.out) _ _ _ _).alloc (by simp [World.setCell]; omega) _

theorem below_of_drew {B : Nat} {W w2 : World} (h : Below B W.drew w2) : Below B W w2 := ⟨h.os, h.tape, h.output, h.size, h.block⟩
theorem good_drew {W : World} (h : Good W) : Good W.drew := h.mono ((Below.refl _ _).drew)

set_option maxHeartbeats 2000000 in
theorem next_zero (a b c : Int) (s : ByteArray) (hs : s.size ≤ 4294967280) (w : World) (hw : Good w) (h : P.verr a b c s = 0) :
    Calls Tryz.prog 13 #[.agg #[.int .i64 a, .int .i64 b, .int .i64 c, .string s], .int .i64 0] w fun e w' => e = .returned (nextV a b c s 0) ∧ Below w.heap.size w w' := by
  have HC := Lib.hid (fun W hW => check_any a b c s hs W hW)
  have hraw : P.nextRaw a b c s.toList.isEmpty 0 = (a + 1, 0, 0) := by rfl
  have hE := nextErr_ok (p := 0) h (by decide)
  rw [hraw] at hE
  obtain ⟨hn1, hn2, hn3⟩ := verr_zero h
  obtain ⟨l1, g1⟩ := numOk_true hn1
  obtain ⟨l2, g2⟩ := numOk_true hn2
  obtain ⟨l3, g3⟩ := numOk_true hn3
  rw [h] at HC
  clear h hn1 hn2 hn3
  have HD := Lib.hid (fun W hW => check_any (a + 1) (0) (0) P.empty (by decide) W hW)
  unfold P.empty at HD
  have Hw := Lib.hid hw
  clear hw
  by_cases hz : P.nextErr a b c s 0 = 0
  · have HV := Lib.hid (nextV_ok hz hraw)
    rw [← show P.nextErr a b c s 0 = P.verr (a + 1) (0) (0) ⟨#[]⟩ from hE, hz] at HD
    clear hE hz hraw
    go_enter Tryz.func13, Tryz.ntmps13
    go_wp2_with fail
    refine (HC.out _ (Hw.out.mono (by go_grown))).mono ?_
    rintro e w1 ⟨rfl, hb1⟩
    obtain ⟨k0, k1, f1, hlt⟩ := two_boxes hb1
    have hlt0 : w.heap.size < w1.heap.size := by omega
    have c0 := k0 0; have c1 := k0 1; have c2 := k0 2; have c3 := k0 3
    have d0 := k1 0; have d1 := k1 1; have d2 := k1 2; have d3 := k1 3
    have f0 := f1 0; have f2 := f1 1; have f3 := f1 2; have f4 := f1 3
    clear k1 k0 f1
    simp only [List.getElem?_toArray, List.getElem?_cons_zero, List.getElem?_cons_succ] at c0 c1 c2 c3 d0 d1 d2 d3
    have HB1 := Lib.hid hb1
    clear hb1
    go_wp2_with fail
    refine (HD.out _ (((Hw.out.mono (by go_grown)).mono HB1.out).mono (by go_grown))).mono ?_
    rintro e w2 ⟨rfl, hb2⟩
    obtain ⟨k1, k2, f1, hlt2, hlt3, hbw⟩ := three_boxes HB1.out hb2
    clear c0 c1 c2 c3 d0 d1 d2 d3 f0 f2 f3 f4 hlt hlt0 hb2
    have d0 := k1 0; have d1 := k1 1; have d2 := k1 2; have d3 := k1 3
    have c0 := k2 0; have c1 := k2 1; have c2 := k2 2; have c3 := k2 3
    have f0 := f1 0; have f2 := f1 1; have f3 := f1 2; have f4 := f1 3
    clear k1 k2 f1
    simp only [List.getElem?_toArray, List.getElem?_cons_zero, List.getElem?_cons_succ] at c0 c1 c2 c3 d0 d1 d2 d3
    have HB2 := Lib.hid hbw
    clear hbw
    go_wp2_with fail
    refine bodyPost_ret (v := .tuple #[.agg #[.int .i64 (a + 1), .int .i64 (0), .int .i64 (0), .string ⟨#[]⟩], .int .i64 0]) ?_ rfl ⟨by rw [HV.out], ?_⟩
    · clear HB1 HB2 HC HD HV Hw
      simp [results, Tryz.results13, go_sem, d0, d1, d2, d3]
    · exact below_set4 HB2.out _ _ _ _
  · have HV := Lib.hid (nextV_bad (a := a) (b := b) (c := c) (s := s) (p := 0) rfl hz)
    have hz' : (P.nextErr a b c s 0 != 0) = true := by simpa using hz
    rw [← show P.nextErr a b c s 0 = P.verr (a + 1) (0) (0) ⟨#[]⟩ from hE] at HD
    clear hE hz hraw
    generalize P.nextErr a b c s 0 = ee at *
    go_enter Tryz.func13, Tryz.ntmps13
    go_wp2_with fail
    refine (HC.out _ (Hw.out.mono (by go_grown))).mono ?_
    rintro e w1 ⟨rfl, hb1⟩
    obtain ⟨k0, k1, f1, hlt⟩ := two_boxes hb1
    have hlt0 : w.heap.size < w1.heap.size := by omega
    have c0 := k0 0; have c1 := k0 1; have c2 := k0 2; have c3 := k0 3
    have d0 := k1 0; have d1 := k1 1; have d2 := k1 2; have d3 := k1 3
    have f0 := f1 0; have f2 := f1 1; have f3 := f1 2; have f4 := f1 3
    clear k1 k0 f1
    simp only [List.getElem?_toArray, List.getElem?_cons_zero, List.getElem?_cons_succ] at c0 c1 c2 c3 d0 d1 d2 d3
    have HB1 := Lib.hid hb1
    clear hb1
    go_wp2_with fail
    refine (HD.out _ (((Hw.out.mono (by go_grown)).mono HB1.out).mono (by go_grown))).mono ?_
    rintro e w2 ⟨rfl, hb2⟩
    obtain ⟨k1, k2, f1, hlt2, hlt3, hbw⟩ := three_boxes HB1.out hb2
    clear c0 c1 c2 c3 d0 d1 d2 d3 f0 f2 f3 f4 hlt hlt0 hb2
    have d0 := k1 0; have d1 := k1 1; have d2 := k1 2; have d3 := k1 3
    have c0 := k2 0; have c1 := k2 1; have c2 := k2 2; have c3 := k2 3
    have f0 := f1 0; have f2 := f1 1; have f3 := f1 2; have f4 := f1 3
    clear k1 k2 f1
    simp only [List.getElem?_toArray, List.getElem?_cons_zero, List.getElem?_cons_succ] at c0 c1 c2 c3 d0 d1 d2 d3
    have HB2 := Lib.hid hbw
    clear hbw
    go_wp2_with fail
    refine bodyPost_ret (v := .tuple #[.agg #[.int .i64 0, .int .i64 0, .int .i64 0, .string ⟨#[]⟩], .int .i64 ee]) ?_ rfl ⟨by rw [HV.out], ?_⟩
    · clear HB1 HB2 HC HD HV Hw
      simp [results, Tryz.results13, go_sem, d0, d1, d2, d3]
    · exact below_set4 HB2.out _ _ _ _

set_option maxHeartbeats 2000000 in
theorem next_one (a b c : Int) (s : ByteArray) (hs : s.size ≤ 4294967280) (w : World) (hw : Good w) (h : P.verr a b c s = 0) :
    Calls Tryz.prog 13 #[.agg #[.int .i64 a, .int .i64 b, .int .i64 c, .string s], .int .i64 1] w fun e w' => e = .returned (nextV a b c s 1) ∧ Below w.heap.size w w' := by
  have HC := Lib.hid (fun W hW => check_any a b c s hs W hW)
  have hraw : P.nextRaw a b c s.toList.isEmpty 1 = (a, b + 1, 0) := by rfl
  have hE := nextErr_ok (p := 1) h (by decide)
  rw [hraw] at hE
  obtain ⟨hn1, hn2, hn3⟩ := verr_zero h
  obtain ⟨l1, g1⟩ := numOk_true hn1
  obtain ⟨l2, g2⟩ := numOk_true hn2
  obtain ⟨l3, g3⟩ := numOk_true hn3
  rw [h] at HC
  clear h hn1 hn2 hn3
  have HD := Lib.hid (fun W hW => check_any (a) (b + 1) (0) P.empty (by decide) W hW)
  unfold P.empty at HD
  have Hw := Lib.hid hw
  clear hw
  by_cases hz : P.nextErr a b c s 1 = 0
  · have HV := Lib.hid (nextV_ok hz hraw)
    rw [← show P.nextErr a b c s 1 = P.verr (a) (b + 1) (0) ⟨#[]⟩ from hE, hz] at HD
    clear hE hz hraw
    go_enter Tryz.func13, Tryz.ntmps13
    go_wp2_with fail
    refine (HC.out _ (Hw.out.mono (by go_grown))).mono ?_
    rintro e w1 ⟨rfl, hb1⟩
    obtain ⟨k0, k1, f1, hlt⟩ := two_boxes hb1
    have hlt0 : w.heap.size < w1.heap.size := by omega
    have c0 := k0 0; have c1 := k0 1; have c2 := k0 2; have c3 := k0 3
    have d0 := k1 0; have d1 := k1 1; have d2 := k1 2; have d3 := k1 3
    have f0 := f1 0; have f2 := f1 1; have f3 := f1 2; have f4 := f1 3
    clear k1 k0 f1
    simp only [List.getElem?_toArray, List.getElem?_cons_zero, List.getElem?_cons_succ] at c0 c1 c2 c3 d0 d1 d2 d3
    have HB1 := Lib.hid hb1
    clear hb1
    go_wp2_with fail
    refine (HD.out _ (((Hw.out.mono (by go_grown)).mono HB1.out).mono (by go_grown))).mono ?_
    rintro e w2 ⟨rfl, hb2⟩
    obtain ⟨k1, k2, f1, hlt2, hlt3, hbw⟩ := three_boxes HB1.out hb2
    clear c0 c1 c2 c3 d0 d1 d2 d3 f0 f2 f3 f4 hlt hlt0 hb2
    have d0 := k1 0; have d1 := k1 1; have d2 := k1 2; have d3 := k1 3
    have c0 := k2 0; have c1 := k2 1; have c2 := k2 2; have c3 := k2 3
    have f0 := f1 0; have f2 := f1 1; have f3 := f1 2; have f4 := f1 3
    clear k1 k2 f1
    simp only [List.getElem?_toArray, List.getElem?_cons_zero, List.getElem?_cons_succ] at c0 c1 c2 c3 d0 d1 d2 d3
    have HB2 := Lib.hid hbw
    clear hbw
    go_wp2_with fail
    refine bodyPost_ret (v := .tuple #[.agg #[.int .i64 (a), .int .i64 (b + 1), .int .i64 (0), .string ⟨#[]⟩], .int .i64 0]) ?_ rfl ⟨by rw [HV.out], ?_⟩
    · clear HB1 HB2 HC HD HV Hw
      simp [results, Tryz.results13, go_sem, d0, d1, d2, d3]
    · exact below_set4 HB2.out _ _ _ _
  · have HV := Lib.hid (nextV_bad (a := a) (b := b) (c := c) (s := s) (p := 1) rfl hz)
    have hz' : (P.nextErr a b c s 1 != 0) = true := by simpa using hz
    rw [← show P.nextErr a b c s 1 = P.verr (a) (b + 1) (0) ⟨#[]⟩ from hE] at HD
    clear hE hz hraw
    generalize P.nextErr a b c s 1 = ee at *
    go_enter Tryz.func13, Tryz.ntmps13
    go_wp2_with fail
    refine (HC.out _ (Hw.out.mono (by go_grown))).mono ?_
    rintro e w1 ⟨rfl, hb1⟩
    obtain ⟨k0, k1, f1, hlt⟩ := two_boxes hb1
    have hlt0 : w.heap.size < w1.heap.size := by omega
    have c0 := k0 0; have c1 := k0 1; have c2 := k0 2; have c3 := k0 3
    have d0 := k1 0; have d1 := k1 1; have d2 := k1 2; have d3 := k1 3
    have f0 := f1 0; have f2 := f1 1; have f3 := f1 2; have f4 := f1 3
    clear k1 k0 f1
    simp only [List.getElem?_toArray, List.getElem?_cons_zero, List.getElem?_cons_succ] at c0 c1 c2 c3 d0 d1 d2 d3
    have HB1 := Lib.hid hb1
    clear hb1
    go_wp2_with fail
    refine (HD.out _ (((Hw.out.mono (by go_grown)).mono HB1.out).mono (by go_grown))).mono ?_
    rintro e w2 ⟨rfl, hb2⟩
    obtain ⟨k1, k2, f1, hlt2, hlt3, hbw⟩ := three_boxes HB1.out hb2
    clear c0 c1 c2 c3 d0 d1 d2 d3 f0 f2 f3 f4 hlt hlt0 hb2
    have d0 := k1 0; have d1 := k1 1; have d2 := k1 2; have d3 := k1 3
    have c0 := k2 0; have c1 := k2 1; have c2 := k2 2; have c3 := k2 3
    have f0 := f1 0; have f2 := f1 1; have f3 := f1 2; have f4 := f1 3
    clear k1 k2 f1
    simp only [List.getElem?_toArray, List.getElem?_cons_zero, List.getElem?_cons_succ] at c0 c1 c2 c3 d0 d1 d2 d3
    have HB2 := Lib.hid hbw
    clear hbw
    go_wp2_with fail
    refine bodyPost_ret (v := .tuple #[.agg #[.int .i64 0, .int .i64 0, .int .i64 0, .string ⟨#[]⟩], .int .i64 ee]) ?_ rfl ⟨by rw [HV.out], ?_⟩
    · clear HB1 HB2 HC HD HV Hw
      simp [results, Tryz.results13, go_sem, d0, d1, d2, d3]
    · exact below_set4 HB2.out _ _ _ _

set_option maxHeartbeats 2000000 in
theorem next_two_new (a b c : Int) (s : ByteArray) (hs : s.size ≤ 4294967280) (w : World) (hw : Good w) (h : P.verr a b c s = 0) (he : s.toList.isEmpty = true) :
    Calls Tryz.prog 13 #[.agg #[.int .i64 a, .int .i64 b, .int .i64 c, .string s], .int .i64 2] w fun e w' => e = .returned (nextV a b c s 2) ∧ Below w.heap.size w w' := by
  have HC := Lib.hid (fun W hW => check_any a b c s hs W hW)
  have hraw : P.nextRaw a b c s.toList.isEmpty 2 = (a, b, c + 1) := by unfold P.nextRaw; rw [he]; rfl
  have hE := nextErr_ok (p := 2) h (by decide)
  rw [hraw] at hE
  obtain ⟨hn1, hn2, hn3⟩ := verr_zero h
  obtain ⟨l1, g1⟩ := numOk_true hn1
  obtain ⟨l2, g2⟩ := numOk_true hn2
  obtain ⟨l3, g3⟩ := numOk_true hn3
  rw [h] at HC
  clear h hn1 hn2 hn3
  have HD := Lib.hid (fun W hW => check_any (a) (b) (c + 1) P.empty (by decide) W hW)
  unfold P.empty at HD
  have Hw := Lib.hid hw
  clear hw
  by_cases hz : P.nextErr a b c s 2 = 0
  · have HV := Lib.hid (nextV_ok hz hraw)
    rw [← show P.nextErr a b c s 2 = P.verr (a) (b) (c + 1) ⟨#[]⟩ from hE, hz] at HD
    clear hE hz hraw
    go_enter Tryz.func13, Tryz.ntmps13
    go_wp2_with fail
    refine (HC.out _ (Hw.out.mono (by go_grown))).mono ?_
    rintro e w1 ⟨rfl, hb1⟩
    obtain ⟨k0, k1, f1, hlt⟩ := two_boxes hb1
    have hlt0 : w.heap.size < w1.heap.size := by omega
    have c0 := k0 0; have c1 := k0 1; have c2 := k0 2; have c3 := k0 3
    have d0 := k1 0; have d1 := k1 1; have d2 := k1 2; have d3 := k1 3
    have f0 := f1 0; have f2 := f1 1; have f3 := f1 2; have f4 := f1 3
    clear k1 k0 f1
    simp only [List.getElem?_toArray, List.getElem?_cons_zero, List.getElem?_cons_succ] at c0 c1 c2 c3 d0 d1 d2 d3
    have HB1 := Lib.hid hb1
    clear hb1
    go_wp2_with fail
    go_region
    go_wp2_with fail
    refine (HD.out _ (good_drew (((Hw.out.mono (by go_grown)).mono HB1.out).mono (by go_grown)))).mono ?_
    rintro e w2 ⟨rfl, hb2⟩
    obtain ⟨k1, k2, f1, hlt2, hlt3, hbw⟩ := three_boxes HB1.out (below_of_drew hb2)
    clear c0 c1 c2 c3 d0 d1 d2 d3 f0 f2 f3 f4 hlt hlt0 hb2
    have d0 := k1 0; have d1 := k1 1; have d2 := k1 2; have d3 := k1 3
    have c0 := k2 0; have c1 := k2 1; have c2 := k2 2; have c3 := k2 3
    have f0 := f1 0; have f2 := f1 1; have f3 := f1 2; have f4 := f1 3
    clear k1 k2 f1
    simp only [List.getElem?_toArray, List.getElem?_cons_zero, List.getElem?_cons_succ] at c0 c1 c2 c3 d0 d1 d2 d3
    have HB2 := Lib.hid hbw
    clear hbw
    go_wp2_with fail
    refine bodyPost_ret (v := .tuple #[.agg #[.int .i64 (a), .int .i64 (b), .int .i64 (c + 1), .string ⟨#[]⟩], .int .i64 0]) ?_ rfl ⟨by rw [HV.out], ?_⟩
    · clear HB1 HB2 HC HD HV Hw
      simp [results, Tryz.results13, go_sem, d0, d1, d2, d3]
    · exact below_set4 HB2.out _ _ _ _
  · have HV := Lib.hid (nextV_bad (a := a) (b := b) (c := c) (s := s) (p := 2) rfl hz)
    have hz' : (P.nextErr a b c s 2 != 0) = true := by simpa using hz
    rw [← show P.nextErr a b c s 2 = P.verr (a) (b) (c + 1) ⟨#[]⟩ from hE] at HD
    clear hE hz hraw
    generalize P.nextErr a b c s 2 = ee at *
    go_enter Tryz.func13, Tryz.ntmps13
    go_wp2_with fail
    refine (HC.out _ (Hw.out.mono (by go_grown))).mono ?_
    rintro e w1 ⟨rfl, hb1⟩
    obtain ⟨k0, k1, f1, hlt⟩ := two_boxes hb1
    have hlt0 : w.heap.size < w1.heap.size := by omega
    have c0 := k0 0; have c1 := k0 1; have c2 := k0 2; have c3 := k0 3
    have d0 := k1 0; have d1 := k1 1; have d2 := k1 2; have d3 := k1 3
    have f0 := f1 0; have f2 := f1 1; have f3 := f1 2; have f4 := f1 3
    clear k1 k0 f1
    simp only [List.getElem?_toArray, List.getElem?_cons_zero, List.getElem?_cons_succ] at c0 c1 c2 c3 d0 d1 d2 d3
    have HB1 := Lib.hid hb1
    clear hb1
    go_wp2_with fail
    go_region
    go_wp2_with fail
    refine (HD.out _ (good_drew (((Hw.out.mono (by go_grown)).mono HB1.out).mono (by go_grown)))).mono ?_
    rintro e w2 ⟨rfl, hb2⟩
    obtain ⟨k1, k2, f1, hlt2, hlt3, hbw⟩ := three_boxes HB1.out (below_of_drew hb2)
    clear c0 c1 c2 c3 d0 d1 d2 d3 f0 f2 f3 f4 hlt hlt0 hb2
    have d0 := k1 0; have d1 := k1 1; have d2 := k1 2; have d3 := k1 3
    have c0 := k2 0; have c1 := k2 1; have c2 := k2 2; have c3 := k2 3
    have f0 := f1 0; have f2 := f1 1; have f3 := f1 2; have f4 := f1 3
    clear k1 k2 f1
    simp only [List.getElem?_toArray, List.getElem?_cons_zero, List.getElem?_cons_succ] at c0 c1 c2 c3 d0 d1 d2 d3
    have HB2 := Lib.hid hbw
    clear hbw
    go_wp2_with fail
    refine bodyPost_ret (v := .tuple #[.agg #[.int .i64 0, .int .i64 0, .int .i64 0, .string ⟨#[]⟩], .int .i64 ee]) ?_ rfl ⟨by rw [HV.out], ?_⟩
    · clear HB1 HB2 HC HD HV Hw
      simp [results, Tryz.results13, go_sem, d0, d1, d2, d3]
    · exact below_set4 HB2.out _ _ _ _

set_option maxHeartbeats 2000000 in
theorem next_two_same (a b c : Int) (s : ByteArray) (hs : s.size ≤ 4294967280) (w : World) (hw : Good w) (h : P.verr a b c s = 0) (he : s.toList.isEmpty = false) :
    Calls Tryz.prog 13 #[.agg #[.int .i64 a, .int .i64 b, .int .i64 c, .string s], .int .i64 2] w fun e w' => e = .returned (nextV a b c s 2) ∧ Below w.heap.size w w' := by
  have HC := Lib.hid (fun W hW => check_any a b c s hs W hW)
  have hraw : P.nextRaw a b c s.toList.isEmpty 2 = (a, b, c) := by unfold P.nextRaw; rw [he]; rfl
  have hE := nextErr_ok (p := 2) h (by decide)
  rw [hraw] at hE
  obtain ⟨hn1, hn2, hn3⟩ := verr_zero h
  obtain ⟨l1, g1⟩ := numOk_true hn1
  obtain ⟨l2, g2⟩ := numOk_true hn2
  obtain ⟨l3, g3⟩ := numOk_true hn3
  rw [h] at HC
  clear h hn1 hn2 hn3
  have HD := Lib.hid (fun W hW => check_any (a) (b) (c) P.empty (by decide) W hW)
  unfold P.empty at HD
  have Hw := Lib.hid hw
  clear hw
  by_cases hz : P.nextErr a b c s 2 = 0
  · have HV := Lib.hid (nextV_ok hz hraw)
    rw [← show P.nextErr a b c s 2 = P.verr (a) (b) (c) ⟨#[]⟩ from hE, hz] at HD
    clear hE hz hraw
    go_enter Tryz.func13, Tryz.ntmps13
    go_wp2_with fail
    refine (HC.out _ (Hw.out.mono (by go_grown))).mono ?_
    rintro e w1 ⟨rfl, hb1⟩
    obtain ⟨k0, k1, f1, hlt⟩ := two_boxes hb1
    have hlt0 : w.heap.size < w1.heap.size := by omega
    have c0 := k0 0; have c1 := k0 1; have c2 := k0 2; have c3 := k0 3
    have d0 := k1 0; have d1 := k1 1; have d2 := k1 2; have d3 := k1 3
    have f0 := f1 0; have f2 := f1 1; have f3 := f1 2; have f4 := f1 3
    clear k1 k0 f1
    simp only [List.getElem?_toArray, List.getElem?_cons_zero, List.getElem?_cons_succ] at c0 c1 c2 c3 d0 d1 d2 d3
    have HB1 := Lib.hid hb1
    clear hb1
    go_wp2_with fail
    go_region
    go_wp2_with fail
    refine (HD.out _ (good_drew (((Hw.out.mono (by go_grown)).mono HB1.out).mono (by go_grown)))).mono ?_
    rintro e w2 ⟨rfl, hb2⟩
    obtain ⟨k1, k2, f1, hlt2, hlt3, hbw⟩ := three_boxes HB1.out (below_of_drew hb2)
    clear c0 c1 c2 c3 d0 d1 d2 d3 f0 f2 f3 f4 hlt hlt0 hb2
    have d0 := k1 0; have d1 := k1 1; have d2 := k1 2; have d3 := k1 3
    have c0 := k2 0; have c1 := k2 1; have c2 := k2 2; have c3 := k2 3
    have f0 := f1 0; have f2 := f1 1; have f3 := f1 2; have f4 := f1 3
    clear k1 k2 f1
    simp only [List.getElem?_toArray, List.getElem?_cons_zero, List.getElem?_cons_succ] at c0 c1 c2 c3 d0 d1 d2 d3
    have HB2 := Lib.hid hbw
    clear hbw
    go_wp2_with fail
    refine bodyPost_ret (v := .tuple #[.agg #[.int .i64 (a), .int .i64 (b), .int .i64 (c), .string ⟨#[]⟩], .int .i64 0]) ?_ rfl ⟨by rw [HV.out], ?_⟩
    · clear HB1 HB2 HC HD HV Hw
      simp [results, Tryz.results13, go_sem, d0, d1, d2, d3]
    · exact below_set4 HB2.out _ _ _ _
  · have HV := Lib.hid (nextV_bad (a := a) (b := b) (c := c) (s := s) (p := 2) rfl hz)
    have hz' : (P.nextErr a b c s 2 != 0) = true := by simpa using hz
    rw [← show P.nextErr a b c s 2 = P.verr (a) (b) (c) ⟨#[]⟩ from hE] at HD
    clear hE hz hraw
    generalize P.nextErr a b c s 2 = ee at *
    go_enter Tryz.func13, Tryz.ntmps13
    go_wp2_with fail
    refine (HC.out _ (Hw.out.mono (by go_grown))).mono ?_
    rintro e w1 ⟨rfl, hb1⟩
    obtain ⟨k0, k1, f1, hlt⟩ := two_boxes hb1
    have hlt0 : w.heap.size < w1.heap.size := by omega
    have c0 := k0 0; have c1 := k0 1; have c2 := k0 2; have c3 := k0 3
    have d0 := k1 0; have d1 := k1 1; have d2 := k1 2; have d3 := k1 3
    have f0 := f1 0; have f2 := f1 1; have f3 := f1 2; have f4 := f1 3
    clear k1 k0 f1
    simp only [List.getElem?_toArray, List.getElem?_cons_zero, List.getElem?_cons_succ] at c0 c1 c2 c3 d0 d1 d2 d3
    have HB1 := Lib.hid hb1
    clear hb1
    go_wp2_with fail
    go_region
    go_wp2_with fail
    refine (HD.out _ (good_drew (((Hw.out.mono (by go_grown)).mono HB1.out).mono (by go_grown)))).mono ?_
    rintro e w2 ⟨rfl, hb2⟩
    obtain ⟨k1, k2, f1, hlt2, hlt3, hbw⟩ := three_boxes HB1.out (below_of_drew hb2)
    clear c0 c1 c2 c3 d0 d1 d2 d3 f0 f2 f3 f4 hlt hlt0 hb2
    have d0 := k1 0; have d1 := k1 1; have d2 := k1 2; have d3 := k1 3
    have c0 := k2 0; have c1 := k2 1; have c2 := k2 2; have c3 := k2 3
    have f0 := f1 0; have f2 := f1 1; have f3 := f1 2; have f4 := f1 3
    clear k1 k2 f1
    simp only [List.getElem?_toArray, List.getElem?_cons_zero, List.getElem?_cons_succ] at c0 c1 c2 c3 d0 d1 d2 d3
    have HB2 := Lib.hid hbw
    clear hbw
    go_wp2_with fail
    refine bodyPost_ret (v := .tuple #[.agg #[.int .i64 0, .int .i64 0, .int .i64 0, .string ⟨#[]⟩], .int .i64 ee]) ?_ rfl ⟨by rw [HV.out], ?_⟩
    · clear HB1 HB2 HC HD HV Hw
      simp [results, Tryz.results13, go_sem, d0, d1, d2, d3]
    · exact below_set4 HB2.out _ _ _ _

theorem next_any (a b c : Int) (s : ByteArray) (p : Int) (hs : s.size ≤ 4294967280) (w : World) (hw : Good w) :
    Calls Tryz.prog 13 #[.agg #[.int .i64 a, .int .i64 b, .int .i64 c, .string s], .int .i64 p] w fun e w' => e = .returned (nextV a b c s p) ∧ Below w.heap.size w w' := by
  by_cases h : P.verr a b c s = 0
  · by_cases hp : p < 0 ∨ 2 < p
    · exact next_part a b c s p hs w hw h hp
    · by_cases p0 : p = 0
      · subst p0; exact next_zero a b c s hs w hw h
      · by_cases p1 : p = 1
        · subst p1; exact next_one a b c s hs w hw h
        · obtain rfl : p = 2 := by omega
          cases he : s.toList.isEmpty
          · exact next_two_same a b c s hs w hw h he
          · exact next_two_new a b c s hs w hw h he
  · exact next_bad a b c s p hs w hw h
end Go.Proofs.YtffblkkhjphcfaaGreatDoor
