/- Walks: early tails and versions in order (package ver). -/
import Derived.Test.YtffblkkhjphcfaaGreatDoorOrder2
namespace Go.Proofs.YtffblkkhjphcfaaGreatDoor
open Go.RowKit Go.Shelf

theorem splitS_count (s : ByteArray) (c : UInt8) (hs : s.size ≤ 4294967280) : (P.splitS s c).length ≤ 4294967281 := by
  rw [P.splitS_length]; have := Lib.countB_le ⟨#[c]⟩ (P.one_le c) _ s (Nat.le_refl _); omega

set_option maxHeartbeats 1000000 in
theorem orderEarly_any (a b : ByteArray) (ha : a.size ≤ 4294967280) (hb : b.size ≤ 4294967280) (w : World) (hw : Good w) :
    Calls Tryz.prog 131 #[.string a, .string b] w fun e w' => e = .returned (.int .i64 (P.earlyCmp a b)) ∧ Below w.heap.size w w' := by
  have hr : P.earlyCmp a b = if a.toList == b.toList then 0 else if a.toList.isEmpty then 1 else if b.toList.isEmpty then -1 else P.listCmp (P.splitS a 46) (P.splitS b 46) := rfl
  cases h1 : (a.toList == b.toList) with
  | true =>
    rw [h1] at hr
    have Hr := Lib.hid hr
    clear hr
    go_enter Tryz.func131, Tryz.ntmps131
    go_wp2_with fail
    go_ret
    exact ⟨by rw [Hr.out]; rfl, Below.refl _ _⟩
  | false =>
    cases h2 : a.toList.isEmpty with
    | true =>
      rw [h1, h2] at hr
      have Hr := Lib.hid hr
      clear hr
      go_enter Tryz.func131, Tryz.ntmps131
      go_wp2_with fail
      go_ret
      exact ⟨by rw [Hr.out]; rfl, Below.refl _ _⟩
    | false =>
      have h2' := ne_of h2
      cases h3 : b.toList.isEmpty with
      | true =>
        rw [h1, h2, h3] at hr
        have Hr := Lib.hid hr
        clear hr
        go_enter Tryz.func131, Tryz.ntmps131
        go_wp2_with fail
        go_ret
        exact ⟨by rw [Hr.out]; rfl, Below.refl _ _⟩
      | false =>
        have h3' := ne_of h3
        rw [h1, h2, h3] at hr
        have Hr := Lib.hid hr
        clear hr
        have S1 := Lib.hid (split_any a 46 ha w hw)
        have S2 := fun W hW => split_any b 46 hb W hW
        have l1 := splitS_count a 46 ha
        have l2 := splitS_count b 46 hb
        have Z1 := fun j hj => Nat.le_trans (P.splitS_size a 46 j hj) ha
        have Z2 := fun j hj => Nat.le_trans (P.splitS_size b 46 j hj) hb
        generalize P.splitS a 46 = l at *
        generalize P.splitS b 46 = m at *
        have HS2 := Lib.hid S2
        have HZ1 := Lib.hid Z1
        have HZ2 := Lib.hid Z2
        have Hw := Lib.hid hw
        clear S2 Z1 Z2 hw
        go_enter Tryz.func131, Tryz.ntmps131
        go_wp2_with fail
        refine S1.out.mono ?_
        rintro e w1 ⟨rfl, rfl⟩
        go_wp2_with fail
        refine (HS2.out _ (Hw.out.mono (below_alloc _ _))).mono ?_
        rintro e w2 ⟨rfl, rfl⟩
        go_wp2_with fail
        have hc2 : ∀ j (hj : j < m.length), ((w.alloc (.cells (l.map Value.string).toArray 9)).alloc (.cells (m.map Value.string).toArray 9)).cell? ⟨w.heap.size + 1, j, none⟩ = some (.string m[j]) := fun j hj => by
          rw [World.cell?_alloc_at _ _ _ _ (by simp)]
          simp [hj]
        have hc1 : ∀ j (hj : j < l.length), ((w.alloc (.cells (l.map Value.string).toArray 9)).alloc (.cells (m.map Value.string).toArray 9)).cell? ⟨w.heap.size, j, none⟩ = some (.string l[j]) := fun j hj => by
          rw [World.cell?_alloc_past _ _ _ (by simp)]; exact pieces_cell w l 9 j hj
        refine (compareFunc_any w.heap.size (w.heap.size + 1) l m l1 l2 HZ1.out HZ2.out _ (by simp; omega) (by simp) hc1 hc2).mono ?_
        rintro e w3 ⟨rfl, hb3⟩
        have HB3 := Lib.hid hb3
        clear hb3 hc1 hc2
        go_wp2
        go_ret
        exact ⟨by rw [Hr.out]; rfl, below_step (by go_grown) HB3.out⟩

theorem box2_start (w : World) (u0 u1 u2 u3 v0 v1 v2 v3 : Value) (t : TypeId) :
    ∀ W, W = ((w.alloc (.cells #[u0, u1, u2, u3] t)).alloc (.cells #[v0, v1, v2, v3] t)).drew →
    W.cell? ⟨w.heap.size, 0, none⟩ = some u0 ∧ W.cell? ⟨w.heap.size, 1, none⟩ = some u1 ∧ W.cell? ⟨w.heap.size, 2, none⟩ = some u2 ∧ W.cell? ⟨w.heap.size, 3, none⟩ = some u3 ∧
    W.cell? ⟨w.heap.size + 1, 0, none⟩ = some v0 ∧ W.cell? ⟨w.heap.size + 1, 1, none⟩ = some v1 ∧ W.cell? ⟨w.heap.size + 1, 2, none⟩ = some v2 ∧ W.cell? ⟨w.heap.size + 1, 3, none⟩ = some v3 ∧ Frm w W ∧ w.heap.size + 1 < W.heap.size := by
  intro W hW
  have h : ∀ i, W.cell? ⟨w.heap.size, i, none⟩ = (#[u0, u1, u2, u3] : Array Value)[i]? := fun i => by
    rw [hW]
    show ((w.alloc (.cells #[u0, u1, u2, u3] t)).alloc (.cells #[v0, v1, v2, v3] t)).cell? _ = _
    rw [World.cell?_alloc_past _ _ _ (by simp), World.cell?_alloc_at _ _ _ _ rfl]
  have h' : ∀ i, W.cell? ⟨w.heap.size + 1, i, none⟩ = (#[v0, v1, v2, v3] : Array Value)[i]? := fun i => by
    rw [hW]
    show ((w.alloc (.cells #[u0, u1, u2, u3] t)).alloc (.cells #[v0, v1, v2, v3] t)).cell? _ = _
    rw [World.cell?_alloc_at _ _ _ _ (by simp)]
  exact ⟨h 0, h 1, h 2, h 3, h' 0, h' 1, h' 2, h' 3, ⟨by rw [hW]; go_grown, by rw [hW]; simp; omega⟩, by rw [hW]; simp⟩
theorem box2_step {w W W' : World} {u0 u1 u2 u3 v0 v1 v2 v3 : Value}
    (h : W.cell? ⟨w.heap.size, 0, none⟩ = some u0 ∧ W.cell? ⟨w.heap.size, 1, none⟩ = some u1 ∧ W.cell? ⟨w.heap.size, 2, none⟩ = some u2 ∧ W.cell? ⟨w.heap.size, 3, none⟩ = some u3 ∧
    W.cell? ⟨w.heap.size + 1, 0, none⟩ = some v0 ∧ W.cell? ⟨w.heap.size + 1, 1, none⟩ = some v1 ∧ W.cell? ⟨w.heap.size + 1, 2, none⟩ = some v2 ∧ W.cell? ⟨w.heap.size + 1, 3, none⟩ = some v3 ∧ Frm w W ∧ w.heap.size + 1 < W.heap.size)
    (hb : Below W.heap.size W W') :
    W'.cell? ⟨w.heap.size, 0, none⟩ = some u0 ∧ W'.cell? ⟨w.heap.size, 1, none⟩ = some u1 ∧ W'.cell? ⟨w.heap.size, 2, none⟩ = some u2 ∧ W'.cell? ⟨w.heap.size, 3, none⟩ = some u3 ∧
    W'.cell? ⟨w.heap.size + 1, 0, none⟩ = some v0 ∧ W'.cell? ⟨w.heap.size + 1, 1, none⟩ = some v1 ∧ W'.cell? ⟨w.heap.size + 1, 2, none⟩ = some v2 ∧ W'.cell? ⟨w.heap.size + 1, 3, none⟩ = some v3 ∧ Frm w W' ∧ w.heap.size + 1 < W'.heap.size := by
  obtain ⟨h0, h1, h2, h3, h4, h5, h6, h7, hf, hs⟩ := h
  have k := fun i => hb.cell (p := ⟨w.heap.size, i, none⟩) (by show w.heap.size < _; omega)
  have k' := fun i => hb.cell (p := ⟨w.heap.size + 1, i, none⟩) (by show w.heap.size + 1 < _; omega)
  exact ⟨(k 0).trans h0, (k 1).trans h1, (k 2).trans h2, (k 3).trans h3, (k' 0).trans h4, (k' 1).trans h5, (k' 2).trans h6, (k' 3).trans h7, hf.step hb, Nat.lt_of_lt_of_le hs hb.size⟩
theorem held2_frm {w W : World} {A B C D E F G H I : Prop} (h : A ∧ B ∧ C ∧ D ∧ E ∧ F ∧ G ∧ H ∧ Frm w W ∧ I) : Frm w W := h.2.2.2.2.2.2.2.2.1

theorem or4_any (W : World) (x y z t : Int) :
    Calls Tryz.prog 72 #[.slice (some ⟨W.heap.size, 0, none⟩) 4 4] (W.alloc (.cells #[.int .i64 x, .int .i64 y, .int .i64 z, .int .i64 t] 3)) fun e w' => e = .returned (.int .i64 (P.orI [x, y, z, t])) ∧ (W.alloc (.cells #[.int .i64 x, .int .i64 y, .int .i64 z, .int .i64 t] 3)) = w' :=
  or_any W.heap.size [x, y, z, t] (by simp) (W.alloc (.cells #[.int .i64 x, .int .i64 y, .int .i64 z, .int .i64 t] 3)) (fun j hj => by
    rw [World.cell?_alloc_at _ _ _ _ rfl]
    match j, hj with
    | 0, _ => rfl
    | 1, _ => rfl
    | 2, _ => rfl
    | 3, _ => rfl)

set_option maxHeartbeats 4000000 in
theorem order_any (a1 a2 a3 b1 b2 b3 : Int) (a4 b4 : ByteArray) (ha : a4.size ≤ 4294967280) (hb : b4.size ≤ 4294967280) (w : World) (hw : Good w) :
    Calls Tryz.prog 63 #[.agg #[.int .i64 a1, .int .i64 a2, .int .i64 a3, .string a4], .agg #[.int .i64 b1, .int .i64 b2, .int .i64 b3, .string b4]] w fun e w' =>
      e = .returned (.int .i64 (P.verCmp a1 a2 a3 a4 b1 b2 b3 b4)) ∧ Below w.heap.size w w' := by
  have hr : P.verCmp a1 a2 a3 a4 b1 b2 b3 b4 = P.orI [Lib.compareInt a1 b1, Lib.compareInt a2 b2, Lib.compareInt a3 b3, P.earlyCmp a4 b4] := rfl
  have H1 := Lib.hid (Tryz.cmp_Compare_int a1 b1)
  have H2 := Lib.hid (Tryz.cmp_Compare_int a2 b2)
  have H3 := Lib.hid (Tryz.cmp_Compare_int a3 b3)
  have H4 := Lib.hid (fun W hW => orderEarly_any a4 b4 ha hb W hW)
  rw [hr]
  clear hr
  generalize Lib.compareInt a1 b1 = x1 at *
  generalize Lib.compareInt a2 b2 = x2 at *
  generalize Lib.compareInt a3 b3 = x3 at *
  generalize P.earlyCmp a4 b4 = x4 at *
  have HO := Lib.hid (fun W => or4_any W x1 x2 x3 x4)
  generalize P.orI [x1, x2, x3, x4] = y at *
  have Hw := Lib.hid hw
  clear hw
  go_enter Tryz.func63, Tryz.ntmps63
  go_wp2_with fail
  go_region_held3 (fun W => W.cell? ⟨w.heap.size, 0, none⟩ = some (.int .i64 a1) ∧ W.cell? ⟨w.heap.size, 1, none⟩ = some (.int .i64 a2) ∧ W.cell? ⟨w.heap.size, 2, none⟩ = some (.int .i64 a3) ∧ W.cell? ⟨w.heap.size, 3, none⟩ = some (.string a4) ∧
      W.cell? ⟨w.heap.size + 1, 0, none⟩ = some (.int .i64 b1) ∧ W.cell? ⟨w.heap.size + 1, 1, none⟩ = some (.int .i64 b2) ∧ W.cell? ⟨w.heap.size + 1, 2, none⟩ = some (.int .i64 b3) ∧ W.cell? ⟨w.heap.size + 1, 3, none⟩ = some (.string b4) ∧ Frm w W ∧ w.heap.size + 1 < W.heap.size)
    (first | exact box2_start _ _ _ _ _ _ _ _ _ _ _ rfl | assumption | exact box2_step (by assumption) (by assumption) | exact box2_step (by assumption) (below_alloc _ _))
    (first
      | (go_at_call_of 73 (Value.int IntKind.i64 a1); refine (H1.out _).mono ?_; rintro e w' ⟨rfl, rfl⟩)
      | (go_at_call_of 73 (Value.int IntKind.i64 a2); refine (H2.out _).mono ?_; rintro e w' ⟨rfl, rfl⟩)
      | (go_at_call_of 73 (Value.int IntKind.i64 a3); refine (H3.out _).mono ?_; rintro e w' ⟨rfl, rfl⟩)
      | (go_at_call 131; refine (H4.out _ (Frm.good (held2_frm (by assumption)) Hw.out)).mono ?_; rintro e w' ⟨rfl, hb1⟩)
      | (go_at_call 72; refine (HO.out _).mono ?_; rintro e w' ⟨rfl, rfl⟩))
  go_wp2
  go_ret
  exact ⟨rfl, (held2_frm (by assumption)).1⟩
end Go.Proofs.YtffblkkhjphcfaaGreatDoor
