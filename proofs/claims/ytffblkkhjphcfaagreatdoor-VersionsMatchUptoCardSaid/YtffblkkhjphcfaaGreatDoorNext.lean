/- Walks: Compare and Next of package ver. -/
import Derived.Test.YtffblkkhjphcfaaGreatDoorOrder3
import Derived.Test.YtffblkkhjphcfaaGreatDoorPure3
namespace Go.Proofs.YtffblkkhjphcfaaGreatDoor
open Go.RowKit Go.Shelf

theorem two_boxes {w w1 : World} {u0 u1 u2 u3 v0 v1 v2 v3 : Value} {t t' : TypeId}
    (hb : Below ((w.alloc (.cells #[u0, u1, u2, u3] t)).alloc (.cells #[v0, v1, v2, v3] t')).heap.size ((w.alloc (.cells #[u0, u1, u2, u3] t)).alloc (.cells #[v0, v1, v2, v3] t')) w1) :
    (∀ i, w1.cell? ⟨w.heap.size, i, none⟩ = (#[u0, u1, u2, u3] : Array Value)[i]?) ∧ (∀ i, w1.cell? ⟨w.heap.size + 1, i, none⟩ = (#[v0, v1, v2, v3] : Array Value)[i]?) ∧
    (∀ i, w1.frozen? ⟨w.heap.size + 1, i, none⟩ = false) ∧ w.heap.size + 1 < w1.heap.size := by
  refine ⟨fun i => ?_, fun i => ?_, fun i => ?_, ?_⟩
  · rw [hb.cell (p := ⟨w.heap.size, i, none⟩) (by simp; omega), World.cell?_alloc_past _ _ _ (by simp), World.cell?_alloc_at _ _ _ _ rfl]
  · rw [hb.cell (p := ⟨w.heap.size + 1, i, none⟩) (by simp), World.cell?_alloc_at _ _ _ _ (by simp)]
  · rw [hb.frozen (p := ⟨w.heap.size + 1, i, none⟩) (by simp)]; exact World.frozen?_alloc_at _ _ _ _ (by simp)
  · have := hb.size; simp at this; omega

set_option maxHeartbeats 1000000 in
theorem compare_any (a1 a2 a3 b1 b2 b3 : Int) (a4 b4 : ByteArray) (ha : a4.size ≤ 4294967280) (hb : b4.size ≤ 4294967280) (w : World) (hw : Good w) :
    Calls Tryz.prog 12 #[.agg #[.int .i64 a1, .int .i64 a2, .int .i64 a3, .string a4], .agg #[.int .i64 b1, .int .i64 b2, .int .i64 b3, .string b4]] w fun e w' =>
      e = .returned (.tuple #[.int .i64 (if P.verr a1 a2 a3 a4 = 0 ∧ P.verr b1 b2 b3 b4 = 0 then P.verCmp a1 a2 a3 a4 b1 b2 b3 b4 else 0), .int .i64 (if P.verr a1 a2 a3 a4 = 0 then P.verr b1 b2 b3 b4 else P.verr a1 a2 a3 a4)]) ∧ Below w.heap.size w w' := by
  have HA := Lib.hid (fun W hW => check_any a1 a2 a3 a4 ha W hW)
  have HB := Lib.hid (fun W hW => check_any b1 b2 b3 b4 hb W hW)
  have HO := Lib.hid (fun W hW => order_any a1 a2 a3 b1 b2 b3 a4 b4 ha hb W hW)
  have Hw := Lib.hid hw
  clear hw
  generalize P.verCmp a1 a2 a3 a4 b1 b2 b3 b4 = y at *
  generalize P.verr a1 a2 a3 a4 = x1 at *
  generalize P.verr b1 b2 b3 b4 = x2 at *
  by_cases h1 : x1 = 0
  · subst h1
    by_cases h2 : x2 = 0
    · subst h2
      simp only [and_self, if_true]
      go_enter Tryz.func12, Tryz.ntmps12
      go_wp2_with fail
      refine (HA.out _ (Hw.out.mono (by go_grown))).mono ?_
      rintro e w1 ⟨rfl, hb1⟩
      obtain ⟨k0, k1, _, hlt⟩ := two_boxes hb1
      have c0 := k0 0; have c1 := k0 1; have c2 := k0 2; have c3 := k0 3; have d0 := k1 0; have d1 := k1 1; have d2 := k1 2; have d3 := k1 3
      clear k0 k1
      simp only [List.getElem?_toArray, List.getElem?_cons_zero, List.getElem?_cons_succ] at c0 c1 c2 c3 d0 d1 d2 d3
      have HB1 := Lib.hid hb1
      clear hb1
      go_wp2_with fail
      refine (HB.out _ ((Hw.out.mono (by go_grown)).mono HB1.out)).mono ?_
      rintro e w2 ⟨rfl, hb2⟩
      have HB2 := Lib.hid (below_step HB1.out hb2)
      clear hb2 c0 c1 c2 c3 d0 d1 d2 d3 hlt
      obtain ⟨k0, k1, _, hlt2⟩ := two_boxes HB2.out
      have c0 := k0 0; have c1 := k0 1; have c2 := k0 2; have c3 := k0 3; have d0 := k1 0; have d1 := k1 1; have d2 := k1 2; have d3 := k1 3
      clear k0 k1
      simp only [List.getElem?_toArray, List.getElem?_cons_zero, List.getElem?_cons_succ] at c0 c1 c2 c3 d0 d1 d2 d3
      go_wp2_with fail
      refine (HO.out _ ((Hw.out.mono (by go_grown)).mono HB2.out)).mono ?_
      rintro e w3 ⟨rfl, hb3⟩
      have HB3 := Lib.hid (below_step HB2.out hb3)
      clear hb3 c0 c1 c2 c3 d0 d1 d2 d3 hlt2
      go_wp2
      go_ret2
      exact ⟨rfl, below_step (by go_grown) HB3.out⟩
    · rw [if_neg (fun h => h2 h.2)]
      simp only [if_true]
      have h2' : (x2 != 0) = true := by simpa using h2
      go_enter Tryz.func12, Tryz.ntmps12
      go_wp2_with fail
      refine (HA.out _ (Hw.out.mono (by go_grown))).mono ?_
      rintro e w1 ⟨rfl, hb1⟩
      obtain ⟨k0, k1, _, hlt⟩ := two_boxes hb1
      have c0 := k0 0; have c1 := k0 1; have c2 := k0 2; have c3 := k0 3; have d0 := k1 0; have d1 := k1 1; have d2 := k1 2; have d3 := k1 3
      clear k0 k1
      simp only [List.getElem?_toArray, List.getElem?_cons_zero, List.getElem?_cons_succ] at c0 c1 c2 c3 d0 d1 d2 d3
      have HB1 := Lib.hid hb1
      clear hb1
      go_wp2_with fail
      refine (HB.out _ ((Hw.out.mono (by go_grown)).mono HB1.out)).mono ?_
      rintro e w2 ⟨rfl, hb2⟩
      have HB2 := Lib.hid (below_step HB1.out hb2)
      clear hb2 c0 c1 c2 c3 d0 d1 d2 d3 hlt
      go_wp2
      go_ret2
      exact ⟨rfl, below_step (by go_grown) HB2.out⟩
  · rw [if_neg (fun h => h1 h.1), if_neg h1]
    have h1' : (x1 != 0) = true := by simpa using h1
    go_enter Tryz.func12, Tryz.ntmps12
    go_wp2_with fail
    refine (HA.out _ (Hw.out.mono (by go_grown))).mono ?_
    rintro e w1 ⟨rfl, hb1⟩
    have HB1 := Lib.hid hb1
    clear hb1
    go_wp2
    go_ret2
    exact ⟨rfl, below_step (by go_grown) HB1.out⟩
end Go.Proofs.YtffblkkhjphcfaaGreatDoor
