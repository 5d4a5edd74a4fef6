/- Walks: package outref1: a change of a world: what is wrong with it. -/
import Derived.Test.YtgdpbdgaldiggaaGreatDoorZMWFit
import Derived.Test.YtgdpbdgaldiggaaGreatDoorZMShelf
import Derived.Test.YtgdpbdgaldiggaaGreatDoorZMRCheck2
import Derived.Test.YtgdpbdgaldiggaaGreatDoorZMGoc

namespace Go.Proofs.YtgdpbdgaldiggaaGreatDoor
open Go.RowKit Go.Shelf

set_option maxHeartbeats 1000000 in
theorem under_any (p d : ByteArray) (hd : d.size ≤ 4294967280) (w : World) : Calls Tryz.prog 170 #[.string p, .string d] w fun e w' => e = .returned (.bool (P.underS p d)) ∧ w = w' := by
  have hcon := fun W' => Tryz.strings_HasPrefix p (d ++ ⟨#[47]⟩) W'
  have he : Lib.hasPrefix p.data.toList (d ++ ⟨#[47]⟩).data.toList = P.underS p d := by
    unfold Lib.hasPrefix P.underS
    simp
  rw [he] at hcon
  generalize P.underS p d = r at hcon ⊢
  have HC := Lib.hid hcon
  clear hcon he
  go_enter Tryz.func170, Tryz.ntmps170
  go_wp2_with (refine (HC.out _).mono ?_; rintro e w2 ⟨rfl, rfl⟩)
  go_ret
  exact ⟨rfl, rfl⟩

/-- ten cells, some of them stored anew -/
theorem hrow10 {W : World} {k : Nat} {a0 a1 a2 a3 a4 a5 a6 a7 a8 a9 : Value} (h : HasRow W k #[a0, a1, a2, a3, a4, a5, a6, a7, a8, a9]) :
    W.cell? ⟨k, 0, none⟩ = some a0 ∧ W.cell? ⟨k, 1, none⟩ = some a1 ∧ W.cell? ⟨k, 2, none⟩ = some a2 ∧ W.cell? ⟨k, 3, none⟩ = some a3 ∧ W.cell? ⟨k, 4, none⟩ = some a4 ∧ W.cell? ⟨k, 5, none⟩ = some a5 ∧ W.cell? ⟨k, 6, none⟩ = some a6 ∧ W.cell? ⟨k, 7, none⟩ = some a7 ∧ W.cell? ⟨k, 8, none⟩ = some a8 ∧ W.cell? ⟨k, 9, none⟩ = some a9 :=
  ⟨h.cell 0, h.cell 1, h.cell 2, h.cell 3, h.cell 4, h.cell 5, h.cell 6, h.cell 7, h.cell 8, h.cell 9⟩

set_option maxRecDepth 100000 in
set_option maxHeartbeats 8000000 in
theorem chgErrF_any (x : P.Fi) (hp : x.p.size ≤ 4294967280) (hd : x.d.size ≤ 4294967280) (w : World) (hw : Good w) :
    Calls Tryz.prog 40 #[.agg #[.int .i64 1, .string x.p, .string x.d, .bool x.r, .string ⟨#[]⟩, .string ⟨#[]⟩, .string ⟨#[]⟩, .string ⟨#[]⟩, .bool false, .bool false]] w fun e w' => e = .returned (.int .i64 (P.fileErr x)) ∧ Below w.heap.size w w' := by
  have HE := Lib.hid (fun W hW => rfileError_any x hp hd W hW)
  have HO := Lib.hid (fun a nb W hn => rfirst2r a 0 a (P.orE_right a) nb W hn)
  have HN := Lib.hid rwhen_no
  generalize P.fileErr x = r at *
  have HW := Lib.hid hw
  clear hw
  go_enter Tryz.func40, Tryz.ntmps40
  go_wp2_with fail
  refine (HE.out _ (HW.out.mono (below2 _ _ _))).mono ?_
  rintro e w2 ⟨rfl, hb2⟩
  have hR := (HasRow.new (w.alloc _) _ _).below hb2
  rw [World.size_alloc] at hR
  have HB := Lib.hid (bstep (below2 _ _ _) hb2)
  clear hb2
  obtain ⟨_, d1, d2, d3, _⟩ := hrow10 hR
  have f1 := hR.free 1
  have f2 := hR.free 2
  have f3 := hR.free 3
  have hS := (((hR.set 1 (.string ⟨#[]⟩) (by simp)).set 2 (.string ⟨#[]⟩) (by simp)).set 3 (.bool false) (by simp))
  have HB3 := Lib.hid (((HB.out.setCell (p := ⟨w.heap.size + 1, 1, none⟩) (Nat.le_succ _) (.string ⟨#[]⟩)).setCell (p := ⟨w.heap.size + 1, 2, none⟩) (Nat.le_succ _) (.string ⟨#[]⟩)).setCell (p := ⟨w.heap.size + 1, 3, none⟩) (Nat.le_succ _) (.bool false))
  replace hS : HasRow _ _ #[.int .i64 0, .string ⟨#[]⟩, .string ⟨#[]⟩, .bool false, .string ⟨#[]⟩, .string ⟨#[]⟩, .string ⟨#[]⟩, .string ⟨#[]⟩, .bool false, .bool false] := hS
  obtain ⟨g0, g1, g2, g3, g4, g5, g6, g7, g8, g9⟩ := hrow10 hS
  clear hR hS HB HE HW
  go_wp2_with (first
    | (go_at_call 59; refine (HN.out _ _).mono ?_; rintro e w3 ⟨rfl, rfl⟩)
    | (go_at_call 60; refine (HO.out r _ _ (by simp)).mono ?_; rintro e w4 ⟨rfl, rfl⟩))
  go_ret
  exact ⟨rfl, bstep HB3.out (below_alloc _ _)⟩
set_option maxRecDepth 100000 in
set_option maxHeartbeats 8000000 in
theorem chgErrS_any (x : P.St) (hp : x.k.size ≤ 4294967280) (hd : x.v.size ≤ 4294967280) (w : World) (hw : Good w) :
    Calls Tryz.prog 40 #[.agg #[.int .i64 3, .string ⟨#[]⟩, .string ⟨#[]⟩, .bool false, .string x.k, .string x.v, .string ⟨#[]⟩, .string ⟨#[]⟩, .bool false, .bool false]] w fun e w' => e = .returned (.int .i64 (P.setErr x)) ∧ Below w.heap.size w w' := by
  have HE := Lib.hid (fun W hW => rsettingError_any x hp hd W hW)
  have HO := Lib.hid (fun a nb W hn => rfirst2r a 0 a (P.orE_right a) nb W hn)
  have HN := Lib.hid rwhen_no
  generalize P.setErr x = r at *
  have HW := Lib.hid hw
  clear hw
  go_enter Tryz.func40, Tryz.ntmps40
  go_wp2_with fail
  refine (HE.out _ (HW.out.mono (below2 _ _ _))).mono ?_
  rintro e w2 ⟨rfl, hb2⟩
  have hR := (HasRow.new (w.alloc _) _ _).below hb2
  rw [World.size_alloc] at hR
  have HB := Lib.hid (bstep (below2 _ _ _) hb2)
  clear hb2
  obtain ⟨_, _, _, _, d4, d5, _⟩ := hrow10 hR
  have f4 := hR.free 4
  have f5 := hR.free 5
  have hS := ((hR.set 4 (.string ⟨#[]⟩) (by simp)).set 5 (.string ⟨#[]⟩) (by simp))
  have HB3 := Lib.hid ((HB.out.setCell (p := ⟨w.heap.size + 1, 4, none⟩) (Nat.le_succ _) (.string ⟨#[]⟩)).setCell (p := ⟨w.heap.size + 1, 5, none⟩) (Nat.le_succ _) (.string ⟨#[]⟩))
  replace hS : HasRow _ _ #[.int .i64 0, .string ⟨#[]⟩, .string ⟨#[]⟩, .bool false, .string ⟨#[]⟩, .string ⟨#[]⟩, .string ⟨#[]⟩, .string ⟨#[]⟩, .bool false, .bool false] := hS
  obtain ⟨g0, g1, g2, g3, g4, g5, g6, g7, g8, g9⟩ := hrow10 hS
  clear hR hS HB HE HW
  go_wp2_with (first
    | (go_at_call 59; refine (HN.out _ _).mono ?_; rintro e w3 ⟨rfl, rfl⟩)
    | (go_at_call 60; refine (HO.out r _ _ (by simp)).mono ?_; rintro e w4 ⟨rfl, rfl⟩))
  go_ret
  exact ⟨rfl, bstep HB3.out (below_alloc _ _)⟩
set_option maxRecDepth 100000 in
set_option maxHeartbeats 8000000 in
theorem chgErrV_any (x : P.Sv) (hp : x.n.size ≤ 4294967280) (hd : x.p.size ≤ 4294967280) (w : World) (hw : Good w) :
    Calls Tryz.prog 40 #[.agg #[.int .i64 5, .string ⟨#[]⟩, .string ⟨#[]⟩, .bool false, .string ⟨#[]⟩, .string ⟨#[]⟩, .string x.n, .string x.p, .bool x.a, .bool x.o]] w fun e w' => e = .returned (.int .i64 (P.svcErr x)) ∧ Below w.heap.size w w' := by
  have HE := Lib.hid (fun W hW => rserviceError_any x hp hd W hW)
  have HO := Lib.hid (fun a nb W hn => rfirst2r a 0 a (P.orE_right a) nb W hn)
  have HN := Lib.hid rwhen_no
  generalize P.svcErr x = r at *
  have HW := Lib.hid hw
  clear hw
  go_enter Tryz.func40, Tryz.ntmps40
  go_wp2_with fail
  refine (HE.out _ (HW.out.mono (below2 _ _ _))).mono ?_
  rintro e w2 ⟨rfl, hb2⟩
  have hR := (HasRow.new (w.alloc _) _ _).below hb2
  rw [World.size_alloc] at hR
  have HB := Lib.hid (bstep (below2 _ _ _) hb2)
  clear hb2
  obtain ⟨_, _, _, _, _, _, d6, d7, d8, d9⟩ := hrow10 hR
  have f6 := hR.free 6
  have f7 := hR.free 7
  have f8 := hR.free 8
  have f9 := hR.free 9
  have hS := ((((hR.set 6 (.string ⟨#[]⟩) (by simp)).set 7 (.string ⟨#[]⟩) (by simp)).set 8 (.bool false) (by simp)).set 9 (.bool false) (by simp))
  have HB3 := Lib.hid ((((HB.out.setCell (p := ⟨w.heap.size + 1, 6, none⟩) (Nat.le_succ _) (.string ⟨#[]⟩)).setCell (p := ⟨w.heap.size + 1, 7, none⟩) (Nat.le_succ _) (.string ⟨#[]⟩)).setCell (p := ⟨w.heap.size + 1, 8, none⟩) (Nat.le_succ _) (.bool false)).setCell (p := ⟨w.heap.size + 1, 9, none⟩) (Nat.le_succ _) (.bool false))
  replace hS : HasRow _ _ #[.int .i64 0, .string ⟨#[]⟩, .string ⟨#[]⟩, .bool false, .string ⟨#[]⟩, .string ⟨#[]⟩, .string ⟨#[]⟩, .string ⟨#[]⟩, .bool false, .bool false] := hS
  obtain ⟨g0, g1, g2, g3, g4, g5, g6, g7, g8, g9⟩ := hrow10 hS
  clear hR hS HB HE HW
  go_wp2_with (first
    | (go_at_call 59; refine (HN.out _ _).mono ?_; rintro e w3 ⟨rfl, rfl⟩)
    | (go_at_call 60; refine (HO.out r _ _ (by simp)).mono ?_; rintro e w4 ⟨rfl, rfl⟩))
  go_ret
  exact ⟨rfl, bstep HB3.out (below_alloc _ _)⟩
end Go.Proofs.YtgdpbdgaldiggaaGreatDoor
