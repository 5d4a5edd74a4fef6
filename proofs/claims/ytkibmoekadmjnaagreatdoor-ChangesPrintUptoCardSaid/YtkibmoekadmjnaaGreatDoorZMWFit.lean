/- Plain functions: a right machine is small; what putting a thing into a right machine gives; a machine of facts alone. No program stands here. -/
/- Walks: package outref1: a change of a world: what is wrong with it. -/
import Derived.Test.YtkibmoekadmjnaaGreatDoorZMWPure
import Derived.Test.YtkibmoekadmjnaaGreatDoorZMCheck
import Derived.Test.YtkibmoekadmjnaaGreatDoorZMShelf
import Derived.Test.YtkibmoekadmjnaaGreatDoorZMRCheck2
import Derived.Test.YtkibmoekadmjnaaGreatDoorZMGoc

namespace Go.Proofs.YtkibmoekadmjnaaGreatDoor
namespace P
theorem name_size {s : ByteArray} (h : nameS s = true) : s.size ≤ 40 := by
  rw [← size_len]
  unfold nameS name at h
  generalize s.data.toList = l at h
  cases l with
  | nil => cases h
  | cons c l => simp only [Bool.and_eq_true, decide_eq_true_eq] at h; exact h.1.1
theorem path_size {s : ByteArray} (h : pathS s = true) : s.size ≤ 200 := by
  rw [← size_len]
  unfold pathS path at h
  simp only [Bool.and_eq_true, decide_eq_true_eq] at h; exact h.1
theorem value_size {s : ByteArray} (h : valueS s = true) : s.size ≤ 1000 := by
  rw [← size_len]
  unfold valueS value at h
  simp only [Bool.and_eq_true, decide_eq_true_eq] at h; exact h.1
theorem factErr_zero {x : St} : factErr x = 0 ↔ nameS x.k = true ∧ valueS x.v = true := by
  unfold factErr
  cases nameS x.k <;> cases valueS x.v <;> simp
theorem setErr_zero {x : St} : setErr x = 0 ↔ pathS x.k = true ∧ valueS x.v = true := by
  unfold setErr
  cases pathS x.k <;> cases valueS x.v <;> simp
theorem fileErr_zero {x : Fi} : fileErr x = 0 ↔ pathS x.p = true ∧ x.d.size ≤ 65536 := by
  unfold fileErr
  by_cases h : x.d.size ≤ 65536 <;> cases pathS x.p <;> simp [h]
theorem svcErr_zero {x : Sv} : svcErr x = 0 ↔ nameS x.n = true ∧ pathS x.p = true := by
  unfold svcErr
  cases nameS x.n <;> cases pathS x.p <;> simp
theorem Right.fit {m : Mach} (h : Right m) : m.fit where
  l1 := Nat.le_trans h.l1 (by decide)
  l2 := Nat.le_trans h.l2 (by decide)
  l3 := Nat.le_trans h.l3 (by decide)
  l4 := Nat.le_trans h.l4 (by decide)
  f := fun k hk => by
    obtain ⟨h1, h2⟩ := factErr_zero.1 (h.a1 _ (List.getElem_mem hk))
    have := name_size h1; have := value_size h2; omega
  i := fun k hk => by
    obtain ⟨h1, h2⟩ := fileErr_zero.1 (h.a2 _ (List.getElem_mem hk))
    have := path_size h1; omega
  s := fun k hk => by
    obtain ⟨h1, h2⟩ := setErr_zero.1 (h.a3 _ (List.getElem_mem hk))
    have := path_size h1; have := value_size h2; omega
  v := fun k hk => by
    obtain ⟨h1, h2⟩ := svcErr_zero.1 (h.a4 _ (List.getElem_mem hk))
    have := name_size h1; have := path_size h2; omega
/-- the error of a change, and the machine behind it -/
def chgErr (m : Mach) (c : Chg) : Int := orE (thingErr c) (placeErr m c)
def putC (x : Fi) : Chg := ⟨1, x, st0, sv0⟩
def setC (x : St) : Chg := ⟨3, fi0, x, sv0⟩
def svcC (x : Sv) : Chg := ⟨5, fi0, st0, x⟩
theorem Right.done {m : Mach} (h : Right m) {c : Chg} (he : chgErr m c = 0) : Right (P.made m c) := by
  obtain ⟨h1, h2⟩ := orE_zero_iff.1 he
  exact h.made h1 h2
/-- a machine of facts alone -/
theorem right_facts {L : List St} (hl : L.length ≤ 100) (ha : ∀ x ∈ L, factErr x = 0) (hr : Rising St.k L) : Right ⟨L, [], [], []⟩ where
  l1 := hl
  l2 := by simp
  l3 := by simp
  l4 := by simp
  a1 := ha
  a2 := by simp
  a3 := by simp
  a4 := by simp
  r1 := hr
  r2 := List.Pairwise.nil
  r3 := List.Pairwise.nil
  r4 := List.Pairwise.nil
  nu := by intro x hx; cases hx
/-- what CompactFunc has kept of M when it has looked at its first i things -/
structure Comp (M A : List St) (i : Nat) : Prop where
  rise : Rising St.k A
  mem : ∀ x ∈ A, x ∈ M
  top : ∀ y ∈ A, ∀ h : i - 1 < M.length, ¬ ltB M[i - 1].k y.k
theorem comp_start {M : List St} (h : 0 < M.length) : Comp M (M.take 1) 1 := by
  obtain ⟨x, r, rfl⟩ := List.exists_cons_of_ne_nil (List.ne_nil_of_length_pos h)
  exact ⟨List.pairwise_singleton _ _, by simp, by intro y hy _; simp at hy; subst hy; exact ltB_irrefl _⟩
theorem comp_skip {M A : List St} {i : Nat} (h : Comp M A i) (h0 : 0 < i) (hi : i < M.length) (e : M[i].k = (M[i - 1]'(by omega)).k) : Comp M A (i + 1) :=
  ⟨h.rise, h.mem, fun y hy _ => by
    have := h.top y hy (by omega)
    show ¬ ltB M[i].k y.k
    rw [e]; exact this⟩
theorem comp_take {M A : List St} {i : Nat} (h : Comp M A i) (h0 : 0 < i) (hs : M.Pairwise (fun x y => ¬ ltB y.k x.k)) (hi : i < M.length) (e : M[i].k ≠ (M[i - 1]'(by omega)).k) : Comp M (A ++ [M[i]]) (i + 1) := by
  have hlt : ltB (M[i - 1]'(by omega)).k M[i].k := ltB_total (List.pairwise_iff_getElem.1 hs (i - 1) i (by omega) hi (by omega)) e
  have hall : ∀ y ∈ A, ltB y.k M[i].k := fun y hy => by
    have h1 := h.top y hy (by omega)
    by_cases e2 : (M[i - 1]'(by omega)).k = y.k
    · rw [← e2]; exact hlt
    · exact ltB_trans (ltB_total h1 e2) hlt
  refine ⟨List.pairwise_append.2 ⟨h.rise, List.pairwise_singleton _ _, fun a ha b hb => by simp at hb; subst hb; exact hall a ha⟩, fun x hx => ?_, fun y hy _ => ?_⟩
  · rcases List.mem_append.1 hx with hx | hx
    · exact h.mem x hx
    · simp at hx; subst hx; exact List.getElem_mem hi
  · show ¬ ltB M[i].k y.k
    rcases List.mem_append.1 hy with hy | hy
    · exact fun hl => ltB_irrefl _ (ltB_trans hl (hall y hy))
    · simp at hy; subst hy; exact ltB_irrefl _
theorem comp_take1 {M : List St} {i : Nat} (h : Comp M (M.take i) i) (h0 : 0 < i) (hs : M.Pairwise (fun x y => ¬ ltB y.k x.k)) (hi : i < M.length) (e : M[i].k ≠ (M[i - 1]'(by omega)).k) : Comp M (M.take (i + 1)) (i + 1) := by
  rw [List.take_succ_eq_append_getElem hi]; exact comp_take h h0 hs hi e
end P
end Go.Proofs.YtkibmoekadmjnaaGreatDoor

namespace Go.Proofs.YtkibmoekadmjnaaGreatDoor
open Go.RowKit Go.Shelf

set_option maxHeartbeats 1000000 in
theorem under_any (p d : ByteArray) (hd : d.size ≤ 4294967280) (w : World) : Calls Tryz.prog 205 #[.string p, .string d] w fun e w' => e = .returned (.bool (P.underS p d)) ∧ w = w' := by
  have hcon := fun W' => Tryz.strings_HasPrefix p (d ++ ⟨#[47]⟩) W'
  have he : Lib.hasPrefix p.data.toList (d ++ ⟨#[47]⟩).data.toList = P.underS p d := by
    unfold Lib.hasPrefix P.underS
    simp
  rw [he] at hcon
  generalize P.underS p d = r at hcon ⊢
  have HC := Lib.hid hcon
  clear hcon he
  go_enter Tryz.func205, Tryz.ntmps205
  go_wp2_with (refine (HC.out _).mono ?_; rintro e w2 ⟨rfl, rfl⟩)
  go_ret
  exact ⟨rfl, rfl⟩

/-- ten cells, some of them stored anew -/
theorem hrow10 {W : World} {k : Nat} {a0 a1 a2 a3 a4 a5 a6 a7 a8 a9 : Value} (h : HasRow W k #[a0, a1, a2, a3, a4, a5, a6, a7, a8, a9]) :
    W.cell? ⟨k, 0, none⟩ = some a0 ∧ W.cell? ⟨k, 1, none⟩ = some a1 ∧ W.cell? ⟨k, 2, none⟩ = some a2 ∧ W.cell? ⟨k, 3, none⟩ = some a3 ∧ W.cell? ⟨k, 4, none⟩ = some a4 ∧ W.cell? ⟨k, 5, none⟩ = some a5 ∧ W.cell? ⟨k, 6, none⟩ = some a6 ∧ W.cell? ⟨k, 7, none⟩ = some a7 ∧ W.cell? ⟨k, 8, none⟩ = some a8 ∧ W.cell? ⟨k, 9, none⟩ = some a9 :=
  ⟨h.cell 0, h.cell 1, h.cell 2, h.cell 3, h.cell 4, h.cell 5, h.cell 6, h.cell 7, h.cell 8, h.cell 9⟩

set_option maxRecDepth 100000 in
set_option maxHeartbeats 8000000 in
theorem chgErrF_any (x : P.Fi) (hp : x.p.size ≤ 4294967280) (hd : x.d.size ≤ 4294967280) (w : World) (hw : Good w) :
    Calls Tryz.prog 43 #[.agg #[.int .i64 1, .string x.p, .string x.d, .bool x.r, .string ⟨#[]⟩, .string ⟨#[]⟩, .string ⟨#[]⟩, .string ⟨#[]⟩, .bool false, .bool false]] w fun e w' => e = .returned (.int .i64 (P.fileErr x)) ∧ Below w.heap.size w w' := by
  have HE := Lib.hid (fun W hW => rfileError_any x hp hd W hW)
  have HO := Lib.hid (fun a nb W hn => rfirst2r a 0 a (P.orE_right a) nb W hn)
  have HN := Lib.hid rwhen_no
  generalize P.fileErr x = r at *
  have HW := Lib.hid hw
  clear hw
  go_enter Tryz.func43, Tryz.ntmps43
  go_wp2_with fail
  refine (HE.out _ (HW.out.mono (below2 _ _ _))).mono ?_
  rintro e w2 ⟨rfl, hb2⟩
  have hR := (HasRow.new (w.alloc _) _ _).below hb2
  rw [World.size_alloc] at hR
  have HB := Lib.hid (bstep (below2 _ _ _) hb2)
  clear hb2
  obtain ⟨_, d1, d2, d3, _⟩ := hrow10 hR
  have f1 := hR.free 1
  have f2 := hR.free 2
  have f3 := hR.free 3
  have hS := (((hR.set 1 (.string ⟨#[]⟩) (by simp)).set 2 (.string ⟨#[]⟩) (by simp)).set 3 (.bool false) (by simp))
  have HB3 := Lib.hid (((HB.out.setCell (p := ⟨w.heap.size + 1, 1, none⟩) (Nat.le_succ _) (.string ⟨#[]⟩)).setCell (p := ⟨w.heap.size + 1, 2, none⟩) (Nat.le_succ _) (.string ⟨#[]⟩)).setCell (p := ⟨w.heap.size + 1, 3, none⟩) (Nat.le_succ _) (.bool false))
  replace hS : HasRow _ _ #[.int .i64 0, .string ⟨#[]⟩, .string ⟨#[]⟩, .bool false, .string ⟨#[]⟩, .string ⟨#[]⟩, .string ⟨#[]⟩, .string ⟨#[]⟩, .bool false, .bool false] := hS
  obtain ⟨g0, g1, g2, g3, g4, g5, g6, g7, g8, g9⟩ := hrow10 hS
  clear hR hS HB HE HW
  go_wp2_with (first
    | (go_at_call 81; refine (HN.out _ _).mono ?_; rintro e w3 ⟨rfl, rfl⟩)
    | (go_at_call 82; refine (HO.out r _ _ (by simp)).mono ?_; rintro e w4 ⟨rfl, rfl⟩))
  go_ret
  exact ⟨rfl, bstep HB3.out (below_alloc _ _)⟩
set_option maxRecDepth 100000 in
set_option maxHeartbeats 8000000 in
theorem chgErrS_any (x : P.St) (hp : x.k.size ≤ 4294967280) (hd : x.v.size ≤ 4294967280) (w : World) (hw : Good w) :
    Calls Tryz.prog 43 #[.agg #[.int .i64 3, .string ⟨#[]⟩, .string ⟨#[]⟩, .bool false, .string x.k, .string x.v, .string ⟨#[]⟩, .string ⟨#[]⟩, .bool false, .bool false]] w fun e w' => e = .returned (.int .i64 (P.setErr x)) ∧ Below w.heap.size w w' := by
  have HE := Lib.hid (fun W hW => rsettingError_any x hp hd W hW)
  have HO := Lib.hid (fun a nb W hn => rfirst2r a 0 a (P.orE_right a) nb W hn)
  have HN := Lib.hid rwhen_no
  generalize P.setErr x = r at *
  have HW := Lib.hid hw
  clear hw
  go_enter Tryz.func43, Tryz.ntmps43
  go_wp2_with fail
  refine (HE.out _ (HW.out.mono (below2 _ _ _))).mono ?_
  rintro e w2 ⟨rfl, hb2⟩
  have hR := (HasRow.new (w.alloc _) _ _).below hb2
  rw [World.size_alloc] at hR
  have HB := Lib.hid (bstep (below2 _ _ _) hb2)
  clear hb2
  obtain ⟨_, _, _, _, d4, d5, _⟩ := hrow10 hR
  have f4 := hR.free 4
  have f5 := hR.free 5
  have hS := ((hR.set 4 (.string ⟨#[]⟩) (by simp)).set 5 (.string ⟨#[]⟩) (by simp))
  have HB3 := Lib.hid ((HB.out.setCell (p := ⟨w.heap.size + 1, 4, none⟩) (Nat.le_succ _) (.string ⟨#[]⟩)).setCell (p := ⟨w.heap.size + 1, 5, none⟩) (Nat.le_succ _) (.string ⟨#[]⟩))
  replace hS : HasRow _ _ #[.int .i64 0, .string ⟨#[]⟩, .string ⟨#[]⟩, .bool false, .string ⟨#[]⟩, .string ⟨#[]⟩, .string ⟨#[]⟩, .string ⟨#[]⟩, .bool false, .bool false] := hS
  obtain ⟨g0, g1, g2, g3, g4, g5, g6, g7, g8, g9⟩ := hrow10 hS
  clear hR hS HB HE HW
  go_wp2_with (first
    | (go_at_call 81; refine (HN.out _ _).mono ?_; rintro e w3 ⟨rfl, rfl⟩)
    | (go_at_call 82; refine (HO.out r _ _ (by simp)).mono ?_; rintro e w4 ⟨rfl, rfl⟩))
  go_ret
  exact ⟨rfl, bstep HB3.out (below_alloc _ _)⟩
set_option maxRecDepth 100000 in
set_option maxHeartbeats 8000000 in
theorem chgErrV_any (x : P.Sv) (hp : x.n.size ≤ 4294967280) (hd : x.p.size ≤ 4294967280) (w : World) (hw : Good w) :
    Calls Tryz.prog 43 #[.agg #[.int .i64 5, .string ⟨#[]⟩, .string ⟨#[]⟩, .bool false, .string ⟨#[]⟩, .string ⟨#[]⟩, .string x.n, .string x.p, .bool x.a, .bool x.o]] w fun e w' => e = .returned (.int .i64 (P.svcErr x)) ∧ Below w.heap.size w w' := by
  have HE := Lib.hid (fun W hW => rserviceError_any x hp hd W hW)
  have HO := Lib.hid (fun a nb W hn => rfirst2r a 0 a (P.orE_right a) nb W hn)
  have HN := Lib.hid rwhen_no
  generalize P.svcErr x = r at *
  have HW := Lib.hid hw
  clear hw
  go_enter Tryz.func43, Tryz.ntmps43
  go_wp2_with fail
  refine (HE.out _ (HW.out.mono (below2 _ _ _))).mono ?_
  rintro e w2 ⟨rfl, hb2⟩
  have hR := (HasRow.new (w.alloc _) _ _).below hb2
  rw [World.size_alloc] at hR
  have HB := Lib.hid (bstep (below2 _ _ _) hb2)
  clear hb2
  obtain ⟨_, _, _, _, _, _, d6, d7, d8, d9⟩ := hrow10 hR
  have f6 := hR.free 6
  have f7 := hR.free 7
  have f8 := hR.free 8
  have f9 := hR.free 9
  have hS := ((((hR.set 6 (.string ⟨#[]⟩) (by simp)).set 7 (.string ⟨#[]⟩) (by simp)).set 8 (.bool false) (by simp)).set 9 (.bool false) (by simp))
  have HB3 := Lib.hid ((((HB.out.setCell (p := ⟨w.heap.size + 1, 6, none⟩) (Nat.le_succ _) (.string ⟨#[]⟩)).setCell (p := ⟨w.heap.size + 1, 7, none⟩) (Nat.le_succ _) (.string ⟨#[]⟩)).setCell (p := ⟨w.heap.size + 1, 8, none⟩) (Nat.le_succ _) (.bool false)).setCell (p := ⟨w.heap.size + 1, 9, none⟩) (Nat.le_succ _) (.bool false))
  replace hS : HasRow _ _ #[.int .i64 0, .string ⟨#[]⟩, .string ⟨#[]⟩, .bool false, .string ⟨#[]⟩, .string ⟨#[]⟩, .string ⟨#[]⟩, .string ⟨#[]⟩, .bool false, .bool false] := hS
  obtain ⟨g0, g1, g2, g3, g4, g5, g6, g7, g8, g9⟩ := hrow10 hS
  clear hR hS HB HE HW
  go_wp2_with (first
    | (go_at_call 81; refine (HN.out _ _).mono ?_; rintro e w3 ⟨rfl, rfl⟩)
    | (go_at_call 82; refine (HO.out r _ _ (by simp)).mono ?_; rintro e w4 ⟨rfl, rfl⟩))
  go_ret
  exact ⟨rfl, bstep HB3.out (below_alloc _ _)⟩
end Go.Proofs.YtkibmoekadmjnaaGreatDoor
