/- Plain: a change, its form, its error. -/
/- A list of changes where it lies. -/
/- Walks: disk's needed. -/
/- Walks: disk's checkThing. -/
/- Walks: disk's CheckChange. -/
/- Walks: what ChangeError's walks need. -/
import Derived.Test.YtomikcemiacjmaaGreatDoorZMWFit
import Derived.Test.YtomikcemiacjmaaGreatDoorZMList
import Derived.Deep.RegionHeld3
import Derived.Test.YtomikcemiacjmaaGreatDoorZMRefE

namespace Go.Proofs.YtomikcemiacjmaaGreatDoor
open Go.RowKit Go.Lib Go.Shelf

namespace P
/-- a change with nothing but what its kind needs -/
def needed (c : Chg) : Chg :=
  if c.kind = 1 then ⟨1, c.file, st0, sv0⟩
  else if c.kind = 2 then ⟨2, ⟨c.file.p, ⟨#[]⟩, false⟩, st0, sv0⟩
  else if c.kind = 3 then ⟨3, fi0, c.set, sv0⟩
  else if c.kind = 4 then ⟨4, fi0, ⟨c.set.k, ⟨#[]⟩⟩, sv0⟩
  else if c.kind = 5 then ⟨5, fi0, st0, c.svc⟩
  else if c.kind = 6 then ⟨6, fi0, st0, ⟨c.svc.n, ⟨#[]⟩, false, false⟩⟩
  else ⟨c.kind, fi0, st0, sv0⟩
/-- what is wrong with what a change is of -/
def thE (c : Chg) : Int :=
  if c.kind = 1 then fileErr c.file
  else if c.kind = 2 then fileErr ⟨c.file.p, ⟨#[]⟩, false⟩
  else if c.kind = 3 then setErr c.set
  else if c.kind = 4 then setErr ⟨c.set.k, ⟨#[]⟩⟩
  else if c.kind = 5 then svcErr c.svc
  else if c.kind = 6 then (if nameS c.svc.n then 0 else 5)
  else 1
/-- the same change, cell by cell -/
def eqC (a b : Chg) : Bool := a.kind == b.kind && (a.file.p.toList == b.file.p.toList && a.file.d.toList == b.file.d.toList && a.file.r == b.file.r) && (a.set.k.toList == b.set.k.toList && a.set.v.toList == b.set.v.toList) && (a.svc.n.toList == b.svc.n.toList && a.svc.p.toList == b.svc.p.toList && a.svc.a == b.svc.a && a.svc.o == b.svc.o)
/-- the error of a change -/
def chE (c : Chg) : Int := orE (thE c) (if eqC c (needed c) then 0 else 2)
theorem chE_eq (c : Chg) : chE c = if thE c = 0 then (if eqC c (needed c) then 0 else 2) else thE c := rfl
theorem needed_kind (c : Chg) : (needed c).kind = c.kind := by
  unfold needed
  by_cases h1 : c.kind = 1
  · rw [if_pos h1, h1]
  · rw [if_neg h1]
    by_cases h2 : c.kind = 2
    · rw [if_pos h2, h2]
    · rw [if_neg h2]
      by_cases h3 : c.kind = 3
      · rw [if_pos h3, h3]
      · rw [if_neg h3]
        by_cases h4 : c.kind = 4
        · rw [if_pos h4, h4]
        · rw [if_neg h4]
          by_cases h5 : c.kind = 5
          · rw [if_pos h5, h5]
          · rw [if_neg h5]
            by_cases h6 : c.kind = 6
            · rw [if_pos h6, h6]
            · rw [if_neg h6]
/-- the strings of a change are no longer than so many bytes -/
structure CSm (n : Nat) (c : Chg) : Prop where
  fp : c.file.p.size ≤ n
  fd : c.file.d.size ≤ n
  sk : c.set.k.size ≤ n
  sv : c.set.v.size ≤ n
  vn : c.svc.n.size ≤ n
  vp : c.svc.p.size ≤ n
theorem kinds (k : Int) : k = 1 ∨ k = 2 ∨ k = 3 ∨ k = 4 ∨ k = 5 ∨ k = 6 ∨ ((k == 1) = false ∧ (k == 2) = false ∧ (k == 3) = false ∧ (k == 4) = false ∧ (k == 5) = false ∧ (k == 6) = false) := by
  simp only [beq_eq_false_iff_ne]
  omega
end P
/-- the cells of a change -/
def chA (c : P.Chg) : Array Value := #[.int .i64 c.kind, .string c.file.p, .string c.file.d, .bool c.file.r, .string c.set.k, .string c.set.v, .string c.svc.n, .string c.svc.p, .bool c.svc.a, .bool c.svc.o]
def chAgg (c : P.Chg) : Value := .agg (chA c)
theorem three (w : World) (a b c : Array Value) : HasRow (((w.alloc (.cells a 73)).alloc (.cells b 73)).alloc (.cells c 73)) (w.heap.size + 1) b ∧ Below w.heap.size w (((w.alloc (.cells a 73)).alloc (.cells b 73)).alloc (.cells c 73)) := by
  have h := (HasRow.new (w.alloc (.cells a 73)) b 73).alloc (.cells c 73)
  rw [World.size_alloc] at h
  exact ⟨h, bstep (below2 w (.cells a 73) (.cells b 73)) (below_alloc _ _)⟩
end Go.Proofs.YtomikcemiacjmaaGreatDoor

namespace Go.Proofs.YtomikcemiacjmaaGreatDoor
open Go.RowKit Go.Lib Go.Shelf

/-- a change's ten cells -/
def ChCells (w : World) (b o : Nat) (c : P.Chg) : Prop :=
  w.cell? ⟨b, o, none⟩ = some (.int .i64 c.kind) ∧ w.cell? ⟨b, o + 1, none⟩ = some (.string c.file.p) ∧ w.cell? ⟨b, o + 2, none⟩ = some (.string c.file.d) ∧ w.cell? ⟨b, o + 3, none⟩ = some (.bool c.file.r) ∧ w.cell? ⟨b, o + 4, none⟩ = some (.string c.set.k) ∧
  w.cell? ⟨b, o + 5, none⟩ = some (.string c.set.v) ∧ w.cell? ⟨b, o + 6, none⟩ = some (.string c.svc.n) ∧ w.cell? ⟨b, o + 7, none⟩ = some (.string c.svc.p) ∧ w.cell? ⟨b, o + 8, none⟩ = some (.bool c.svc.a) ∧ w.cell? ⟨b, o + 9, none⟩ = some (.bool c.svc.o)
theorem ChCells.below {m b o : Nat} {w w' : World} {c : P.Chg} (h : ChCells w b o c) (hb : Below m w w') (hm : b < m) : ChCells w' b o c := by
  obtain ⟨h0, h1, h2, h3, h4, h5, h6, h7, h8, h9⟩ := h
  have e := fun i => hb.cell (p := ⟨b, i, none⟩) hm
  exact ⟨(e _).trans h0, (e _).trans h1, (e _).trans h2, (e _).trans h3, (e _).trans h4, (e _).trans h5, (e _).trans h6, (e _).trans h7, (e _).trans h8, (e _).trans h9⟩
/-- the changes L lie where the slice (a, cap) says, in blocks that lay in w -/
structure ChsAt (m : Nat) (w : World) (a : Option Addr) (L : List P.Chg) (cap : Nat) : Prop where
  le : L.length ≤ cap
  at_ : L ≠ [] → ∃ b off, a = some ⟨b, off, none⟩ ∧ b < m ∧ ∀ k (hk : k < L.length), ChCells w b (off + k * 10) L[k]
theorem ChsAt.below {m : Nat} {w w' : World} {a : Option Addr} {L : List P.Chg} {cap : Nat} (h : ChsAt m w a L cap) (hb : Below m w w') : ChsAt m w' a L cap :=
  ⟨h.le, fun hn => let ⟨b, off, e, hbm, hc⟩ := h.at_ hn; ⟨b, off, e, hbm, fun k hk => (hc k hk).below hb hbm⟩⟩
theorem ChsAt.up {m m' : Nat} {w : World} {a : Option Addr} {L : List P.Chg} {cap : Nat} (h : ChsAt m w a L cap) (hm : m ≤ m') : ChsAt m' w a L cap :=
  ⟨h.le, fun hn => let ⟨b, off, e, hb, hc⟩ := h.at_ hn; ⟨b, off, e, Nat.lt_of_lt_of_le hb hm, hc⟩⟩
namespace P
/-- the first error of changes -/
def chEs : List Chg → Int
  | [] => 0
  | c :: l => if chE c = 0 then chEs l else chE c
theorem chEs_end {L : List Chg} {k : Nat} (h : L.length ≤ k) : chEs (L.drop k) = 0 := by rw [List.drop_eq_nil_of_le h]; rfl
theorem chEs_good {L : List Chg} {k : Nat} (h : k < L.length) (h0 : chE L[k] = 0) : chEs (L.drop k) = chEs (L.drop (k + 1)) := by rw [List.drop_eq_getElem_cons h]; exact if_pos h0
theorem chEs_bad {L : List Chg} {k : Nat} (h : k < L.length) (h0 : chE L[k] ≠ 0) : chEs (L.drop k) = chE L[k] := by rw [List.drop_eq_getElem_cons h]; exact if_neg h0
end P

end Go.Proofs.YtomikcemiacjmaaGreatDoor

namespace Go.Proofs.YtomikcemiacjmaaGreatDoor
open Go.RowKit Go.Lib Go.Shelf

set_option maxRecDepth 100000 in
set_option maxHeartbeats 8000000 in
theorem needed_any (c : P.Chg) (w : World) : Calls Tryz.prog 133 #[chAgg c] w fun e w' => e = .returned (chAgg (P.needed c)) ∧ Below w.heap.size w w' := by
  obtain ⟨k, ⟨fp, fd, fr⟩, ⟨sk, sv⟩, ⟨vn, vp, va, vo⟩⟩ := c
  unfold chAgg chA
  rcases P.kinds k with rfl | rfl | rfl | rfl | rfl | rfl | ⟨h1, h2, h3, h4, h5, h6⟩
  · have HT := Lib.hid (three w #[.int .i64 1, .string fp, .string fd, .bool fr, .string sk, .string sv, .string vn, .string vp, .bool va, .bool vo] #[.int .i64 1, .string fp, .string fd, .bool fr, .string ⟨#[]⟩, .string ⟨#[]⟩, .string ⟨#[]⟩, .string ⟨#[]⟩, .bool false, .bool false] #[.int .i64 1, .string fp, .string fd, .bool fr, .string ⟨#[]⟩, .string ⟨#[]⟩, .string ⟨#[]⟩, .string ⟨#[]⟩, .bool false, .bool false])
    go_enter Tryz.func133, Tryz.ntmps133
    go_wp2_with fail
    obtain ⟨d0, d1, d2, d3, d4, d5, d6, d7, d8, d9⟩ := hrow10 HT.out.1
    refine bodyPost_ret (v := .agg #[.int .i64 1, .string fp, .string fd, .bool fr, .string ⟨#[]⟩, .string ⟨#[]⟩, .string ⟨#[]⟩, .string ⟨#[]⟩, .bool false, .bool false]) ?_ rfl ⟨rfl, HT.out.2⟩
    simp [results, Tryz.results133, go_sem, d0, d1, d2, d3, d4, d5, d6, d7, d8, d9]
  · have HT := Lib.hid (three w #[.int .i64 2, .string fp, .string fd, .bool fr, .string sk, .string sv, .string vn, .string vp, .bool va, .bool vo] #[.int .i64 2, .string fp, .string ⟨#[]⟩, .bool false, .string ⟨#[]⟩, .string ⟨#[]⟩, .string ⟨#[]⟩, .string ⟨#[]⟩, .bool false, .bool false] #[.int .i64 2, .string fp, .string ⟨#[]⟩, .bool false, .string ⟨#[]⟩, .string ⟨#[]⟩, .string ⟨#[]⟩, .string ⟨#[]⟩, .bool false, .bool false])
    go_enter Tryz.func133, Tryz.ntmps133
    go_wp2_with fail
    obtain ⟨d0, d1, d2, d3, d4, d5, d6, d7, d8, d9⟩ := hrow10 HT.out.1
    refine bodyPost_ret (v := .agg #[.int .i64 2, .string fp, .string ⟨#[]⟩, .bool false, .string ⟨#[]⟩, .string ⟨#[]⟩, .string ⟨#[]⟩, .string ⟨#[]⟩, .bool false, .bool false]) ?_ rfl ⟨rfl, HT.out.2⟩
    simp [results, Tryz.results133, go_sem, d0, d1, d2, d3, d4, d5, d6, d7, d8, d9]
  · have HT := Lib.hid (three w #[.int .i64 3, .string fp, .string fd, .bool fr, .string sk, .string sv, .string vn, .string vp, .bool va, .bool vo] #[.int .i64 3, .string ⟨#[]⟩, .string ⟨#[]⟩, .bool false, .string sk, .string sv, .string ⟨#[]⟩, .string ⟨#[]⟩, .bool false, .bool false] #[.int .i64 3, .string ⟨#[]⟩, .string ⟨#[]⟩, .bool false, .string sk, .string sv, .string ⟨#[]⟩, .string ⟨#[]⟩, .bool false, .bool false])
    go_enter Tryz.func133, Tryz.ntmps133
    go_wp2_with fail
    obtain ⟨d0, d1, d2, d3, d4, d5, d6, d7, d8, d9⟩ := hrow10 HT.out.1
    refine bodyPost_ret (v := .agg #[.int .i64 3, .string ⟨#[]⟩, .string ⟨#[]⟩, .bool false, .string sk, .string sv, .string ⟨#[]⟩, .string ⟨#[]⟩, .bool false, .bool false]) ?_ rfl ⟨rfl, HT.out.2⟩
    simp [results, Tryz.results133, go_sem, d0, d1, d2, d3, d4, d5, d6, d7, d8, d9]
  · have HT := Lib.hid (three w #[.int .i64 4, .string fp, .string fd, .bool fr, .string sk, .string sv, .string vn, .string vp, .bool va, .bool vo] #[.int .i64 4, .string ⟨#[]⟩, .string ⟨#[]⟩, .bool false, .string sk, .string ⟨#[]⟩, .string ⟨#[]⟩, .string ⟨#[]⟩, .bool false, .bool false] #[.int .i64 4, .string ⟨#[]⟩, .string ⟨#[]⟩, .bool false, .string sk, .string ⟨#[]⟩, .string ⟨#[]⟩, .string ⟨#[]⟩, .bool false, .bool false])
    go_enter Tryz.func133, Tryz.ntmps133
    go_wp2_with fail
    obtain ⟨d0, d1, d2, d3, d4, d5, d6, d7, d8, d9⟩ := hrow10 HT.out.1
    refine bodyPost_ret (v := .agg #[.int .i64 4, .string ⟨#[]⟩, .string ⟨#[]⟩, .bool false, .string sk, .string ⟨#[]⟩, .string ⟨#[]⟩, .string ⟨#[]⟩, .bool false, .bool false]) ?_ rfl ⟨rfl, HT.out.2⟩
    simp [results, Tryz.results133, go_sem, d0, d1, d2, d3, d4, d5, d6, d7, d8, d9]
  · have HT := Lib.hid (three w #[.int .i64 5, .string fp, .string fd, .bool fr, .string sk, .string sv, .string vn, .string vp, .bool va, .bool vo] #[.int .i64 5, .string ⟨#[]⟩, .string ⟨#[]⟩, .bool false, .string ⟨#[]⟩, .string ⟨#[]⟩, .string vn, .string vp, .bool va, .bool vo] #[.int .i64 5, .string ⟨#[]⟩, .string ⟨#[]⟩, .bool false, .string ⟨#[]⟩, .string ⟨#[]⟩, .string vn, .string vp, .bool va, .bool vo])
    go_enter Tryz.func133, Tryz.ntmps133
    go_wp2_with fail
    obtain ⟨d0, d1, d2, d3, d4, d5, d6, d7, d8, d9⟩ := hrow10 HT.out.1
    refine bodyPost_ret (v := .agg #[.int .i64 5, .string ⟨#[]⟩, .string ⟨#[]⟩, .bool false, .string ⟨#[]⟩, .string ⟨#[]⟩, .string vn, .string vp, .bool va, .bool vo]) ?_ rfl ⟨rfl, HT.out.2⟩
    simp [results, Tryz.results133, go_sem, d0, d1, d2, d3, d4, d5, d6, d7, d8, d9]
  · have HT := Lib.hid (three w #[.int .i64 6, .string fp, .string fd, .bool fr, .string sk, .string sv, .string vn, .string vp, .bool va, .bool vo] #[.int .i64 6, .string ⟨#[]⟩, .string ⟨#[]⟩, .bool false, .string ⟨#[]⟩, .string ⟨#[]⟩, .string vn, .string ⟨#[]⟩, .bool false, .bool false] #[.int .i64 6, .string ⟨#[]⟩, .string ⟨#[]⟩, .bool false, .string ⟨#[]⟩, .string ⟨#[]⟩, .string vn, .string ⟨#[]⟩, .bool false, .bool false])
    go_enter Tryz.func133, Tryz.ntmps133
    go_wp2_with fail
    obtain ⟨d0, d1, d2, d3, d4, d5, d6, d7, d8, d9⟩ := hrow10 HT.out.1
    refine bodyPost_ret (v := .agg #[.int .i64 6, .string ⟨#[]⟩, .string ⟨#[]⟩, .bool false, .string ⟨#[]⟩, .string ⟨#[]⟩, .string vn, .string ⟨#[]⟩, .bool false, .bool false]) ?_ rfl ⟨rfl, HT.out.2⟩
    simp [results, Tryz.results133, go_sem, d0, d1, d2, d3, d4, d5, d6, d7, d8, d9]
  · have HT := Lib.hid (three w #[.int .i64 k, .string fp, .string fd, .bool fr, .string sk, .string sv, .string vn, .string vp, .bool va, .bool vo] #[.int .i64 k, .string ⟨#[]⟩, .string ⟨#[]⟩, .bool false, .string ⟨#[]⟩, .string ⟨#[]⟩, .string ⟨#[]⟩, .string ⟨#[]⟩, .bool false, .bool false] #[.int .i64 k, .string ⟨#[]⟩, .string ⟨#[]⟩, .bool false, .string ⟨#[]⟩, .string ⟨#[]⟩, .string ⟨#[]⟩, .string ⟨#[]⟩, .bool false, .bool false])
    have hn : P.needed ⟨k, ⟨fp, fd, fr⟩, ⟨sk, sv⟩, ⟨vn, vp, va, vo⟩⟩ = ⟨k, P.fi0, P.st0, P.sv0⟩ := by simp only [beq_eq_false_iff_ne] at h1 h2 h3 h4 h5 h6; unfold P.needed; rw [if_neg h1, if_neg h2, if_neg h3, if_neg h4, if_neg h5, if_neg h6]
    rw [hn]
    go_enter Tryz.func133, Tryz.ntmps133
    go_wp2_with fail
    obtain ⟨d0, d1, d2, d3, d4, d5, d6, d7, d8, d9⟩ := hrow10 HT.out.1
    refine bodyPost_ret (v := .agg #[.int .i64 k, .string ⟨#[]⟩, .string ⟨#[]⟩, .bool false, .string ⟨#[]⟩, .string ⟨#[]⟩, .string ⟨#[]⟩, .string ⟨#[]⟩, .bool false, .bool false]) ?_ rfl ⟨rfl, HT.out.2⟩
    simp [results, Tryz.results133, go_sem, d0, d1, d2, d3, d4, d5, d6, d7, d8, d9]
end Go.Proofs.YtomikcemiacjmaaGreatDoor

namespace Go.Proofs.YtomikcemiacjmaaGreatDoor
open Go.RowKit Go.Lib Go.Shelf

theorem thE_other {c : P.Chg} (h1 : (c.kind == 1) = false) (h2 : (c.kind == 2) = false) (h3 : (c.kind == 3) = false) (h4 : (c.kind == 4) = false) (h5 : (c.kind == 5) = false) (h6 : (c.kind == 6) = false) : P.thE c = 1 ∧ P.needed c = ⟨c.kind, P.fi0, P.st0, P.sv0⟩ := by
  simp only [beq_eq_false_iff_ne] at h1 h2 h3 h4 h5 h6
  unfold P.thE P.needed
  rw [if_neg h1, if_neg h2, if_neg h3, if_neg h4, if_neg h5, if_neg h6, if_neg h1, if_neg h2, if_neg h3, if_neg h4, if_neg h5, if_neg h6]
  exact ⟨rfl, rfl⟩
set_option maxRecDepth 100000 in
set_option maxHeartbeats 8000000 in
theorem checkThing_any (c : P.Chg) (hs : P.CSm 4294967280 c) (w : World) (hw : Good w) : Calls Tryz.prog 132 #[chAgg c] w fun e w' => e = .returned (.int .i64 (P.thE c)) ∧ Below w.heap.size w w' := by
  obtain ⟨k, ⟨fp, fd, fr⟩, ⟨sk, sv⟩, ⟨vn, vp, va, vo⟩⟩ := c
  have Hw := Lib.hid hw
  clear hw
  rcases P.kinds k with rfl | rfl | rfl | rfl | rfl | rfl | ⟨h1, h2, h3, h4, h5, h6⟩
  · show Calls Tryz.prog 132 #[.agg #[.int .i64 1, .string fp, .string fd, .bool fr, .string sk, .string sv, .string vn, .string vp, .bool va, .bool vo]] w fun e w' => e = .returned (.int .i64 (P.thE ⟨1, ⟨fp, fd, fr⟩, ⟨sk, sv⟩, ⟨vn, vp, va, vo⟩⟩)) ∧ Below w.heap.size w w'
    have HB := Lib.hid (below_alloc w (.cells #[.int .i64 1, .string fp, .string fd, .bool fr, .string sk, .string sv, .string vn, .string vp, .bool va, .bool vo] 73))
    have HN : Hid (∀ W, Calls Tryz.prog 133 #[.agg #[.int .i64 1, .string fp, .string fd, .bool fr, .string sk, .string sv, .string vn, .string vp, .bool va, .bool vo]] W fun e w' => e = .returned (.agg #[.int .i64 1, .string fp, .string fd, .bool fr, .string ⟨#[]⟩, .string ⟨#[]⟩, .string ⟨#[]⟩, .string ⟨#[]⟩, .bool false, .bool false]) ∧ Below W.heap.size W w') := Lib.hid (fun W => needed_any ⟨1, ⟨fp, fd, fr⟩, ⟨sk, sv⟩, ⟨vn, vp, va, vo⟩⟩ W)
    have HC := Lib.hid (fun W hW => checkFile_any ⟨fp, fd, fr⟩ hs.fp hs.fd W hW)
    have hr : P.thE ⟨1, ⟨fp, fd, fr⟩, ⟨sk, sv⟩, ⟨vn, vp, va, vo⟩⟩ = P.fileErr ⟨fp, fd, fr⟩ := rfl
    rw [hr]
    clear hr hs
    generalize P.fileErr ⟨fp, fd, fr⟩ = r at *
    go_enter Tryz.func132, Tryz.ntmps132
    go_wp2_with (first
      | (go_at_call 133; refine (HN.out _).mono ?_; rintro e w1 ⟨rfl, hb1⟩; have HB2 := Lib.hid (bstep (bstep HB.out hb1) (below_alloc w1 (.cells #[.int .i64 1, .string fp, .string fd, .bool fr, .string ⟨#[]⟩, .string ⟨#[]⟩, .string ⟨#[]⟩, .string ⟨#[]⟩, .bool false, .bool false] 73))); obtain ⟨k0, _⟩ := hrow10 (((HasRow.new w #[.int .i64 1, .string fp, .string fd, .bool fr, .string sk, .string sv, .string vn, .string vp, .bool va, .bool vo] 73).below hb1).alloc (.cells #[.int .i64 1, .string fp, .string fd, .bool fr, .string ⟨#[]⟩, .string ⟨#[]⟩, .string ⟨#[]⟩, .string ⟨#[]⟩, .bool false, .bool false] 73)))
      | (go_at_call 98; refine (HC.out _ (Hw.out.mono HB2.out)).mono ?_; rintro e w2 ⟨rfl, hb2⟩))
    go_ret
    exact ⟨rfl, bstep HB2.out hb2⟩
  · show Calls Tryz.prog 132 #[.agg #[.int .i64 2, .string fp, .string fd, .bool fr, .string sk, .string sv, .string vn, .string vp, .bool va, .bool vo]] w fun e w' => e = .returned (.int .i64 (P.thE ⟨2, ⟨fp, fd, fr⟩, ⟨sk, sv⟩, ⟨vn, vp, va, vo⟩⟩)) ∧ Below w.heap.size w w'
    have HB := Lib.hid (below_alloc w (.cells #[.int .i64 2, .string fp, .string fd, .bool fr, .string sk, .string sv, .string vn, .string vp, .bool va, .bool vo] 73))
    have HN : Hid (∀ W, Calls Tryz.prog 133 #[.agg #[.int .i64 2, .string fp, .string fd, .bool fr, .string sk, .string sv, .string vn, .string vp, .bool va, .bool vo]] W fun e w' => e = .returned (.agg #[.int .i64 2, .string fp, .string ⟨#[]⟩, .bool false, .string ⟨#[]⟩, .string ⟨#[]⟩, .string ⟨#[]⟩, .string ⟨#[]⟩, .bool false, .bool false]) ∧ Below W.heap.size W w') := Lib.hid (fun W => needed_any ⟨2, ⟨fp, fd, fr⟩, ⟨sk, sv⟩, ⟨vn, vp, va, vo⟩⟩ W)
    have HC := Lib.hid (fun W hW => checkFile_any ⟨fp, ⟨#[]⟩, false⟩ hs.fp (Nat.zero_le _) W hW)
    have hr : P.thE ⟨2, ⟨fp, fd, fr⟩, ⟨sk, sv⟩, ⟨vn, vp, va, vo⟩⟩ = P.fileErr ⟨fp, ⟨#[]⟩, false⟩ := rfl
    rw [hr]
    clear hr hs
    generalize P.fileErr ⟨fp, ⟨#[]⟩, false⟩ = r at *
    go_enter Tryz.func132, Tryz.ntmps132
    go_wp2_with (first
      | (go_at_call 133; refine (HN.out _).mono ?_; rintro e w1 ⟨rfl, hb1⟩; have HB2 := Lib.hid (bstep (bstep HB.out hb1) (below_alloc w1 (.cells #[.int .i64 2, .string fp, .string ⟨#[]⟩, .bool false, .string ⟨#[]⟩, .string ⟨#[]⟩, .string ⟨#[]⟩, .string ⟨#[]⟩, .bool false, .bool false] 73))); obtain ⟨k0, _⟩ := hrow10 (((HasRow.new w #[.int .i64 2, .string fp, .string fd, .bool fr, .string sk, .string sv, .string vn, .string vp, .bool va, .bool vo] 73).below hb1).alloc (.cells #[.int .i64 2, .string fp, .string ⟨#[]⟩, .bool false, .string ⟨#[]⟩, .string ⟨#[]⟩, .string ⟨#[]⟩, .string ⟨#[]⟩, .bool false, .bool false] 73)))
      | (go_at_call 98; refine (HC.out _ (Hw.out.mono HB2.out)).mono ?_; rintro e w2 ⟨rfl, hb2⟩))
    go_ret
    exact ⟨rfl, bstep HB2.out hb2⟩
  · show Calls Tryz.prog 132 #[.agg #[.int .i64 3, .string fp, .string fd, .bool fr, .string sk, .string sv, .string vn, .string vp, .bool va, .bool vo]] w fun e w' => e = .returned (.int .i64 (P.thE ⟨3, ⟨fp, fd, fr⟩, ⟨sk, sv⟩, ⟨vn, vp, va, vo⟩⟩)) ∧ Below w.heap.size w w'
    have HB := Lib.hid (below_alloc w (.cells #[.int .i64 3, .string fp, .string fd, .bool fr, .string sk, .string sv, .string vn, .string vp, .bool va, .bool vo] 73))
    have HN : Hid (∀ W, Calls Tryz.prog 133 #[.agg #[.int .i64 3, .string fp, .string fd, .bool fr, .string sk, .string sv, .string vn, .string vp, .bool va, .bool vo]] W fun e w' => e = .returned (.agg #[.int .i64 3, .string ⟨#[]⟩, .string ⟨#[]⟩, .bool false, .string sk, .string sv, .string ⟨#[]⟩, .string ⟨#[]⟩, .bool false, .bool false]) ∧ Below W.heap.size W w') := Lib.hid (fun W => needed_any ⟨3, ⟨fp, fd, fr⟩, ⟨sk, sv⟩, ⟨vn, vp, va, vo⟩⟩ W)
    have HC := Lib.hid (fun W hW => checkSetting_any ⟨sk, sv⟩ hs.sk hs.sv W hW)
    have hr : P.thE ⟨3, ⟨fp, fd, fr⟩, ⟨sk, sv⟩, ⟨vn, vp, va, vo⟩⟩ = P.setErr ⟨sk, sv⟩ := rfl
    rw [hr]
    clear hr hs
    generalize P.setErr ⟨sk, sv⟩ = r at *
    go_enter Tryz.func132, Tryz.ntmps132
    go_wp2_with (first
      | (go_at_call 133; refine (HN.out _).mono ?_; rintro e w1 ⟨rfl, hb1⟩; have HB2 := Lib.hid (bstep (bstep HB.out hb1) (below_alloc w1 (.cells #[.int .i64 3, .string ⟨#[]⟩, .string ⟨#[]⟩, .bool false, .string sk, .string sv, .string ⟨#[]⟩, .string ⟨#[]⟩, .bool false, .bool false] 73))); obtain ⟨k0, _⟩ := hrow10 (((HasRow.new w #[.int .i64 3, .string fp, .string fd, .bool fr, .string sk, .string sv, .string vn, .string vp, .bool va, .bool vo] 73).below hb1).alloc (.cells #[.int .i64 3, .string ⟨#[]⟩, .string ⟨#[]⟩, .bool false, .string sk, .string sv, .string ⟨#[]⟩, .string ⟨#[]⟩, .bool false, .bool false] 73)))
      | (go_at_call 100; refine (HC.out _ (Hw.out.mono HB2.out)).mono ?_; rintro e w2 ⟨rfl, hb2⟩))
    go_ret
    exact ⟨rfl, bstep HB2.out hb2⟩
  · show Calls Tryz.prog 132 #[.agg #[.int .i64 4, .string fp, .string fd, .bool fr, .string sk, .string sv, .string vn, .string vp, .bool va, .bool vo]] w fun e w' => e = .returned (.int .i64 (P.thE ⟨4, ⟨fp, fd, fr⟩, ⟨sk, sv⟩, ⟨vn, vp, va, vo⟩⟩)) ∧ Below w.heap.size w w'
    have HB := Lib.hid (below_alloc w (.cells #[.int .i64 4, .string fp, .string fd, .bool fr, .string sk, .string sv, .string vn, .string vp, .bool va, .bool vo] 73))
    have HN : Hid (∀ W, Calls Tryz.prog 133 #[.agg #[.int .i64 4, .string fp, .string fd, .bool fr, .string sk, .string sv, .string vn, .string vp, .bool va, .bool vo]] W fun e w' => e = .returned (.agg #[.int .i64 4, .string ⟨#[]⟩, .string ⟨#[]⟩, .bool false, .string sk, .string ⟨#[]⟩, .string ⟨#[]⟩, .string ⟨#[]⟩, .bool false, .bool false]) ∧ Below W.heap.size W w') := Lib.hid (fun W => needed_any ⟨4, ⟨fp, fd, fr⟩, ⟨sk, sv⟩, ⟨vn, vp, va, vo⟩⟩ W)
    have HC := Lib.hid (fun W hW => checkSetting_any ⟨sk, ⟨#[]⟩⟩ hs.sk (Nat.zero_le _) W hW)
    have hr : P.thE ⟨4, ⟨fp, fd, fr⟩, ⟨sk, sv⟩, ⟨vn, vp, va, vo⟩⟩ = P.setErr ⟨sk, ⟨#[]⟩⟩ := rfl
    rw [hr]
    clear hr hs
    generalize P.setErr ⟨sk, ⟨#[]⟩⟩ = r at *
    go_enter Tryz.func132, Tryz.ntmps132
    go_wp2_with (first
      | (go_at_call 133; refine (HN.out _).mono ?_; rintro e w1 ⟨rfl, hb1⟩; have HB2 := Lib.hid (bstep (bstep HB.out hb1) (below_alloc w1 (.cells #[.int .i64 4, .string ⟨#[]⟩, .string ⟨#[]⟩, .bool false, .string sk, .string ⟨#[]⟩, .string ⟨#[]⟩, .string ⟨#[]⟩, .bool false, .bool false] 73))); obtain ⟨k0, _⟩ := hrow10 (((HasRow.new w #[.int .i64 4, .string fp, .string fd, .bool fr, .string sk, .string sv, .string vn, .string vp, .bool va, .bool vo] 73).below hb1).alloc (.cells #[.int .i64 4, .string ⟨#[]⟩, .string ⟨#[]⟩, .bool false, .string sk, .string ⟨#[]⟩, .string ⟨#[]⟩, .string ⟨#[]⟩, .bool false, .bool false] 73)))
      | (go_at_call 100; refine (HC.out _ (Hw.out.mono HB2.out)).mono ?_; rintro e w2 ⟨rfl, hb2⟩))
    go_ret
    exact ⟨rfl, bstep HB2.out hb2⟩
  · show Calls Tryz.prog 132 #[.agg #[.int .i64 5, .string fp, .string fd, .bool fr, .string sk, .string sv, .string vn, .string vp, .bool va, .bool vo]] w fun e w' => e = .returned (.int .i64 (P.thE ⟨5, ⟨fp, fd, fr⟩, ⟨sk, sv⟩, ⟨vn, vp, va, vo⟩⟩)) ∧ Below w.heap.size w w'
    have HB := Lib.hid (below_alloc w (.cells #[.int .i64 5, .string fp, .string fd, .bool fr, .string sk, .string sv, .string vn, .string vp, .bool va, .bool vo] 73))
    have HN : Hid (∀ W, Calls Tryz.prog 133 #[.agg #[.int .i64 5, .string fp, .string fd, .bool fr, .string sk, .string sv, .string vn, .string vp, .bool va, .bool vo]] W fun e w' => e = .returned (.agg #[.int .i64 5, .string ⟨#[]⟩, .string ⟨#[]⟩, .bool false, .string ⟨#[]⟩, .string ⟨#[]⟩, .string vn, .string vp, .bool va, .bool vo]) ∧ Below W.heap.size W w') := Lib.hid (fun W => needed_any ⟨5, ⟨fp, fd, fr⟩, ⟨sk, sv⟩, ⟨vn, vp, va, vo⟩⟩ W)
    have HC := Lib.hid (fun W hW => checkService_any ⟨vn, vp, va, vo⟩ hs.vn hs.vp W hW)
    have hr : P.thE ⟨5, ⟨fp, fd, fr⟩, ⟨sk, sv⟩, ⟨vn, vp, va, vo⟩⟩ = P.svcErr ⟨vn, vp, va, vo⟩ := rfl
    rw [hr]
    clear hr hs
    generalize P.svcErr ⟨vn, vp, va, vo⟩ = r at *
    go_enter Tryz.func132, Tryz.ntmps132
    go_wp2_with (first
      | (go_at_call 133; refine (HN.out _).mono ?_; rintro e w1 ⟨rfl, hb1⟩; have HB2 := Lib.hid (bstep (bstep HB.out hb1) (below_alloc w1 (.cells #[.int .i64 5, .string ⟨#[]⟩, .string ⟨#[]⟩, .bool false, .string ⟨#[]⟩, .string ⟨#[]⟩, .string vn, .string vp, .bool va, .bool vo] 73))); obtain ⟨k0, _⟩ := hrow10 (((HasRow.new w #[.int .i64 5, .string fp, .string fd, .bool fr, .string sk, .string sv, .string vn, .string vp, .bool va, .bool vo] 73).below hb1).alloc (.cells #[.int .i64 5, .string ⟨#[]⟩, .string ⟨#[]⟩, .bool false, .string ⟨#[]⟩, .string ⟨#[]⟩, .string vn, .string vp, .bool va, .bool vo] 73)))
      | (go_at_call 103; refine (HC.out _ (Hw.out.mono HB2.out)).mono ?_; rintro e w2 ⟨rfl, hb2⟩))
    go_ret
    exact ⟨rfl, bstep HB2.out hb2⟩
  · show Calls Tryz.prog 132 #[.agg #[.int .i64 6, .string fp, .string fd, .bool fr, .string sk, .string sv, .string vn, .string vp, .bool va, .bool vo]] w fun e w' => e = .returned (.int .i64 (P.thE ⟨6, ⟨fp, fd, fr⟩, ⟨sk, sv⟩, ⟨vn, vp, va, vo⟩⟩)) ∧ Below w.heap.size w w'
    have HB := Lib.hid (below_alloc w (.cells #[.int .i64 6, .string fp, .string fd, .bool fr, .string sk, .string sv, .string vn, .string vp, .bool va, .bool vo] 73))
    have HN : Hid (∀ W, Calls Tryz.prog 133 #[.agg #[.int .i64 6, .string fp, .string fd, .bool fr, .string sk, .string sv, .string vn, .string vp, .bool va, .bool vo]] W fun e w' => e = .returned (.agg #[.int .i64 6, .string ⟨#[]⟩, .string ⟨#[]⟩, .bool false, .string ⟨#[]⟩, .string ⟨#[]⟩, .string vn, .string ⟨#[]⟩, .bool false, .bool false]) ∧ Below W.heap.size W w') := Lib.hid (fun W => needed_any ⟨6, ⟨fp, fd, fr⟩, ⟨sk, sv⟩, ⟨vn, vp, va, vo⟩⟩ W)
    have HC := Lib.hid (fun W => isName_any vn hs.vn W)
    have hr : P.thE ⟨6, ⟨fp, fd, fr⟩, ⟨sk, sv⟩, ⟨vn, vp, va, vo⟩⟩ = if P.nameS vn then 0 else 5 := rfl
    rw [hr]
    clear hr hs
    generalize P.nameS vn = b at *
    cases b
    all_goals
      go_enter Tryz.func132, Tryz.ntmps132
      go_wp2_with (first
        | (go_at_call 133; refine (HN.out _).mono ?_; rintro e w1 ⟨rfl, hb1⟩; have HB2 := Lib.hid (bstep (bstep HB.out hb1) (below_alloc w1 (.cells #[.int .i64 6, .string ⟨#[]⟩, .string ⟨#[]⟩, .bool false, .string ⟨#[]⟩, .string ⟨#[]⟩, .string vn, .string ⟨#[]⟩, .bool false, .bool false] 73))); obtain ⟨k0, _⟩ := hrow10 (((HasRow.new w #[.int .i64 6, .string fp, .string fd, .bool fr, .string sk, .string sv, .string vn, .string vp, .bool va, .bool vo] 73).below hb1).alloc (.cells #[.int .i64 6, .string ⟨#[]⟩, .string ⟨#[]⟩, .bool false, .string ⟨#[]⟩, .string ⟨#[]⟩, .string vn, .string ⟨#[]⟩, .bool false, .bool false] 73)))
        | (go_at_call 85; refine (HC.out _).mono ?_; rintro e w2 ⟨rfl, rfl⟩))
      go_ret
      exact ⟨rfl, HB2.out⟩
  · show Calls Tryz.prog 132 #[.agg #[.int .i64 k, .string fp, .string fd, .bool fr, .string sk, .string sv, .string vn, .string vp, .bool va, .bool vo]] w fun e w' => e = .returned (.int .i64 (P.thE ⟨k, ⟨fp, fd, fr⟩, ⟨sk, sv⟩, ⟨vn, vp, va, vo⟩⟩)) ∧ Below w.heap.size w w'
    have HB := Lib.hid (below_alloc w (.cells #[.int .i64 k, .string fp, .string fd, .bool fr, .string sk, .string sv, .string vn, .string vp, .bool va, .bool vo] 73))
    obtain ⟨e1, e2⟩ := thE_other (c := ⟨k, ⟨fp, fd, fr⟩, ⟨sk, sv⟩, ⟨vn, vp, va, vo⟩⟩) h1 h2 h3 h4 h5 h6
    have HN : Hid (∀ W, Calls Tryz.prog 133 #[.agg #[.int .i64 k, .string fp, .string fd, .bool fr, .string sk, .string sv, .string vn, .string vp, .bool va, .bool vo]] W fun e w' => e = .returned (.agg #[.int .i64 k, .string ⟨#[]⟩, .string ⟨#[]⟩, .bool false, .string ⟨#[]⟩, .string ⟨#[]⟩, .string ⟨#[]⟩, .string ⟨#[]⟩, .bool false, .bool false]) ∧ Below W.heap.size W w') := Lib.hid (fun W => by have h := needed_any ⟨k, ⟨fp, fd, fr⟩, ⟨sk, sv⟩, ⟨vn, vp, va, vo⟩⟩ W; rw [e2] at h; exact h)
    rw [e1]
    clear e1 e2
    clear hs
    go_enter Tryz.func132, Tryz.ntmps132
    go_wp2_with ((go_at_call 133; refine (HN.out _).mono ?_; rintro e w1 ⟨rfl, hb1⟩; have HB2 := Lib.hid (bstep (bstep HB.out hb1) (below_alloc w1 (.cells #[.int .i64 k, .string ⟨#[]⟩, .string ⟨#[]⟩, .bool false, .string ⟨#[]⟩, .string ⟨#[]⟩, .string ⟨#[]⟩, .string ⟨#[]⟩, .bool false, .bool false] 73))); obtain ⟨k0, _⟩ := hrow10 (((HasRow.new w #[.int .i64 k, .string fp, .string fd, .bool fr, .string sk, .string sv, .string vn, .string vp, .bool va, .bool vo] 73).below hb1).alloc (.cells #[.int .i64 k, .string ⟨#[]⟩, .string ⟨#[]⟩, .bool false, .string ⟨#[]⟩, .string ⟨#[]⟩, .string ⟨#[]⟩, .string ⟨#[]⟩, .bool false, .bool false] 73))))
    go_ret
    exact ⟨rfl, HB2.out⟩
end Go.Proofs.YtomikcemiacjmaaGreatDoor

namespace Go.Proofs.YtomikcemiacjmaaGreatDoor
open Go.RowKit Go.Lib Go.Shelf

theorem same_cases (a b : ByteArray) : (a.toList == b.toList) = false ∨ b = a := by
  by_cases h : a = b
  · exact .inr h.symm
  · refine .inl ?_
    rw [beq_eq_false_iff_ne]
    intro e
    exact h (by rw [Lib.toList_data, Lib.toList_data] at e; cases a; cases b; simp only [ByteArray.mk.injEq] ; exact Array.toList_inj.1 e)
theorem bool_cases (a b : Bool) : b = (!a) ∨ b = a := by cases a <;> cases b <;> simp
theorem cell_cases (fp fd sk sv vn vp fp' fd' sk' sv' vn' vp' : ByteArray) (fr va vo fr' va' vo' : Bool) : (fp' = fp ∧ fd' = fd ∧ fr' = fr ∧ sk' = sk ∧ sv' = sv ∧ vn' = vn ∧ vp' = vp ∧ va' = va ∧ vo' = vo) ∨ ((fp.toList == fp'.toList) = false) ∨ (fp' = fp ∧ (fd.toList == fd'.toList) = false) ∨ (fp' = fp ∧ fd' = fd ∧ fr' = !fr) ∨ (fp' = fp ∧ fd' = fd ∧ fr' = fr ∧ (sk.toList == sk'.toList) = false) ∨ (fp' = fp ∧ fd' = fd ∧ fr' = fr ∧ sk' = sk ∧ (sv.toList == sv'.toList) = false) ∨ (fp' = fp ∧ fd' = fd ∧ fr' = fr ∧ sk' = sk ∧ sv' = sv ∧ (vn.toList == vn'.toList) = false) ∨ (fp' = fp ∧ fd' = fd ∧ fr' = fr ∧ sk' = sk ∧ sv' = sv ∧ vn' = vn ∧ (vp.toList == vp'.toList) = false) ∨ (fp' = fp ∧ fd' = fd ∧ fr' = fr ∧ sk' = sk ∧ sv' = sv ∧ vn' = vn ∧ vp' = vp ∧ va' = !va) ∨ (fp' = fp ∧ fd' = fd ∧ fr' = fr ∧ sk' = sk ∧ sv' = sv ∧ vn' = vn ∧ vp' = vp ∧ va' = va ∧ vo' = !vo) := by
  rcases same_cases fp fp' with h0 | h0
  · exact .inr (.inl h0)
  rcases same_cases fd fd' with h1 | h1
  · exact .inr (.inr (.inl ⟨h0, h1⟩))
  rcases bool_cases fr fr' with h2 | h2
  · exact .inr (.inr (.inr (.inl ⟨h0, h1, h2⟩)))
  rcases same_cases sk sk' with h3 | h3
  · exact .inr (.inr (.inr (.inr (.inl ⟨h0, h1, h2, h3⟩))))
  rcases same_cases sv sv' with h4 | h4
  · exact .inr (.inr (.inr (.inr (.inr (.inl ⟨h0, h1, h2, h3, h4⟩)))))
  rcases same_cases vn vn' with h5 | h5
  · exact .inr (.inr (.inr (.inr (.inr (.inr (.inl ⟨h0, h1, h2, h3, h4, h5⟩))))))
  rcases same_cases vp vp' with h6 | h6
  · exact .inr (.inr (.inr (.inr (.inr (.inr (.inr (.inl ⟨h0, h1, h2, h3, h4, h5, h6⟩)))))))
  rcases bool_cases va va' with h7 | h7
  · exact .inr (.inr (.inr (.inr (.inr (.inr (.inr (.inr (.inl ⟨h0, h1, h2, h3, h4, h5, h6, h7⟩))))))))
  rcases bool_cases vo vo' with h8 | h8
  · exact .inr (.inr (.inr (.inr (.inr (.inr (.inr (.inr (.inr (⟨h0, h1, h2, h3, h4, h5, h6, h7, h8⟩)))))))))
  exact .inl ⟨h0, h1, h2, h3, h4, h5, h6, h7, h8⟩

set_option maxRecDepth 100000 in
set_option maxHeartbeats 16000000 in
theorem checkChange_any (c : P.Chg) (hs : P.CSm 4294967280 c) (w : World) (hw : Good w) : Calls Tryz.prog 43 #[chAgg c] w fun e w' => e = .returned (.int .i64 (P.chE c)) ∧ Below w.heap.size w w' := by
  have HB := Lib.hid (below_alloc w (.cells (chA c) 73))
  have HR := Lib.hid (HasRow.new w (chA c) 73)
  have HT := Lib.hid (checkThing_any c hs)
  have HN := Lib.hid (needed_any c)
  have Hw := Lib.hid hw
  clear hw hs
  have hk := P.needed_kind c
  have hc := P.chE_eq c
  unfold P.eqC at hc
  generalize P.thE c = t at *
  generalize P.chE c = r at *
  generalize P.needed c = n at *
  obtain ⟨k, ⟨fp, fd, fr⟩, ⟨sk, sv⟩, ⟨vn, vp, va, vo⟩⟩ := c
  obtain ⟨k', ⟨fp', fd', fr'⟩, ⟨sk', sv'⟩, ⟨vn', vp', va', vo'⟩⟩ := n
  unfold chAgg chA at *
  simp only at *
  subst hk
  by_cases ht : t = 0
  · rw [if_pos ht] at hc
    subst ht
    rcases cell_cases fp fd sk sv vn vp fp' fd' sk' sv' vn' vp' fr va vo fr' va' vo' with ⟨rfl, rfl, rfl, rfl, rfl, rfl, rfl, rfl, rfl⟩ | hd | ⟨rfl, hd⟩ | ⟨rfl, rfl, hd⟩ | ⟨rfl, rfl, rfl, hd⟩ | ⟨rfl, rfl, rfl, rfl, hd⟩ | ⟨rfl, rfl, rfl, rfl, rfl, hd⟩ | ⟨rfl, rfl, rfl, rfl, rfl, rfl, hd⟩ | ⟨rfl, rfl, rfl, rfl, rfl, rfl, rfl, hd⟩ | ⟨rfl, rfl, rfl, rfl, rfl, rfl, rfl, rfl, hd⟩
    · obtain rfl : r = 0 := by rw [hc]; simp
      clear hc
      go_enter Tryz.func43, Tryz.ntmps43
      go_wp2_with (go_at_call 132; refine (HT.out _ (Hw.out.mono HB.out)).mono ?_; rintro e w1 ⟨rfl, hb1⟩)
      have HR1 := Lib.hid (HR.out.below hb1)
      have HB1 := Lib.hid (bstep HB.out hb1)
      have hS1 := hrow10 HR1.out
      have hSd := hrow10 HR1.out.drew
      go_region_held3 (fun W => W.cell? ⟨w.heap.size, 0, none⟩ = some (.int .i64 k') ∧ W.cell? ⟨w.heap.size, 1, none⟩ = some (.string fp') ∧ W.cell? ⟨w.heap.size, 2, none⟩ = some (.string fd') ∧ W.cell? ⟨w.heap.size, 3, none⟩ = some (.bool fr') ∧ W.cell? ⟨w.heap.size, 4, none⟩ = some (.string sk') ∧ W.cell? ⟨w.heap.size, 5, none⟩ = some (.string sv') ∧ W.cell? ⟨w.heap.size, 6, none⟩ = some (.string vn') ∧ W.cell? ⟨w.heap.size, 7, none⟩ = some (.string vp') ∧ W.cell? ⟨w.heap.size, 8, none⟩ = some (.bool va') ∧ W.cell? ⟨w.heap.size, 9, none⟩ = some (.bool vo'))
        (first | with_reducible assumption)
        (first
          | (go_at_call 133; refine (HN.out _).mono ?_; rintro e w2 ⟨rfl, hb2⟩; first | (have hS2 := hrow10 (HR1.out.drew.below hb2); have HB2 := Lib.hid (bstep HB1.out.drew hb2)) | (have hS2 := hrow10 (HR1.out.below hb2); have HB2 := Lib.hid (bstep HB1.out hb2))))
      all_goals
        go_wp2_with fail
        go_ret
        exact ⟨rfl, by first | exact HB2.out | exact HB2.out.drew⟩
    · obtain rfl : r = 2 := by rw [hc]; simp [hd]
      clear hc
      go_enter Tryz.func43, Tryz.ntmps43
      go_wp2_with (go_at_call 132; refine (HT.out _ (Hw.out.mono HB.out)).mono ?_; rintro e w1 ⟨rfl, hb1⟩)
      have HR1 := Lib.hid (HR.out.below hb1)
      have HB1 := Lib.hid (bstep HB.out hb1)
      have hS1 := hrow10 HR1.out
      have hSd := hrow10 HR1.out.drew
      go_region_held3 (fun W => W.cell? ⟨w.heap.size, 0, none⟩ = some (.int .i64 k') ∧ W.cell? ⟨w.heap.size, 1, none⟩ = some (.string fp) ∧ W.cell? ⟨w.heap.size, 2, none⟩ = some (.string fd) ∧ W.cell? ⟨w.heap.size, 3, none⟩ = some (.bool fr) ∧ W.cell? ⟨w.heap.size, 4, none⟩ = some (.string sk) ∧ W.cell? ⟨w.heap.size, 5, none⟩ = some (.string sv) ∧ W.cell? ⟨w.heap.size, 6, none⟩ = some (.string vn) ∧ W.cell? ⟨w.heap.size, 7, none⟩ = some (.string vp) ∧ W.cell? ⟨w.heap.size, 8, none⟩ = some (.bool va) ∧ W.cell? ⟨w.heap.size, 9, none⟩ = some (.bool vo))
        (first | with_reducible assumption)
        (first
          | (go_at_call 133; refine (HN.out _).mono ?_; rintro e w2 ⟨rfl, hb2⟩; first | (have hS2 := hrow10 (HR1.out.drew.below hb2); have HB2 := Lib.hid (bstep HB1.out.drew hb2)) | (have hS2 := hrow10 (HR1.out.below hb2); have HB2 := Lib.hid (bstep HB1.out hb2))))
      all_goals
        go_wp2_with fail
        go_ret
        exact ⟨rfl, by first | exact HB2.out | exact HB2.out.drew⟩
    · obtain rfl : r = 2 := by rw [hc]; simp [hd]
      clear hc
      go_enter Tryz.func43, Tryz.ntmps43
      go_wp2_with (go_at_call 132; refine (HT.out _ (Hw.out.mono HB.out)).mono ?_; rintro e w1 ⟨rfl, hb1⟩)
      have HR1 := Lib.hid (HR.out.below hb1)
      have HB1 := Lib.hid (bstep HB.out hb1)
      have hS1 := hrow10 HR1.out
      have hSd := hrow10 HR1.out.drew
      go_region_held3 (fun W => W.cell? ⟨w.heap.size, 0, none⟩ = some (.int .i64 k') ∧ W.cell? ⟨w.heap.size, 1, none⟩ = some (.string fp') ∧ W.cell? ⟨w.heap.size, 2, none⟩ = some (.string fd) ∧ W.cell? ⟨w.heap.size, 3, none⟩ = some (.bool fr) ∧ W.cell? ⟨w.heap.size, 4, none⟩ = some (.string sk) ∧ W.cell? ⟨w.heap.size, 5, none⟩ = some (.string sv) ∧ W.cell? ⟨w.heap.size, 6, none⟩ = some (.string vn) ∧ W.cell? ⟨w.heap.size, 7, none⟩ = some (.string vp) ∧ W.cell? ⟨w.heap.size, 8, none⟩ = some (.bool va) ∧ W.cell? ⟨w.heap.size, 9, none⟩ = some (.bool vo))
        (first | with_reducible assumption)
        (first
          | (go_at_call 133; refine (HN.out _).mono ?_; rintro e w2 ⟨rfl, hb2⟩; first | (have hS2 := hrow10 (HR1.out.drew.below hb2); have HB2 := Lib.hid (bstep HB1.out.drew hb2)) | (have hS2 := hrow10 (HR1.out.below hb2); have HB2 := Lib.hid (bstep HB1.out hb2))))
      all_goals
        go_wp2_with fail
        go_ret
        exact ⟨rfl, by first | exact HB2.out | exact HB2.out.drew⟩
    · cases fr
      · simp only [Bool.not_false] at hd
        subst hd
        obtain rfl : r = 2 := by rw [hc]; simp
        clear hc
        go_enter Tryz.func43, Tryz.ntmps43
        go_wp2_with (go_at_call 132; refine (HT.out _ (Hw.out.mono HB.out)).mono ?_; rintro e w1 ⟨rfl, hb1⟩)
        have HR1 := Lib.hid (HR.out.below hb1)
        have HB1 := Lib.hid (bstep HB.out hb1)
        have hS1 := hrow10 HR1.out
        have hSd := hrow10 HR1.out.drew
        go_region_held3 (fun W => W.cell? ⟨w.heap.size, 0, none⟩ = some (.int .i64 k') ∧ W.cell? ⟨w.heap.size, 1, none⟩ = some (.string fp') ∧ W.cell? ⟨w.heap.size, 2, none⟩ = some (.string fd') ∧ W.cell? ⟨w.heap.size, 3, none⟩ = some (.bool false) ∧ W.cell? ⟨w.heap.size, 4, none⟩ = some (.string sk) ∧ W.cell? ⟨w.heap.size, 5, none⟩ = some (.string sv) ∧ W.cell? ⟨w.heap.size, 6, none⟩ = some (.string vn) ∧ W.cell? ⟨w.heap.size, 7, none⟩ = some (.string vp) ∧ W.cell? ⟨w.heap.size, 8, none⟩ = some (.bool va) ∧ W.cell? ⟨w.heap.size, 9, none⟩ = some (.bool vo))
          (first | with_reducible assumption)
          (first
            | (go_at_call 133; refine (HN.out _).mono ?_; rintro e w2 ⟨rfl, hb2⟩; first | (have hS2 := hrow10 (HR1.out.drew.below hb2); have HB2 := Lib.hid (bstep HB1.out.drew hb2)) | (have hS2 := hrow10 (HR1.out.below hb2); have HB2 := Lib.hid (bstep HB1.out hb2))))
        all_goals
          go_wp2_with fail
          go_ret
          exact ⟨rfl, by first | exact HB2.out | exact HB2.out.drew⟩
      · simp only [Bool.not_true] at hd
        subst hd
        obtain rfl : r = 2 := by rw [hc]; simp
        clear hc
        go_enter Tryz.func43, Tryz.ntmps43
        go_wp2_with (go_at_call 132; refine (HT.out _ (Hw.out.mono HB.out)).mono ?_; rintro e w1 ⟨rfl, hb1⟩)
        have HR1 := Lib.hid (HR.out.below hb1)
        have HB1 := Lib.hid (bstep HB.out hb1)
        have hS1 := hrow10 HR1.out
        have hSd := hrow10 HR1.out.drew
        go_region_held3 (fun W => W.cell? ⟨w.heap.size, 0, none⟩ = some (.int .i64 k') ∧ W.cell? ⟨w.heap.size, 1, none⟩ = some (.string fp') ∧ W.cell? ⟨w.heap.size, 2, none⟩ = some (.string fd') ∧ W.cell? ⟨w.heap.size, 3, none⟩ = some (.bool true) ∧ W.cell? ⟨w.heap.size, 4, none⟩ = some (.string sk) ∧ W.cell? ⟨w.heap.size, 5, none⟩ = some (.string sv) ∧ W.cell? ⟨w.heap.size, 6, none⟩ = some (.string vn) ∧ W.cell? ⟨w.heap.size, 7, none⟩ = some (.string vp) ∧ W.cell? ⟨w.heap.size, 8, none⟩ = some (.bool va) ∧ W.cell? ⟨w.heap.size, 9, none⟩ = some (.bool vo))
          (first | with_reducible assumption)
          (first
            | (go_at_call 133; refine (HN.out _).mono ?_; rintro e w2 ⟨rfl, hb2⟩; first | (have hS2 := hrow10 (HR1.out.drew.below hb2); have HB2 := Lib.hid (bstep HB1.out.drew hb2)) | (have hS2 := hrow10 (HR1.out.below hb2); have HB2 := Lib.hid (bstep HB1.out hb2))))
        all_goals
          go_wp2_with fail
          go_ret
          exact ⟨rfl, by first | exact HB2.out | exact HB2.out.drew⟩
    · obtain rfl : r = 2 := by rw [hc]; simp [hd]
      clear hc
      go_enter Tryz.func43, Tryz.ntmps43
      go_wp2_with (go_at_call 132; refine (HT.out _ (Hw.out.mono HB.out)).mono ?_; rintro e w1 ⟨rfl, hb1⟩)
      have HR1 := Lib.hid (HR.out.below hb1)
      have HB1 := Lib.hid (bstep HB.out hb1)
      have hS1 := hrow10 HR1.out
      have hSd := hrow10 HR1.out.drew
      go_region_held3 (fun W => W.cell? ⟨w.heap.size, 0, none⟩ = some (.int .i64 k') ∧ W.cell? ⟨w.heap.size, 1, none⟩ = some (.string fp') ∧ W.cell? ⟨w.heap.size, 2, none⟩ = some (.string fd') ∧ W.cell? ⟨w.heap.size, 3, none⟩ = some (.bool fr') ∧ W.cell? ⟨w.heap.size, 4, none⟩ = some (.string sk) ∧ W.cell? ⟨w.heap.size, 5, none⟩ = some (.string sv) ∧ W.cell? ⟨w.heap.size, 6, none⟩ = some (.string vn) ∧ W.cell? ⟨w.heap.size, 7, none⟩ = some (.string vp) ∧ W.cell? ⟨w.heap.size, 8, none⟩ = some (.bool va) ∧ W.cell? ⟨w.heap.size, 9, none⟩ = some (.bool vo))
        (first | with_reducible assumption)
        (first
          | (go_at_call 133; refine (HN.out _).mono ?_; rintro e w2 ⟨rfl, hb2⟩; first | (have hS2 := hrow10 (HR1.out.drew.below hb2); have HB2 := Lib.hid (bstep HB1.out.drew hb2)) | (have hS2 := hrow10 (HR1.out.below hb2); have HB2 := Lib.hid (bstep HB1.out hb2))))
      all_goals
        go_wp2_with fail
        go_ret
        exact ⟨rfl, by first | exact HB2.out | exact HB2.out.drew⟩
    · obtain rfl : r = 2 := by rw [hc]; simp [hd]
      clear hc
      go_enter Tryz.func43, Tryz.ntmps43
      go_wp2_with (go_at_call 132; refine (HT.out _ (Hw.out.mono HB.out)).mono ?_; rintro e w1 ⟨rfl, hb1⟩)
      have HR1 := Lib.hid (HR.out.below hb1)
      have HB1 := Lib.hid (bstep HB.out hb1)
      have hS1 := hrow10 HR1.out
      have hSd := hrow10 HR1.out.drew
      go_region_held3 (fun W => W.cell? ⟨w.heap.size, 0, none⟩ = some (.int .i64 k') ∧ W.cell? ⟨w.heap.size, 1, none⟩ = some (.string fp') ∧ W.cell? ⟨w.heap.size, 2, none⟩ = some (.string fd') ∧ W.cell? ⟨w.heap.size, 3, none⟩ = some (.bool fr') ∧ W.cell? ⟨w.heap.size, 4, none⟩ = some (.string sk') ∧ W.cell? ⟨w.heap.size, 5, none⟩ = some (.string sv) ∧ W.cell? ⟨w.heap.size, 6, none⟩ = some (.string vn) ∧ W.cell? ⟨w.heap.size, 7, none⟩ = some (.string vp) ∧ W.cell? ⟨w.heap.size, 8, none⟩ = some (.bool va) ∧ W.cell? ⟨w.heap.size, 9, none⟩ = some (.bool vo))
        (first | with_reducible assumption)
        (first
          | (go_at_call 133; refine (HN.out _).mono ?_; rintro e w2 ⟨rfl, hb2⟩; first | (have hS2 := hrow10 (HR1.out.drew.below hb2); have HB2 := Lib.hid (bstep HB1.out.drew hb2)) | (have hS2 := hrow10 (HR1.out.below hb2); have HB2 := Lib.hid (bstep HB1.out hb2))))
      all_goals
        go_wp2_with fail
        go_ret
        exact ⟨rfl, by first | exact HB2.out | exact HB2.out.drew⟩
    · obtain rfl : r = 2 := by rw [hc]; simp [hd]
      clear hc
      go_enter Tryz.func43, Tryz.ntmps43
      go_wp2_with (go_at_call 132; refine (HT.out _ (Hw.out.mono HB.out)).mono ?_; rintro e w1 ⟨rfl, hb1⟩)
      have HR1 := Lib.hid (HR.out.below hb1)
      have HB1 := Lib.hid (bstep HB.out hb1)
      have hS1 := hrow10 HR1.out
      have hSd := hrow10 HR1.out.drew
      go_region_held3 (fun W => W.cell? ⟨w.heap.size, 0, none⟩ = some (.int .i64 k') ∧ W.cell? ⟨w.heap.size, 1, none⟩ = some (.string fp') ∧ W.cell? ⟨w.heap.size, 2, none⟩ = some (.string fd') ∧ W.cell? ⟨w.heap.size, 3, none⟩ = some (.bool fr') ∧ W.cell? ⟨w.heap.size, 4, none⟩ = some (.string sk') ∧ W.cell? ⟨w.heap.size, 5, none⟩ = some (.string sv') ∧ W.cell? ⟨w.heap.size, 6, none⟩ = some (.string vn) ∧ W.cell? ⟨w.heap.size, 7, none⟩ = some (.string vp) ∧ W.cell? ⟨w.heap.size, 8, none⟩ = some (.bool va) ∧ W.cell? ⟨w.heap.size, 9, none⟩ = some (.bool vo))
        (first | with_reducible assumption)
        (first
          | (go_at_call 133; refine (HN.out _).mono ?_; rintro e w2 ⟨rfl, hb2⟩; first | (have hS2 := hrow10 (HR1.out.drew.below hb2); have HB2 := Lib.hid (bstep HB1.out.drew hb2)) | (have hS2 := hrow10 (HR1.out.below hb2); have HB2 := Lib.hid (bstep HB1.out hb2))))
      all_goals
        go_wp2_with fail
        go_ret
        exact ⟨rfl, by first | exact HB2.out | exact HB2.out.drew⟩
    · obtain rfl : r = 2 := by rw [hc]; simp [hd]
      clear hc
      go_enter Tryz.func43, Tryz.ntmps43
      go_wp2_with (go_at_call 132; refine (HT.out _ (Hw.out.mono HB.out)).mono ?_; rintro e w1 ⟨rfl, hb1⟩)
      have HR1 := Lib.hid (HR.out.below hb1)
      have HB1 := Lib.hid (bstep HB.out hb1)
      have hS1 := hrow10 HR1.out
      have hSd := hrow10 HR1.out.drew
      go_region_held3 (fun W => W.cell? ⟨w.heap.size, 0, none⟩ = some (.int .i64 k') ∧ W.cell? ⟨w.heap.size, 1, none⟩ = some (.string fp') ∧ W.cell? ⟨w.heap.size, 2, none⟩ = some (.string fd') ∧ W.cell? ⟨w.heap.size, 3, none⟩ = some (.bool fr') ∧ W.cell? ⟨w.heap.size, 4, none⟩ = some (.string sk') ∧ W.cell? ⟨w.heap.size, 5, none⟩ = some (.string sv') ∧ W.cell? ⟨w.heap.size, 6, none⟩ = some (.string vn') ∧ W.cell? ⟨w.heap.size, 7, none⟩ = some (.string vp) ∧ W.cell? ⟨w.heap.size, 8, none⟩ = some (.bool va) ∧ W.cell? ⟨w.heap.size, 9, none⟩ = some (.bool vo))
        (first | with_reducible assumption)
        (first
          | (go_at_call 133; refine (HN.out _).mono ?_; rintro e w2 ⟨rfl, hb2⟩; first | (have hS2 := hrow10 (HR1.out.drew.below hb2); have HB2 := Lib.hid (bstep HB1.out.drew hb2)) | (have hS2 := hrow10 (HR1.out.below hb2); have HB2 := Lib.hid (bstep HB1.out hb2))))
      all_goals
        go_wp2_with fail
        go_ret
        exact ⟨rfl, by first | exact HB2.out | exact HB2.out.drew⟩
    · cases va
      · simp only [Bool.not_false] at hd
        subst hd
        obtain rfl : r = 2 := by rw [hc]; simp
        clear hc
        go_enter Tryz.func43, Tryz.ntmps43
        go_wp2_with (go_at_call 132; refine (HT.out _ (Hw.out.mono HB.out)).mono ?_; rintro e w1 ⟨rfl, hb1⟩)
        have HR1 := Lib.hid (HR.out.below hb1)
        have HB1 := Lib.hid (bstep HB.out hb1)
        have hS1 := hrow10 HR1.out
        have hSd := hrow10 HR1.out.drew
        go_region_held3 (fun W => W.cell? ⟨w.heap.size, 0, none⟩ = some (.int .i64 k') ∧ W.cell? ⟨w.heap.size, 1, none⟩ = some (.string fp') ∧ W.cell? ⟨w.heap.size, 2, none⟩ = some (.string fd') ∧ W.cell? ⟨w.heap.size, 3, none⟩ = some (.bool fr') ∧ W.cell? ⟨w.heap.size, 4, none⟩ = some (.string sk') ∧ W.cell? ⟨w.heap.size, 5, none⟩ = some (.string sv') ∧ W.cell? ⟨w.heap.size, 6, none⟩ = some (.string vn') ∧ W.cell? ⟨w.heap.size, 7, none⟩ = some (.string vp') ∧ W.cell? ⟨w.heap.size, 8, none⟩ = some (.bool false) ∧ W.cell? ⟨w.heap.size, 9, none⟩ = some (.bool vo))
          (first | with_reducible assumption)
          (first
            | (go_at_call 133; refine (HN.out _).mono ?_; rintro e w2 ⟨rfl, hb2⟩; first | (have hS2 := hrow10 (HR1.out.drew.below hb2); have HB2 := Lib.hid (bstep HB1.out.drew hb2)) | (have hS2 := hrow10 (HR1.out.below hb2); have HB2 := Lib.hid (bstep HB1.out hb2))))
        all_goals
          go_wp2_with fail
          go_ret
          exact ⟨rfl, by first | exact HB2.out | exact HB2.out.drew⟩
      · simp only [Bool.not_true] at hd
        subst hd
        obtain rfl : r = 2 := by rw [hc]; simp
        clear hc
        go_enter Tryz.func43, Tryz.ntmps43
        go_wp2_with (go_at_call 132; refine (HT.out _ (Hw.out.mono HB.out)).mono ?_; rintro e w1 ⟨rfl, hb1⟩)
        have HR1 := Lib.hid (HR.out.below hb1)
        have HB1 := Lib.hid (bstep HB.out hb1)
        have hS1 := hrow10 HR1.out
        have hSd := hrow10 HR1.out.drew
        go_region_held3 (fun W => W.cell? ⟨w.heap.size, 0, none⟩ = some (.int .i64 k') ∧ W.cell? ⟨w.heap.size, 1, none⟩ = some (.string fp') ∧ W.cell? ⟨w.heap.size, 2, none⟩ = some (.string fd') ∧ W.cell? ⟨w.heap.size, 3, none⟩ = some (.bool fr') ∧ W.cell? ⟨w.heap.size, 4, none⟩ = some (.string sk') ∧ W.cell? ⟨w.heap.size, 5, none⟩ = some (.string sv') ∧ W.cell? ⟨w.heap.size, 6, none⟩ = some (.string vn') ∧ W.cell? ⟨w.heap.size, 7, none⟩ = some (.string vp') ∧ W.cell? ⟨w.heap.size, 8, none⟩ = some (.bool true) ∧ W.cell? ⟨w.heap.size, 9, none⟩ = some (.bool vo))
          (first | with_reducible assumption)
          (first
            | (go_at_call 133; refine (HN.out _).mono ?_; rintro e w2 ⟨rfl, hb2⟩; first | (have hS2 := hrow10 (HR1.out.drew.below hb2); have HB2 := Lib.hid (bstep HB1.out.drew hb2)) | (have hS2 := hrow10 (HR1.out.below hb2); have HB2 := Lib.hid (bstep HB1.out hb2))))
        all_goals
          go_wp2_with fail
          go_ret
          exact ⟨rfl, by first | exact HB2.out | exact HB2.out.drew⟩
    · cases vo
      · simp only [Bool.not_false] at hd
        subst hd
        obtain rfl : r = 2 := by rw [hc]; simp
        clear hc
        go_enter Tryz.func43, Tryz.ntmps43
        go_wp2_with (go_at_call 132; refine (HT.out _ (Hw.out.mono HB.out)).mono ?_; rintro e w1 ⟨rfl, hb1⟩)
        have HR1 := Lib.hid (HR.out.below hb1)
        have HB1 := Lib.hid (bstep HB.out hb1)
        have hS1 := hrow10 HR1.out
        have hSd := hrow10 HR1.out.drew
        go_region_held3 (fun W => W.cell? ⟨w.heap.size, 0, none⟩ = some (.int .i64 k') ∧ W.cell? ⟨w.heap.size, 1, none⟩ = some (.string fp') ∧ W.cell? ⟨w.heap.size, 2, none⟩ = some (.string fd') ∧ W.cell? ⟨w.heap.size, 3, none⟩ = some (.bool fr') ∧ W.cell? ⟨w.heap.size, 4, none⟩ = some (.string sk') ∧ W.cell? ⟨w.heap.size, 5, none⟩ = some (.string sv') ∧ W.cell? ⟨w.heap.size, 6, none⟩ = some (.string vn') ∧ W.cell? ⟨w.heap.size, 7, none⟩ = some (.string vp') ∧ W.cell? ⟨w.heap.size, 8, none⟩ = some (.bool va') ∧ W.cell? ⟨w.heap.size, 9, none⟩ = some (.bool false))
          (first | with_reducible assumption)
          (first
            | (go_at_call 133; refine (HN.out _).mono ?_; rintro e w2 ⟨rfl, hb2⟩; first | (have hS2 := hrow10 (HR1.out.drew.below hb2); have HB2 := Lib.hid (bstep HB1.out.drew hb2)) | (have hS2 := hrow10 (HR1.out.below hb2); have HB2 := Lib.hid (bstep HB1.out hb2))))
        all_goals
          go_wp2_with fail
          go_ret
          exact ⟨rfl, by first | exact HB2.out | exact HB2.out.drew⟩
      · simp only [Bool.not_true] at hd
        subst hd
        obtain rfl : r = 2 := by rw [hc]; simp
        clear hc
        go_enter Tryz.func43, Tryz.ntmps43
        go_wp2_with (go_at_call 132; refine (HT.out _ (Hw.out.mono HB.out)).mono ?_; rintro e w1 ⟨rfl, hb1⟩)
        have HR1 := Lib.hid (HR.out.below hb1)
        have HB1 := Lib.hid (bstep HB.out hb1)
        have hS1 := hrow10 HR1.out
        have hSd := hrow10 HR1.out.drew
        go_region_held3 (fun W => W.cell? ⟨w.heap.size, 0, none⟩ = some (.int .i64 k') ∧ W.cell? ⟨w.heap.size, 1, none⟩ = some (.string fp') ∧ W.cell? ⟨w.heap.size, 2, none⟩ = some (.string fd') ∧ W.cell? ⟨w.heap.size, 3, none⟩ = some (.bool fr') ∧ W.cell? ⟨w.heap.size, 4, none⟩ = some (.string sk') ∧ W.cell? ⟨w.heap.size, 5, none⟩ = some (.string sv') ∧ W.cell? ⟨w.heap.size, 6, none⟩ = some (.string vn') ∧ W.cell? ⟨w.heap.size, 7, none⟩ = some (.string vp') ∧ W.cell? ⟨w.heap.size, 8, none⟩ = some (.bool va') ∧ W.cell? ⟨w.heap.size, 9, none⟩ = some (.bool true))
          (first | with_reducible assumption)
          (first
            | (go_at_call 133; refine (HN.out _).mono ?_; rintro e w2 ⟨rfl, hb2⟩; first | (have hS2 := hrow10 (HR1.out.drew.below hb2); have HB2 := Lib.hid (bstep HB1.out.drew hb2)) | (have hS2 := hrow10 (HR1.out.below hb2); have HB2 := Lib.hid (bstep HB1.out hb2))))
        all_goals
          go_wp2_with fail
          go_ret
          exact ⟨rfl, by first | exact HB2.out | exact HB2.out.drew⟩
  · rw [if_neg ht] at hc
    subst hc
    have g : (r != 0) = true := by simpa using ht
    go_enter Tryz.func43, Tryz.ntmps43
    go_wp2_with (go_at_call 132; refine (HT.out _ (Hw.out.mono HB.out)).mono ?_; rintro e w1 ⟨rfl, hb1⟩)
    go_ret
    exact ⟨rfl, bstep HB.out hb1⟩
end Go.Proofs.YtomikcemiacjmaaGreatDoor

namespace Go.Proofs.YtomikcemiacjmaaGreatDoor
open Go.RowKit Go.Lib Go.Shelf

theorem empty_cases (s : ByteArray) : s = ⟨#[]⟩ ∨ (s.toList.isEmpty = false ∧ ¬ s.toList = []) := by
  cases h : s.toList.isEmpty with
  | true =>
    refine .inl ?_
    have e := eq_of h
    rw [Lib.toList_data] at e
    cases s
    simp only [ByteArray.mk.injEq]
    exact Array.toList_eq_nil_iff.1 e
  | false => exact .inr ⟨rfl, ne_of h⟩
theorem below_of_eq {w w' : World} (h : w = w') : Below w.heap.size w w' := by subst h; exact Below.refl _ _
theorem fileErr_path (p : ByteArray) : P.fileErr ⟨p, ⟨#[]⟩, false⟩ = if P.pathS p then 0 else 5 := by
  show (if P.pathS p then (if (⟨#[]⟩ : ByteArray).size ≤ 65536 then 0 else 4) else 5) = _
  rw [if_pos (show (⟨#[]⟩ : ByteArray).size ≤ 65536 from Nat.zero_le _)]
theorem setErr_path (p : ByteArray) : P.setErr ⟨p, ⟨#[]⟩⟩ = if P.pathS p then 0 else 5 := by
  unfold P.setErr
  rw [show P.valueS ⟨#[]⟩ = true from by decide +kernel]
  cases P.pathS p <;> simp
theorem thE_two (fp fd sk sv vn vp : ByteArray) (fr va vo : Bool) : P.thE ⟨2, ⟨fp, fd, fr⟩, ⟨sk, sv⟩, ⟨vn, vp, va, vo⟩⟩ = if P.pathS fp then 0 else 5 := fileErr_path fp
theorem thE_four (fp fd sk sv vn vp : ByteArray) (fr va vo : Bool) : P.thE ⟨4, ⟨fp, fd, fr⟩, ⟨sk, sv⟩, ⟨vn, vp, va, vo⟩⟩ = if P.pathS sk then 0 else 5 := setErr_path sk

end Go.Proofs.YtomikcemiacjmaaGreatDoor
