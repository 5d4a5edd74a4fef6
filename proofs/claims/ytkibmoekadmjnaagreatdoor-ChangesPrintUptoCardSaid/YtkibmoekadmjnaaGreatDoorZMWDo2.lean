/- Walks: package outref1: do: a setting is set. -/
/- Walks: package outref1: do: a service is set. -/
/- Walks: package outref1: do: a file is put. -/
import Derived.Test.YtkibmoekadmjnaaGreatDoorZMWFit
import Derived.Test.YtkibmoekadmjnaaGreatDoorZMWWorld
import Derived.Deep.RegionHeld3

namespace Go.Proofs.YtkibmoekadmjnaaGreatDoor
open Go.RowKit Go.Shelf Go.Maps

/-- the machine behind a change, which stays if the change has an error -/
def P.doneBy (m : P.Mach) (c : P.Chg) : P.Mach := if P.chgErr m c = 0 then P.made m c else m
theorem P.Right.doneBy {m : P.Mach} (h : P.Right m) (c : P.Chg) : P.Right (P.doneBy m c) := by
  unfold P.doneBy
  split
  · rename_i e; exact h.done e
  · exact h
/-- what do owes -/
def DoPost (n₀ B b1 b2 b3 : Nat) (A : Ad) (m : P.Mach) (c : P.Chg) (w : World) (e : Ending) (w' : World) : Prop :=
  e = .returned (.int .i64 (P.chgErr m c)) ∧ (P.chgErr m c = 0 → WAt n₀ w' B b1 b2 b3 A (P.made m c)) ∧ Below n₀ w w'
section
variable {n₀ B b1 b2 b3 : Nat} {A : Ad} {m : P.Mach} {w w' : World}
theorem WAt.drew (h : WAt n₀ w B b1 b2 b3 A m) : WAt n₀ w.drew B b1 b2 b3 A m :=
  { h with row := h.row.drew, f := h.f.below ((Below.refl n₀ w).drew), i := h.i.drew, s := h.s.drew, v := h.v.drew }
theorem WAt.gi (h : WAt n₀ w B b1 b2 b3 A m) (hb : Below n₀ w w') (hg : w.grownBy w' (some b1)) {I : List P.Fi} (hi : FilesM w' b1 I) (_hl : I.length = I.length) : WAt n₀ w' B b1 b2 b3 A { m with files := I } :=
  { h with row := h.row.grown hg (fun e => h.nB1 (by injection e)), f := h.f.below hb, i := hi, s := h.s.kept hg (fun e => h.n12 (by injection e with e; exact e.symm)), v := h.v.kept hg (fun e => h.n13 (by injection e with e; exact e.symm)) }
theorem WAt.gs (h : WAt n₀ w B b1 b2 b3 A m) (hb : Below n₀ w w') (hg : w.grownBy w' (some b2)) {I : List P.St} (hi : SetsM w' b2 I) : WAt n₀ w' B b1 b2 b3 A { m with sets := I } :=
  { h with row := h.row.grown hg (fun e => h.nB2 (by injection e)), f := h.f.below hb, i := h.i.kept hg (fun e => h.n12 (by injection e)), s := hi, v := h.v.kept hg (fun e => h.n23 (by injection e with e; exact e.symm)) }
theorem WAt.gv (h : WAt n₀ w B b1 b2 b3 A m) (hb : Below n₀ w w') (hg : w.grownBy w' (some b3)) {I : List P.Sv} (hi : SvcsM w' b3 I) : WAt n₀ w' B b1 b2 b3 A { m with svcs := I } :=
  { h with row := h.row.grown hg (fun e => h.nB3 (by injection e)), f := h.f.below hb, i := h.i.kept hg (fun e => h.n13 (by injection e)), s := h.s.kept hg (fun e => h.n23 (by injection e)), v := hi }
end

theorem zz42 (w : World) : (zeroValue 42).run Tryz.prog w = .ok (codedFi.enc P.fi0) w := by kernel_rfl
theorem zz9 (w : World) : (zeroValue 9).run Tryz.prog w = .ok (codedStr.enc ⟨#[]⟩) w := by kernel_rfl
theorem zz46 (w : World) : (zeroValue 46).run Tryz.prog w = .ok (codedSv.enc P.sv0) w := by kernel_rfl
theorem chgErr_set (m : P.Mach) (x : P.St) : P.chgErr m (P.setC x) = if P.setErr x = 0 then P.fits m.sets (P.findK P.St.k m.sets x.k).isSome 2000 else P.setErr x := rfl

set_option maxRecDepth 100000 in
set_option maxHeartbeats 8000000 in
theorem doS_any (n₀ B b1 b2 b3 : Nat) (A : Ad) (m : P.Mach) (hr : P.Right m) (x : P.St) (hp : x.k.size ≤ 4294967280) (hd : x.v.size ≤ 4294967280) (w : World) (hw : Good w) (hn : n₀ ≤ w.heap.size) (h : WAt n₀ w B b1 b2 b3 A m) :
    Calls Tryz.prog 129 #[.pointer (some ⟨B, 0, none⟩), .agg #[.int .i64 3, .string ⟨#[]⟩, .string ⟨#[]⟩, .bool false, .string x.k, .string x.v, .string ⟨#[]⟩, .string ⟨#[]⟩, .bool false, .bool false]] w (DoPost n₀ B b1 b2 b3 A m (P.setC x) w) := by
  have HE := Lib.hid (fun W hW => chgErrS_any x hp hd W hW)
  have HC := Lib.hid (chgErr_set m x)
  have HM : Hid (P.made m (P.setC x) = { m with sets := P.insK P.St.k x m.sets }) := Lib.hid rfl
  unfold DoPost
  generalize P.chgErr m (P.setC x) = r at *
  generalize P.made m (P.setC x) = m' at *
  generalize P.setErr x = e0 at *
  have HR := Lib.hid hr
  have HG := Lib.hid h
  have HW := Lib.hid hw
  clear hr h hw
  by_cases he : e0 = 0
  · subst he
    have HC2 := HC.out
    rw [if_pos rfl] at HC2
    replace HC2 := Lib.hid HC2
    clear HC
    go_enter Tryz.func129, Tryz.ntmps129
    go_wp2_with fail
    refine (HE.out _ (HW.out.mono (below_alloc _ _))).mono ?_
    rintro e w2 ⟨rfl, hb2⟩
    have hR := (HasRow.new w _ _).below hb2
    obtain ⟨c0, c1, c2, c3, c4, c5, c6, c7, c8, c9⟩ := hrow10 hR
    have HB2 := Lib.hid (bstep (below_alloc _ _) hb2)
    have HG2 := Lib.hid (HG.out.below hn HB2.out)
    obtain ⟨_, r1, r2, r3, _⟩ := hrow4 HG2.out.row
    have hne2 : w.heap.size ≠ b2 := by have := HG.out.s.lt; omega
    have hsz : x.k.size ≤ maxLen := by unfold maxLen; omega
    have hlk := HG2.out.s.drew.look (t := 149) Tryz.underlying9 Tryz.underlying149 (zz9 _) hsz
    have hln := HG2.out.s.drew.len (t := 149) Tryz.underlying149 3
    clear hb2 hR HE HW HG c1 c2 c3 c6 c7 c8 c9
    generalize hfd : (P.findK P.St.k m.sets x.k).isSome = fd at *
    go_wp2_with fail
    go_region
    cases fd with
    | true =>
      have HC3 := Lib.hid (show r = 0 by rw [HC2.out]; unfold P.fits; simp)
      go_wp2_with fail
      obtain ⟨W3, hrun, hF, hg⟩ := HG2.out.s.drew.drew.put (t := 149) Tryz.underlying9 Tryz.underlying149 HR.out.r3 (by have := HR.out.l3; unfold maxLen; omega) x hsz
      change (Instr.mapUpdate 149 (.map (some b2)) (.string x.k) (.string x.v)).run _ _ = _ at hrun
      have hB3 := (HB2.out.drew.drew).mono hn |>.grown hg (Nat.le_trans hn HB2.out.size) (fun j e => by cases e; exact HG2.out.h2)
      have HG3 := Lib.hid ((WAt.drew (WAt.drew HG2.out)).gs (Below.grown (Below.refl _ _) hg (Nat.le_trans hn HB2.out.size) (fun j e => by cases e; exact HG2.out.h2)) hg hF)
      have hx : w2.drew.drew.cell? ⟨B, 2, none⟩ = some (.map (some b2)) ∧ w2.drew.drew.cell? ⟨w.heap.size, 4, none⟩ = some (.string x.k) ∧ w2.drew.drew.cell? ⟨w.heap.size, 5, none⟩ = some (.string x.v) := ⟨r2, c4, c5⟩
      have H0 := Lib.hid hx
      have H2 := Lib.hid (And.intro (cell_grown hg hx.1 HG2.out.nB2) (And.intro (cell_grown hg hx.2.1 hne2) (cell_grown hg hx.2.2 hne2)))
      clear hF hg hx hlk hln r1 r2 r3 c4 c5
      go_region_held3 (fun W => W.cell? ⟨B, 2, none⟩ = some (.map (some b2)) ∧ W.cell? ⟨w.heap.size, 4, none⟩ = some (.string x.k) ∧ W.cell? ⟨w.heap.size, 5, none⟩ = some (.string x.v))
        (first | exact H0.out | exact H2.out)
        (fail)
      clear H0 H2 hrun
      go_wp2_with fail
      go_ret
      exact ⟨by rw [HC3.out]; rfl, fun _ => by rw [HM.out]; exact HG3.out, hB3⟩
    | false =>
      by_cases hfull : 2000 ≤ m.sets.length
      · have HC3 := Lib.hid (show r = 4 by rw [HC2.out]; unfold P.fits; simp [hfull])
        have hful2 : decide ((2000 : Int) ≤ (m.sets.length : Int)) = true := decide_eq_true (by omega)
        go_wp2_with fail
        go_ret
        exact ⟨by rw [HC3.out]; rfl, fun h => absurd (HC3.out.symm.trans h) (by decide), HB2.out.drew.mono hn⟩
      · have HC3 := Lib.hid (show r = 0 by rw [HC2.out]; unfold P.fits; simp [hfull])
        have hful2 : decide ((2000 : Int) ≤ (m.sets.length : Int)) = false := decide_eq_false (by omega)
        go_wp2_with fail
        obtain ⟨W3, hrun, hF, hg⟩ := HG2.out.s.drew.drew.put (t := 149) Tryz.underlying9 Tryz.underlying149 HR.out.r3 (by have := HR.out.l3; unfold maxLen; omega) x hsz
        change (Instr.mapUpdate 149 (.map (some b2)) (.string x.k) (.string x.v)).run _ _ = _ at hrun
        have hB3 := (HB2.out.drew.drew).mono hn |>.grown hg (Nat.le_trans hn HB2.out.size) (fun j e => by cases e; exact HG2.out.h2)
        have HG3 := Lib.hid ((WAt.drew (WAt.drew HG2.out)).gs (Below.grown (Below.refl _ _) hg (Nat.le_trans hn HB2.out.size) (fun j e => by cases e; exact HG2.out.h2)) hg hF)
        have hx : w2.drew.drew.cell? ⟨B, 2, none⟩ = some (.map (some b2)) ∧ w2.drew.drew.cell? ⟨w.heap.size, 4, none⟩ = some (.string x.k) ∧ w2.drew.drew.cell? ⟨w.heap.size, 5, none⟩ = some (.string x.v) := ⟨r2, c4, c5⟩
        have H0 := Lib.hid hx
        have H2 := Lib.hid (And.intro (cell_grown hg hx.1 HG2.out.nB2) (And.intro (cell_grown hg hx.2.1 hne2) (cell_grown hg hx.2.2 hne2)))
        clear hF hg hx hlk hln r1 r2 r3 c4 c5
        go_region_held3 (fun W => W.cell? ⟨B, 2, none⟩ = some (.map (some b2)) ∧ W.cell? ⟨w.heap.size, 4, none⟩ = some (.string x.k) ∧ W.cell? ⟨w.heap.size, 5, none⟩ = some (.string x.v))
          (first | exact H0.out | exact H2.out)
          (fail)
        clear H0 H2 hrun
        go_wp2_with fail
        go_ret
        exact ⟨by rw [HC3.out]; rfl, fun _ => by rw [HM.out]; exact HG3.out, hB3⟩
  · have HC2 := HC.out
    rw [if_neg he] at HC2
    replace HC2 := Lib.hid HC2
    clear HC
    have he2 : (e0 == 0) = false := by simpa using he
    have he3 : (e0 != 0) = true := by simpa using he
    go_enter Tryz.func129, Tryz.ntmps129
    go_wp2_with (refine (HE.out _ (HW.out.mono (below_alloc _ _))).mono ?_; rintro e w2 ⟨rfl, hb2⟩)
    go_ret
    exact ⟨by rw [HC2.out]; rfl, fun h => absurd (HC2.out ▸ h) he, (bstep (below_alloc _ _) hb2).mono hn⟩
end Go.Proofs.YtkibmoekadmjnaaGreatDoor

namespace Go.Proofs.YtkibmoekadmjnaaGreatDoor
open Go.RowKit Go.Shelf Go.Maps

section
variable {n₀ B b1 b2 b3 : Nat} {A : Ad} {m : P.Mach} {w : World}
theorem WAt.alloc (h : WAt n₀ w B b1 b2 b3 A m) (hn : n₀ ≤ w.heap.size) (o : Obj) : WAt n₀ (w.alloc o) B b1 b2 b3 A m := h.below hn (below_alloc w o)
end
theorem chgErr_svc (m : P.Mach) (x : P.Sv) : P.chgErr m (P.svcC x) = if P.svcErr x = 0 then P.fits m.svcs (P.findK P.Sv.n m.svcs x.n).isSome 100 else P.svcErr x := rfl

set_option maxRecDepth 100000 in
set_option maxHeartbeats 8000000 in
theorem doV_any (n₀ B b1 b2 b3 : Nat) (A : Ad) (m : P.Mach) (hr : P.Right m) (x : P.Sv) (hp : x.n.size ≤ 4294967280) (hd : x.p.size ≤ 4294967280) (w : World) (hw : Good w) (hn : n₀ ≤ w.heap.size) (h : WAt n₀ w B b1 b2 b3 A m) :
    Calls Tryz.prog 129 #[.pointer (some ⟨B, 0, none⟩), .agg #[.int .i64 5, .string ⟨#[]⟩, .string ⟨#[]⟩, .bool false, .string ⟨#[]⟩, .string ⟨#[]⟩, .string x.n, .string x.p, .bool x.a, .bool x.o]] w (DoPost n₀ B b1 b2 b3 A m (P.svcC x) w) := by
  have HE := Lib.hid (fun W hW => chgErrV_any x hp hd W hW)
  have HC := Lib.hid (chgErr_svc m x)
  have HM : Hid (P.made m (P.svcC x) = { m with svcs := P.insK P.Sv.n x m.svcs }) := Lib.hid rfl
  unfold DoPost
  generalize P.chgErr m (P.svcC x) = r at *
  generalize P.made m (P.svcC x) = m' at *
  generalize P.svcErr x = e0 at *
  have HR := Lib.hid hr
  have HG := Lib.hid h
  have HW := Lib.hid hw
  clear hr h hw
  by_cases he : e0 = 0
  · subst he
    have HC2 := HC.out
    rw [if_pos rfl] at HC2
    replace HC2 := Lib.hid HC2
    clear HC
    go_enter Tryz.func129, Tryz.ntmps129
    go_wp2_with fail
    refine (HE.out _ (HW.out.mono (below_alloc _ _))).mono ?_
    rintro e w2 ⟨rfl, hb2⟩
    have hR := (HasRow.new w _ _).below hb2
    obtain ⟨c0, c1, c2, c3, c4, c5, c6, c7, c8, c9⟩ := hrow10 hR
    have HB2 := Lib.hid (bstep (below_alloc _ _) hb2)
    have HG2 := Lib.hid (HG.out.below hn HB2.out)
    obtain ⟨_, r1, r2, r3, _⟩ := hrow4 HG2.out.row
    have hne2 : w.heap.size ≠ b3 := by have := HG.out.v.lt; omega
    have hsz : x.n.size ≤ maxLen := by unfold maxLen; omega
    have hlk := ((HG2.out.v.alloc (.cells #[.string ⟨#[]⟩, .string ⟨#[]⟩, .bool false, .bool false] 46)).drew).look (t := 150) Tryz.underlying9 Tryz.underlying150 (zz46 _) hsz
    have hlk0 := HG2.out.v.drew.look (t := 150) Tryz.underlying9 Tryz.underlying150 (zz46 _) hsz
    generalize hyy : ((P.findK P.Sv.n m.svcs x.n).map id).getD P.sv0 = y at hlk hlk0
    change (Instr.lookup 150 (.map (some b3)) (.string x.n) true).run _ _ = .ok (.tuple #[.agg #[.string y.n, .string y.p, .bool y.a, .bool y.o], .bool (P.findK P.Sv.n m.svcs x.n).isSome]) _ at hlk
    change (Instr.lookup 150 (.map (some b3)) (.string x.n) true).run _ _ = .ok (.tuple #[.agg #[.string y.n, .string y.p, .bool y.a, .bool y.o], .bool (P.findK P.Sv.n m.svcs x.n).isSome]) _ at hlk0
    clear hyy
    generalize hfd : (P.findK P.Sv.n m.svcs x.n).isSome = fd at *
    have lt0 := HG2.out.row.lt
    have lt1 := HG2.out.i.lt
    have lt2 := HG2.out.s.lt
    have lt3 := HG2.out.v.lt
    have hle : n₀ ≤ w2.heap.size := Nat.le_trans hn HB2.out.size
    have hR4 := (hR.alloc (.cells #[.string ⟨#[]⟩, .string ⟨#[]⟩, .bool false, .bool false] 46)).drew
    have HX5 := Lib.hid ((hR.alloc (.cells #[.string y.n, .string y.p, .bool y.a, .bool y.o] 46)).drew)
    have HG5 := Lib.hid (WAt.drew (WAt.alloc HG2.out hle (.cells #[.string y.n, .string y.p, .bool y.a, .bool y.o] 46)))
    have HB5 := Lib.hid ((bstep HB2.out (below_alloc w2 (.cells #[.string y.n, .string y.p, .bool y.a, .bool y.o] 46))).drew)
    have hN := (HasRow.new w2 #[.string ⟨#[]⟩, .string ⟨#[]⟩, .bool false, .bool false] 46).drew
    obtain ⟨n0, n1, n2, n3, _⟩ := hrow4 hN
    have m0 := hN.free 0
    have m1 := hN.free 1
    have m2 := hN.free 2
    have m3 := hN.free 3
    have k6 : (w2.alloc (.cells #[.string ⟨#[]⟩, .string ⟨#[]⟩, .bool false, .bool false] 46)).drew.cell? ⟨w.heap.size, 6, none⟩ = some (.string x.n) := hR4.cell 6
    have k3 : (w2.alloc (.cells #[.string ⟨#[]⟩, .string ⟨#[]⟩, .bool false, .bool false] 46)).drew.cell? ⟨B, 3, none⟩ = some (.map (some b3)) := (HG2.out.row.alloc _).drew.cell 3
    clear hb2 hR HE HW HG r1 r2 c1 c2 c3 c4 c5 c7 c8 c9 hR4 hN lt0 lt1 lt2 lt3
    go_wp2_with fail
    go_region
    all_goals
      clear n0 n1 n2 n3 m0 m1 m2 m3 k6 k3 hlk hlk0
      cases fd with
      | true =>
        have HC3 := Lib.hid (show r = 0 by rw [HC2.out]; unfold P.fits; simp)
        go_wp2_with fail
        obtain ⟨W3, hrun, hF, hg⟩ := HG5.out.v.drew.put (t := 150) Tryz.underlying9 Tryz.underlying150 HR.out.r4 (by have := HR.out.l4; unfold maxLen; omega) x hsz
        change (Instr.mapUpdate 150 (.map (some b3)) (.string x.n) (.agg #[.string x.n, .string x.p, .bool x.a, .bool x.o])).run _ _ = _ at hrun
        have hB3 := HB5.out.drew.mono hn |>.grown hg (Nat.le_trans hn HB5.out.size) (fun j e => by cases e; exact HG2.out.h3)
        have HG3 := Lib.hid ((WAt.drew HG5.out).gv (Below.grown (Below.refl _ _) hg (Nat.le_trans hn HB5.out.size) (fun j e => by cases e; exact HG2.out.h3)) hg hF)
        have hx : _ ∧ _ ∧ _ ∧ _ ∧ _ := And.intro (HG5.out.row.drew.cell 3) (And.intro (HX5.out.drew.cell 6) (And.intro (HX5.out.drew.cell 7) (And.intro (HX5.out.drew.cell 8) (HX5.out.drew.cell 9))))
        have H0 := Lib.hid hx
        have H2 := Lib.hid (And.intro (cell_grown hg hx.1 HG2.out.nB3) (And.intro (cell_grown hg hx.2.1 hne2) (And.intro (cell_grown hg hx.2.2.1 hne2) (And.intro (cell_grown hg hx.2.2.2.1 hne2) (cell_grown hg hx.2.2.2.2 hne2)))))
        clear hF hg hx
        try clear hln
        try clear hr3
        go_region_held3 (fun W => W.cell? ⟨B, 3, none⟩ = some (.map (some b3)) ∧ W.cell? ⟨w.heap.size, 6, none⟩ = some (.string x.n) ∧ W.cell? ⟨w.heap.size, 7, none⟩ = some (.string x.p) ∧ W.cell? ⟨w.heap.size, 8, none⟩ = some (.bool x.a) ∧ W.cell? ⟨w.heap.size, 9, none⟩ = some (.bool x.o))
          (first | exact H0.out | exact H2.out)
          (fail)
        clear H0 H2 hrun
        go_wp2_with fail
        go_ret
        exact ⟨by rw [HC3.out]; rfl, fun _ => by rw [HM.out]; exact HG3.out, hB3⟩
      | false =>
        have hln := HG5.out.v.len (t := 150) Tryz.underlying150 3
        have hr3 := HG5.out.row.cell 3
        replace hr3 := show _ = some (Value.map (some b3)) from hr3
        by_cases hfull : 100 ≤ m.svcs.length
        · have HC3 := Lib.hid (show r = 4 by rw [HC2.out]; unfold P.fits; simp [hfull])
          have hful2 : decide ((100 : Int) ≤ (m.svcs.length : Int)) = true := decide_eq_true (by omega)
          go_wp2_with fail
          go_ret
          exact ⟨by rw [HC3.out]; rfl, fun h => absurd (HC3.out.symm.trans h) (by decide), HB5.out.mono hn⟩
        · have HC3 := Lib.hid (show r = 0 by rw [HC2.out]; unfold P.fits; simp [hfull])
          have hful2 : decide ((100 : Int) ≤ (m.svcs.length : Int)) = false := decide_eq_false (by omega)
          go_wp2_with fail
          obtain ⟨W3, hrun, hF, hg⟩ := HG5.out.v.drew.put (t := 150) Tryz.underlying9 Tryz.underlying150 HR.out.r4 (by have := HR.out.l4; unfold maxLen; omega) x hsz
          change (Instr.mapUpdate 150 (.map (some b3)) (.string x.n) (.agg #[.string x.n, .string x.p, .bool x.a, .bool x.o])).run _ _ = _ at hrun
          have hB3 := HB5.out.drew.mono hn |>.grown hg (Nat.le_trans hn HB5.out.size) (fun j e => by cases e; exact HG2.out.h3)
          have HG3 := Lib.hid ((WAt.drew HG5.out).gv (Below.grown (Below.refl _ _) hg (Nat.le_trans hn HB5.out.size) (fun j e => by cases e; exact HG2.out.h3)) hg hF)
          have hx : _ ∧ _ ∧ _ ∧ _ ∧ _ := And.intro (HG5.out.row.drew.cell 3) (And.intro (HX5.out.drew.cell 6) (And.intro (HX5.out.drew.cell 7) (And.intro (HX5.out.drew.cell 8) (HX5.out.drew.cell 9))))
          have H0 := Lib.hid hx
          have H2 := Lib.hid (And.intro (cell_grown hg hx.1 HG2.out.nB3) (And.intro (cell_grown hg hx.2.1 hne2) (And.intro (cell_grown hg hx.2.2.1 hne2) (And.intro (cell_grown hg hx.2.2.2.1 hne2) (cell_grown hg hx.2.2.2.2 hne2)))))
          clear hF hg hx
          try clear hln
          try clear hr3
          go_region_held3 (fun W => W.cell? ⟨B, 3, none⟩ = some (.map (some b3)) ∧ W.cell? ⟨w.heap.size, 6, none⟩ = some (.string x.n) ∧ W.cell? ⟨w.heap.size, 7, none⟩ = some (.string x.p) ∧ W.cell? ⟨w.heap.size, 8, none⟩ = some (.bool x.a) ∧ W.cell? ⟨w.heap.size, 9, none⟩ = some (.bool x.o))
            (first | exact H0.out | exact H2.out)
            (fail)
          clear H0 H2 hrun
          go_wp2_with fail
          go_ret
          exact ⟨by rw [HC3.out]; rfl, fun _ => by rw [HM.out]; exact HG3.out, hB3⟩
  · have HC2 := HC.out
    rw [if_neg he] at HC2
    replace HC2 := Lib.hid HC2
    clear HC
    have he2 : (e0 == 0) = false := by simpa using he
    have he3 : (e0 != 0) = true := by simpa using he
    go_enter Tryz.func129, Tryz.ntmps129
    go_wp2_with (refine (HE.out _ (HW.out.mono (below_alloc _ _))).mono ?_; rintro e w2 ⟨rfl, hb2⟩)
    go_ret
    exact ⟨by rw [HC2.out]; rfl, fun h => absurd (HC2.out ▸ h) he, (bstep (below_alloc _ _) hb2).mono hn⟩
end Go.Proofs.YtkibmoekadmjnaaGreatDoor

namespace Go.Proofs.YtkibmoekadmjnaaGreatDoor
open Go.RowKit Go.Shelf Go.Maps

theorem perm_all {L : List P.Fi} {ss : List (List UInt8)} {Q : P.Fi → Prop} (hp : ss.Perm (L.map (fun x => x.p.data.toList))) (h : ∀ y ∈ L, y.p.data.toList ∈ ss → Q y) : ∀ y ∈ L, Q y :=
  fun y hy => h y hy (hp.mem_iff.2 (List.mem_map.2 ⟨y, hy, rfl⟩))
theorem rise_inj {L : List P.Fi} (hr : P.Rising P.Fi.p L) {x y : P.Fi} (hx : x ∈ L) (hy : y ∈ L) (e : x.p = y.p) : x = y := by
  have h1 := P.findK_mem hr hx
  rw [e, P.findK_mem hr hy] at h1
  injection h1 with h1; exact h1.symm
theorem any_none {L : List P.Fi} {q : P.Fi → Bool} (h : ∀ y ∈ L, q y = false) : L.any q = false := List.any_eq_false.2 (fun y hy => by simp [h y hy])
section
variable {n₀ B b1 b2 b3 : Nat} {A : Ad} {m : P.Mach} {w w' : World}
/-- all that lay has stayed -/
theorem WAt.grown0 (h : WAt n₀ w B b1 b2 b3 A m) (hn : n₀ ≤ w.heap.size) (hg : w.grownBy w' none) : WAt n₀ w' B b1 b2 b3 A m :=
  { h with row := h.row.grown hg (by simp), f := h.f.below ((Below.refl n₀ w).grown hg hn (fun j hj => by cases hj)), i := h.i.kept hg (by simp), s := h.s.kept hg (by simp), v := h.v.kept hg (by simp) }
theorem WAt.grown1 (h : WAt n₀ w B b1 b2 b3 A m) (hn : n₀ ≤ w.heap.size) {k : Nat} (hg : w.grownBy w' (some k)) (hk : n₀ ≤ k) (hB : B < k) (h1 : b1 < k) (h2 : b2 < k) (h3 : b3 < k) : WAt n₀ w' B b1 b2 b3 A m :=
  { h with row := h.row.grown hg (fun e => by injection e; omega), f := h.f.below ((Below.refl n₀ w).grown hg hn (fun j hj => by cases hj; exact hk)), i := h.i.kept hg (fun e => by injection e; omega), s := h.s.kept hg (fun e => by injection e; omega), v := h.v.kept hg (fun e => by injection e; omega) }
end
theorem chgErr_put (m : P.Mach) (x : P.Fi) : P.chgErr m (P.putC x) = if P.fileErr x = 0 then (if m.files.any (fun y => P.underS y.p x.p || P.underS x.p y.p) then 11 else P.fits m.files (P.findK P.Fi.p m.files x.p).isSome 2000) else P.fileErr x := rfl

set_option maxRecDepth 100000 in
set_option maxHeartbeats 8000000 in
theorem doF_any (n₀ B b1 b2 b3 : Nat) (A : Ad) (m : P.Mach) (hr : P.Right m) (x : P.Fi) (hp : x.p.size ≤ 4294967280) (hd : x.d.size ≤ 4294967280) (w : World) (hw : Good w) (hn : n₀ ≤ w.heap.size) (h : WAt n₀ w B b1 b2 b3 A m) :
    Calls Tryz.prog 129 #[.pointer (some ⟨B, 0, none⟩), .agg #[.int .i64 1, .string x.p, .string x.d, .bool x.r, .string ⟨#[]⟩, .string ⟨#[]⟩, .string ⟨#[]⟩, .string ⟨#[]⟩, .bool false, .bool false]] w (DoPost n₀ B b1 b2 b3 A m (P.putC x) w) := by
  have HE := Lib.hid (fun W hW => chgErrF_any x hp hd W hW)
  have HC := Lib.hid (chgErr_put m x)
  have HM : Hid (P.made m (P.putC x) = { m with files := P.insK P.Fi.p x m.files }) := Lib.hid rfl
  unfold DoPost
  generalize P.chgErr m (P.putC x) = r at *
  generalize P.made m (P.putC x) = m' at *
  generalize P.fileErr x = e0 at *
  have HR := Lib.hid hr
  have HG := Lib.hid h
  have HW := Lib.hid hw
  clear hr h hw
  by_cases he : e0 = 0
  · subst he
    have HC2 := HC.out
    rw [if_pos rfl] at HC2
    replace HC2 := Lib.hid HC2
    clear HC
    go_enter Tryz.func129, Tryz.ntmps129
    go_wp2_with fail
    refine (HE.out _ (HW.out.mono (below_alloc _ _))).mono ?_
    rintro e w2 ⟨rfl, hb2⟩
    have hR := (HasRow.new w _ _).below hb2
    obtain ⟨c0, c1, c2, c3, c4, c5, c6, c7, c8, c9⟩ := hrow10 hR
    have HB2 := Lib.hid (bstep (below_alloc _ _) hb2)
    have HG2 := Lib.hid (HG.out.below hn HB2.out)
    obtain ⟨_, r1, r2, r3, _⟩ := hrow4 HG2.out.row
    have hsz : x.p.size ≤ maxLen := by unfold maxLen; omega
    have hne2 : w.heap.size ≠ b1 := by have := HG.out.i.lt; omega
    have hFit : ∀ y ∈ m.files, (P.Fi.p y).size ≤ maxLen := fun y hy => by
      obtain ⟨h1, _⟩ := P.fileErr_zero.1 (HR.out.a2 y hy)
      have := P.path_size h1; unfold maxLen; omega
    have HF := Lib.hid hFit
    have hRl := hR.lt
    have hle2 : n₀ ≤ w2.heap.size := Nat.le_trans hn HB2.out.size
    have lt0 := HG2.out.row.lt
    have lt1 := HG2.out.i.lt
    have lt2 := HG2.out.s.lt
    have lt3 := HG2.out.v.lt
    have HX := Lib.hid hR
    clear hFit hb2 hR HE HW HG r2 r3 c1 c2 c3 c4 c5 c6 c7 c8 c9
    go_wp2_with (first
      | (at_range; refine wpList_range_L _ rfl _ 148 rfl 42 Tryz.underlying9 Tryz.underlying148 rfl HG2.out.i ?_; intro w0 hrg0 hg0 hs0))
    have HB0 := Lib.hid ((HB2.out).grown hg0 HB2.out.size (fun j hj => by cases hj))
    have HX0 := Lib.hid (HX.out.grown hg0 (by simp))
    have HG0 := Lib.hid (HG2.out.grown0 (Nat.le_trans hn HB2.out.size) hg0)
    clear hg0 r1 c0 HB2 HX HG2
    go_frame
    go_loopw [12] (fun _ wr => ∃ ss : List (List UInt8), LRange codedFi P.fi0 P.Fi.p id Tryz.prog 9 wr b1 w2.heap.size m.files ss ∧ Hid (Below w.heap.size w wr) ∧ Hid (HasRow wr w.heap.size #[.int .i64 1, .string x.p, .string x.d, .bool x.r, .string ⟨#[]⟩, .string ⟨#[]⟩, .string ⟨#[]⟩, .string ⟨#[]⟩, .bool false, .bool false]) ∧ Hid (WAt n₀ wr B b1 b2 b3 A m) ∧ Hid (∀ y ∈ m.files, y.p.data.toList ∈ ss → (P.underS y.p x.p || P.underS x.p y.p) = false))
      (fun _ wr => wr.rangeLeft b1 w2.heap.size)
    case atStart => exact ⟨[], hrg0, HB0, HX0, HG0, Lib.hid (fun y _ h => absurd h (by simp))⟩
    case round =>
      obtain ⟨ss, hrg, HB, HX, HG, HA⟩ := hrel
      go_wp2_with (first
        | (at_next; refine wpList_next_L _ rfl _ rfl Tryz.underlying9 HR.out.r2 HF.out rfl hrg ?_ ?_))
      · intro hp
        have HC4 := Lib.hid (show r = P.fits m.files (P.findK P.Fi.p m.files x.p).isSome 2000 by rw [HC2.out, any_none (perm_all hp HA.out)]; rfl)
        clear hp hrg HC2 HA
        have hle : n₀ ≤ wr.heap.size := Nat.le_trans hn HB.out.size
        have hlk := ((HG.out.i.alloc (.cells #[.string ⟨#[]⟩, .string ⟨#[]⟩, .bool false] 42)).drew).look (t := 148) Tryz.underlying9 Tryz.underlying148 (zz42 _) hsz
        have hlk0 := HG.out.i.drew.look (t := 148) Tryz.underlying9 Tryz.underlying148 (zz42 _) hsz
        generalize hyy : ((P.findK P.Fi.p m.files x.p).map id).getD P.fi0 = y at hlk hlk0
        change (Instr.lookup 148 (.map (some b1)) (.string x.p) true).run _ _ = .ok (.tuple #[.agg #[.string y.p, .string y.d, .bool y.r], .bool (P.findK P.Fi.p m.files x.p).isSome]) _ at hlk
        change (Instr.lookup 148 (.map (some b1)) (.string x.p) true).run _ _ = .ok (.tuple #[.agg #[.string y.p, .string y.d, .bool y.r], .bool (P.findK P.Fi.p m.files x.p).isSome]) _ at hlk0
        clear hyy
        generalize hfd : (P.findK P.Fi.p m.files x.p).isSome = fd at *
        have HX5 := Lib.hid ((HX.out.alloc (.cells #[.string y.p, .string y.d, .bool y.r] 42)).drew)
        have HG5 := Lib.hid (WAt.drew (WAt.alloc HG.out hle (.cells #[.string y.p, .string y.d, .bool y.r] 42)))
        have HB5 := Lib.hid ((bstep HB.out (below_alloc wr (.cells #[.string y.p, .string y.d, .bool y.r] 42))).drew)
        have hN := (HasRow.new wr #[.string ⟨#[]⟩, .string ⟨#[]⟩, .bool false] 42).drew
        obtain ⟨n0, n1, n2, _⟩ := hrow3 hN
        have m0 := hN.free 0
        have m1 := hN.free 1
        have m2 := hN.free 2
        have k1 : wr.cell? ⟨w.heap.size, 1, none⟩ = some (.string x.p) := HX.out.cell 1
        have q1 : wr.cell? ⟨B, 1, none⟩ = some (.map (some b1)) := HG.out.row.cell 1
        have k6 : (wr.alloc (.cells #[.string ⟨#[]⟩, .string ⟨#[]⟩, .bool false] 42)).drew.cell? ⟨w.heap.size, 1, none⟩ = some (.string x.p) := (HX.out.alloc _).drew.cell 1
        have k3 : (wr.alloc (.cells #[.string ⟨#[]⟩, .string ⟨#[]⟩, .bool false] 42)).drew.cell? ⟨B, 1, none⟩ = some (.map (some b1)) := (HG.out.row.alloc _).drew.cell 1
        clear hN
        go_wp2_with fail
        go_region
        all_goals
          clear n0 n1 n2 m0 m1 m2 k1 q1 k6 k3 hlk hlk0
          cases fd with
          | true =>
            have HC3 := Lib.hid (show r = 0 by rw [HC4.out]; unfold P.fits; simp)
            go_wp2_with fail
            obtain ⟨W3, hrun, hF, hg⟩ := HG5.out.i.drew.put (t := 148) Tryz.underlying9 Tryz.underlying148 HR.out.r2 (by have := HR.out.l2; unfold maxLen; omega) x hsz
            change (Instr.mapUpdate 148 (.map (some b1)) (.string x.p) (.agg #[.string x.p, .string x.d, .bool x.r])).run _ _ = _ at hrun
            have hB3 := HB5.out.drew.mono hn |>.grown hg (Nat.le_trans hn HB5.out.size) (fun j e => by cases e; exact HG.out.h1)
            have HG3 := Lib.hid ((WAt.drew HG5.out).gi (Below.grown (Below.refl _ _) hg (Nat.le_trans hn HB5.out.size) (fun j e => by cases e; exact HG.out.h1)) hg hF rfl)
            have hx : _ ∧ _ ∧ _ ∧ _ := And.intro (HG5.out.row.drew.cell 1) (And.intro (HX5.out.drew.cell 1) (And.intro (HX5.out.drew.cell 2) (HX5.out.drew.cell 3)))
            have H0 := Lib.hid hx
            have H2 := Lib.hid (And.intro (cell_grown hg hx.1 HG.out.nB1) (And.intro (cell_grown hg hx.2.1 hne2) (And.intro (cell_grown hg hx.2.2.1 hne2) (cell_grown hg hx.2.2.2 hne2))))
            clear hF hg hx
            try clear hln
            try clear hr3
            go_region_held3 (fun W => W.cell? ⟨B, 1, none⟩ = some (.map (some b1)) ∧ W.cell? ⟨w.heap.size, 1, none⟩ = some (.string x.p) ∧ W.cell? ⟨w.heap.size, 2, none⟩ = some (.string x.d) ∧ W.cell? ⟨w.heap.size, 3, none⟩ = some (.bool x.r))
              (first | exact H0.out | exact H2.out)
              (fail)
            clear H0 H2 hrun
            go_wp2_with fail
            go_ret
            exact ⟨by rw [HC3.out]; rfl, fun _ => by rw [HM.out]; exact HG3.out, hB3⟩
          | false =>
            have hln := HG5.out.i.len (t := 148) Tryz.underlying148 3
            have hr3 := HG5.out.row.cell 1
            replace hr3 := show _ = some (Value.map (some b1)) from hr3
            by_cases hfull : 2000 ≤ m.files.length
            · have HC3 := Lib.hid (show r = 4 by rw [HC4.out]; unfold P.fits; simp [hfull])
              have hful2 : decide ((2000 : Int) ≤ (m.files.length : Int)) = true := decide_eq_true (by omega)
              go_wp2_with fail
              go_ret
              exact ⟨by rw [HC3.out]; rfl, fun h => absurd (HC3.out.symm.trans h) (by decide), HB5.out.mono hn⟩
            · have HC3 := Lib.hid (show r = 0 by rw [HC4.out]; unfold P.fits; simp [hfull])
              have hful2 : decide ((2000 : Int) ≤ (m.files.length : Int)) = false := decide_eq_false (by omega)
              go_wp2_with fail
              obtain ⟨W3, hrun, hF, hg⟩ := HG5.out.i.drew.put (t := 148) Tryz.underlying9 Tryz.underlying148 HR.out.r2 (by have := HR.out.l2; unfold maxLen; omega) x hsz
              change (Instr.mapUpdate 148 (.map (some b1)) (.string x.p) (.agg #[.string x.p, .string x.d, .bool x.r])).run _ _ = _ at hrun
              have hB3 := HB5.out.drew.mono hn |>.grown hg (Nat.le_trans hn HB5.out.size) (fun j e => by cases e; exact HG.out.h1)
              have HG3 := Lib.hid ((WAt.drew HG5.out).gi (Below.grown (Below.refl _ _) hg (Nat.le_trans hn HB5.out.size) (fun j e => by cases e; exact HG.out.h1)) hg hF rfl)
              have hx : _ ∧ _ ∧ _ ∧ _ := And.intro (HG5.out.row.drew.cell 1) (And.intro (HX5.out.drew.cell 1) (And.intro (HX5.out.drew.cell 2) (HX5.out.drew.cell 3)))
              have H0 := Lib.hid hx
              have H2 := Lib.hid (And.intro (cell_grown hg hx.1 HG.out.nB1) (And.intro (cell_grown hg hx.2.1 hne2) (And.intro (cell_grown hg hx.2.2.1 hne2) (cell_grown hg hx.2.2.2 hne2))))
              clear hF hg hx
              try clear hln
              try clear hr3
              go_region_held3 (fun W => W.cell? ⟨B, 1, none⟩ = some (.map (some b1)) ∧ W.cell? ⟨w.heap.size, 1, none⟩ = some (.string x.p) ∧ W.cell? ⟨w.heap.size, 2, none⟩ = some (.string x.d) ∧ W.cell? ⟨w.heap.size, 3, none⟩ = some (.bool x.r))
                (first | exact H0.out | exact H2.out)
                (fail)
              clear H0 H2 hrun
              go_wp2_with fail
              go_ret
              exact ⟨by rw [HC3.out]; rfl, fun _ => by rw [HM.out]; exact HG3.out, hB3⟩
      · intro y w3 hy hrg3 hlt hcnt hg3 hs3 hen
        have HB3 := Lib.hid (HB.out.grown hg3 HB.out.size (fun j hj => by cases hj; exact Nat.le_of_lt hRl))
        have HX3 := Lib.hid (HX.out.grown hg3 (fun e => by injection e; omega))
        have HG3 := Lib.hid (WAt.grown1 HG.out (Nat.le_trans hn HB.out.size) hg3 hle2 lt0 lt1 lt2 lt3)
        have e1 : w3.cell? ⟨w.heap.size, 1, none⟩ = some (.string x.p) := HX3.out.cell 1
        have hys : y.p.size ≤ 4294967280 := by
          obtain ⟨h1, _⟩ := P.fileErr_zero.1 (HR.out.a2 y hy)
          have := P.path_size h1; omega
        have HU1 := Lib.hid (fun W => under_any y.p x.p hp W)
        have HU2 := Lib.hid (fun W => under_any x.p y.p hys W)
        have HA3 : Hid ((P.underS y.p x.p || P.underS x.p y.p) = false → ∀ z ∈ m.files, z.p.data.toList ∈ ss ++ [y.p.data.toList] → (P.underS z.p x.p || P.underS x.p z.p) = false) := Lib.hid (fun h z hz hm => by
          rcases List.mem_append.1 hm with hm | hm
          · exact HA.out z hz hm
          · have e : z.p = y.p := P.ba_inj (by simpa using hm)
            rw [e]; exact h)
        have HC11 : Hid ((P.underS y.p x.p || P.underS x.p y.p) = true → r = 11) := Lib.hid (fun h => by rw [HC2.out, if_pos (List.any_eq_true.2 ⟨y, hy, h⟩)])
        change LRange _ _ _ _ _ _ _ _ _ _ (ss ++ [y.p.data.toList]) at hrg3
        generalize Coded.enc codedFi (id y) = cv at hen ⊢
        generalize y.p = ky at *
        generalize P.underS ky x.p = u1 at *
        generalize P.underS x.p ky = u2 at *
        clear HB HX HG hs3 hg3 hrg hcnt HA
        cases u1 with
        | true =>
          have HC5 := Lib.hid (HC11.out rfl)
          go_wp2_with (refine (HU1.out _).mono ?_; rintro e w4 ⟨rfl, rfl⟩)
          go_ret
          exact ⟨by rw [HC5.out]; rfl, fun h => absurd (HC5.out.symm.trans h) (by decide), HB3.out.mono hn⟩
        | false =>
          cases u2 with
          | true =>
            have HC5 := Lib.hid (HC11.out rfl)
            go_wp2_with fail
            refine (HU1.out _).mono ?_
            rintro e w4 ⟨rfl, rfl⟩
            go_wp2_with (refine (HU2.out _).mono ?_; rintro e w4 ⟨rfl, rfl⟩)
            go_ret
            exact ⟨by rw [HC5.out]; rfl, fun h => absurd (HC5.out.symm.trans h) (by decide), HB3.out.mono hn⟩
          | false =>
            have HA5 := Lib.hid (HA3.out rfl)
            go_wp2_with fail
            refine (HU1.out _).mono ?_
            rintro e w4 ⟨rfl, rfl⟩
            go_wp2_with (refine (HU2.out _).mono ?_; rintro e w4 ⟨rfl, rfl⟩)
            go_roundw
            case rel => exact ⟨ss ++ [ky.data.toList], hrg3, HB3, HX3, HG3, HA5⟩
            case measure => exact hlt
  · have HC2 := HC.out
    rw [if_neg he] at HC2
    replace HC2 := Lib.hid HC2
    clear HC
    have he2 : (e0 == 0) = false := by simpa using he
    have he3 : (e0 != 0) = true := by simpa using he
    go_enter Tryz.func129, Tryz.ntmps129
    go_wp2_with (refine (HE.out _ (HW.out.mono (below_alloc _ _))).mono ?_; rintro e w2 ⟨rfl, hb2⟩)
    go_ret
    exact ⟨by rw [HC2.out]; rfl, fun h => absurd (HC2.out ▸ h) he, (bstep (below_alloc _ _) hb2).mono hn⟩
end Go.Proofs.YtkibmoekadmjnaaGreatDoor
