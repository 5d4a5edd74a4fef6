/- Walks: package disk: Check. -/
/- Walks: package disk: Check where the lists are not too long. -/
import Derived.Test.YtomikcemiacjmaaGreatDoorZMList
import Derived.Test.YtomikcemiacjmaaGreatDoorZMListF
import Derived.Deep.RegionHeld3

namespace Go.Proofs.YtomikcemiacjmaaGreatDoor
open Go.RowKit Go.Shelf

/-- where a machine's four lists lie -/
structure Ad where
  a1 : Option Addr
  a2 : Option Addr
  a3 : Option Addr
  a4 : Option Addr
  c1 : Nat
  c2 : Nat
  c3 : Nat
  c4 : Nat
def machV (A : Ad) (m : P.Mach) : Value := .agg #[.slice A.a1 m.facts.length A.c1, .slice A.a2 m.files.length A.c2, .slice A.a3 m.sets.length A.c3, .slice A.a4 m.svcs.length A.c4]
structure Lies (m₀ : Nat) (w : World) (A : Ad) (m : P.Mach) : Prop where
  f : StsAt m₀ w A.a1 m.facts A.c1
  i : FisAt m₀ w A.a2 m.files A.c2
  s : StsAt m₀ w A.a3 m.sets A.c3
  v : SvsAt m₀ w A.a4 m.svcs A.c4
theorem Lies.below {m₀ : Nat} {w w' : World} {A : Ad} {m : P.Mach} (h : Lies m₀ w A m) (hb : Below m₀ w w') : Lies m₀ w' A m := ⟨h.f.below hb, h.i.below hb, h.s.below hb, h.v.below hb⟩
theorem StsAt.up {m m' : Nat} {w : World} {a : Option Addr} {L : List P.St} {cap : Nat} (h : StsAt m w a L cap) (hm : m ≤ m') : StsAt m' w a L cap :=
  ⟨h.le, fun hn => let ⟨b, off, e, hb, hc⟩ := h.at_ hn; ⟨b, off, e, Nat.lt_of_lt_of_le hb hm, hc⟩⟩
theorem FisAt.up {m m' : Nat} {w : World} {a : Option Addr} {L : List P.Fi} {cap : Nat} (h : FisAt m w a L cap) (hm : m ≤ m') : FisAt m' w a L cap :=
  ⟨h.le, fun hn => let ⟨b, off, e, hb, hc⟩ := h.at_ hn; ⟨b, off, e, Nat.lt_of_lt_of_le hb hm, hc⟩⟩
theorem SvsAt.up {m m' : Nat} {w : World} {a : Option Addr} {L : List P.Sv} {cap : Nat} (h : SvsAt m w a L cap) (hm : m ≤ m') : SvsAt m' w a L cap :=
  ⟨h.le, fun hn => let ⟨b, off, e, hb, hc⟩ := h.at_ hn; ⟨b, off, e, Nat.lt_of_lt_of_le hb hm, hc⟩⟩
theorem Lies.up {m m' : Nat} {w : World} {A : Ad} {M : P.Mach} (h : Lies m w A M) (hm : m ≤ m') : Lies m' w A M := ⟨h.f.up hm, h.i.up hm, h.s.up hm, h.v.up hm⟩
structure P.Mach.fit (m : P.Mach) : Prop where
  l1 : m.facts.length ≤ 4294967280
  l2 : m.files.length ≤ 4294967280
  l3 : m.sets.length ≤ 4294967280
  l4 : m.svcs.length ≤ 4294967280
  f : stsFit m.facts
  i : fisFit m.files
  s : stsFit m.sets
  v : svsFit m.svcs

theorem beside0_any (w : World) : Calls Tryz.prog 99 #[] w fun e w' => ∃ BM Bs, e = .returned (.func (.func 183) #[] #[.pointer (some ⟨Bs, 0, none⟩)]) ∧
    HasRow w' Bs #[.map (some BM)] ∧ SetM w' BM 0 (fun _ => false) ∧ w.heap.size ≤ BM ∧ Bs ≠ BM ∧ Below w.heap.size w w' := by
  have hmm := @run_makeMap Tryz.prog
  go_enter Tryz.func99, Tryz.ntmps99
  go_wp2
  go_ret
  refine ⟨w.heap.size, w.heap.size + 1, rfl, ?_, (SetMap.made _ _ _ _).alloc _, Nat.le_refl _, by omega, ((Below.refl _ w).alloc (Nat.le_refl _) _).alloc (by simp) _⟩
  have := HasRow.new (w.alloc (.map #[] 0)) #[.map (some w.heap.size)] 116
  rwa [World.size_alloc] at this

theorem checkListF_at (L : List P.Fi) (a : Option Addr) (cap : Nat) (hl : L.length ≤ 4294967280) (hs : fisFit L) (nb BM Bs m₀ : Nat) (W : World) (hn : nb = W.heap.size) (hw : Good W) (h8 : 8 ≤ m₀) (hmB : m₀ ≤ BM) (hm : FisAt m₀ W a L cap)
    (hBs : HasRow W Bs #[.map (some BM)]) (hM : SetM W BM 0 (fun _ => false)) (n2 : Bs ≠ BM) :
    Calls Tryz.prog 96 #[.slice a L.length cap, .func (.func 97) #[] #[], .func (.func 98) #[] #[], .slice (some ⟨nb, 0, none⟩) 1 1]
      (W.alloc (.cells #[.func (.func 183) #[] #[.pointer (some ⟨Bs, 0, none⟩)]] 117)) fun e w' => e = .returned (.int .i64 (P.listErr P.fileErr P.Fi.p (P.clash L) L)) ∧ Below m₀ (W.alloc (.cells #[.func (.func 183) #[] #[.pointer (some ⟨Bs, 0, none⟩)]] 117)) w' := by
  subst hn
  have hlt := hM.lt
  refine (checkListF_any L a cap W.heap.size Bs BM m₀ hl hs (W.alloc _) (hw.mono (below_alloc _ _)) h8 hmB (hm.below ((below_alloc W _).mono (by omega))) (HasRow.new W _ _) (hBs.alloc _) (hM.alloc _) (by omega) n2).mono ?_
  rintro e w' ⟨rfl, hg⟩
  exact ⟨rfl, below_of_grown hg (by simp; omega) hmB⟩

theorem dcheck_large (A : Ad) (m : P.Mach) (h : 100 < m.facts.length ∨ 2000 < m.files.length ∨ 2000 < m.sets.length ∨ 100 < m.svcs.length) (w : World) :
    Calls Tryz.prog 15 #[machV A m] w fun e w' => e = .returned (.int .i64 4) ∧ Below w.heap.size w w' := by
  obtain ⟨a1, a2, a3, a4, c1, c2, c3, c4⟩ := A
  obtain ⟨F, I, S, V⟩ := m
  simp only at h
  unfold machV
  simp only
  have HB := Lib.hid (below_alloc w (.cells #[.slice a1 F.length c1, .slice a2 I.length c2, .slice a3 S.length c3, .slice a4 V.length c4] 26))
  have hN : ∀ {a b : Nat}, ¬ a < b → decide ((a : Int) < (b : Int)) = false := fun h => decide_eq_false (by omega)
  have hY : ∀ {a b : Nat}, a < b → ((a : Int) < (b : Int)) := fun h => by omega
  by_cases h1 : 100 < F.length
  · have g1 := hY h1
    clear hN hY h
    go_enter Tryz.func15, Tryz.ntmps15
    go_wp2_with fail
    go_ret
    exact ⟨rfl, HB.out⟩
  · have g1 := hN h1
    by_cases h2 : 2000 < I.length
    · have g2 := hY h2
      clear hN hY h
      go_enter Tryz.func15, Tryz.ntmps15
      go_wp2_with fail
      go_ret
      exact ⟨rfl, HB.out⟩
    · have g2 := hN h2
      by_cases h3 : 2000 < S.length
      · have g3 := hY h3
        clear hN hY h
        go_enter Tryz.func15, Tryz.ntmps15
        go_wp2_with fail
        go_ret
        exact ⟨rfl, HB.out⟩
      · have g3 := hN h3
        have g4 := hY (show 100 < V.length by omega)
        clear hN hY h
        go_enter Tryz.func15, Tryz.ntmps15
        go_wp2_with fail
        go_ret
        exact ⟨rfl, HB.out⟩
end Go.Proofs.YtomikcemiacjmaaGreatDoor

namespace Go.Proofs.YtomikcemiacjmaaGreatDoor
open Go.RowKit Go.Shelf

theorem keepC {w W W' : World} {p0 : Addr} {v0 : Value} (h : W.cell? p0 = some v0 ∧ Below w.heap.size w W) (hq : Below W.heap.size W W') : W'.cell? p0 = some v0 ∧ Below w.heap.size w W' := ⟨cell_keep hq h.1, bstep h.2 hq⟩
theorem startC {w W : World} {p0 : Addr} {v0 : Value} (h : W.cell? p0 = some v0 ∧ Below w.heap.size w W) : W.drew.cell? p0 = some v0 ∧ Below w.heap.size w W.drew := ⟨h.1, h.2.drew⟩

theorem keepC1 {w W W' : World} {v0 : Value} {j : Nat} (h : W.cell? ⟨w.heap.size, j, none⟩ = some v0 ∧ Below w.heap.size w W) (hq : Below (w.heap.size + 1) W W') : W'.cell? ⟨w.heap.size, j, none⟩ = some v0 ∧ Below w.heap.size w W' :=
  ⟨by rw [hq.cell (p := ⟨w.heap.size, j, none⟩) (Nat.lt_succ_self _)]; exact h.1, h.2.trans (hq.mono (Nat.le_succ _))⟩
theorem HasRow.below' {W W' : World} {k m : Nat} {vs : Array Value} (h : HasRow W k vs) (hb : Below m W W') (hm : k < m) : HasRow W' k vs :=
  ⟨fun i => by rw [hb.cell (p := ⟨k, i, none⟩) hm]; exact h.cell i, fun i => by rw [hb.frozen (p := ⟨k, i, none⟩) hm]; exact h.free i, Nat.lt_of_lt_of_le h.lt hb.size⟩

set_option maxRecDepth 100000 in
set_option maxHeartbeats 8000000 in
theorem dcheck_fits (A : Ad) (m : P.Mach) (hf : m.fit) (h1 : m.facts.length ≤ 100) (h2 : m.files.length ≤ 2000) (h3 : m.sets.length ≤ 2000) (h4 : m.svcs.length ≤ 100) (w : World) (hw : Good w) (hl : Lies w.heap.size w A m) :
    Calls Tryz.prog 15 #[machV A m] w fun e w' => e = .returned (.int .i64 (P.machErr m)) ∧ Below w.heap.size w w' := by
  obtain ⟨a1, a2, a3, a4, c1, c2, c3, c4⟩ := A
  obtain ⟨F, I, S, V⟩ := m
  have hV : P.machErr ⟨F, I, S, V⟩ = P.orE (P.listErr P.factErr P.St.k P.noMore F) (P.orE (P.listErr P.fileErr P.Fi.p (P.clash I) I) (P.orE (P.listErr P.setErr P.St.k P.noMore S) (P.listErr P.svcErr P.Sv.n P.noMore V))) := if_neg (by simp only at *; omega)
  rw [hV]
  clear hV
  simp only at h1 h2 h3 h4
  unfold machV
  simp only
  have H1 := fun W hW hm => checkListS_any _ _ StFn.fact F a1 c1 hf.l1 hf.f W hW hm
  have H2 := fun nb BM Bs W hn hW h8 hB hm hBs hM n2 => checkListF_at I a2 c2 hf.l2 hf.i nb BM Bs (w.heap.size + 1) W hn hW h8 hB hm hBs hM n2
  have H3 := fun W hW hm => checkListS_any _ _ StFn.setting S a3 c3 hf.l3 hf.s W hW hm
  have H4 := fun W hW hm => checkListV_any V a4 c4 hf.l4 hf.v W hW hm
  have H5 := Lib.hid beside0_any
  generalize P.listErr P.factErr P.St.k P.noMore F = e1 at *
  generalize P.listErr P.fileErr P.Fi.p (P.clash I) I = e2 at *
  generalize P.listErr P.setErr P.St.k P.noMore S = e3 at *
  generalize P.listErr P.svcErr P.Sv.n P.noMore V = e4 at *
  replace H1 := Lib.hid H1
  replace H2 := Lib.hid H2
  replace H3 := Lib.hid H3
  replace H4 := Lib.hid H4
  have HL := Lib.hid hl
  have Hw := Lib.hid hw
  have g1 : decide ((100 : Int) < (F.length : Int)) = false := decide_eq_false (by omega)
  have g2 : decide ((2000 : Int) < (I.length : Int)) = false := decide_eq_false (by omega)
  have g3 : decide ((2000 : Int) < (S.length : Int)) = false := decide_eq_false (by omega)
  have g4 : decide ((100 : Int) < (V.length : Int)) = false := decide_eq_false (by omega)
  have H8 := Lib.hid hw.sz
  clear h1 h2 h3 h4 hl hw hf
  have q1 : P.orE e1 (P.orE e2 (P.orE e3 e4)) = if e1 = 0 then if e2 = 0 then if e3 = 0 then e4 else e3 else e2 else e1 := by unfold P.orE; rfl
  rw [q1]
  clear q1
  have HV0 : Hid (∀ r : Int, r = (if e1 = 0 then if e2 = 0 then if e3 = 0 then e4 else e3 else e2 else e1) → Ending.returned (.int .i64 r) = Ending.returned (Value.int .i64 (if e1 = 0 then if e2 = 0 then if e3 = 0 then e4 else e3 else e2 else e1))) := Lib.hid fun r h => by rw [h]
  generalize hres : (if e1 = 0 then if e2 = 0 then if e3 = 0 then e4 else e3 else e2 else e1) = res at *
  have HR := Lib.hid hres
  clear hres HV0
  go_enter Tryz.func15, Tryz.ntmps15
  go_wp2_with fail
  refine (H1.out _ (Hw.out.mono (below_alloc _ _)) ((HL.out.f.below (below_alloc _ _)).up (by simp))).mono ?_
  rintro e w1 ⟨rfl, hb⟩
  have HB1 := Lib.hid (bstep (below_alloc w _) hb)
  have HM1 := Lib.hid ((HasRow.new w _ _).below hb)
  clear hb
  by_cases z1 : e1 = 0
  · subst z1
    obtain ⟨m0, m1, m2, m3, hlt⟩ := hrow4 HM1.out
    go_wp2_with fail
    have hS := startC ⟨m1, HB1.out⟩
    clear m0 m1 m2 m3
    go_region_held3 (fun W => W.cell? ⟨w.heap.size, 1, none⟩ = some (.slice a2 I.length c2) ∧ Below w.heap.size w W)
      (first | with_reducible assumption | exact keepC (by with_reducible assumption) (by with_reducible assumption) | exact keepC1 (by with_reducible assumption) (by with_reducible assumption) | exact keepC (by with_reducible assumption) (below_alloc _ _))
      (first
        | (go_at_call 99; refine (H5.out _).mono ?_; rintro e w2 ⟨BM, Bs, rfl, x1, x2, x3, x4, hb1⟩)
        | (go_at_call 96; refine (H2.out _ BM Bs w2 (by simp) (Hw.out.mono (bstep HB1.out.drew hb1)) (Nat.le_succ_of_le H8.out) (Nat.le_trans HM1.out.lt x3) ((HL.out.i.below (bstep HB1.out.drew hb1)).up (Nat.le_succ _)) x1 x2 x4).mono ?_; rintro e w3 ⟨rfl, hb2⟩))
    have HB3 := Lib.hid (by with_reducible assumption : _ ∧ Below w.heap.size w w3).2
    have HM3 := Lib.hid ((((HM1.out.drew).below hb1).alloc _).below' hb2 (Nat.lt_succ_self _))
    clear x1 x2 x3 x4 hb1 hb2 hS H5 H2
    by_cases z2 : e2 = 0
    · subst z2
      obtain ⟨m0, m1, m2, m3, hlt3⟩ := hrow4 HM3.out
      go_wp2_with fail
      refine (H3.out _ (Hw.out.mono HB3.out) ((HL.out.s.below HB3.out).up HB3.out.size)).mono ?_
      rintro e w4 ⟨rfl, hb4⟩
      have HB4 := Lib.hid (bstep HB3.out hb4)
      have HM4 := Lib.hid (HM3.out.below hb4)
      clear hb4 m0 m1 m2 m3
      by_cases z3 : e3 = 0
      · subst z3
        have hr : res = e4 := by rw [← HR.out]; simp
        subst hr
        obtain ⟨m0, m1, m2, m3, hlt4⟩ := hrow4 HM4.out
        go_wp2_with fail
        refine (H4.out _ (Hw.out.mono HB4.out) ((HL.out.v.below HB4.out).up HB4.out.size)).mono ?_
        rintro e w5 ⟨rfl, hb5⟩
        have HB5 := Lib.hid (bstep HB4.out hb5)
        clear hb5
        go_wp2_with fail
        go_ret
        exact ⟨rfl, HB5.out⟩
      · have hr : res = e3 := by rw [← HR.out]; simp [z3]
        subst hr
        have g5 : (res != 0) = true := by simpa using z3
        go_wp2_with fail
        go_ret
        exact ⟨rfl, HB4.out⟩
    · have hr : res = e2 := by rw [← HR.out]; simp [z2]
      subst hr
      have g5 : (res != 0) = true := by simpa using z2
      go_wp2_with fail
      go_ret
      exact ⟨rfl, HB3.out⟩
  · have hr : res = e1 := by rw [← HR.out, if_neg z1]
    subst hr
    have g5 : (res != 0) = true := by simpa using z1
    go_wp2_with fail
    go_ret
    exact ⟨rfl, HB1.out⟩
theorem dcheck_any (A : Ad) (m : P.Mach) (hf : m.fit) (w : World) (hw : Good w) (hl : Lies w.heap.size w A m) :
    Calls Tryz.prog 15 #[machV A m] w fun e w' => e = .returned (.int .i64 (P.machErr m)) ∧ Below w.heap.size w w' := by
  by_cases h : 100 < m.facts.length ∨ 2000 < m.files.length ∨ 2000 < m.sets.length ∨ 100 < m.svcs.length
  · rw [show P.machErr m = 4 from if_pos h]
    exact dcheck_large A m h w
  · exact dcheck_fits A m hf (by omega) (by omega) (by omega) (by omega) w hw hl
end Go.Proofs.YtomikcemiacjmaaGreatDoor
