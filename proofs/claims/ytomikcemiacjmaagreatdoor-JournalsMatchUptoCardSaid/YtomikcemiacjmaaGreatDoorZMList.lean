/- Walks: package disk: the checks of single things. -/
/- Walks: package disk: the lists of settings. -/
/- Walks: package disk: the check of a list of settings. -/
/- Walks: package disk: the lists of services: where they lie; their check. -/
import Derived.Test.YtomikcemiacjmaaGreatDoorZMNames
import Derived.Deep.QuietTactic
import Derived.BigQuiet
import Derived.Deep.RegionHeld3

namespace Go.Proofs.YtomikcemiacjmaaGreatDoor
open Go.RowKit Go.Shelf

/-- a function on texts that answers p -/
def KeyFn (g : Nat) (p : ByteArray → Bool) : Prop :=
  (∀ args w, (callFunc g args).run Tryz.prog w = .ok (.enter g args) w) ∧
  ∀ (s : ByteArray), s.size ≤ 4294967280 → ∀ (w : World), Good w → Calls Tryz.prog g #[.string s] w fun e w' => e = .returned (.bool (p s)) ∧ Below w.heap.size w w'
theorem KeyFn.name : KeyFn 85 P.nameS :=
  ⟨enters_of Tryz.func85 (by kernel_rfl) rfl, fun s hs w _ => (isName_any s hs w).mono fun e w' ⟨h1, h2⟩ => ⟨h1, by subst h2; exact Below.refl _ _⟩⟩
theorem KeyFn.path : KeyFn 117 P.pathS := ⟨enters_of Tryz.func117 (by kernel_rfl) rfl, fun s hs w hw => isPath_any s hs w hw⟩

theorem checkPair_any (g : Nat) (p : ByteArray → Bool) (hg : KeyFn g p) (k v : ByteArray) (hk : k.size ≤ 4294967280) (hv : v.size ≤ 4294967280) (w : World) (hw : Good w) :
    Calls Tryz.prog 182 #[.agg #[.string k, .string v], .func (.func g) #[] #[]] w fun e w' =>
      e = .returned (.int .i64 (if p k then (if P.valueS v then 0 else 2) else 5)) ∧ Below w.heap.size w w' := by
  obtain ⟨eg, hp⟩ := hg
  have HK := fun W hW => hp k hk W hW
  have HV := fun W => isValue_any v hv W
  cases h1 : p k <;> cases h2 : P.valueS v <;> rw [h1] at HK <;> rw [h2] at HV
  all_goals
    replace HK := Lib.hid HK
    replace HV := Lib.hid HV
    have Hw := Lib.hid hw
    clear hp hw h1 h2
    go_enter Tryz.func182, Tryz.ntmps182
    go_wp2_with fail
    refine (HK.out _ (Hw.out.mono (below_alloc _ _))).mono ?_
    rintro e w1 ⟨rfl, hb⟩
    obtain ⟨c0, c1, hlt⟩ := hrow2 ((HasRow.new w _ _).below hb)
    have HB := Lib.hid (bstep (below_alloc _ _) hb)
    clear hb
    go_wp2_with (go_at_call 247; refine (HV.out _).mono ?_; rintro e w' ⟨rfl, rfl⟩)
    go_ret
    exact ⟨rfl, HB.out⟩

theorem checkFact_any (x : P.St) (hk : x.k.size ≤ 4294967280) (hv : x.v.size ≤ 4294967280) (w : World) (hw : Good w) :
    Calls Tryz.prog 95 #[.agg #[.string x.k, .string x.v]] w fun e w' => e = .returned (.int .i64 (P.factErr x)) ∧ Below w.heap.size w w' := by
  have H : ∀ W, Good W → Calls Tryz.prog 182 #[.agg #[.string x.k, .string x.v], .func (.func 85) #[] #[]] W fun e w' => e = .returned (.int .i64 (P.factErr x)) ∧ Below W.heap.size W w' :=
    fun W hW => checkPair_any _ _ KeyFn.name x.k x.v hk hv W hW
  generalize P.factErr x = r at *
  replace H := Lib.hid H
  have Hw := Lib.hid hw
  clear hw
  go_enter Tryz.func95, Tryz.ntmps95
  go_wp2_with fail
  refine (H.out _ (Hw.out.mono (below_alloc _ _))).mono ?_
  rintro e w1 ⟨rfl, hb⟩
  have HB := Lib.hid (bstep (below_alloc _ _) hb)
  clear hb
  go_wp2_with fail
  go_ret
  exact ⟨rfl, HB.out⟩
theorem checkSetting_any (x : P.St) (hk : x.k.size ≤ 4294967280) (hv : x.v.size ≤ 4294967280) (w : World) (hw : Good w) :
    Calls Tryz.prog 100 #[.agg #[.string x.k, .string x.v]] w fun e w' => e = .returned (.int .i64 (P.setErr x)) ∧ Below w.heap.size w w' := by
  have H : ∀ W, Good W → Calls Tryz.prog 182 #[.agg #[.string x.k, .string x.v], .func (.func 117) #[] #[]] W fun e w' => e = .returned (.int .i64 (P.setErr x)) ∧ Below W.heap.size W w' :=
    fun W hW => checkPair_any _ _ KeyFn.path x.k x.v hk hv W hW
  generalize P.setErr x = r at *
  replace H := Lib.hid H
  have Hw := Lib.hid hw
  clear hw
  go_enter Tryz.func100, Tryz.ntmps100
  go_wp2_with fail
  refine (H.out _ (Hw.out.mono (below_alloc _ _))).mono ?_
  rintro e w1 ⟨rfl, hb⟩
  have HB := Lib.hid (bstep (below_alloc _ _) hb)
  clear hb
  go_wp2_with fail
  go_ret
  exact ⟨rfl, HB.out⟩
theorem checkFile_any (x : P.Fi) (hk : x.p.size ≤ 4294967280) (hv : x.d.size ≤ 4294967280) (w : World) (hw : Good w) :
    Calls Tryz.prog 98 #[.agg #[.string x.p, .string x.d, .bool x.r]] w fun e w' => e = .returned (.int .i64 (P.fileErr x)) ∧ Below w.heap.size w w' := by
  have H := fun W hW => isPath_any x.p hk W hW
  unfold P.fileErr
  cases h1 : P.pathS x.p <;> rw [h1] at H <;> by_cases h2 : x.d.size ≤ 65536
  all_goals
    replace H := Lib.hid H
    have HV := Lib.hid h2
    have Hw := Lib.hid hw
    clear hw h1
    first | replace h2 : (x.d.size : Int) ≤ 65536 := by omega
          | replace h2 : (65536 : Int) < (x.d.size : Int) := by omega
    go_enter Tryz.func98, Tryz.ntmps98
    go_wp2_with fail
    refine (H.out _ (Hw.out.mono (below_alloc _ _))).mono ?_
    rintro e w1 ⟨rfl, hb⟩
    obtain ⟨c0, c1, c2, hlt⟩ := hrow3 ((HasRow.new w _ _).below hb)
    have HB := Lib.hid (bstep (below_alloc _ _) hb)
    clear hb
    go_wp2_with fail
    go_ret
    exact ⟨by simp [], HB.out⟩
theorem checkService_any (x : P.Sv) (hk : x.n.size ≤ 4294967280) (hv : x.p.size ≤ 4294967280) (w : World) (hw : Good w) :
    Calls Tryz.prog 103 #[.agg #[.string x.n, .string x.p, .bool x.a, .bool x.o]] w fun e w' => e = .returned (.int .i64 (P.svcErr x)) ∧ Below w.heap.size w w' := by
  have H := fun W => isName_any x.n hk W
  have H2 := fun W hW => isPath_any x.p hv W hW
  unfold P.svcErr
  cases h1 : P.nameS x.n <;> rw [h1] at H <;> cases h2 : P.pathS x.p <;> rw [h2] at H2
  all_goals
    replace H := Lib.hid H
    replace H2 := Lib.hid H2
    have Hw := Lib.hid hw
    have HA := Lib.hid (below_alloc w (.cells #[.string x.n, .string x.p, .bool x.a, .bool x.o] 46))
    clear hw h1 h2
    go_enter Tryz.func103, Tryz.ntmps103
    go_wp2_with (first | (go_at_call 85; refine (H.out _).mono ?_; rintro e w' ⟨rfl, rfl⟩) | (go_at_call 117; refine (H2.out _ (Hw.out.mono HA.out)).mono ?_; rintro e w1 ⟨rfl, hb⟩))
    go_ret
    exact ⟨rfl, by first | exact bstep HA.out hb | exact HA.out⟩
end Go.Proofs.YtomikcemiacjmaaGreatDoor

namespace Go.Proofs.YtomikcemiacjmaaGreatDoor
open Go.RowKit Go.Shelf

/-- the settings L lie where the slice (a, cap) says, in blocks that lay in w -/
structure StsAt (m : Nat) (w : World) (a : Option Addr) (L : List P.St) (cap : Nat) : Prop where
  le : L.length ≤ cap
  at_ : L ≠ [] → ∃ b off, a = some ⟨b, off, none⟩ ∧ b < m ∧ ∀ k (hk : k < L.length), w.cell? ⟨b, off + k * 2, none⟩ = some (.string L[k].k) ∧ w.cell? ⟨b, off + k * 2 + 1, none⟩ = some (.string L[k].v)
theorem StsAt.below {m : Nat} {w w' : World} {a : Option Addr} {L : List P.St} {cap : Nat} (h : StsAt m w a L cap) (hb : Below m w w') : StsAt m w' a L cap :=
  ⟨h.le, fun hn => let ⟨b, off, e, hbm, hc⟩ := h.at_ hn; ⟨b, off, e, hbm, fun k hk => ⟨(hb.cell (p := ⟨b, off + k * 2, none⟩) hbm).trans (hc k hk).1, (hb.cell (p := ⟨b, off + k * 2 + 1, none⟩) hbm).trans (hc k hk).2⟩⟩⟩
theorem ne_nil_of_lt {α : Type} {L : List α} {k : Nat} (h : k < L.length) : L ≠ [] := fun e => by subst e; simp at h
def stsFit (L : List P.St) : Prop := ∀ k (hk : k < L.length), L[k].k.size ≤ 4294967280 ∧ L[k].v.size ≤ 4294967280

/-- a function on settings that answers the error f -/
def StFn (g : Nat) (f : P.St → Int) : Prop :=
  (∀ args w, (callFunc g args).run Tryz.prog w = .ok (.enter g args) w) ∧
  ∀ (x : P.St), x.k.size ≤ 4294967280 → x.v.size ≤ 4294967280 → ∀ (w : World), Good w → Calls Tryz.prog g #[.agg #[.string x.k, .string x.v]] w fun e w' => e = .returned (.int .i64 (f x)) ∧ Below w.heap.size w w'
theorem StFn.fact : StFn 95 P.factErr := ⟨enters_of Tryz.func95 (by kernel_rfl) rfl, fun x h1 h2 w hw => checkFact_any x h1 h2 w hw⟩
theorem StFn.setting : StFn 100 P.setErr := ⟨enters_of Tryz.func100 (by kernel_rfl) rfl, fun x h1 h2 w hw => checkSetting_any x h1 h2 w hw⟩

theorem keyOf_any (k v : ByteArray) (w : World) : Calls Tryz.prog 94 #[.agg #[.string k, .string v]] w fun e w' => e = .returned (.string k) ∧ w' = w.alloc (.cells #[.string k, .string v] 62) := by
  go_enter Tryz.func94, Tryz.ntmps94
  go_wp2
  go_ret
  exact ⟨rfl, rfl⟩
end Go.Proofs.YtomikcemiacjmaaGreatDoor

namespace Go.Proofs.YtomikcemiacjmaaGreatDoor
open Go.RowKit Go.Shelf

theorem keep5 {w W W' : World} {p0 p1 p2 p3 : Addr} {v0 v1 v2 v3 : Value} (h : W.cell? p0 = some v0 ∧ W.cell? p1 = some v1 ∧ W.cell? p2 = some v2 ∧ W.cell? p3 = some v3 ∧ Below w.heap.size w W) (hq : Below W.heap.size W W') :
    W'.cell? p0 = some v0 ∧ W'.cell? p1 = some v1 ∧ W'.cell? p2 = some v2 ∧ W'.cell? p3 = some v3 ∧ Below w.heap.size w W' :=
  ⟨cell_keep hq h.1, cell_keep hq h.2.1, cell_keep hq h.2.2.1, cell_keep hq h.2.2.2.1, bstep h.2.2.2.2 hq⟩
theorem start5 {w W : World} {p0 p1 p2 p3 : Addr} {v0 v1 v2 v3 : Value} (h : W.cell? p0 = some v0 ∧ W.cell? p1 = some v1 ∧ W.cell? p2 = some v2 ∧ W.cell? p3 = some v3 ∧ Below w.heap.size w W) :
    W.drew.cell? p0 = some v0 ∧ W.drew.cell? p1 = some v1 ∧ W.drew.cell? p2 = some v2 ∧ W.drew.cell? p3 = some v3 ∧ Below w.heap.size w W.drew := ⟨h.1, h.2.1, h.2.2.1, h.2.2.2.1, h.2.2.2.2.drew⟩

set_option maxHeartbeats 8000000 in
theorem checkListS_any (ga : Nat) (f : P.St → Int) (hf : StFn ga f) (L : List P.St) (a : Option Addr) (cap : Nat) (hl : L.length ≤ 4294967280) (hs : stsFit L) (w : World) (hw : Good w) (hm : StsAt w.heap.size w a L cap) :
    Calls Tryz.prog 93 #[.slice a L.length cap, .func (.func 94) #[] #[], .func (.func ga) #[] #[], .slice none 0 0] w fun e w' =>
      e = .returned (.int .i64 (P.listErr f P.St.k P.noMore L)) ∧ Below w.heap.size w w' := by
  obtain ⟨eg, hp⟩ := hf
  have eK := enters_of Tryz.func94 (by kernel_rfl) rfl
  have HF := Lib.hid hp
  have HM := Lib.hid hm
  have Hw := Lib.hid hw
  have HS := Lib.hid hs
  clear hp hm hw hs
  go_enter Tryz.func93, Tryz.ntmps93
  go_wp2
  go_loopw [17] (fun i wr => ∃ k : Nat, k ≤ L.length ∧ i = .int .i64 k ∧ Aside (∀ j, j < k → P.stepE f P.St.k P.noMore L j = 0) ∧ Hid (Below w.heap.size w wr)) (fun i _ => L.length - (intOf i).toNat)
  case atStart => exact ⟨0, Nat.zero_le _, rfl, aside (fun j h => absurd h (by omega)), Lib.hid (Below.refl _ _)⟩
  case round =>
    obtain ⟨k, hk, rfl, A, HB⟩ := hrel
    by_cases hlt : k < L.length
    · obtain ⟨b, off, rfl, hbm, hc⟩ := (HM.out.below HB.out).at_ (ne_nil_of_lt hlt)
      obtain ⟨c0, c1⟩ := hc k hlt
      have HC := Lib.hid (HM.out.at_ (ne_nil_of_lt hlt))
      have hstep := P.stepE_at f P.St.k P.noMore L hlt
      have HK := fun W hW => HF.out L[k] (HS.out k hlt).1 (HS.out k hlt).2 W hW
      by_cases he : f L[k] = 0
      · rw [he] at HK hstep
        rw [P.orE_zero, show P.noMore k = 0 from rfl] at hstep
        have Hst := Lib.hid hstep
        replace HK := Lib.hid HK
        clear he hstep hc
        go_wp2_with fail
        refine (HK.out _ ((Hw.out.mono HB.out).mono (below_alloc _ _))).mono ?_
        rintro e w2 ⟨rfl, hb2⟩
        have HRB := Lib.hid ((HasRow.new wr _ _).below hb2)
        have HB2 := Lib.hid (bstep (bstep HB.out (below_alloc _ _)) hb2)
        clear hb2 c0 c1 HK
        obtain ⟨c0, c1, hlt2⟩ := hrow2 HRB.out
        go_wp2_with fail
        by_cases hk0 : k = 0
        · have HZ1 : Hid (∀ j, j < k + 1 → P.stepE f P.St.k P.noMore L j = 0) := Lib.hid fun j hj => by
            obtain rfl : j = 0 := by omega
            subst hk0
            rw [Hst.out]; rfl
          have q : ¬ 0 < k := by omega
          clear Hst hk0 A
          go_region
          have HB3 := Lib.hid HB2.out.drew
          go_wp2_with fail
          refine wp_loop_rounds 1 ?_
          rw [rounds_succ]
          go_wp2
          go_roundw
          case rel => exact ⟨k + 1, by omega, by go_num, aside HZ1.out, HB3⟩
          case measure => simp [intOf]; omega
        · obtain ⟨m, hm⟩ : ∃ m, k = m + 1 := ⟨k - 1, by omega⟩
          have hk1 : m < L.length := by omega
          obtain ⟨b', off', hbo, _, hc'⟩ := HC.out
          injection hbo with hbo
          injection hbo with hbo1 hbo2 _
          subst hbo1 hbo2
          obtain ⟨d0, d1⟩ := hc' m hk1
          replace d0 := cell_keep HB2.out d0
          replace d1 := cell_keep HB2.out d1
          have HN : Hid (P.stepE f P.St.k P.noMore L k = if P.leS L[k].k L[m].k then 7 else 0) := Lib.hid (by
            subst hm
            rw [Hst.out, P.orderE_succ _ _ hlt]; unfold P.orE; split <;> simp_all)
          have q : 0 < k := by omega
          have e3 : IntKind.i64.wrap ((k : Int) - 1) = (m : Int) := by rw [show (k : Int) - 1 = (m : Int) by omega, IntKind.wrap_i64]; omega
          have b0 : (0 : Int) ≤ (m : Int) := Int.natCast_nonneg m
          have b1 : (m : Int) < (L.length : Int) := by omega
          have HX : Hid (P.leS L[k].k L[m].k = true → P.listErr f P.St.k P.noMore L = 7) := Lib.hid fun h => by
            unfold P.listErr
            rw [P.firstErr_at hlt A.out (by rw [HN.out, if_pos h]; decide), HN.out, if_pos h]
          have HZ : Hid (P.leS L[k].k L[m].k = false → ∀ j, j < k + 1 → P.stepE f P.St.k P.noMore L j = 0) := Lib.hid fun h j hj => by
            by_cases e : j = k
            · subst e; rw [HN.out, h]; rfl
            · exact A.out j (by omega)
          clear hm hk0 hc' Hst A HN
          generalize L[k] = x at *
          generalize L[m] = y at *
          have hS := start5 ⟨c0, c1, d0, d1, HB2.out⟩
          clear c0 c1 d0 d1
          have HY : Hid (∀ k v W, Calls Tryz.prog 94 #[.agg #[.string k, .string v]] W fun e w' => e = .returned (.string k) ∧ Below W.heap.size W w') :=
            Lib.hid (fun k v W => (keyOf_any k v W).mono fun e w' ⟨h1, h2⟩ => ⟨h1, by rw [h2]; exact below_alloc _ _⟩)
          go_region_held3 (fun W => W.cell? ⟨wr.heap.size, 0, none⟩ = some (.string x.k) ∧ W.cell? ⟨wr.heap.size, 1, none⟩ = some (.string x.v) ∧ W.cell? ⟨b, off + m * 2, none⟩ = some (.string y.k) ∧ W.cell? ⟨b, off + m * 2 + 1, none⟩ = some (.string y.v) ∧ Below w.heap.size w W)
            (first | with_reducible assumption | exact keep5 (by with_reducible assumption) (by with_reducible assumption))
            (first | (go_at_call 94; refine (HY.out _ _ _).mono ?_; rintro e w' ⟨rfl, hb1⟩))
          go_wp2_with fail
          · have hle : P.leS x.k y.k = true := by
              unfold P.leS
              have : Op.bytesLess x.k.toList y.k.toList = true ∨ (x.k.toList == y.k.toList) = true := by assumption
              simpa using this
            have HB3 := Lib.hid (by with_reducible assumption : _ ∧ _ ∧ _ ∧ _ ∧ Below w.heap.size w _).2.2.2.2
            go_ret
            exact ⟨by rw [HX.out hle]; rfl, HB3.out⟩
          · have hle : P.leS x.k y.k = false := by
              unfold P.leS
              have : Op.bytesLess x.k.toList y.k.toList = false ∧ (x.k.toList == y.k.toList) = false := by assumption
              rw [this.1, this.2]; rfl
            have HB3 := Lib.hid (by with_reducible assumption : _ ∧ _ ∧ _ ∧ _ ∧ Below w.heap.size w _).2.2.2.2
            refine wp_loop_rounds 1 ?_
            rw [rounds_succ]
            go_wp2
            go_roundw
            case rel => exact ⟨k + 1, by omega, by go_num, aside (HZ.out hle), HB3⟩
            case measure => simp [intOf]; omega
      · have HV : Hid (P.listErr f P.St.k P.noMore L = f L[k]) := Lib.hid (by
          unfold P.listErr
          rw [P.firstErr_at hlt A.out (by rw [hstep, P.orE_ne he]; exact he), hstep, P.orE_ne he])
        have g1 : (f L[k] != 0) = true := by simpa using he
        replace HK := Lib.hid HK
        clear hstep hc A HF
        generalize f L[k] = ee at *
        go_wp2_with fail
        refine (HK.out _ ((Hw.out.mono HB.out).mono (below_alloc _ _))).mono ?_
        rintro e w2 ⟨rfl, hb2⟩
        have HB2 := Lib.hid (bstep (bstep HB.out (below_alloc _ _)) hb2)
        clear hb2
        go_wp2_with fail
        go_ret
        exact ⟨by rw [HV.out]; rfl, HB2.out⟩
    · have hkl : k = L.length := by omega
      subst hkl
      have HV := Lib.hid (P.firstErr_none A.out)
      go_wp2_with fail
      go_ret
      exact ⟨by unfold P.listErr; rw [HV.out]; rfl, HB.out⟩
end Go.Proofs.YtomikcemiacjmaaGreatDoor

namespace Go.Proofs.YtomikcemiacjmaaGreatDoor
open Go.RowKit Go.Shelf

/-- the services L lie where the slice (a, cap) says, in blocks that lay in w -/
structure SvsAt (m : Nat) (w : World) (a : Option Addr) (L : List P.Sv) (cap : Nat) : Prop where
  le : L.length ≤ cap
  at_ : L ≠ [] → ∃ b off, a = some ⟨b, off, none⟩ ∧ b < m ∧ ∀ k (hk : k < L.length), w.cell? ⟨b, off + k * 4, none⟩ = some (.string L[k].n) ∧ w.cell? ⟨b, off + k * 4 + 1, none⟩ = some (.string L[k].p) ∧ w.cell? ⟨b, off + k * 4 + 1 + 1, none⟩ = some (.bool L[k].a) ∧ w.cell? ⟨b, off + k * 4 + 1 + 1 + 1, none⟩ = some (.bool L[k].o)
theorem SvsAt.below {m : Nat} {w w' : World} {a : Option Addr} {L : List P.Sv} {cap : Nat} (h : SvsAt m w a L cap) (hb : Below m w w') : SvsAt m w' a L cap :=
  ⟨h.le, fun hn => let ⟨b, off, e, hbm, hc⟩ := h.at_ hn; ⟨b, off, e, hbm, fun k hk => ⟨(hb.cell (p := ⟨b, off + k * 4, none⟩) hbm).trans (hc k hk).1, (hb.cell (p := ⟨b, off + k * 4 + 1, none⟩) hbm).trans (hc k hk).2.1, (hb.cell (p := ⟨b, off + k * 4 + 1 + 1, none⟩) hbm).trans (hc k hk).2.2.1, (hb.cell (p := ⟨b, off + k * 4 + 1 + 1 + 1, none⟩) hbm).trans (hc k hk).2.2.2⟩⟩⟩
def svsFit (L : List P.Sv) : Prop := ∀ k (hk : k < L.length), L[k].n.size ≤ 4294967280 ∧ L[k].p.size ≤ 4294967280

theorem nameOf_any (n p : ByteArray) (x y : Bool) (w : World) : Calls Tryz.prog 102 #[.agg #[.string n, .string p, .bool x, .bool y]] w fun e w' => e = .returned (.string n) ∧ w' = w.alloc (.cells #[.string n, .string p, .bool x, .bool y] 46) := by
  go_enter Tryz.func102, Tryz.ntmps102
  go_wp2
  go_ret
  exact ⟨rfl, rfl⟩

theorem keep9 {w W W' : World} {p0 p1 p2 p3 p4 p5 p6 p7 : Addr} {v0 v1 v2 v3 v4 v5 v6 v7 : Value} (h : W.cell? p0 = some v0 ∧ W.cell? p1 = some v1 ∧ W.cell? p2 = some v2 ∧ W.cell? p3 = some v3 ∧ W.cell? p4 = some v4 ∧ W.cell? p5 = some v5 ∧ W.cell? p6 = some v6 ∧ W.cell? p7 = some v7 ∧ Below w.heap.size w W) (hq : Below W.heap.size W W') :
    W'.cell? p0 = some v0 ∧ W'.cell? p1 = some v1 ∧ W'.cell? p2 = some v2 ∧ W'.cell? p3 = some v3 ∧ W'.cell? p4 = some v4 ∧ W'.cell? p5 = some v5 ∧ W'.cell? p6 = some v6 ∧ W'.cell? p7 = some v7 ∧ Below w.heap.size w W' :=
  ⟨cell_keep hq h.1, cell_keep hq h.2.1, cell_keep hq h.2.2.1, cell_keep hq h.2.2.2.1, cell_keep hq h.2.2.2.2.1, cell_keep hq h.2.2.2.2.2.1, cell_keep hq h.2.2.2.2.2.2.1, cell_keep hq h.2.2.2.2.2.2.2.1, bstep h.2.2.2.2.2.2.2.2 hq⟩
theorem start9 {w W : World} {p0 p1 p2 p3 p4 p5 p6 p7 : Addr} {v0 v1 v2 v3 v4 v5 v6 v7 : Value} (h : W.cell? p0 = some v0 ∧ W.cell? p1 = some v1 ∧ W.cell? p2 = some v2 ∧ W.cell? p3 = some v3 ∧ W.cell? p4 = some v4 ∧ W.cell? p5 = some v5 ∧ W.cell? p6 = some v6 ∧ W.cell? p7 = some v7 ∧ Below w.heap.size w W) :
    W.drew.cell? p0 = some v0 ∧ W.drew.cell? p1 = some v1 ∧ W.drew.cell? p2 = some v2 ∧ W.drew.cell? p3 = some v3 ∧ W.drew.cell? p4 = some v4 ∧ W.drew.cell? p5 = some v5 ∧ W.drew.cell? p6 = some v6 ∧ W.drew.cell? p7 = some v7 ∧ Below w.heap.size w W.drew :=
  ⟨h.1, h.2.1, h.2.2.1, h.2.2.2.1, h.2.2.2.2.1, h.2.2.2.2.2.1, h.2.2.2.2.2.2.1, h.2.2.2.2.2.2.2.1, h.2.2.2.2.2.2.2.2.drew⟩

set_option maxHeartbeats 8000000 in
theorem checkListV_any (L : List P.Sv) (a : Option Addr) (cap : Nat) (hl : L.length ≤ 4294967280) (hs : svsFit L) (w : World) (hw : Good w) (hm : SvsAt w.heap.size w a L cap) :
    Calls Tryz.prog 101 #[.slice a L.length cap, .func (.func 102) #[] #[], .func (.func 103) #[] #[], .slice none 0 0] w fun e w' =>
      e = .returned (.int .i64 (P.listErr P.svcErr P.Sv.n P.noMore L)) ∧ Below w.heap.size w w' := by
  have eg := enters_of Tryz.func103 (by kernel_rfl) rfl
  have hp := fun (x : P.Sv) h1 h2 w hw => checkService_any x h1 h2 w hw
  have eK := enters_of Tryz.func102 (by kernel_rfl) rfl
  have HF := Lib.hid hp
  have HM := Lib.hid hm
  have Hw := Lib.hid hw
  have HS := Lib.hid hs
  clear hp hm hw hs
  go_enter Tryz.func101, Tryz.ntmps101
  go_wp2
  go_loopw [17] (fun i wr => ∃ k : Nat, k ≤ L.length ∧ i = .int .i64 k ∧ Aside (∀ j, j < k → P.stepE P.svcErr P.Sv.n P.noMore L j = 0) ∧ Hid (Below w.heap.size w wr)) (fun i _ => L.length - (intOf i).toNat)
  case atStart => exact ⟨0, Nat.zero_le _, rfl, aside (fun j h => absurd h (by omega)), Lib.hid (Below.refl _ _)⟩
  case round =>
    obtain ⟨k, hk, rfl, A, HB⟩ := hrel
    by_cases hlt : k < L.length
    · obtain ⟨b, off, rfl, hbm, hc⟩ := (HM.out.below HB.out).at_ (ne_nil_of_lt hlt)
      obtain ⟨c0, c1, c2, c3⟩ := hc k hlt
      have HC := Lib.hid (HM.out.at_ (ne_nil_of_lt hlt))
      have hstep := P.stepE_at P.svcErr P.Sv.n P.noMore L hlt
      have HK := fun W hW => HF.out L[k] (HS.out k hlt).1 (HS.out k hlt).2 W hW
      by_cases he : P.svcErr L[k] = 0
      · rw [he] at HK hstep
        rw [P.orE_zero, show P.noMore k = 0 from rfl] at hstep
        have Hst := Lib.hid hstep
        replace HK := Lib.hid HK
        clear he hstep hc
        go_wp2_with fail
        refine (HK.out _ ((Hw.out.mono HB.out).mono (below_alloc _ _))).mono ?_
        rintro e w2 ⟨rfl, hb2⟩
        have HRB := Lib.hid ((HasRow.new wr _ _).below hb2)
        have HB2 := Lib.hid (bstep (bstep HB.out (below_alloc _ _)) hb2)
        clear hb2 c0 c1 c2 c3 HK
        obtain ⟨c0, c1, c2, c3, hlt2⟩ := hrow4 HRB.out
        go_wp2_with fail
        by_cases hk0 : k = 0
        · have HZ1 : Hid (∀ j, j < k + 1 → P.stepE P.svcErr P.Sv.n P.noMore L j = 0) := Lib.hid fun j hj => by
            obtain rfl : j = 0 := by omega
            subst hk0
            rw [Hst.out]; rfl
          have q : ¬ 0 < k := by omega
          clear Hst hk0 A
          go_region
          have HB3 := Lib.hid HB2.out.drew
          go_wp2_with fail
          refine wp_loop_rounds 1 ?_
          rw [rounds_succ]
          go_wp2
          go_roundw
          case rel => exact ⟨k + 1, by omega, by go_num, aside HZ1.out, HB3⟩
          case measure => simp [intOf]; omega
        · obtain ⟨m, hm⟩ : ∃ m, k = m + 1 := ⟨k - 1, by omega⟩
          have hk1 : m < L.length := by omega
          obtain ⟨b', off', hbo, _, hc'⟩ := HC.out
          injection hbo with hbo
          injection hbo with hbo1 hbo2 _
          subst hbo1 hbo2
          obtain ⟨d0, d1, d2, d3⟩ := hc' m hk1
          replace d0 := cell_keep HB2.out d0
          replace d1 := cell_keep HB2.out d1
          replace d2 := cell_keep HB2.out d2
          replace d3 := cell_keep HB2.out d3
          have HN : Hid (P.stepE P.svcErr P.Sv.n P.noMore L k = if P.leS L[k].n L[m].n then 7 else 0) := Lib.hid (by
            subst hm
            rw [Hst.out, P.orderE_succ _ _ hlt]; unfold P.orE; split <;> simp_all)
          have q : 0 < k := by omega
          have e3 : IntKind.i64.wrap ((k : Int) - 1) = (m : Int) := by rw [show (k : Int) - 1 = (m : Int) by omega, IntKind.wrap_i64]; omega
          have b0 : (0 : Int) ≤ (m : Int) := Int.natCast_nonneg m
          have b1 : (m : Int) < (L.length : Int) := by omega
          have HX : Hid (P.leS L[k].n L[m].n = true → P.listErr P.svcErr P.Sv.n P.noMore L = 7) := Lib.hid fun h => by
            unfold P.listErr
            rw [P.firstErr_at hlt A.out (by rw [HN.out, if_pos h]; decide), HN.out, if_pos h]
          have HZ : Hid (P.leS L[k].n L[m].n = false → ∀ j, j < k + 1 → P.stepE P.svcErr P.Sv.n P.noMore L j = 0) := Lib.hid fun h j hj => by
            by_cases e : j = k
            · subst e; rw [HN.out, h]; rfl
            · exact A.out j (by omega)
          clear hm hk0 hc' Hst A HN
          generalize L[k] = x at *
          generalize L[m] = y at *
          have hS := start9 ⟨c0, c1, c2, c3, d0, d1, d2, d3, HB2.out⟩
          clear c0 c1 c2 c3 d0 d1 d2 d3
          have HY : Hid (∀ n p x y W, Calls Tryz.prog 102 #[.agg #[.string n, .string p, .bool x, .bool y]] W fun e w' => e = .returned (.string n) ∧ Below W.heap.size W w') :=
            Lib.hid (fun n p x y W => (nameOf_any n p x y W).mono fun e w' ⟨h1, h2⟩ => ⟨h1, by rw [h2]; exact below_alloc _ _⟩)
          go_region_held3 (fun W => W.cell? ⟨wr.heap.size, 0, none⟩ = some (.string x.n) ∧ W.cell? ⟨wr.heap.size, 1, none⟩ = some (.string x.p) ∧ W.cell? ⟨wr.heap.size, 2, none⟩ = some (.bool x.a) ∧ W.cell? ⟨wr.heap.size, 3, none⟩ = some (.bool x.o) ∧
            W.cell? ⟨b, off + m * 4, none⟩ = some (.string y.n) ∧ W.cell? ⟨b, off + m * 4 + 1, none⟩ = some (.string y.p) ∧ W.cell? ⟨b, off + m * 4 + 1 + 1, none⟩ = some (.bool y.a) ∧ W.cell? ⟨b, off + m * 4 + 1 + 1 + 1, none⟩ = some (.bool y.o) ∧ Below w.heap.size w W)
            (first | with_reducible assumption | exact keep9 (by with_reducible assumption) (by with_reducible assumption))
            (first | (go_at_call 102; refine (HY.out _ _ _ _ _).mono ?_; rintro e w' ⟨rfl, hb1⟩))
          go_wp2_with fail
          · have hle : P.leS x.n y.n = true := by
              unfold P.leS
              have : Op.bytesLess x.n.toList y.n.toList = true ∨ (x.n.toList == y.n.toList) = true := by assumption
              simpa using this
            have HB3 := Lib.hid (by with_reducible assumption : _ ∧ _ ∧ _ ∧ _ ∧ _ ∧ _ ∧ _ ∧ _ ∧ Below w.heap.size w _).2.2.2.2.2.2.2.2
            go_ret
            exact ⟨by rw [HX.out hle]; rfl, HB3.out⟩
          · have hle : P.leS x.n y.n = false := by
              unfold P.leS
              have : Op.bytesLess x.n.toList y.n.toList = false ∧ (x.n.toList == y.n.toList) = false := by assumption
              rw [this.1, this.2]; rfl
            have HB3 := Lib.hid (by with_reducible assumption : _ ∧ _ ∧ _ ∧ _ ∧ _ ∧ _ ∧ _ ∧ _ ∧ Below w.heap.size w _).2.2.2.2.2.2.2.2
            refine wp_loop_rounds 1 ?_
            rw [rounds_succ]
            go_wp2
            go_roundw
            case rel => exact ⟨k + 1, by omega, by go_num, aside (HZ.out hle), HB3⟩
            case measure => simp [intOf]; omega
      · have HV : Hid (P.listErr P.svcErr P.Sv.n P.noMore L = P.svcErr L[k]) := Lib.hid (by
          unfold P.listErr
          rw [P.firstErr_at hlt A.out (by rw [hstep, P.orE_ne he]; exact he), hstep, P.orE_ne he])
        have g1 : (P.svcErr L[k] != 0) = true := by simpa using he
        replace HK := Lib.hid HK
        clear hstep hc A HF
        generalize P.svcErr L[k] = ee at *
        go_wp2_with fail
        refine (HK.out _ ((Hw.out.mono HB.out).mono (below_alloc _ _))).mono ?_
        rintro e w2 ⟨rfl, hb2⟩
        have HB2 := Lib.hid (bstep (bstep HB.out (below_alloc _ _)) hb2)
        clear hb2
        go_wp2_with fail
        go_ret
        exact ⟨by rw [HV.out]; rfl, HB2.out⟩
    · have hkl : k = L.length := by omega
      subst hkl
      have HV := Lib.hid (P.firstErr_none A.out)
      go_wp2_with fail
      go_ret
      exact ⟨by unfold P.listErr; rw [HV.out]; rfl, HB.out⟩
end Go.Proofs.YtomikcemiacjmaaGreatDoor
