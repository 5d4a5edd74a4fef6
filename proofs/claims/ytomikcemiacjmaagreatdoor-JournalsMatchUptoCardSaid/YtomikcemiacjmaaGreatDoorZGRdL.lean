/- Walks: disk's readLines of the text of changes. -/
/- Walks: outref1's ChangeError of any change. -/
/- Walks: the first error among changes: disk's checkChanges, outref1's ChangesError. -/
/- Walks: disk's ParseChanges of whatever text. -/
/- Plain: what is written line by line is read. -/
/- Plain: the text of a right machine is read as this machine. -/
/- Plain: what PrintChanges writes is what ParseChanges reads. -/
/- Walks: outref1's ParseChanges of whatever text. -/
/- Walks: disk's PrintChanges. -/
import Derived.Test.YtomikcemiacjmaaGreatDoorZHParts
import Derived.Test.YtomikcemiacjmaaGreatDoorZUSvc
import Derived.Test.YtomikcemiacjmaaGreatDoorZGErr
import Derived.Test.YtomikcemiacjmaaGreatDoorZGErr2
import Derived.Test.YtomikcemiacjmaaGreatDoorZGPure
import Derived.Test.YtomikcemiacjmaaGreatDoorZUSmall
import Derived.Test.YtomikcemiacjmaaGreatDoorZTRPrint
import Derived.Test.YtomikcemiacjmaaGreatDoorZTPure

namespace Go.Proofs.YtomikcemiacjmaaGreatDoor
open Go.RowKit Go.Lib Go.Shelf Go.Maps

set_option maxRecDepth 100000 in
set_option maxHeartbeats 8000000 in
theorem pchanges1_any (line : ByteArray) (hs : line.size ≤ 10000000) (base N : Nat) (a : Option Addr) (c : Nat) (L : List P.Chg) (w : World) (hw : Good w) (he : Es w) (h : CS base w N a c L) (hl : L.length ≤ 10000000) :
    Calls Tryz.prog 162 #[.string line, .pointer (some ⟨N, 0, none⟩)] w fun e w' => ∃ a' c', e = .returned (.bool (P.chRead line).2) ∧ CS base w' N a' c' (L ++ [(P.chRead line).1]) ∧ Below N w w' := by
  have HR := Lib.hid (readChange_any line hs w hw he)
  have HS := Lib.hid h
  have HLe : Hid (L.length + 1 ≤ maxLen ∧ (L.length + 1) * 120 ≤ 140737488355328) := Lib.hid (by unfold maxLen; omega)
  obtain ⟨i0, hi, hz0, hz1, hz2⟩ := info_parts info73
  clear hw he h hl hs
  generalize P.chRead line = y at *
  obtain ⟨⟨kd, ⟨fp, fd, fr⟩, ⟨sk, sv⟩, ⟨vn, vp, va, vo⟩⟩, ok⟩ := y
  unfold chAgg chA at HR
  simp only at HR ⊢
  go_enter Tryz.func162, Tryz.ntmps162
  go_wp2_with (first
    | (go_at_call 163; refine HR.out.mono ?_; rintro e w1 ⟨rfl, hb1⟩; have HB5 := Lib.hid (bstep hb1 (below_alloc w1 (.cells #[.int .i64 kd, .string fp, .string fd, .bool fr, .string sk, .string sv, .string vn, .string vp, .bool va, .bool vo] 73))); have HS5 := Lib.hid (HS.out.below HB5.out); have r0 := HS5.out.row.cell 0)
    | (at_builtin; refine wpList_append_sl5 rfl _ _ 27 rfl base 73 i0 _ 10 120 Tryz.underlying27 hi hz0 hz1 hz2 rfl (by decide) _ _ _ rfl (own_below (W := w1.alloc (.cells #[.int .i64 kd, .string fp, .string fd, .bool fr, .string sk, .string sv, .string vn, .string vp, .bool va, .bool vo] 73)) HS5.out.own (below_alloc _ (.cells #[.int .i64 kd, .string fp, .string fd, .bool fr, .string sk, .string sv, .string vn, .string vp, .bool va, .bool vo] 73))) ⟨w1.heap.size + 1, 0, none⟩ 1 1 (chC ⟨kd, ⟨fp, fd, fr⟩, ⟨sk, sv⟩, ⟨vn, vp, va, vo⟩⟩) rfl rfl (by have q := cells_new (w1.alloc (.cells #[.int .i64 kd, .string fp, .string fd, .bool fr, .string sk, .string sv, .string vn, .string vp, .bool va, .bool vo] 73)) (chC ⟨kd, ⟨fp, fd, fr⟩, ⟨sk, sv⟩, ⟨vn, vp, va, vo⟩⟩) 73; rw [World.size_alloc] at q; exact q) (chC_one _) HLe.out.1 HLe.out.2 (Nat.le_trans HS5.out.hb (below_alloc _ _).size) ?_; intro p' c' w3 hown hgrow hblk; obtain ⟨q1, q2, q3, q4⟩ := HS5.out.add (x := ⟨kd, ⟨fp, fd, fr⟩, ⟨sk, sv⟩, ⟨vn, vp, va, vo⟩⟩) (below_alloc _ (.cells #[.int .i64 kd, .string fp, .string fd, .bool fr, .string sk, .string sv, .string vn, .string vp, .bool va, .bool vo] 73)) hown hgrow))
  go_ret
  exact ⟨_, _, rfl, q3, (HB5.out.mono (Nat.le_of_lt HS.out.row.lt)).trans q4⟩

/-- what readLines leaves -/
def RLC (base N : Nat) (w : World) (r : List P.Chg × Nat × Int) (e : Ending) (w' : World) : Prop := ∃ a c, e = .returned (.tuple #[.int .i64 (r.2.1 : Int), .int .i64 r.2.2]) ∧ CS base w' N a c r.1 ∧ Below N w w'

set_option maxRecDepth 100000 in
set_option maxHeartbeats 4000000 in
theorem readLinesC_any (t0 : ByteArray) (L : Nat) (hs : t0.size ≤ L) (hL : L ≤ 4194304) (base N : Nat) (hN8 : 8 ≤ N) (w : World) (hw : Good w) (he : Es w) (h : CS base w N none 0 []) :
    Calls Tryz.prog 151 #[.string t0, .func (.func 162) #[] #[.pointer (some ⟨N, 0, none⟩)]] w fun e w' => RLC base N w (P.crdAll [] t0 0) e w' := by
  have g : decide ((4194304 : Int) < (t0.size : Int)) = false := decide_eq_false (by omega)
  have HF := Lib.hid (fun line hs a c m W hw he h hl => pchanges1_any line hs base N a c m W hw he h hl)
  have Hw := Lib.hid hw
  have HE := Lib.hid he
  have HS := Lib.hid h
  have HC := Lib.hid (fun t hs W hW => cut_any t 10 hs W hW)
  have eB := enters_of Tryz.func162 (by kernel_rfl) rfl
  have hL2 : (L : Int) ≤ 4194304 := by omega
  unfold RLC
  generalize hR : P.crdAll [] t0 0 = R
  replace hR := Lib.hid hR
  clear hw he h hL
  go_enter Tryz.func151, Tryz.ntmps151
  go_wp2_with fail
  clear g
  go_loopw [0, 6] (fun q i wr => ∃ (t : ByteArray) (k : Nat) (a : Option Addr) (c : Nat) (m : List P.Chg), q = .string t ∧ i = .int .i64 k ∧ k + t.size ≤ L ∧ m.length ≤ k ∧ Hid (CS base wr N a c m) ∧ Hid (P.crdAll m t k = R) ∧ Hid (Below N w wr)) (fun q _ _ => strLen q)
  case atStart => exact ⟨t0, 0, none, 0, [], rfl, rfl, by omega, Nat.le_refl _, HS, hR, Lib.hid (Below.refl _ _)⟩
  case round =>
    obtain ⟨t, k, a, c, m, rfl, rfl, hk, hm, HP, HR, HB⟩ := hrel
    have HGw := Lib.hid (Hw.out.monoN hN8 HB.out)
    have HK1 : IntKind.i64.wrap ((k : Int) + 1) = ((k + 1 : Nat) : Int) := by rw [IntKind.wrap_i64]; omega
    have HL9 : Hid (L ≤ 4194304) := Lib.hid (by omega)
    clear hL2
    cases ht : t.toList.isEmpty with
    | true =>
      have hem := eq_of ht
      have hr := Lib.hid (P.crdAll_nil (m := m) (n := k) hem)
      go_wp2_with fail
      go_ret2
      exact ⟨a, c, by rw [← HR.out, hr.out]; rfl, by rw [← HR.out, hr.out]; exact HP.out, HB.out⟩
    | false =>
      have hne := ne_of ht
      have hp := pos_of ht
      have HCt := Lib.hid (fun W hW => HC.out t (by have := HL9.out; omega) W hW)
      have HZ := Lib.hid (cutA_le t 10)
      have hv1 := Lib.hid (fun h2 => P.crdAll_cut (m := m) (n := k) hne h2)
      have hv2 := Lib.hid (fun h2 h3 => P.crdAll_bad (m := m) (n := k) hne h2 h3)
      have hv3 := Lib.hid (fun h2 h3 => P.crdAll_step (m := m) (n := k) hne h2 h3)
      have hlt := Lib.hid (fun h2 => P.cutB_lt (t := t) h2)
      generalize hcut : P.cutOk t 10 = oc at *
      generalize P.cutA t 10 = l at *
      generalize P.cutB t 10 = r at *
      cases oc with
      | false =>
        have hr := Lib.hid (hv1.out rfl)
        clear hv1 hv2 hv3 hcut
        go_wp2_with (go_at_call 155; refine (HCt.out _ HGw.out).mono ?_; rintro e w1 ⟨rfl, hb1⟩)
        have HB1 := Lib.hid (HB.out.trans (hb1.mono (Nat.le_of_lt HP.out.row.lt)))
        go_ret2
        exact ⟨a, c, by rw [← HR.out, hr.out]; rfl, by rw [← HR.out, hr.out]; exact HP.out.below hb1, HB1.out⟩
      | true =>
        have HFt := Lib.hid (fun W hW hE hPS => HF.out l (by have := HZ.out; have := HL9.out; omega) a c m W hW hE hPS (by have := HL9.out; omega))
        replace hlt := Lib.hid (hlt.out rfl)
        cases hok : (P.chRead l).2 with
        | false =>
          have hr := Lib.hid (hv2.out rfl hok)
          generalize P.chRead l = y at *
          obtain ⟨m', ok⟩ := y
          simp only at hok
          subst hok
          clear hv1 hv2 hv3 hcut
          go_wp2_with (first
            | (go_at_call 155; refine (HCt.out _ HGw.out).mono ?_; rintro e w1 ⟨rfl, hb1⟩; have HP1 := Lib.hid (HP.out.below hb1); have HB1 := Lib.hid (HB.out.trans (hb1.mono (Nat.le_of_lt HP.out.row.lt))))
            | (go_at_call 162; refine (HFt.out _ (Hw.out.monoN hN8 HB1.out) (HE.out.monoN hN8 HB1.out) HP1.out).mono ?_; rintro e w2 ⟨a2, c2, rfl, hp2, hb2⟩))
          have HB2 := Lib.hid (HB1.out.trans hb2)
          go_ret2
          exact ⟨a2, c2, by rw [← HR.out, hr.out]; rfl, by rw [← HR.out, hr.out]; exact hp2, HB2.out⟩
        | true =>
          have hr := Lib.hid (hv3.out rfl hok)
          generalize P.chRead l = y at *
          obtain ⟨m', ok⟩ := y
          simp only at hok
          subst hok
          clear hv1 hv2 hv3 hcut
          go_wp2_with (first
            | (go_at_call 155; refine (HCt.out _ HGw.out).mono ?_; rintro e w1 ⟨rfl, hb1⟩; have HP1 := Lib.hid (HP.out.below hb1); have HB1 := Lib.hid (HB.out.trans (hb1.mono (Nat.le_of_lt HP.out.row.lt))))
            | (go_at_call 162; refine (HFt.out _ (Hw.out.monoN hN8 HB1.out) (HE.out.monoN hN8 HB1.out) HP1.out).mono ?_; rintro e w2 ⟨a2, c2, rfl, hp2, hb2⟩))
          have HB2 := Lib.hid (HB1.out.trans hb2)
          have HP2 := Lib.hid hp2
          have HR2 := Lib.hid (hr.out.symm.trans HR.out)
          go_roundw
          case rel => exact ⟨r, k + 1, a2, c2, m ++ [m'], rfl, by go_num, by have := hlt.out; omega, by simp only [List.length_append, List.length_cons, List.length_nil]; omega, HP2, HR2, HB2⟩
          case measure => have := hlt.out; simpa [strLen] using this
end Go.Proofs.YtomikcemiacjmaaGreatDoor

namespace Go.Proofs.YtomikcemiacjmaaGreatDoor
open Go.RowKit Go.Lib Go.Shelf

set_option maxRecDepth 100000 in
set_option maxHeartbeats 8000000 in
theorem changeError_any (c : P.Chg) (hs : P.CSm 4294967280 c) (w : World) (hw : Good w) : Calls Tryz.prog 44 #[chAgg c] w fun e w' => e = .returned (.int .i64 (P.chE c)) ∧ Below w.heap.size w w' := by
  obtain ⟨k, ⟨fp, fd, fr⟩, ⟨sk, sv⟩, ⟨vn, vp, va, vo⟩⟩ := c
  rcases P.kinds k with rfl | rfl | rfl | rfl | rfl | rfl | ⟨h1, h2, h3, h4, h5, h6⟩
  · exact changeError1 _ _ _ _ _ _ _ _ _ hs w hw
  · exact changeError2 _ _ _ _ _ _ _ _ _ hs w hw
  · exact changeError3 _ _ _ _ _ _ _ _ _ hs w hw
  · exact changeError4 _ _ _ _ _ _ _ _ _ hs w hw
  · exact changeError5 _ _ _ _ _ _ _ _ _ hs w hw
  · exact changeError6 _ _ _ _ _ _ _ _ _ hs w hw
  · have hr : P.chE ⟨k, ⟨fp, fd, fr⟩, ⟨sk, sv⟩, ⟨vn, vp, va, vo⟩⟩ = 1 := by
      rw [P.chE_eq, (thE_other (c := ⟨k, ⟨fp, fd, fr⟩, ⟨sk, sv⟩, ⟨vn, vp, va, vo⟩⟩) h1 h2 h3 h4 h5 h6).1]; rfl
    rw [hr]
    show Calls Tryz.prog 44 #[.agg #[.int .i64 k, .string fp, .string fd, .bool fr, .string sk, .string sv, .string vn, .string vp, .bool va, .bool vo]] w _
    clear hr hs hw
    go_enter Tryz.func44, Tryz.ntmps44
    go_wp2_with fail
    go_ret
    exact ⟨rfl, below2 _ _ _⟩
end Go.Proofs.YtomikcemiacjmaaGreatDoor

namespace Go.Proofs.YtomikcemiacjmaaGreatDoor
open Go.RowKit Go.Lib Go.Shelf

set_option maxRecDepth 100000 in
set_option maxHeartbeats 8000000 in
theorem checkChanges_any (L : List P.Chg) (a : Option Addr) (cap : Nat) (hl : L.length ≤ 4000000000) (hs : ∀ c ∈ L, P.CSm 4294967280 c) (w : World) (hw : Good w) (h : ChsAt w.heap.size w a L cap) :
    Calls Tryz.prog 159 #[.slice a L.length cap] w fun e w' => e = .returned (.int .i64 (P.chEs L)) ∧ Below w.heap.size w w' := by
  have Hw := Lib.hid hw
  have HC := Lib.hid (fun c (hc : c ∈ L) W hW => checkChange_any c (hs c hc) W hW)
  generalize hR : P.chEs L = R
  replace hR : Hid (P.chEs (L.drop 0) = R) := Lib.hid hR
  clear hw hs
  by_cases hn : L = []
  · subst hn
    have hr : R = 0 := hR.out.symm
    subst hr
    clear hR h HC
    go_enter Tryz.func159, Tryz.ntmps159
    go_wp2_with fail
    go_loopw [8] (fun i wr => i = .int .i64 0 ∧ wr = w) (fun _ _ => 0)
    case atStart => exact ⟨rfl, rfl⟩
    case round =>
      obtain ⟨rfl, rfl⟩ := hrel
      go_wp2_with fail
      go_ret
      exact ⟨rfl, Below.refl _ _⟩
  · obtain ⟨b, off, rfl, hbm, hc⟩ := h.at_ hn
    have HCc := Lib.hid hc
    have HB := Lib.hid hbm
    clear hc hbm h hn
    go_enter Tryz.func159, Tryz.ntmps159
    go_wp2_with fail
    go_loopw [8] (fun i wr => ∃ k : Nat, i = .int .i64 k ∧ k ≤ L.length ∧ Hid (Below w.heap.size w wr) ∧ Hid (P.chEs (L.drop k) = R)) (fun i _ => L.length - (RowKit.intOf i).toNat)
    case atStart => exact ⟨0, rfl, Nat.zero_le _, Lib.hid (Below.refl _ _), hR⟩
    case round =>
      obtain ⟨k, rfl, hk, HBr, HR⟩ := hrel
      by_cases hlt : k < L.length
      · obtain ⟨c0, c1, c2, c3, c4, c5, c6, c7, c8, c9⟩ := (HCc.out k hlt).below HBr.out HB.out
        have HCk := Lib.hid (fun W hW => HC.out L[k] (List.getElem_mem hlt) W hW)
        have hg := Lib.hid (fun h0 => P.chEs_good (k := k) hlt h0)
        have hb := Lib.hid (fun h0 => P.chEs_bad (k := k) hlt h0)
        have hK1 : IntKind.i64.wrap ((k : Int) + 1) = ((k + 1 : Nat) : Int) := by rw [IntKind.wrap_i64]; omega
        generalize P.chE L[k] = r at *
        generalize L[k] = c at *
        obtain ⟨kd, ⟨fp, fd, fr⟩, ⟨sk, sv⟩, ⟨vn, vp, va, vo⟩⟩ := c
        unfold chAgg chA at HCk
        simp only at c0 c1 c2 c3 c4 c5 c6 c7 c8 c9 HCk
        have HBa := Lib.hid (bstep HBr.out (below_alloc wr (.cells #[.int .i64 kd, .string fp, .string fd, .bool fr, .string sk, .string sv, .string vn, .string vp, .bool va, .bool vo] 73)))
        by_cases h0 : r = 0
        · have hr := Lib.hid (hg.out h0)
          subst h0
          clear hg hb
          go_wp2_with (go_at_call 43; refine (HCk.out _ (Hw.out.mono HBa.out)).mono ?_; rintro e w2 ⟨rfl, hb2⟩)
          go_roundw
          case rel => exact ⟨k + 1, by go_num, by omega, Lib.hid (bstep HBa.out hb2), Lib.hid (hr.out.symm.trans HR.out)⟩
          case measure => simp [RowKit.intOf]; omega
        · have hr := Lib.hid (hb.out h0)
          have g : (r != 0) = true := by simpa using h0
          clear hg hb h0
          go_wp2_with (go_at_call 43; refine (HCk.out _ (Hw.out.mono HBa.out)).mono ?_; rintro e w2 ⟨rfl, hb2⟩)
          go_ret
          exact ⟨by rw [← HR.out, hr.out]; rfl, bstep HBa.out hb2⟩
      · have hr := Lib.hid (P.chEs_end (L := L) (k := k) (by omega))
        go_wp2_with fail
        go_ret
        exact ⟨by rw [← HR.out, hr.out]; rfl, HBr.out⟩

set_option maxRecDepth 100000 in
set_option maxHeartbeats 8000000 in
theorem changesError_any (L : List P.Chg) (a : Option Addr) (cap : Nat) (hl : L.length ≤ 4000000000) (hs : ∀ c ∈ L, P.CSm 4294967280 c) (w : World) (hw : Good w) (h : ChsAt w.heap.size w a L cap) :
    Calls Tryz.prog 63 #[.slice a L.length cap] w fun e w' => e = .returned (.int .i64 (P.chEs L)) ∧ Below w.heap.size w w' := by
  have Hw := Lib.hid hw
  have HC := Lib.hid (fun c (hc : c ∈ L) W hW => changeError_any c (hs c hc) W hW)
  generalize hR : P.chEs L = R
  replace hR : Hid (P.chEs (L.drop 0) = R) := Lib.hid hR
  clear hw hs
  by_cases hn : L = []
  · subst hn
    have hr : R = 0 := hR.out.symm
    subst hr
    clear hR h HC
    go_enter Tryz.func63, Tryz.ntmps63
    go_wp2_with fail
    go_loopw [8] (fun i wr => i = .int .i64 0 ∧ wr = w) (fun _ _ => 0)
    case atStart => exact ⟨rfl, rfl⟩
    case round =>
      obtain ⟨rfl, rfl⟩ := hrel
      go_wp2_with fail
      go_ret
      exact ⟨rfl, Below.refl _ _⟩
  · obtain ⟨b, off, rfl, hbm, hc⟩ := h.at_ hn
    have HCc := Lib.hid hc
    have HB := Lib.hid hbm
    clear hc hbm h hn
    go_enter Tryz.func63, Tryz.ntmps63
    go_wp2_with fail
    go_loopw [8] (fun i wr => ∃ k : Nat, i = .int .i64 k ∧ k ≤ L.length ∧ Hid (Below w.heap.size w wr) ∧ Hid (P.chEs (L.drop k) = R)) (fun i _ => L.length - (RowKit.intOf i).toNat)
    case atStart => exact ⟨0, rfl, Nat.zero_le _, Lib.hid (Below.refl _ _), hR⟩
    case round =>
      obtain ⟨k, rfl, hk, HBr, HR⟩ := hrel
      by_cases hlt : k < L.length
      · obtain ⟨c0, c1, c2, c3, c4, c5, c6, c7, c8, c9⟩ := (HCc.out k hlt).below HBr.out HB.out
        have HCk := Lib.hid (fun W hW => HC.out L[k] (List.getElem_mem hlt) W hW)
        have hg := Lib.hid (fun h0 => P.chEs_good (k := k) hlt h0)
        have hb := Lib.hid (fun h0 => P.chEs_bad (k := k) hlt h0)
        have hK1 : IntKind.i64.wrap ((k : Int) + 1) = ((k + 1 : Nat) : Int) := by rw [IntKind.wrap_i64]; omega
        generalize P.chE L[k] = r at *
        generalize L[k] = c at *
        obtain ⟨kd, ⟨fp, fd, fr⟩, ⟨sk, sv⟩, ⟨vn, vp, va, vo⟩⟩ := c
        unfold chAgg chA at HCk
        simp only at c0 c1 c2 c3 c4 c5 c6 c7 c8 c9 HCk
        have HBa := Lib.hid (bstep HBr.out (below_alloc wr (.cells #[.int .i64 kd, .string fp, .string fd, .bool fr, .string sk, .string sv, .string vn, .string vp, .bool va, .bool vo] 73)))
        by_cases h0 : r = 0
        · have hr := Lib.hid (hg.out h0)
          subst h0
          clear hg hb
          go_wp2_with (go_at_call 44; refine (HCk.out _ (Hw.out.mono HBa.out)).mono ?_; rintro e w2 ⟨rfl, hb2⟩)
          go_roundw
          case rel => exact ⟨k + 1, by go_num, by omega, Lib.hid (bstep HBa.out hb2), Lib.hid (hr.out.symm.trans HR.out)⟩
          case measure => simp [RowKit.intOf]; omega
        · have hr := Lib.hid (hb.out h0)
          have g : (r != 0) = true := by simpa using h0
          clear hg hb h0
          go_wp2_with (go_at_call 44; refine (HCk.out _ (Hw.out.mono HBa.out)).mono ?_; rintro e w2 ⟨rfl, hb2⟩)
          go_ret
          exact ⟨by rw [← HR.out, hr.out]; rfl, bstep HBa.out hb2⟩
      · have hr := Lib.hid (P.chEs_end (L := L) (k := k) (by omega))
        go_wp2_with fail
        go_ret
        exact ⟨by rw [← HR.out, hr.out]; rfl, HBr.out⟩
end Go.Proofs.YtomikcemiacjmaaGreatDoor

namespace Go.Proofs.YtomikcemiacjmaaGreatDoor
open Go.RowKit Go.Lib Go.Shelf Go.Maps

namespace P
/-- ParseChanges: the changes, the line, the error -/
noncomputable def parseC (t : ByteArray) : List Chg × Nat × Int :=
  if 4194304 < t.size then ([], 0, 4)
  else if (crdAll [] t 0).2.2 ≠ 0 then ([], (crdAll [] t 0).2.1, (crdAll [] t 0).2.2)
  else if chEs (crdAll [] t 0).1 ≠ 0 then ([], 0, chEs (crdAll [] t 0).1)
  else ((crdAll [] t 0).1, 0, 0)
theorem parseC_large {t : ByteArray} (h : 4194304 < t.size) : parseC t = ([], 0, 4) := if_pos h
theorem parseC_line {t : ByteArray} (h : ¬ 4194304 < t.size) (h2 : (crdAll [] t 0).2.2 ≠ 0) : parseC t = ([], (crdAll [] t 0).2.1, (crdAll [] t 0).2.2) := by unfold parseC; rw [if_neg h, if_pos h2]
theorem parseC_bad {t : ByteArray} (h : ¬ 4194304 < t.size) (h2 : (crdAll [] t 0).2.2 = 0) (h3 : chEs (crdAll [] t 0).1 ≠ 0) : parseC t = ([], 0, chEs (crdAll [] t 0).1) := by unfold parseC; rw [if_neg h, if_neg (by simpa using h2), if_pos h3]
theorem parseC_ok {t : ByteArray} (h : ¬ 4194304 < t.size) (h2 : (crdAll [] t 0).2.2 = 0) (h3 : chEs (crdAll [] t 0).1 = 0) : parseC t = ((crdAll [] t 0).1, 0, 0) := by unfold parseC; rw [if_neg h, if_neg (by simpa using h2), if_neg (by simpa using h3)]
theorem crdAll_small (t : ByteArray) : (∀ c ∈ (crdAll [] t 0).1, CSm t.size c) ∧ (crdAll [] t 0).1.length ≤ t.size := by
  refine ⟨crdF_small _ _ _ _ (fun c hc => by cases hc) (Nat.le_refl _), ?_⟩
  have := crdF_len t.size [] t 0
  unfold crdAll
  simpa using this
theorem parseC_small (t : ByteArray) : (∀ c ∈ (parseC t).1, CSm 4194304 c) ∧ (parseC t).1.length ≤ 4194304 := by
  by_cases h : 4194304 < t.size
  · rw [parseC_large h]; exact ⟨fun c hc => absurd hc (by simp), Nat.zero_le _⟩
  · by_cases h2 : (crdAll [] t 0).2.2 = 0
    · by_cases h3 : chEs (crdAll [] t 0).1 = 0
      · rw [parseC_ok h h2 h3]
        have := crdAll_small t
        exact ⟨fun c hc => (this.1 c hc).up (by omega), by have := this.2; simp only; omega⟩
      · rw [parseC_bad h h2 h3]; exact ⟨fun c hc => absurd hc (by simp), Nat.zero_le _⟩
    · rw [parseC_line h h2]; exact ⟨fun c hc => absurd hc (by simp), Nat.zero_le _⟩
end P
/-- what ParseChanges leaves -/
def PAC (w : World) (r : List P.Chg × Nat × Int) (e : Ending) (w' : World) : Prop := ∃ a c, e = .returned (.tuple #[.slice a r.1.length c, .int .i64 (r.2.1 : Int), .int .i64 r.2.2]) ∧ ChsAt w'.heap.size w' a r.1 c ∧ Below w.heap.size w w'
theorem chs_none (n : Nat) (w : World) : ChsAt n w none [] 0 := ⟨Nat.le_refl _, fun h => absurd rfl h⟩
theorem CS.start (w : World) : CS (w.heap.size + 1) (w.alloc (.cells #[.slice none 0 0] 27)) w.heap.size none 0 [] :=
  ⟨HasRow.new w _ 27, ⟨rfl, .inl ⟨rfl, rfl⟩⟩, Nat.lt_succ_self _, by simp⟩

set_option maxRecDepth 100000 in
set_option maxHeartbeats 4000000 in
theorem dparseC_any (t0 : ByteArray) (w : World) (hw : Good w) (he : Es w) : Calls Tryz.prog 65 #[.string t0] w fun e w' => PAC w (P.parseC t0) e w' := by
  have HZ := Lib.hid (below_alloc w (.cells #[.slice none 0 0] 27))
  have Hw := Lib.hid hw
  by_cases h : 4194304 < t0.size
  · rw [P.parseC_large h]
    have HL := Lib.hid (fun f W => readLines_large t0 f h W)
    clear h hw he
    go_enter Tryz.func65, Tryz.ntmps65
    go_wp2_with (go_at_call 151; refine (HL.out _ _).mono ?_; rintro e w1 ⟨rfl, rfl⟩)
    go_ret3
    exact ⟨none, 0, rfl, chs_none _ _, HZ.out⟩
  · have H := readLinesC_any t0 4194304 (by omega) (Nat.le_refl _) (w.heap.size + 1) w.heap.size (by have := hw.sz; omega) (w.alloc (.cells #[.slice none 0 0] 27)) (hw.mono HZ.out) (he.mono hw HZ.out) (CS.start w)
    have hsm := P.crdAll_small t0
    have hl : (P.crdAll [] t0 0).1.length ≤ 4000000000 := by have := hsm.2; omega
    have hs : ∀ c ∈ (P.crdAll [] t0 0).1, P.CSm 4294967280 c := fun c hc => (hsm.1 c hc).up (by omega)
    have HC := Lib.hid (fun a c W hW hA => checkChanges_any (P.crdAll [] t0 0).1 a c hl hs W hW hA)
    have hB : ∀ e, (P.crdAll [] t0 0).2.2 = e → e ≠ 0 → P.parseC t0 = ([], (P.crdAll [] t0 0).2.1, e) := fun e e1 e2 => by rw [← e1] at e2 ⊢; exact P.parseC_line h e2
    have hD : (P.crdAll [] t0 0).2.2 = 0 → P.chEs (P.crdAll [] t0 0).1 ≠ 0 → P.parseC t0 = ([], 0, P.chEs (P.crdAll [] t0 0).1) := P.parseC_bad h
    have hE : (P.crdAll [] t0 0).2.2 = 0 → P.chEs (P.crdAll [] t0 0).1 = 0 → P.parseC t0 = ((P.crdAll [] t0 0).1, 0, 0) := P.parseC_ok h
    generalize P.crdAll [] t0 0 = R at *
    generalize P.parseC t0 = Q at *
    obtain ⟨L, k, e0⟩ := R
    simp only at HC hB hD hE
    unfold RLC at H
    simp only at H
    have HL := Lib.hid H
    clear H hsm hl hs h hw he
    by_cases h0 : e0 = 0
    · subst h0
      by_cases h1 : P.chEs L = 0
      · have hQ := hE rfl h1
        rw [h1] at HC
        clear hB hD hE h1
        subst hQ
        go_enter Tryz.func65, Tryz.ntmps65
        go_wp2_with (first
          | (go_at_call 151; refine HL.out.mono ?_; rintro e w1 ⟨a, c, rfl, hp1, hb1⟩; have HP := Lib.hid hp1; have r0 := hp1.row.cell 0; have HB1 := Lib.hid (HZ.out.trans hb1); clear hp1 hb1)
          | (go_at_call 159; refine (HC.out _ _ _ (Hw.out.mono HB1.out) (chs_of_own HP.out.own)).mono ?_; rintro e w2 ⟨rfl, hb2⟩; have HP2 := Lib.hid (HP.out.below hb2); clear r0; have r0 := HP2.out.row.cell 0; have HB2 := Lib.hid (bstep HB1.out hb2)))
        go_ret3
        exact ⟨a, c, rfl, chs_of_own HP2.out.own, HB2.out⟩
      · have hQ := hD rfl h1
        have g : (P.chEs L != 0) = true := by simpa using h1
        clear hB hD hE h1
        generalize P.chEs L = r at *
        subst hQ
        go_enter Tryz.func65, Tryz.ntmps65
        go_wp2_with (first
          | (go_at_call 151; refine HL.out.mono ?_; rintro e w1 ⟨a, c, rfl, hp1, hb1⟩; have HP := Lib.hid hp1; have r0 := hp1.row.cell 0; have HB1 := Lib.hid (HZ.out.trans hb1); clear hp1 hb1)
          | (go_at_call 159; refine (HC.out _ _ _ (Hw.out.mono HB1.out) (chs_of_own HP.out.own)).mono ?_; rintro e w2 ⟨rfl, hb2⟩; have HB2 := Lib.hid (bstep HB1.out hb2)))
        go_ret3
        exact ⟨none, 0, rfl, chs_none _ _, HB2.out⟩
    · have hQ := hB e0 rfl h0
      have g : (e0 != 0) = true := by simpa using h0
      clear hB hD hE h0 HC
      subst hQ
      go_enter Tryz.func65, Tryz.ntmps65
      go_wp2_with (go_at_call 151; refine HL.out.mono ?_; rintro e w1 ⟨a, c, rfl, hp1, hb1⟩)
      go_ret3
      exact ⟨none, 0, rfl, chs_none _ _, HZ.out.trans hb1⟩
end Go.Proofs.YtomikcemiacjmaaGreatDoor

namespace Go.Proofs.YtomikcemiacjmaaGreatDoor
open Go.RowKit Go.Lib

namespace P
/-! ### cuts -/
theorem index_at (c : UInt8) : ∀ (l t : B), c ∉ l → Lib.index (l ++ c :: t) [c] = l.length
  | [], t, _ => by
    show (if ([c] : B).isPrefixOf (c :: t) = true then (0 : Int) else _) = _
    rw [if_pos (by simp)]; rfl
  | b :: l, t, h => by
    have hb : c ≠ b := fun e => h (by rw [e]; exact List.mem_cons_self)
    have ih := index_at c l t (fun e => h (List.mem_cons_of_mem _ e))
    show (if ([c] : B).isPrefixOf (b :: (l ++ c :: t)) = true then (0 : Int) else if Lib.index (l ++ c :: t) [c] == -1 then -1 else Lib.index (l ++ c :: t) [c] + 1) = _
    rw [if_neg (by simp [hb]), ih, if_neg (by simp)]
    simp
theorem index_no (c : UInt8) : ∀ (l : B), c ∉ l → Lib.index l [c] = -1
  | [], _ => rfl
  | b :: l, h => by
    have hb : c ≠ b := fun e => h (by rw [e]; exact List.mem_cons_self)
    have ih := index_no c l (fun e => h (List.mem_cons_of_mem _ e))
    show (if ([c] : B).isPrefixOf (b :: l) = true then (0 : Int) else if Lib.index l [c] == -1 then -1 else Lib.index l [c] + 1) = _
    rw [if_neg (by simp [hb]), ih]; rfl
theorem cut_at {c : UInt8} {l t : B} (h : c ∉ l) : Lib.cut (l ++ c :: t) [c] = (l, t, true) := by
  unfold Lib.cut
  rw [index_at c l t h, if_pos (by omega)]
  simp
theorem cutA_at {c : UInt8} {l t : B} (h : c ∉ l) : cutA (txt (l ++ c :: t)) c = txt l := by unfold cutA; rw [txt_list, cut_at h]
theorem cutB_at {c : UInt8} {l t : B} (h : c ∉ l) : cutB (txt (l ++ c :: t)) c = txt t := by unfold cutB; rw [txt_list, cut_at h]
theorem cutOk_at {c : UInt8} {l t : B} (h : c ∉ l) : cutOk (txt (l ++ c :: t)) c = true := by unfold cutOk; rw [txt_list, cut_at h]

/-! ### which bytes stand where -/
theorem hexC_ge : ∀ d : Fin 16, 48 ≤ (hexC d).toNat := by decide +kernel
theorem quoteB_no10 (c : UInt8) : ∀ b ∈ quoteB c, b.toNat ≠ 10 := by
  have hc := c.toNat_lt
  intro b hb
  by_cases h1 : c.toNat = 34 ∨ c.toNat = 92
  · rw [quoteB_esc h1] at hb
    rcases List.mem_cons.1 hb with rfl | hb
    · decide
    · rcases List.mem_cons.1 hb with rfl | hb
      · omega
      · cases hb
  · by_cases h2 : c.toNat = 10
    · rw [quoteB_nl h2] at hb
      rcases List.mem_cons.1 hb with rfl | hb
      · decide
      · rcases List.mem_cons.1 hb with rfl | hb
        · decide
        · cases hb
    · by_cases h3 : c.toNat < 32 ∨ 126 < c.toNat
      · rw [quoteB_hex h3 h2] at hb
        have e1 := hexC_ge ⟨c.toNat / 16, by omega⟩
        have e2 := hexC_ge ⟨c.toNat % 16, by omega⟩
        simp only at e1 e2
        rcases List.mem_cons.1 hb with rfl | hb
        · decide
        · rcases List.mem_cons.1 hb with rfl | hb
          · decide
          · rcases List.mem_cons.1 hb with rfl | hb
            · omega
            · rcases List.mem_cons.1 hb with rfl | hb
              · omega
              · cases hb
      · rw [quoteB_plain (by omega) (by omega) (by omega) (by omega)] at hb
        rcases List.mem_cons.1 hb with rfl | hb
        · exact h2
        · cases hb
theorem quoteL_no10 (l : B) : (10 : UInt8) ∉ quoteL l := by
  intro h
  unfold quoteL at h
  rcases List.mem_cons.1 h with h | h
  · revert h; decide
  · rcases List.mem_append.1 h with h | h
    · unfold quoteIn at h
      obtain ⟨c, _, hc⟩ := List.mem_flatMap.1 h
      exact quoteB_no10 c _ hc rfl
    · revert h; decide
theorem nameC_ge {c : UInt8} (h : nameC c = true) : 45 ≤ c.toNat := by
  unfold nameC sml dig at h
  simp only [Bool.or_eq_true, Bool.and_eq_true, decide_eq_true_eq, beq_iff_eq] at h
  omega
theorem partC_ge {c : UInt8} (h : partC c = true) : 45 ≤ c.toNat := by
  unfold partC sml grt dig at h
  simp only [Bool.or_eq_true, Bool.and_eq_true, decide_eq_true_eq, beq_iff_eq] at h
  omega
theorem name_ge {l : B} (h : name l = true) : l ≠ [] ∧ ∀ c ∈ l, 45 ≤ c.toNat := by
  cases l with
  | nil => cases h
  | cons c l =>
    refine ⟨by simp, fun x hx => nameC_ge ?_⟩
    unfold name at h
    simp only [Bool.and_eq_true] at h
    exact List.all_eq_true.1 h.2 x hx
theorem mem_splitK (c d : UInt8) : ∀ (k : Nat) (s : B), d ∈ s → d = c ∨ ∃ p ∈ Lib.splitK [c] 0 k s, d ∈ p
  | 0, s, h => .inr ⟨s, by simp [Lib.splitK], h⟩
  | k + 1, s, h => by
    unfold Lib.splitK
    by_cases hi : Lib.index s [c] == -1
    · rw [if_pos hi]; exact .inr ⟨s, by simp, h⟩
    · rw [if_neg hi]
      have hge := Lib.index_ge s [c]
      obtain ⟨i, hi2⟩ : ∃ i : Nat, Lib.index s [c] = i := ⟨(Lib.index s [c]).toNat, by simp at hi; omega⟩
      rw [hi2]
      simp only [Int.toNat_natCast, Nat.add_zero, List.length_cons, List.length_nil, Nat.zero_add]
      rw [Lib.index_one] at hi2
      have hs := (Lib.indexByte_some hi2).1
      have hlt : i < s.length := (List.getElem?_eq_some_iff.1 hs).1
      have hd : s = s.take i ++ (c :: s.drop (i + 1)) := by
        have e : s.drop i = c :: s.drop (i + 1) := by
          rw [List.drop_eq_getElem_cons hlt]
          congr 1
          exact (List.getElem?_eq_some_iff.1 hs).2
        rw [← e, List.take_append_drop]
      rw [hd] at h
      rcases List.mem_append.1 h with h | h
      · exact .inr ⟨_, List.mem_cons_self, h⟩
      · rcases List.mem_cons.1 h with h | h
        · exact .inl h
        · rcases mem_splitK c d k _ h with e | ⟨p, hp, hq⟩
          · exact .inl e
          · exact .inr ⟨p, List.mem_cons_of_mem _ hp, hq⟩
theorem part_ge {l : B} (h : part l = true) : ∀ c ∈ l, 45 ≤ c.toNat := by
  unfold part at h
  simp only [Bool.and_eq_true] at h
  exact fun c hc => partC_ge (List.all_eq_true.1 h.2 c hc)
theorem path_ge {l : B} (h : path l = true) : l ≠ [] ∧ ∀ c ∈ l, 45 ≤ c.toNat := by
  unfold path at h
  simp only [Bool.and_eq_true] at h
  have ha := List.all_eq_true.1 h.2
  refine ⟨fun e => ?_, fun c hc => ?_⟩
  · subst e
    have := ha [] (by decide)
    revert this; decide
  · rcases mem_splitK 47 c _ l hc with e | ⟨p, hp, hq⟩
    · rw [e]; decide
    · exact part_ge (ha p hp) c hq
theorem no32 {l : B} (h : ∀ c ∈ l, 45 ≤ c.toNat) : (32 : UInt8) ∉ l := fun e => by have := h _ e; revert this; decide
theorem no10 {l : B} (h : ∀ c ∈ l, 45 ≤ c.toNat) : (10 : UInt8) ∉ l := fun e => by have := h _ e; revert this; decide
theorem isWord_of {s : ByteArray} (h0 : s.data.toList ≠ []) (h : ∀ c ∈ s.data.toList, 45 ≤ c.toNat) : isWord s = true := by
  unfold isWord
  rw [← Lib.index_one, index_no 32 _ (no32 h)]
  have : s.toList.isEmpty = false := (nonempty_iff s).2 h0
  rw [this]; rfl

/-! ### pairs -/
theorem quote_txt (v : ByteArray) : txt (quoteL v.data.toList) = quote v := rfl
theorem pair_read {k v : ByteArray} (h0 : k.data.toList ≠ []) (h : ∀ c ∈ k.data.toList, 45 ≤ c.toNat) :
    pairK (txt (k.data.toList ++ 32 :: quoteL v.data.toList)) = k ∧ pairV (txt (k.data.toList ++ 32 :: quoteL v.data.toList)) = v ∧ pairOk (txt (k.data.toList ++ 32 :: quoteL v.data.toList)) = true := by
  unfold pairK pairV pairOk
  rw [cutA_at (no32 h), cutB_at (no32 h), txt_self, quote_txt, unquote_quote, isWord_of h0 h]
  exact ⟨rfl, rfl, rfl⟩
end P
end Go.Proofs.YtomikcemiacjmaaGreatDoor

namespace Go.Proofs.YtomikcemiacjmaaGreatDoor
open Go.RowKit Go.Lib

namespace P
theorem txt_ext (a r : B) (c : UInt8) : (txt (a ++ c :: r)).extract 0 a.length = txt a ∧ (txt (a ++ c :: r)).extract (a.length + 1) (txt (a ++ c :: r)).size = txt r := by
  constructor
  · apply ba_inj
    rw [Lib.extract_from_zero, txt_list, txt_list, List.take_left]
  · apply ba_inj
    rw [Lib.extract_to_end, txt_list, txt_list]
    rw [show a ++ c :: r = (a ++ [c]) ++ r by simp]
    rw [show a.length + 1 = (a ++ [c]).length by simp, List.drop_left]
theorem splitB_at {c : UInt8} {a r : B} (k : Nat) (h : c ∉ a) : Lib.splitB ⟨#[c]⟩ 0 (k + 1) (txt (a ++ c :: r)) = txt a :: Lib.splitB ⟨#[c]⟩ 0 k (txt r) := by
  have hi : Lib.indexB (txt (a ++ c :: r)) ⟨#[c]⟩ = (a.length : Nat) := by
    show Lib.index (txt (a ++ c :: r)).data.toList [c] = _
    rw [txt_list, index_at c a r h]
  rw [Lib.splitB_hit _ _ _ _ _ hi]
  have := txt_ext a r c
  rw [show (⟨#[c]⟩ : ByteArray).size = 1 from rfl, Nat.add_zero, this.1, this.2]
theorem splitB_end {c : UInt8} {a : B} (k : Nat) (h : c ∉ a) : Lib.splitB ⟨#[c]⟩ 0 k (txt a) = [txt a] := by
  apply Lib.splitB_miss
  show Lib.index (txt a).data.toList [c] = _
  rw [txt_list, index_no c a h]
theorem bitL_no32 (b : Bool) : (32 : UInt8) ∉ bitL b := by cases b <;> decide
theorem bit_flag (b : Bool) : isFlag (txt (bitL b)) = true ∧ ((txt (bitL b)).toList == [49]) = b := by
  unfold isFlag
  rw [Lib.toList_data, txt_list]
  cases b <;> decide
theorem svc_words {n p : B} {a o : Bool} (hn : (32 : UInt8) ∉ n) (hp : (32 : UInt8) ∉ p) (h0 : n ≠ []) (h1 : p ≠ []) :
    svcWords (txt (n ++ 32 :: (p ++ 32 :: (bitL a ++ 32 :: bitL o)))) = [txt n, txt p, txt (bitL a), txt (bitL o)] := by
  have e : min 5 ((txt (n ++ 32 :: (p ++ 32 :: (bitL a ++ 32 :: bitL o)))).size + 1) - 1 = 4 := by
    rw [txt_size]
    have := List.length_pos_iff.2 h0
    have := List.length_pos_iff.2 h1
    simp only [List.length_append, List.length_cons, bitL_len]
    omega
  unfold svcWords
  rw [e, splitB_at 3 hn, splitB_at 2 hp, splitB_at 1 (bitL_no32 a), splitB_end 1 (bitL_no32 o)]
theorem svc_read {x : Sv} (h : svcErr x = 0) : svcRead (svcWords (txt (x.n.data.toList ++ 32 :: (x.p.data.toList ++ 32 :: (bitL x.a ++ 32 :: bitL x.o))))) = (x, true) := by
  obtain ⟨h1, h2⟩ := svcErr_zero.1 h
  obtain ⟨n0, n1⟩ := name_ge (show name x.n.data.toList = true from h1)
  obtain ⟨p0, p1⟩ := path_ge (show path x.p.data.toList = true from h2)
  rw [svc_words (no32 n1) (no32 p1) n0 p0, txt_self, txt_self]
  show (if (isFlag (txt (bitL x.a)) && isFlag (txt (bitL x.o))) = true then ((⟨x.n, x.p, (txt (bitL x.a)).toList == [49], (txt (bitL x.o)).toList == [49]⟩ : Sv), isWord x.n && isWord x.p) else (svc0, false)) = _
  rw [(bit_flag x.a).1, (bit_flag x.o).1, (bit_flag x.a).2, (bit_flag x.o).2, isWord_of n0 n1, isWord_of p0 p1]
  rfl

/-! ### lines -/
theorem no10_line {w k : B} {v : B} (hw : (10 : UInt8) ∉ w) (hk : ∀ c ∈ k, 45 ≤ c.toNat) : (10 : UInt8) ∉ w ++ 32 :: (k ++ 32 :: quoteL v) := by
  intro h
  rcases List.mem_append.1 h with h | h
  · exact hw h
  · rcases List.mem_cons.1 h with h | h
    · revert h; decide
    · rcases List.mem_append.1 h with h | h
      · exact no10 hk h
      · rcases List.mem_cons.1 h with h | h
        · revert h; decide
        · exact quoteL_no10 v h
end P
end Go.Proofs.YtomikcemiacjmaaGreatDoor

namespace Go.Proofs.YtomikcemiacjmaaGreatDoor
open Go.RowKit Go.Lib Go.Shelf

namespace P
theorem line_list (w k v : ByteArray) : (lineT w k v).data.toList = w.data.toList ++ 32 :: (k.data.toList ++ 32 :: quoteL v.data.toList) := by
  unfold lineT
  simp only [ByteArray.data_append, Array.toList_append, P.quote, P.txt_list, List.append_assoc]
  rfl
theorem app_list (a b : ByteArray) : (a ++ b).data.toList = a.data.toList ++ b.data.toList := by simp only [ByteArray.data_append, Array.toList_append]
theorem word_list (a : B) (s : ByteArray) : ((⟨(a ++ [32]).toArray⟩ : ByteArray) ++ s).data.toList = a ++ 32 :: s.data.toList := by rw [app_list]; simp
/-- the line of a change is read as it -/
def CReads (c : Chg) : Prop := ∃ l, (chT c).data.toList = l ∧ (10 : UInt8) ∉ l ∧ chRead (txt l) = (c, true)
theorem no10_word {w k : B} (hw : (10 : UInt8) ∉ w) (hk : ∀ c ∈ k, 45 ≤ c.toNat) : (10 : UInt8) ∉ w ++ 32 :: k := by
  intro h
  rcases List.mem_append.1 h with h | h
  · exact hw h
  · rcases List.mem_cons.1 h with h | h
    · revert h; decide
    · exact no10 hk h
theorem creads {c : Chg} (h : chE c = 0) : CReads c := by
  obtain ⟨h1, h2⟩ := chE_zero.1 h
  have hk := kind_of h1
  obtain ⟨k, ⟨fp, fd, fr⟩, ⟨sk, sv⟩, ⟨vn, vp, va, vo⟩⟩ := c
  simp only at hk
  rcases hk with rfl | rfl | rfl | rfl | rfl | rfl
  · have e : fileErr ⟨fp, fd, fr⟩ = 0 := h1
    obtain ⟨a1, _⟩ := fileErr_zero.1 e
    obtain ⟨k0, k1⟩ := path_ge (show path fp.data.toList = true from a1)
    obtain ⟨e1, e2, e3⟩ := pair_read (v := fd) k0 k1
    cases h2
    cases fr
    · refine ⟨wPut ++ 32 :: (fp.data.toList ++ 32 :: quoteL fd.data.toList), line_list _ _ _, no10_line (by decide) k1, ?_⟩
      unfold chRead
      rw [cutA_at (by decide), cutB_at (by decide), Lib.toList_data, txt_list, if_pos rfl, e1, e2, e3]; rfl
    · refine ⟨wPutrun ++ 32 :: (fp.data.toList ++ 32 :: quoteL fd.data.toList), line_list _ _ _, no10_line (by decide) k1, ?_⟩
      unfold chRead
      rw [cutA_at (by decide), cutB_at (by decide), Lib.toList_data, txt_list, if_neg (by decide), if_pos rfl, e1, e2, e3]; rfl
  · have e : fileErr ⟨fp, ⟨#[]⟩, false⟩ = 0 := h1
    obtain ⟨a1, _⟩ := fileErr_zero.1 e
    obtain ⟨k0, k1⟩ := path_ge (show path fp.data.toList = true from a1)
    cases h2
    refine ⟨wRemove ++ 32 :: fp.data.toList, word_list wRemove fp, no10_word (by decide) k1, ?_⟩
    unfold chRead
    rw [cutA_at (by decide), cutB_at (by decide), Lib.toList_data, txt_list, if_neg (by decide), if_neg (by decide), if_pos rfl, txt_self, isWord_of k0 k1]; rfl
  · have e : setErr ⟨sk, sv⟩ = 0 := h1
    obtain ⟨a1, _⟩ := setErr_zero.1 e
    obtain ⟨k0, k1⟩ := path_ge (show path sk.data.toList = true from a1)
    obtain ⟨e1, e2, e3⟩ := pair_read (v := sv) k0 k1
    cases h2
    refine ⟨wSet ++ 32 :: (sk.data.toList ++ 32 :: quoteL sv.data.toList), line_list _ _ _, no10_line (by decide) k1, ?_⟩
    unfold chRead
    rw [cutA_at (by decide), cutB_at (by decide), Lib.toList_data, txt_list, if_neg (by decide), if_neg (by decide), if_neg (by decide), if_pos rfl, e1, e2, e3]; rfl
  · have e : setErr ⟨sk, ⟨#[]⟩⟩ = 0 := h1
    obtain ⟨a1, _⟩ := setErr_zero.1 e
    obtain ⟨k0, k1⟩ := path_ge (show path sk.data.toList = true from a1)
    cases h2
    refine ⟨wUnset ++ 32 :: sk.data.toList, word_list wUnset sk, no10_word (by decide) k1, ?_⟩
    unfold chRead
    rw [cutA_at (by decide), cutB_at (by decide), Lib.toList_data, txt_list, if_neg (by decide), if_neg (by decide), if_neg (by decide), if_neg (by decide), if_pos rfl, txt_self, isWord_of k0 k1]; rfl
  · have e : svcErr ⟨vn, vp, va, vo⟩ = 0 := h1
    obtain ⟨a1, a2⟩ := svcErr_zero.1 e
    obtain ⟨n0, n1⟩ := name_ge (show name vn.data.toList = true from a1)
    obtain ⟨p0, p1⟩ := path_ge (show path vp.data.toList = true from a2)
    cases h2
    refine ⟨wSvc ++ 32 :: (vn.data.toList ++ 32 :: (vp.data.toList ++ 32 :: (bitL va ++ 32 :: bitL vo))), ?_, ?_, ?_⟩
    · show (svcT ⟨vn, vp, va, vo⟩).data.toList = _
      unfold svcT wordsL
      rw [txt_list]
      simp [wSvc]
    · intro h
      have hb : ∀ b : Bool, (10 : UInt8) ∉ bitL b := by intro b; cases b <;> decide
      simp only [List.mem_append, List.mem_cons] at h
      rcases h with h | h | h | h | h | h | h | h
      · revert h; decide
      · revert h; decide
      · exact no10 n1 h
      · revert h; decide
      · exact no10 p1 h
      · revert h; decide
      · exact hb _ h
      · rcases h with h | h
        · revert h; decide
        · exact hb _ h
    · unfold chRead
      rw [cutA_at (by decide), cutB_at (by decide), Lib.toList_data, txt_list, if_neg (by decide), if_neg (by decide), if_neg (by decide), if_neg (by decide), if_neg (by decide), if_pos rfl, svc_read (x := ⟨vn, vp, va, vo⟩) e]; rfl
  · have e : (if nameS vn then (0 : Int) else 5) = 0 := h1
    have a1 : nameS vn = true := by
      cases hn : nameS vn with
      | true => rfl
      | false => rw [hn] at e; cases e
    obtain ⟨k0, k1⟩ := name_ge (show name vn.data.toList = true from a1)
    cases h2
    refine ⟨wDrop ++ 32 :: vn.data.toList, word_list wDrop vn, no10_word (by decide) k1, ?_⟩
    unfold chRead
    rw [cutA_at (by decide), cutB_at (by decide), Lib.toList_data, txt_list, if_neg (by decide), if_neg (by decide), if_neg (by decide), if_neg (by decide), if_neg (by decide), if_neg (by decide), if_pos rfl, txt_self, isWord_of k0 k1]; rfl
end P
end Go.Proofs.YtomikcemiacjmaaGreatDoor

namespace Go.Proofs.YtomikcemiacjmaaGreatDoor
open Go.RowKit Go.Lib Go.Shelf Go.Maps

namespace P
end P
/-- the state of the reference's loop -/
structure RC (w W : World) (a : Option Addr) (c : Nat) (m : List P.Chg) (L : List ByteArray) : Prop where
  own : W.ownsRow (w.heap.size + 1) 73 10 (.slice a m.length c) m.length (flat chC m)
  row : HasRow W w.heap.size (L.map Value.string).toArray
  z : Below w.heap.size w W
theorem RC.below {w W W' : World} {a : Option Addr} {c : Nat} {m : List P.Chg} {L : List ByteArray} (h : RC w W a c m L) (hb : Below W.heap.size W W') : RC w W' a c m L := ⟨own_below h.own hb, h.row.below hb, bstep h.z hb⟩
end Go.Proofs.YtomikcemiacjmaaGreatDoor

namespace Go.Proofs.YtomikcemiacjmaaGreatDoor
open Go.RowKit Go.Shelf

theorem linesC_at (a : Option Addr) (k cap ga : Nat) (w : World) : Calls Tryz.prog 160 #[.slice a k cap, .func (.func ga) #[] #[]] w fun e w' => ∃ Bs Bw, e = .returned (.func (.func 235) #[] #[.pointer (some ⟨Bs, 0, none⟩), .pointer (some ⟨Bw, 0, none⟩)]) ∧ LinesAt Bs Bw a k cap ga w' ∧ Below w.heap.size w w' :=
  (linesC_any a k cap ga w).mono fun e w' ⟨h1, h2⟩ => by
    subst h2
    refine ⟨_, _, h1, ⟨(HasRow.new w _ _).alloc _, ?_⟩, below2 _ _ _⟩
    have := HasRow.new (w.alloc (.cells #[.slice a k cap] 27)) #[.func (.func ga) #[] #[]] 193
    rwa [World.size_alloc] at this
/-- join at the list of right changes -/
theorem joinC_any (L : List P.Chg) (a : Option Addr) (cap : Nat) (hl : L.length ≤ 4000000000) (hr : ∀ c ∈ L, P.chE c = 0) (B0 X0 : Nat) (W0 : World) (hA : ChsAt W0.heap.size W0 a L cap)
    (h0 : LinesAt B0 X0 a L.length cap 161 W0) (w : World) (hw : w = W0.alloc (.cells #[.func (.func 235) #[] #[.pointer (some ⟨B0, 0, none⟩), .pointer (some ⟨X0, 0, none⟩)]] 129)) :
    Calls Tryz.prog 106 #[.slice (some ⟨W0.heap.size, 0, none⟩) 1 1] w fun e w' => e = .returned (joinOut (P.chsL L)) ∧ Below w.heap.size w w' := by
  obtain ⟨p0, q0⟩ := h0
  have hR := HasRow.new W0 #[.func (.func 235) #[] #[.pointer (some ⟨B0, 0, none⟩), .pointer (some ⟨X0, 0, none⟩)]] 129
  rw [← hw] at hR
  have hb : Below W0.heap.size W0 w := by rw [hw]; exact below_alloc _ _
  have hsz : W0.heap.size < w.heap.size := hR.lt
  have hA' := (hA.below hb).up hb.size
  have e0 : P.linesL (upT (fun _ => L.map chT) 1) = P.chsL L := rfl
  rw [← e0]
  refine callsIn_wide.1 (join1_in 5 (by omega) (fun _ => 235) (fun _ => #[.pointer (some ⟨B0, 0, none⟩), .pointer (some ⟨X0, 0, none⟩)]) (fun _ => L.map chT) (fun _ => L.length) W0.heap.size w hsz (fun j hj => ?_) (fun j hj => ?_) (fun j hj => ?_))
  · obtain rfl : j = 0 := by omega
    exact hR.cell 0
  · exact enters_of Tryz.func235 (by kernel_rfl) rfl
  · exact linesC_stops _ _ _ change_fn L (by omega) (fun x hx => (P.chE_small (hr x hx)).up (by omega)) (fun x hx => chT_size (P.chE_small (hr x hx))) a cap 4 (by omega) B0 X0 w.heap.size (Nat.lt_trans p0.lt hsz) (Nat.lt_trans q0.lt hsz) w (Nat.le_refl _) ((p0.below hb).cell 0) ((q0.below hb).cell 0) hA'

set_option maxRecDepth 100000 in
set_option maxHeartbeats 8000000 in
theorem dprintC_any (L : List P.Chg) (a : Option Addr) (cap : Nat) (hl : L.length ≤ 4000000000) (hs : ∀ c ∈ L, P.CSm 4294967280 c) (w : World) (hw : Good w) (h : ChsAt w.heap.size w a L cap) :
    Calls Tryz.prog 62 #[.slice a L.length cap] w fun e w' => e = .returned (if P.chEs L = 0 then joinOut (P.chsL L) else .tuple #[.string ⟨#[]⟩, .int .i64 (P.chEs L)]) ∧ Below w.heap.size w w' := by
  have HC := Lib.hid (checkChanges_any L a cap hl hs w hw h)
  by_cases h0 : P.chEs L = 0
  · have hr := P.chEs_zero h0
    have HJ := Lib.hid (fun B0 X0 W0 (hb : Below w.heap.size w W0) h0 W hW => joinC_any L a cap hl hr B0 X0 W0 ((h.below hb).up hb.size) h0 W hW)
    have HL := Lib.hid linesC_at
    rw [if_pos h0]
    rw [h0] at HC
    clear hs hw h hr hl h0
    obtain ⟨t, x, hT⟩ : ∃ (t : ByteArray) (x : Int), joinOut (P.chsL L) = .tuple #[.string t, .int .i64 x] := by unfold joinOut; split <;> exact ⟨_, _, rfl⟩
    rw [hT] at HJ ⊢
    clear hT
    go_enter Tryz.func62, Tryz.ntmps62
    go_wp2_with (first
      | (go_at_call 159; refine HC.out.mono ?_; rintro e w1 ⟨rfl, hb1⟩)
      | (go_at_call 160; refine (HL.out _ _ _ _ _).mono ?_; rintro e w2 ⟨B0, X0, rfl, hL, hb2⟩; have HB2 := Lib.hid (bstep hb1 hb2))
      | (go_at_call 106; refine (HJ.out _ _ w2 HB2.out hL _ rfl).mono ?_; rintro e w3 ⟨rfl, hb3⟩))
    have HF := Lib.hid (bstep (bstep HB2.out (below_alloc _ _)) hb3)
    go_ret2
    exact ⟨rfl, HF.out⟩
  · rw [if_neg h0]
    have g : (P.chEs L != 0) = true := by simpa using h0
    generalize P.chEs L = r at *
    clear hs hw h hl h0
    go_enter Tryz.func62, Tryz.ntmps62
    go_wp2_with (go_at_call 159; refine HC.out.mono ?_; rintro e w1 ⟨rfl, hb1⟩)
    go_ret2
    exact ⟨rfl, hb1⟩
end Go.Proofs.YtomikcemiacjmaaGreatDoor
