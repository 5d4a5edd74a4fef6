/- Walks: stage's ParseJournal. -/
import Derived.Test.YtomikcemiacjmaaGreatDoorZJMany
import Derived.Test.YtomikcemiacjmaaGreatDoorZJJudge
import Derived.Test.YtomikcemiacjmaaGreatDoorZJSum

namespace Go.Proofs.YtomikcemiacjmaaGreatDoor
open Go.RowKit Go.Lib Go.Shelf Go.Maps

/-- what ParseJournal leaves -/
def PJ (w : World) (r : P.Jr × Int) (e : Ending) (w' : World) : Prop := ∃ a1 c1 a2 c2, e = .returned (.tuple #[.agg #[.string r.1.1, .slice a1 r.1.2.1.length c1, .slice a2 r.1.2.2.length c2], .int .i64 r.2]) ∧
  ChsAt w'.heap.size w' a1 r.1.2.1 c1 ∧ ChsAt w'.heap.size w' a2 r.1.2.2 c2 ∧ Below w.heap.size w w' ∧ (∀ g, (Value.slice a1 r.1.2.1.length c1).ownBlock = some g → w.heap.size ≤ g) ∧ (∀ g, (Value.slice a2 r.1.2.2.length c2).ownBlock = some g → w.heap.size ≤ g)
theorem pj_no {w w' : World} {x : Int} (hb : Below w.heap.size w w') : PJ w (P.jz, x) (.returned (.tuple #[.agg #[.string ⟨#[]⟩, .slice none 0 0, .slice none 0 0], .int .i64 x])) w' := ⟨none, 0, none, 0, rfl, chs_none _ _, chs_none _ _, hb, (fun g h => by cases h), (fun g h => by cases h)⟩
theorem jstore3 {n : Nat} {w W : World} {k : Nat} {a b c : Value} (h : HasRow W k #[a, b, c]) (hb : Below n w W) (hn : n ≤ k) (x y z : Value) :
    HasRow (((W.setCell ⟨k, 0, none⟩ x).setCell ⟨k, 1, none⟩ y).setCell ⟨k, 2, none⟩ z) k #[x, y, z] ∧ Below n w (((W.setCell ⟨k, 0, none⟩ x).setCell ⟨k, 1, none⟩ y).setCell ⟨k, 2, none⟩ z) := by
  refine ⟨?_, ((hb.setCell (p := ⟨k, 0, none⟩) hn _).setCell (p := ⟨k, 1, none⟩) hn _).setCell (p := ⟨k, 2, none⟩) hn _⟩
  have := ((h.set 0 x (by simp)).set 1 y (by simp)).set 2 z (by simp)
  simpa using this
namespace P
theorem parseJ_none {t : ByteArray} (h : readJ t = none) : parseJ t = (jz, 8) := by unfold parseJ; rw [h]
theorem parseJ_some {t : ByteArray} {id : B} {cs os : List Chg} {sm : B} (h : readJ t = some (id, cs, os, sm)) : parseJ t = judgeJ t id cs os sm := by unfold parseJ; rw [h]
theorem list_nil_of {s : ByteArray} (h : s.data.toList = []) : s = ⟨#[]⟩ := by apply ba_inj; rw [h]
end P

set_option maxRecDepth 100000 in
set_option maxHeartbeats 16000000 in
theorem dparseJ_any (t : ByteArray) (hs : t.size ≤ 1048576) (w : World) (hw : JW w) : Calls Tryz.prog 82 #[.string t] w fun e w' => PJ w (P.parseJ t) e w' := by
  have h8 : 8 ≤ w.heap.size + 1 := by have := hw.g.sz; omega
  have Z2 := Lib.hid (below2 w (.cells #[.string ⟨#[]⟩, .slice none 0 0, .slice none 0 0] 106) (.cells #[.string t, .bool false] 202))
  have HB := Lib.hid (HasRow.new (w.alloc (.cells #[.string ⟨#[]⟩, .slice none 0 0, .slice none 0 0] 106)) #[.string t, .bool false] 202)
  rw [World.size_alloc] at HB
  have HBl := Lib.hid (fun W (hg : Gb (w.heap.size + 1) ((w.alloc (.cells #[.string ⟨#[]⟩, .slice none 0 0, .slice none 0 0] 106)).alloc (.cells #[.string t, .bool false] 202)) W) => Z2.out.trans (hg.below (Nat.le_succ _) HB.out.lt))
  have HJ := Lib.hid (fun W hb => hw.mono (w' := W) hb)
  have HN0 := Lib.hid ((HasRow.new w #[.string ⟨#[]⟩, .slice none 0 0, .slice none 0 0] 106).alloc (.cells #[.string t, .bool false] 202))
  have HIs := Lib.hid (fun s W (hW : JW W) => disSum_any s W hW.t hW.g)
  have HSm := Lib.hid (fun s hs W (hW : JW W) => dsumOf_any s hs W hW.t hW.g)
  have HNm := Lib.hid (fun s hs W => isName_any s hs W)
  have H1 := Lib.hid (rdBehind_any P.jT (by decide) (by decide) t (by omega) false (w.heap.size + 1) _ HB.out)
  have hl1 := P.lineR_le t
  have H2 := Lib.hid (fun W hW hR => changes_any P.cT (by decide) (by decide) (P.lineR t) (by omega) (if (P.behO P.jT t).isSome then false else true) (w.heap.size + 1) h8 W hW hR)
  have H3 := Lib.hid (fun T (hT : T.size ≤ 1048576) X W hW hR => changes_any P.oT (by decide) (by decide) T hT X (w.heap.size + 1) h8 W hW hR)
  have H4 := Lib.hid (fun T (hT : T.size ≤ 1048576) X W hR => rdBehind_any P.sT (by decide) (by decide) T (by omega) X (w.heap.size + 1) W hR)
  have Hs := Lib.hid hs
  have HL1 := Lib.hid hl1
  clear hw hs h8 hl1
  unfold CHG at H2 H3
  unfold P.jT at H1
  unfold P.cT at H2
  unfold P.oT at H3
  unfold P.sT at H4
  generalize hP : P.parseJ t = Pr
  have HPr := Lib.hid hP
  clear hP
  go_enter Tryz.func82, Tryz.ntmps82
  go_upto_region 7 with (first
    | (go_at_call_of 169 (Value.string ⟨#[106, 111, 117, 114, 110, 97, 108, 32]⟩); refine H1.out.mono ?_; rintro e w1 ⟨rfl, hr1, hg1⟩; have HR1 := Lib.hid hr1; have HG1 := Lib.hid hg1; clear hr1 hg1)
    | (go_at_call_of 170 (Value.string ⟨#[99, 104, 97, 110, 103, 101, 115, 32]⟩); refine (H2.out _ (HJ.out _ (HBl.out _ HG1.out)) HR1.out).mono ?_; rintro e w2 ⟨a1, c1, L1, f1, T2, X2, rfl, ho2, hr2, hg2, hz2, _, hc2⟩; have HO2 := Lib.hid ho2; have HR2 := Lib.hid hr2; have HG2 := Lib.hid (HG1.out.trans hg2); have HZ2 := Lib.hid hz2; have HC2 := Lib.hid hc2; clear ho2 hr2 hg2 hz2 hc2)
    | (go_at_call_of 170 (Value.string ⟨#[111, 108, 100, 32]⟩); refine (H3.out T2 (Nat.le_trans HZ2.out (Nat.le_trans HL1.out Hs.out)) X2 _ (HJ.out _ (HBl.out _ HG2.out)) HR2.out).mono ?_; rintro e w3 ⟨a2, c2, L2, f2, T3, X3, rfl, ho3, hr3, hg3, hz3, _, hc3⟩; have HO3 := Lib.hid ho3; have HO23 := Lib.hid (own_gb HO2.out hg3 (HR1.out.lt)); have HR3 := Lib.hid hr3; have HG3 := Lib.hid (HG2.out.trans hg3); have hz3' : (T3.size : Int) ≤ (t.size : Int) := Int.ofNat_le.2 (Nat.le_trans hz3 (Nat.le_trans HZ2.out HL1.out)); have hwr : IntKind.i64.wrap ((t.size : Int) - (T3.size : Int)) = ((t.size - T3.size : Nat) : Int) := (by rw [IntKind.wrap_i64]; have := Hs.out; omega); have HC3 := Lib.hid hc3; have r30 := HR3.out.cell 0; clear ho3 hr3 hg3 hz3 hc3)
    | (go_at_call_of 169 (Value.string ⟨#[115, 117, 109, 32]⟩); refine (H4.out T3 (by have := Hs.out; omega) X3 _ HR3.out).mono ?_; rintro e w4 ⟨rfl, hr4, hg4⟩; have HO4 := Lib.hid (own_gb HO3.out hg4 HR2.out.lt); have HO24 := Lib.hid (own_gb HO23.out hg4 HR1.out.lt); have HR4 := Lib.hid hr4; have HG4 := Lib.hid (HG3.out.trans hg4); clear hr4 hg4 r30))
  have hch := P.chain HC2.out HC3.out
  have HB4 := Lib.hid (HBl.out _ HG4.out)
  have HN4 := Lib.hid (HN0.out.grown HG4.out (fun e => by have := Option.some.inj e; omega))
  have HJ4 := Lib.hid (HJ.out _ HB4.out)
  have r40 := HR4.out.cell 0
  have r41 := HR4.out.cell 1
  clear H1 H2 H3 H4
  rcases hch with ⟨hx, hn⟩ | ⟨hx, hne, hn⟩ | ⟨hx, hnil, id, cs, os, sm, hr, hid, hsm, hf1, hL1, hf2, hL2, hle, hbody⟩
  · have hPr := HPr.out.symm.trans (P.parseJ_none hn)
    subst hPr
    replace r41 := r41.trans (show (#[Value.string (P.lineR T3), .bool (if (P.behO ⟨#[115, 117, 109, 32]⟩ T3).isSome then X3 else true)] : Array Value)[1]? = some (.bool true) from by rw [show (if (P.behO ⟨#[115, 117, 109, 32]⟩ T3).isSome then X3 else true) = true from hx]; rfl)
    have n0 := HN4.out.cell 0
    have n1 := HN4.out.cell 1
    have n2 := HN4.out.cell 2
    have g0 := HN4.out.free 0
    have g1 := HN4.out.free 1
    have g2 := HN4.out.free 2
    clear hx hn
    go_wp2_with fail
    have HS9 := Lib.hid (jstore3 HN4.out HB4.out (Nat.le_refl _) (.string ⟨#[]⟩) (.slice none 0 0) (.slice none 0 0))
    clear n0 n1 n2 g0 g1 g2
    have d0 := HS9.out.1.cell 0
    have d1 := HS9.out.1.cell 1
    have d2 := HS9.out.1.cell 2
    refine bodyPost_ret (v := .tuple #[.agg #[.string ⟨#[]⟩, .slice none 0 0, .slice none 0 0], .int .i64 8]) ?_ rfl (pj_no HS9.out.2)
    simp [results, Tryz.results82, go_sem, d0, d1, d2]
  · have hPr := HPr.out.symm.trans (P.parseJ_none hn)
    subst hPr
    replace r41 := r41.trans (show (#[Value.string (P.lineR T3), .bool (if (P.behO ⟨#[115, 117, 109, 32]⟩ T3).isSome then X3 else true)] : Array Value)[1]? = some (.bool false) from by rw [show (if (P.behO ⟨#[115, 117, 109, 32]⟩ T3).isSome then X3 else true) = false from hx]; rfl)
    have hne' : ((P.lineR T3).toList == []) = false := by rw [Lib.toList_data]; simpa using hne
    have hne2 : ¬ (P.lineR T3).toList = [] := by rw [Lib.toList_data]; exact hne
    have n0 := HN4.out.cell 0
    have n1 := HN4.out.cell 1
    have n2 := HN4.out.cell 2
    have g0 := HN4.out.free 0
    have g1 := HN4.out.free 1
    have g2 := HN4.out.free 2
    clear hx hn hne
    generalize P.lineR T3 = R3 at *
    go_wp2_with fail
    have HS9 := Lib.hid (jstore3 HN4.out HB4.out (Nat.le_refl _) (.string ⟨#[]⟩) (.slice none 0 0) (.slice none 0 0))
    clear n0 n1 n2 g0 g1 g2
    have d0 := HS9.out.1.cell 0
    have d1 := HS9.out.1.cell 1
    have d2 := HS9.out.1.cell 2
    refine bodyPost_ret (v := .tuple #[.agg #[.string ⟨#[]⟩, .slice none 0 0, .slice none 0 0], .int .i64 8]) ?_ rfl (pj_no HS9.out.2)
    simp [results, Tryz.results82, go_sem, d0, d1, d2]
  · have hsz : (P.txt id).size ≤ 1048576 := by
      have := P.readJ_text hr
      have h1 := congrArg ByteArray.size this
      rw [P.txt_size] at h1 ⊢
      unfold P.jText at h1
      simp only [List.length_append] at h1
      have := Hs.out
      omega
    have hbs : (P.txt (P.jText id cs os)).size ≤ 1048576 := by
      have := P.readJ_text hr
      have h1 := congrArg ByteArray.size this
      rw [P.txt_size] at h1 ⊢
      simp only [List.length_append] at h1
      have := Hs.out
      omega
    have hJr := HPr.out.symm.trans (P.parseJ_some hr)
    have hj := P.judge_cases t id cs os sm
    replace r41 := r41.trans (show (#[Value.string (P.lineR T3), .bool (if (P.behO ⟨#[115, 117, 109, 32]⟩ T3).isSome then X3 else true)] : Array Value)[1]? = some (.bool false) from by rw [show (if (P.behO ⟨#[115, 117, 109, 32]⟩ T3).isSome then X3 else true) = false from hx]; rfl)
    replace r40 := r40.trans (show (#[Value.string (P.lineR T3), .bool (if (P.behO ⟨#[115, 117, 109, 32]⟩ T3).isSome then X3 else true)] : Array Value)[0]? = some (.string ⟨#[]⟩) from by rw [P.list_nil_of hnil]; rfl)
    have hid' : P.behT (P.behO ⟨#[106, 111, 117, 114, 110, 97, 108, 32]⟩ t) = P.txt id := hid
    have hsm' : P.behT (P.behO ⟨#[115, 117, 109, 32]⟩ T3) = P.txt sm := hsm
    rw [hid', hsm', hbody]
    clear hid hid' hsm hsm' hbody hx hnil
    have HI := Lib.hid (fun W hW => HIs.out (P.txt sm) W hW)
    have HS := Lib.hid (fun W hW => HSm.out (P.txt (P.jText id cs os)) (by omega) W hW)
    have HM := Lib.hid (fun W => HNm.out (P.txt id) (by omega) W)
    generalize P.txt id = I at *
    generalize P.txt (P.jText id cs os) = X at *
    generalize P.txt sm = Y at *
    rcases hj with ⟨j1, hJ⟩ | ⟨j1, j2, hJ⟩ | ⟨j1, j2, hj⟩
    · replace hJr := hJr.trans hJ
      subst hJr
      rw [j1] at HI
      have n0 := HN4.out.cell 0
      have n1 := HN4.out.cell 1
      have n2 := HN4.out.cell 2
      have g0 := HN4.out.free 0
      have g1 := HN4.out.free 1
      have g2 := HN4.out.free 2
      go_wp2_with (go_at_call 171; refine (HI.out _ HJ4.out).mono ?_; rintro e w5 ⟨rfl, hb5⟩; have HN5 := Lib.hid (HN4.out.below hb5); have HB5 := Lib.hid (bstep HB4.out hb5); have n0 := HN5.out.cell 0; have n1 := HN5.out.cell 1; have n2 := HN5.out.cell 2; have g0 := HN5.out.free 0; have g1 := HN5.out.free 1; have g2 := HN5.out.free 2)
      have HS9 := Lib.hid (jstore3 HN5.out HB5.out (Nat.le_refl _) (.string ⟨#[]⟩) (.slice none 0 0) (.slice none 0 0))
      clear n0 n1 n2 g0 g1 g2
      have d0 := HS9.out.1.cell 0
      have d1 := HS9.out.1.cell 1
      have d2 := HS9.out.1.cell 2
      refine bodyPost_ret (v := .tuple #[.agg #[.string ⟨#[]⟩, .slice none 0 0, .slice none 0 0], .int .i64 8]) ?_ rfl (pj_no HS9.out.2)
      simp [results, Tryz.results82, go_sem, d0, d1, d2]
    · replace hJr := hJr.trans hJ
      subst hJr
      rw [j1] at HI
      have n0 := HN4.out.cell 0
      have n1 := HN4.out.cell 1
      have n2 := HN4.out.cell 2
      have g0 := HN4.out.free 0
      have g1 := HN4.out.free 1
      have g2 := HN4.out.free 2
      go_wp2_with (first
        | (go_at_call 171; refine (HI.out _ HJ4.out).mono ?_; rintro e w5 ⟨rfl, hb5⟩; have HN5 := Lib.hid (HN4.out.below hb5); have HB5 := Lib.hid (bstep HB4.out hb5); have n0 := HN5.out.cell 0; have n1 := HN5.out.cell 1; have n2 := HN5.out.cell 2; have g0 := HN5.out.free 0; have g1 := HN5.out.free 1; have g2 := HN5.out.free 2)
        | (go_at_call 51; refine (HS.out _ (HJ.out _ HB5.out)).mono ?_; rintro e w6 ⟨rfl, hb6⟩; have HN6 := Lib.hid (HN5.out.below hb6); have HB6 := Lib.hid (bstep HB5.out hb6); have n0 := HN6.out.cell 0; have n1 := HN6.out.cell 1; have n2 := HN6.out.cell 2; have g0 := HN6.out.free 0; have g1 := HN6.out.free 1; have g2 := HN6.out.free 2))
      have HS9 := Lib.hid (jstore3 HN6.out HB6.out (Nat.le_refl _) (.string ⟨#[]⟩) (.slice none 0 0) (.slice none 0 0))
      clear n0 n1 n2 g0 g1 g2
      have d0 := HS9.out.1.cell 0
      have d1 := HS9.out.1.cell 1
      have d2 := HS9.out.1.cell 2
      refine bodyPost_ret (v := .tuple #[.agg #[.string ⟨#[]⟩, .slice none 0 0, .slice none 0 0], .int .i64 14]) ?_ rfl (pj_no HS9.out.2)
      simp [results, Tryz.results82, go_sem, d0, d1, d2]
    · rw [j1] at HI
      have j3 : (Y.toList == (P.sumOf X).toList) = true := by rw [j2]; simp
      rw [← j2] at HS
      clear j2
      rcases hj with ⟨j4, hJ⟩ | ⟨j4, hj⟩
      · replace hJr := hJr.trans hJ
        subst hJr
        rw [j4] at HM
        have n0 := HN4.out.cell 0
        have n1 := HN4.out.cell 1
        have n2 := HN4.out.cell 2
        have g0 := HN4.out.free 0
        have g1 := HN4.out.free 1
        have g2 := HN4.out.free 2
        go_wp2_with (first
          | (go_at_call 171; refine (HI.out _ HJ4.out).mono ?_; rintro e w5 ⟨rfl, hb5⟩; have HN5 := Lib.hid (HN4.out.below hb5); have HB5 := Lib.hid (bstep HB4.out hb5); have n0 := HN5.out.cell 0; have n1 := HN5.out.cell 1; have n2 := HN5.out.cell 2; have g0 := HN5.out.free 0; have g1 := HN5.out.free 1; have g2 := HN5.out.free 2)
          | (go_at_call 51; refine (HS.out _ (HJ.out _ HB5.out)).mono ?_; rintro e w6 ⟨rfl, hb6⟩; have HN6 := Lib.hid (HN5.out.below hb6); have HB6 := Lib.hid (bstep HB5.out hb6); have n0 := HN6.out.cell 0; have n1 := HN6.out.cell 1; have n2 := HN6.out.cell 2; have g0 := HN6.out.free 0; have g1 := HN6.out.free 1; have g2 := HN6.out.free 2)
          | (go_at_call 85; refine (HM.out _).mono ?_; rintro e w7 ⟨rfl, rfl⟩))
        have HS9 := Lib.hid (jstore3 HN6.out HB6.out (Nat.le_refl _) (.string ⟨#[]⟩) (.slice none 0 0) (.slice none 0 0))
        clear n0 n1 n2 g0 g1 g2
        have d0 := HS9.out.1.cell 0
        have d1 := HS9.out.1.cell 1
        have d2 := HS9.out.1.cell 2
        refine bodyPost_ret (v := .tuple #[.agg #[.string ⟨#[]⟩, .slice none 0 0, .slice none 0 0], .int .i64 5]) ?_ rfl (pj_no HS9.out.2)
        simp [results, Tryz.results82, go_sem, d0, d1, d2]
      · rw [j4] at HM
        rcases hj with ⟨j5, hJ⟩ | ⟨j5, hj⟩
        · rw [← hf1] at hJ
          replace hJr := hJr.trans hJ
          subst hJr
          have g5 : (f1 != 0) = true := by rw [hf1]; simpa using j5
          clear hf1 hf2
          have n0 := HN4.out.cell 0
          have n1 := HN4.out.cell 1
          have n2 := HN4.out.cell 2
          have g0 := HN4.out.free 0
          have g1 := HN4.out.free 1
          have g2 := HN4.out.free 2
          go_wp2_with (first
            | (go_at_call 171; refine (HI.out _ HJ4.out).mono ?_; rintro e w5 ⟨rfl, hb5⟩; have HN5 := Lib.hid (HN4.out.below hb5); have HB5 := Lib.hid (bstep HB4.out hb5); have n0 := HN5.out.cell 0; have n1 := HN5.out.cell 1; have n2 := HN5.out.cell 2; have g0 := HN5.out.free 0; have g1 := HN5.out.free 1; have g2 := HN5.out.free 2)
            | (go_at_call 51; refine (HS.out _ (HJ.out _ HB5.out)).mono ?_; rintro e w6 ⟨rfl, hb6⟩; have HN6 := Lib.hid (HN5.out.below hb6); have HB6 := Lib.hid (bstep HB5.out hb6); have n0 := HN6.out.cell 0; have n1 := HN6.out.cell 1; have n2 := HN6.out.cell 2; have g0 := HN6.out.free 0; have g1 := HN6.out.free 1; have g2 := HN6.out.free 2)
            | (go_at_call 85; refine (HM.out _).mono ?_; rintro e w7 ⟨rfl, rfl⟩))
          have HS9 := Lib.hid (jstore3 HN6.out HB6.out (Nat.le_refl _) (.string ⟨#[]⟩) (.slice none 0 0) (.slice none 0 0))
          clear n0 n1 n2 g0 g1 g2
          have d0 := HS9.out.1.cell 0
          have d1 := HS9.out.1.cell 1
          have d2 := HS9.out.1.cell 2
          refine bodyPost_ret (v := .tuple #[.agg #[.string ⟨#[]⟩, .slice none 0 0, .slice none 0 0], .int .i64 f1]) ?_ rfl (pj_no HS9.out.2)
          simp [results, Tryz.results82, go_sem, d0, d1, d2]
        · rw [j5] at hf1
          subst hf1
          have hcs := hL1 j5
          subst hcs
          rcases hj with ⟨j6, hJ⟩ | ⟨j6, hj⟩
          · rw [← hf2] at hJ
            replace hJr := hJr.trans hJ
            subst hJr
            have g6 : (f2 != 0) = true := by rw [hf2]; simpa using j6
            clear hf2
            have n0 := HN4.out.cell 0
            have n1 := HN4.out.cell 1
            have n2 := HN4.out.cell 2
            have g0 := HN4.out.free 0
            have g1 := HN4.out.free 1
            have g2 := HN4.out.free 2
            go_wp2_with (first
              | (go_at_call 171; refine (HI.out _ HJ4.out).mono ?_; rintro e w5 ⟨rfl, hb5⟩; have HN5 := Lib.hid (HN4.out.below hb5); have HB5 := Lib.hid (bstep HB4.out hb5); have n0 := HN5.out.cell 0; have n1 := HN5.out.cell 1; have n2 := HN5.out.cell 2; have g0 := HN5.out.free 0; have g1 := HN5.out.free 1; have g2 := HN5.out.free 2)
              | (go_at_call 51; refine (HS.out _ (HJ.out _ HB5.out)).mono ?_; rintro e w6 ⟨rfl, hb6⟩; have HN6 := Lib.hid (HN5.out.below hb6); have HB6 := Lib.hid (bstep HB5.out hb6); have n0 := HN6.out.cell 0; have n1 := HN6.out.cell 1; have n2 := HN6.out.cell 2; have g0 := HN6.out.free 0; have g1 := HN6.out.free 1; have g2 := HN6.out.free 2)
              | (go_at_call 85; refine (HM.out _).mono ?_; rintro e w7 ⟨rfl, rfl⟩))
            have HS9 := Lib.hid (jstore3 HN6.out HB6.out (Nat.le_refl _) (.string ⟨#[]⟩) (.slice none 0 0) (.slice none 0 0))
            clear n0 n1 n2 g0 g1 g2
            have d0 := HS9.out.1.cell 0
            have d1 := HS9.out.1.cell 1
            have d2 := HS9.out.1.cell 2
            refine bodyPost_ret (v := .tuple #[.agg #[.string ⟨#[]⟩, .slice none 0 0, .slice none 0 0], .int .i64 f2]) ?_ rfl (pj_no HS9.out.2)
            simp [results, Tryz.results82, go_sem, d0, d1, d2]
          · rw [j6] at hf2
            subst hf2
            have hos := hL2 j6
            subst hos
            rcases hj with ⟨j7, hJ⟩ | ⟨j7, hJ⟩
            · replace hJr := hJr.trans hJ
              subst hJr
              have g7 : decide ((65536 : Int) < (t.size : Int)) = true := decide_eq_true (by omega)
              have n0 := HN4.out.cell 0
              have n1 := HN4.out.cell 1
              have n2 := HN4.out.cell 2
              have g0 := HN4.out.free 0
              have g1 := HN4.out.free 1
              have g2 := HN4.out.free 2
              go_wp2_with (first
                | (go_at_call 171; refine (HI.out _ HJ4.out).mono ?_; rintro e w5 ⟨rfl, hb5⟩; have HN5 := Lib.hid (HN4.out.below hb5); have HB5 := Lib.hid (bstep HB4.out hb5); have n0 := HN5.out.cell 0; have n1 := HN5.out.cell 1; have n2 := HN5.out.cell 2; have g0 := HN5.out.free 0; have g1 := HN5.out.free 1; have g2 := HN5.out.free 2)
                | (go_at_call 51; refine (HS.out _ (HJ.out _ HB5.out)).mono ?_; rintro e w6 ⟨rfl, hb6⟩; have HN6 := Lib.hid (HN5.out.below hb6); have HB6 := Lib.hid (bstep HB5.out hb6); have n0 := HN6.out.cell 0; have n1 := HN6.out.cell 1; have n2 := HN6.out.cell 2; have g0 := HN6.out.free 0; have g1 := HN6.out.free 1; have g2 := HN6.out.free 2)
                | (go_at_call 85; refine (HM.out _).mono ?_; rintro e w7 ⟨rfl, rfl⟩))
              have HS9 := Lib.hid (jstore3 HN6.out HB6.out (Nat.le_refl _) (.string ⟨#[]⟩) (.slice none 0 0) (.slice none 0 0))
              clear n0 n1 n2 g0 g1 g2
              have d0 := HS9.out.1.cell 0
              have d1 := HS9.out.1.cell 1
              have d2 := HS9.out.1.cell 2
              refine bodyPost_ret (v := .tuple #[.agg #[.string ⟨#[]⟩, .slice none 0 0, .slice none 0 0], .int .i64 4]) ?_ rfl (pj_no HS9.out.2)
              simp [results, Tryz.results82, go_sem, d0, d1, d2]
            · replace hJr := hJr.trans hJ
              subst hJr
              have g7 : decide ((65536 : Int) < (t.size : Int)) = false := decide_eq_false (by omega)
              have n0 := HN4.out.cell 0
              have n1 := HN4.out.cell 1
              have n2 := HN4.out.cell 2
              have g0 := HN4.out.free 0
              have g1 := HN4.out.free 1
              have g2 := HN4.out.free 2
              go_wp2_with (first
                | (go_at_call 171; refine (HI.out _ HJ4.out).mono ?_; rintro e w5 ⟨rfl, hb5⟩; have HN5 := Lib.hid (HN4.out.below hb5); have HB5 := Lib.hid (bstep HB4.out hb5); have n0 := HN5.out.cell 0; have n1 := HN5.out.cell 1; have n2 := HN5.out.cell 2; have g0 := HN5.out.free 0; have g1 := HN5.out.free 1; have g2 := HN5.out.free 2)
                | (go_at_call 51; refine (HS.out _ (HJ.out _ HB5.out)).mono ?_; rintro e w6 ⟨rfl, hb6⟩; have HN6 := Lib.hid (HN5.out.below hb6); have HB6 := Lib.hid (bstep HB5.out hb6); have n0 := HN6.out.cell 0; have n1 := HN6.out.cell 1; have n2 := HN6.out.cell 2; have g0 := HN6.out.free 0; have g1 := HN6.out.free 1; have g2 := HN6.out.free 2)
                | (go_at_call 85; refine (HM.out _).mono ?_; rintro e w7 ⟨rfl, rfl⟩))
              have HS9 := Lib.hid (jstore3 HN6.out HB6.out (Nat.le_refl _) (.string I) (.slice a1 L1.length c1) (.slice a2 L2.length c2))
              have hb0 : w.heap.size < w1.heap.size := by have := HR1.out.lt; omega
              have hb02 : w.heap.size < w2.heap.size := by have := HR2.out.lt; omega
              have HOa := Lib.hid (chs_of_own (ownsRow_setCell_below (ownsRow_setCell_below (ownsRow_setCell_below (own_below (own_below HO24.out hb5) hb6) (a := ⟨w.heap.size, 0, none⟩) hb0 (.string I)) (a := ⟨w.heap.size, 1, none⟩) hb0 (.slice a1 L1.length c1)) (a := ⟨w.heap.size, 2, none⟩) hb0 (.slice a2 L2.length c2)))
              have HOb := Lib.hid (chs_of_own (ownsRow_setCell_below (ownsRow_setCell_below (ownsRow_setCell_below (own_below (own_below HO4.out hb5) hb6) (a := ⟨w.heap.size, 0, none⟩) hb02 (.string I)) (a := ⟨w.heap.size, 1, none⟩) hb02 (.slice a1 L1.length c1)) (a := ⟨w.heap.size, 2, none⟩) hb02 (.slice a2 L2.length c2)))
              clear n0 n1 n2 g0 g1 g2
              have d0 := HS9.out.1.cell 0
              have d1 := HS9.out.1.cell 1
              have d2 := HS9.out.1.cell 2
              refine bodyPost_ret (v := .tuple #[.agg #[.string I, .slice a1 L1.length c1, .slice a2 L2.length c2], .int .i64 0]) ?_ rfl ⟨a1, c1, a2, c2, rfl, HOa.out, HOb.out, HS9.out.2, fun g h => Nat.le_trans (Nat.le_of_lt hb0) (own_ge HO24.out g h), fun g h => Nat.le_trans (Nat.le_of_lt hb02) (own_ge HO4.out g h)⟩
              simp [results, Tryz.results82, go_sem, d0, d1, d2]
end Go.Proofs.YtomikcemiacjmaaGreatDoor
