/- Walks: outref1's Parse of whatever text. -/
import Derived.Test.YtkibmoekadmjnaaGreatDoorZHState
import Derived.Test.YtkibmoekadmjnaaGreatDoorZUPure
import Derived.Deep.RegionLaw

namespace Go.Proofs.YtkibmoekadmjnaaGreatDoor
open Go.RowKit Go.Lib Go.Shelf Go.Maps

set_option maxRecDepth 100000 in
theorem rparse_large (t : ByteArray) (h : 4194304 < t.size) (w : World) : Calls Tryz.prog 60 #[.string t] w fun e w' => PA w (P.m0, 0, 4) e w' := by
  have g : decide ((4194304 : Int) < (t.size : Int)) = true := decide_eq_true (by omega)
  have HR0 := Lib.hid (HasRow.new w mz 26)
  have HZ := Lib.hid (below_alloc w (.cells mz 26))
  clear h
  obtain ⟨y0, y1, y2, y3, _⟩ := hrow4 HR0.out
  have f0 := HR0.out.free 0
  have f1 := HR0.out.free 1
  have f2 := HR0.out.free 2
  have f3 := HR0.out.free 3
  go_enter Tryz.func60, Tryz.ntmps60
  go_wp2_with fail
  obtain ⟨d0, d1, d2, d3, _⟩ := hrow4 HR0.out
  refine bodyPost_ret (v := .tuple #[machV adz P.m0, .int .i64 ((0 : Nat) : Int), .int .i64 4]) ?_ rfl ⟨adz, rfl, lies_none _ _, HZ.out⟩
  unfold machV
  simp [results, Tryz.results60, go_sem, d0, d1, d2, d3]

set_option maxRecDepth 100000 in
set_option maxHeartbeats 40000000 in
theorem rparse_read (t : ByteArray) (ht : t.size ≤ 4194304) (w : World) (hw : Good w) : Calls Tryz.prog 60 #[.string t] w fun e w' => PA w (P.parse t) e w' := by
  have g : decide ((4194304 : Int) < (t.size : Int)) = false := decide_eq_false (by omega)
  have mixed : Tryz.prog.follows .mixedOrders = true := by kernel_rfl
  have HCl := Lib.hid (fun nb W hn hW => cutLines_any t (by omega) nb W hn hW)
  have HQ := P.parse_loop t ht
  have HQ1 := Lib.hid HQ.1
  have HQ2 := Lib.hid HQ.2
  have HML := Lib.hid (fun k h => P.lns_get t k h)
  have HMs := Lib.hid (fun k h => Nat.le_trans (P.lns_size t k h) ht)
  have HMl := Lib.hid (Nat.le_trans (P.lns_le t) (Nat.succ_le_succ ht))
  have Hw := Lib.hid hw
  have HB0 := Lib.hid (below2 w (.cells mz 26) (.cells mz 26))
  have HC := Lib.hid (fun (l : ByteArray) (hl : l.size ≤ 4194304) W hW => cut_any l 32 (by omega) W hW)
  have HP := Lib.hid (fun (l : ByteArray) (hl : l.size ≤ 4194304) W hW => quoted_any (P.cutB l 32) (by have := cutB_le l 32; omega) W hW)
  clear HQ hw ht
  generalize P.parse t = Q at *
  generalize P.torn t = tn at *
  generalize P.lns t = M at *
  generalize P.parts 10 t = L at *
  generalize hR : P.rloop tn M 0 P.m0 0 = R at *
  replace hR : Hid (P.rloop tn (M.drop 0) 0 P.m0 0 = R) := Lib.hid hR
  go_enter Tryz.func60, Tryz.ntmps60
  go_wp2_with (go_at_call 148; refine (HCl.out (w.heap.size + 2) _ (by simp) (Hw.out.mono HB0.out)).mono ?_; rintro e w1 ⟨⟨cap, rfl⟩, hrow, hb1⟩; have HS1 := Lib.hid (RS.start w hrow hb1))
  clear g HCl HB0 hrow hb1
  go_loopw [6, 32] (fun s i wr => ∃ (k : Nat) (sv : Int) (A : Ad) (m : P.Mach), s = .int .i64 sv ∧ i = .int .i64 k ∧ k ≤ M.length ∧ P.lens m ≤ k ∧ 0 ≤ sv ∧ Hid (RS w wr A m L) ∧ Hid (P.rloop tn (M.drop k) k m sv = R)) (fun _ i _ => M.length - (RowKit.intOf i).toNat)
  case atStart => exact ⟨0, 0, adz, P.m0, rfl, rfl, Nat.zero_le _, Nat.le_refl _, Int.le_refl _, HS1, hR⟩
  case round =>
    obtain ⟨k, sv, A, m, rfl, rfl, hk, hm, hs0, HS, HR⟩ := hrel
    clear HS1 hR
    by_cases hlt : k < M.length
    · obtain ⟨hkl, hML⟩ := HML.out k hlt
      have hcell := row_cell HS.out.row k hkl
      rw [hML] at hcell
      have hsz := Lib.hid (HMs.out k hlt)
      have HCt := Lib.hid (fun W hW => HC.out M[k] hsz.out W hW)
      have HPt := Lib.hid (fun W hW => HP.out M[k] hsz.out W hW)
      have HIx := Lib.hid (fun nb W hn => index5_any (P.cutA M[k] 32) nb W hn)
      have hK1 : IntKind.i64.wrap ((k : Int) + 1) = ((k + 1 : Nat) : Int) := by rw [IntKind.wrap_i64]; have := HMl.out; omega
      clear hkl hML HML HMs HC HP
      by_cases hc0 : (P.cutA M[k] 32).toList = P.wFact
      · have hc := hc0
        have hix : P.idx5 (P.cutA M[k] 32).toList = 0 := by rw [hc]; decide +kernel
        rw [hix] at HIx
        have HLn := Lib.hid (P.ln_fact (tn := tn) (m := m) (s := sv) hlt hc)
        obtain ⟨i0, hi, hz0, hz1, hz2⟩ := info_parts info62
        have HLe : Hid (m.facts.length + 1 ≤ maxLen ∧ (m.facts.length + 1) * 32 ≤ 140737488355328) := Lib.hid (by have := HMl.out; have hm2 := hm; unfold P.lens at hm2; unfold maxLen; omega)
        generalize M[k] = l at *
        unfold P.wFact at hc
        generalize P.cutA l 32 = wd at *
        generalize P.cutB l 32 = r at *
        generalize P.pairK r = kk at *
        generalize P.pairV r = vv at *
        generalize P.rq r = q at *
        clear hix hsz
        by_cases hsv : ¬ sv ≤ 0
        · skip
          have hQ := HQ1.out k (HR.out.symm.trans (HLn.out.bad (by rw [decide_eq_false hsv]; rfl)))
          subst hQ
          clear HLn HQ1 HQ2 HR
          go_wp2_with (first
            | (go_at_call 149; refine (HCt.out _ (Hw.out.mono HS.out.z)).mono ?_; rintro e w2 ⟨rfl, hb2⟩; have HS2 := Lib.hid (HS.out.below hb2))
            | (go_at_call 150; refine (HIx.out w2.heap.size w2 rfl).mono ?_; rintro e w3 ⟨rfl, rfl⟩; have HS3 := Lib.hid (HS2.out.below (below_alloc w2 (.cells #[.string P.tFact, .string P.tFile, .string P.tSet, .string P.tSvc, .string P.tRun] 9))))
            | (go_at_call 151; refine (HPt.out _ (Hw.out.mono HS3.out.z)).mono ?_; rintro e w4 ⟨rfl, hb4⟩; have HS4 := Lib.hid (HS3.out.below hb4); clear hb2 hb4; obtain ⟨r0, r1, r2, r3, _⟩ := hrow4 HS4.out.ps.row)
            | (at_builtin; refine wpList_append_sl5 rfl _ _ 22 rfl (w.heap.size + 3) 62 i0 _ 2 32 Tryz.underlying22 hi hz0 hz1 hz2 rfl (by decide) _ _ _ rfl (own_below (W := w4) HS4.out.ps.own.f (below_alloc w4 (.cells #[.string kk, .string vv] 62))) ⟨w4.heap.size, 0, none⟩ 1 1 (cellsS ⟨kk, vv⟩) rfl rfl (cells_new w4 (cellsS ⟨kk, vv⟩) 62) (by intro u hu; simp [cellsS] at hu; rcases hu with rfl | rfl <;> rfl) HLe.out.1 HLe.out.2 (Nat.le_trans HS4.out.ps.hb (below_alloc w4 (.cells #[.string kk, .string vv] 62)).size) ?_; intro p' c' w6 hown hgrow hblk; obtain ⟨q1, q2, q3⟩ := HS4.out.addF (x := ⟨kk, vv⟩) (below_alloc w4 (.cells #[.string kk, .string vv] 62)) hown hgrow hblk; have HS6 := Lib.hid q3; clear q3 hown hgrow hblk; obtain ⟨y0, y1, y2, y3, _⟩ := hrow4 HS6.out.res; have f0 := HS6.out.res.free 0; have f1 := HS6.out.res.free 1; have f2 := HS6.out.res.free 2; have f3 := HS6.out.res.free 3))
          have HSt := Lib.hid (store4 HS6.out.res HS6.out.z (Nat.le_refl _) (.slice none 0 0) (.slice none 0 0) (.slice none 0 0) (.slice none 0 0))
          clear y0 y1 y2 y3 f0 f1 f2 f3 q1 q2 r0 r1 r2 r3
          obtain ⟨d0, d1, d2, d3, _⟩ := hrow4 HSt.out.1
          refine bodyPost_ret (v := .tuple #[machV adz P.m0, .int .i64 (k : Int), .int .i64 8]) ?_ rfl ⟨adz, rfl, lies_none _ _, HSt.out.2⟩
          unfold machV
          simp [results, Tryz.results60, go_sem, d0, d1, d2, d3]
        replace hsv : sv ≤ 0 := by omega
        cases hkt : ((k : Int) != tn) with
        | false =>
          have hQ := HQ1.out k (HR.out.symm.trans (HLn.out.bad (by rw [hkt, Bool.and_false])))
          subst hQ
          clear HLn HQ1 HQ2 HR
          go_wp2_with (first
            | (go_at_call 149; refine (HCt.out _ (Hw.out.mono HS.out.z)).mono ?_; rintro e w2 ⟨rfl, hb2⟩; have HS2 := Lib.hid (HS.out.below hb2))
            | (go_at_call 150; refine (HIx.out w2.heap.size w2 rfl).mono ?_; rintro e w3 ⟨rfl, rfl⟩; have HS3 := Lib.hid (HS2.out.below (below_alloc w2 (.cells #[.string P.tFact, .string P.tFile, .string P.tSet, .string P.tSvc, .string P.tRun] 9))))
            | (go_at_call 151; refine (HPt.out _ (Hw.out.mono HS3.out.z)).mono ?_; rintro e w4 ⟨rfl, hb4⟩; have HS4 := Lib.hid (HS3.out.below hb4); clear hb2 hb4; obtain ⟨r0, r1, r2, r3, _⟩ := hrow4 HS4.out.ps.row)
            | (at_builtin; refine wpList_append_sl5 rfl _ _ 22 rfl (w.heap.size + 3) 62 i0 _ 2 32 Tryz.underlying22 hi hz0 hz1 hz2 rfl (by decide) _ _ _ rfl (own_below (W := w4) HS4.out.ps.own.f (below_alloc w4 (.cells #[.string kk, .string vv] 62))) ⟨w4.heap.size, 0, none⟩ 1 1 (cellsS ⟨kk, vv⟩) rfl rfl (cells_new w4 (cellsS ⟨kk, vv⟩) 62) (by intro u hu; simp [cellsS] at hu; rcases hu with rfl | rfl <;> rfl) HLe.out.1 HLe.out.2 (Nat.le_trans HS4.out.ps.hb (below_alloc w4 (.cells #[.string kk, .string vv] 62)).size) ?_; intro p' c' w6 hown hgrow hblk; obtain ⟨q1, q2, q3⟩ := HS4.out.addF (x := ⟨kk, vv⟩) (below_alloc w4 (.cells #[.string kk, .string vv] 62)) hown hgrow hblk; have HS6 := Lib.hid q3; clear q3 hown hgrow hblk; obtain ⟨y0, y1, y2, y3, _⟩ := hrow4 HS6.out.res; have f0 := HS6.out.res.free 0; have f1 := HS6.out.res.free 1; have f2 := HS6.out.res.free 2; have f3 := HS6.out.res.free 3))
          have HSt := Lib.hid (store4 HS6.out.res HS6.out.z (Nat.le_refl _) (.slice none 0 0) (.slice none 0 0) (.slice none 0 0) (.slice none 0 0))
          clear y0 y1 y2 y3 f0 f1 f2 f3 q1 q2 r0 r1 r2 r3
          obtain ⟨d0, d1, d2, d3, _⟩ := hrow4 HSt.out.1
          refine bodyPost_ret (v := .tuple #[machV adz P.m0, .int .i64 (k : Int), .int .i64 8]) ?_ rfl ⟨adz, rfl, lies_none _ _, HSt.out.2⟩
          unfold machV
          simp [results, Tryz.results60, go_sem, d0, d1, d2, d3]
        | true =>
          cases q with
          | false =>
            have hQ := HQ1.out k (HR.out.symm.trans (HLn.out.bad (by rw [Bool.and_false, Bool.false_and])))
            subst hQ
            clear HLn HQ1 HQ2 HR
            go_wp2_with (first
              | (go_at_call 149; refine (HCt.out _ (Hw.out.mono HS.out.z)).mono ?_; rintro e w2 ⟨rfl, hb2⟩; have HS2 := Lib.hid (HS.out.below hb2))
              | (go_at_call 150; refine (HIx.out w2.heap.size w2 rfl).mono ?_; rintro e w3 ⟨rfl, rfl⟩; have HS3 := Lib.hid (HS2.out.below (below_alloc w2 (.cells #[.string P.tFact, .string P.tFile, .string P.tSet, .string P.tSvc, .string P.tRun] 9))))
              | (go_at_call 151; refine (HPt.out _ (Hw.out.mono HS3.out.z)).mono ?_; rintro e w4 ⟨rfl, hb4⟩; have HS4 := Lib.hid (HS3.out.below hb4); clear hb2 hb4; obtain ⟨r0, r1, r2, r3, _⟩ := hrow4 HS4.out.ps.row)
              | (at_builtin; refine wpList_append_sl5 rfl _ _ 22 rfl (w.heap.size + 3) 62 i0 _ 2 32 Tryz.underlying22 hi hz0 hz1 hz2 rfl (by decide) _ _ _ rfl (own_below (W := w4) HS4.out.ps.own.f (below_alloc w4 (.cells #[.string kk, .string vv] 62))) ⟨w4.heap.size, 0, none⟩ 1 1 (cellsS ⟨kk, vv⟩) rfl rfl (cells_new w4 (cellsS ⟨kk, vv⟩) 62) (by intro u hu; simp [cellsS] at hu; rcases hu with rfl | rfl <;> rfl) HLe.out.1 HLe.out.2 (Nat.le_trans HS4.out.ps.hb (below_alloc w4 (.cells #[.string kk, .string vv] 62)).size) ?_; intro p' c' w6 hown hgrow hblk; obtain ⟨q1, q2, q3⟩ := HS4.out.addF (x := ⟨kk, vv⟩) (below_alloc w4 (.cells #[.string kk, .string vv] 62)) hown hgrow hblk; have HS6 := Lib.hid q3; clear q3 hown hgrow hblk; obtain ⟨y0, y1, y2, y3, _⟩ := hrow4 HS6.out.res; have f0 := HS6.out.res.free 0; have f1 := HS6.out.res.free 1; have f2 := HS6.out.res.free 2; have f3 := HS6.out.res.free 3))
            have HSt := Lib.hid (store4 HS6.out.res HS6.out.z (Nat.le_refl _) (.slice none 0 0) (.slice none 0 0) (.slice none 0 0) (.slice none 0 0))
            clear y0 y1 y2 y3 f0 f1 f2 f3 q1 q2 r0 r1 r2 r3
            obtain ⟨d0, d1, d2, d3, _⟩ := hrow4 HSt.out.1
            refine bodyPost_ret (v := .tuple #[machV adz P.m0, .int .i64 (k : Int), .int .i64 8]) ?_ rfl ⟨adz, rfl, lies_none _ _, HSt.out.2⟩
            unfold machV
            simp [results, Tryz.results60, go_sem, d0, d1, d2, d3]
          | true =>
            have hR2 := Lib.hid ((HLn.out.good (decide_eq_true hsv) rfl hkt).symm.trans HR.out)
            clear HLn HR
            go_wp2_with (first
            | (go_at_call 149; refine (HCt.out _ (Hw.out.mono HS.out.z)).mono ?_; rintro e w2 ⟨rfl, hb2⟩; have HS2 := Lib.hid (HS.out.below hb2))
            | (go_at_call 150; refine (HIx.out w2.heap.size w2 rfl).mono ?_; rintro e w3 ⟨rfl, rfl⟩; have HS3 := Lib.hid (HS2.out.below (below_alloc w2 (.cells #[.string P.tFact, .string P.tFile, .string P.tSet, .string P.tSvc, .string P.tRun] 9))))
            | (go_at_call 151; refine (HPt.out _ (Hw.out.mono HS3.out.z)).mono ?_; rintro e w4 ⟨rfl, hb4⟩; have HS4 := Lib.hid (HS3.out.below hb4); clear hb2 hb4; obtain ⟨r0, r1, r2, r3, _⟩ := hrow4 HS4.out.ps.row)
            | (at_builtin; refine wpList_append_sl5 rfl _ _ 22 rfl (w.heap.size + 3) 62 i0 _ 2 32 Tryz.underlying22 hi hz0 hz1 hz2 rfl (by decide) _ _ _ rfl (own_below (W := w4) HS4.out.ps.own.f (below_alloc w4 (.cells #[.string kk, .string vv] 62))) ⟨w4.heap.size, 0, none⟩ 1 1 (cellsS ⟨kk, vv⟩) rfl rfl (cells_new w4 (cellsS ⟨kk, vv⟩) 62) (by intro u hu; simp [cellsS] at hu; rcases hu with rfl | rfl <;> rfl) HLe.out.1 HLe.out.2 (Nat.le_trans HS4.out.ps.hb (below_alloc w4 (.cells #[.string kk, .string vv] 62)).size) ?_; intro p' c' w6 hown hgrow hblk; obtain ⟨q1, q2, q3⟩ := HS4.out.addF (x := ⟨kk, vv⟩) (below_alloc w4 (.cells #[.string kk, .string vv] 62)) hown hgrow hblk; have HS6 := Lib.hid q3; clear q3 hown hgrow hblk; obtain ⟨y0, y1, y2, y3, _⟩ := hrow4 HS6.out.res; have f0 := HS6.out.res.free 0; have f1 := HS6.out.res.free 1; have f2 := HS6.out.res.free 2; have f3 := HS6.out.res.free 3))
            go_roundw
            case rel => exact ⟨k + 1, 0, _, _, rfl, by go_num, by omega, by (have h1 : P.lens { m with facts := m.facts ++ [⟨kk, vv⟩] } ≤ P.lens m + 1 := by unfold P.lens; simp only [List.length_append, List.length_cons, List.length_nil]; omega); omega, by omega, HS6, hR2⟩
            case measure => simp [RowKit.intOf]; omega
      by_cases hc1 : (P.cutA M[k] 32).toList = P.wFile
      · have hc := hc1
        have hix : P.idx5 (P.cutA M[k] 32).toList = 1 := by rw [hc]; decide +kernel
        rw [hix] at HIx
        have HLn := Lib.hid (P.ln_file (tn := tn) (m := m) (s := sv) hlt hc)
        obtain ⟨i0, hi, hz0, hz1, hz2⟩ := info_parts info42
        have HLe : Hid (m.files.length + 1 ≤ maxLen ∧ (m.files.length + 1) * 40 ≤ 140737488355328) := Lib.hid (by have := HMl.out; have hm2 := hm; unfold P.lens at hm2; unfold maxLen; omega)
        generalize M[k] = l at *
        unfold P.wFile at hc
        generalize P.cutA l 32 = wd at *
        generalize P.cutB l 32 = r at *
        generalize P.pairK r = kk at *
        generalize P.pairV r = vv at *
        generalize P.rq r = q at *
        clear hix hsz
        by_cases hsv : ¬ sv ≤ 1
        · skip
          have hQ := HQ1.out k (HR.out.symm.trans (HLn.out.bad (by rw [decide_eq_false hsv]; rfl)))
          subst hQ
          clear HLn HQ1 HQ2 HR
          go_wp2_with (first
            | (go_at_call 149; refine (HCt.out _ (Hw.out.mono HS.out.z)).mono ?_; rintro e w2 ⟨rfl, hb2⟩; have HS2 := Lib.hid (HS.out.below hb2))
            | (go_at_call 150; refine (HIx.out w2.heap.size w2 rfl).mono ?_; rintro e w3 ⟨rfl, rfl⟩; have HS3 := Lib.hid (HS2.out.below (below_alloc w2 (.cells #[.string P.tFact, .string P.tFile, .string P.tSet, .string P.tSvc, .string P.tRun] 9))))
            | (go_at_call 151; refine (HPt.out _ (Hw.out.mono HS3.out.z)).mono ?_; rintro e w4 ⟨rfl, hb4⟩; have HS4 := Lib.hid (HS3.out.below hb4); clear hb2 hb4; obtain ⟨r0, r1, r2, r3, _⟩ := hrow4 HS4.out.ps.row)
            | (at_builtin; refine wpList_append_sl5 rfl _ _ 23 rfl (w.heap.size + 3) 42 i0 _ 3 40 Tryz.underlying23 hi hz0 hz1 hz2 rfl (by decide) _ _ _ rfl (own_below (W := w4) HS4.out.ps.own.i (below_alloc w4 (.cells #[.string kk, .string vv, .bool false] 42))) ⟨w4.heap.size, 0, none⟩ 1 1 (cellsF ⟨kk, vv, false⟩) rfl rfl (cells_new w4 (cellsF ⟨kk, vv, false⟩) 42) (by intro u hu; simp [cellsF] at hu; rcases hu with rfl | rfl | rfl <;> rfl) HLe.out.1 HLe.out.2 (Nat.le_trans HS4.out.ps.hb (below_alloc w4 (.cells #[.string kk, .string vv, .bool false] 42)).size) ?_; intro p' c' w6 hown hgrow hblk; obtain ⟨q1, q2, q3⟩ := HS4.out.addI (x := ⟨kk, vv, false⟩) (below_alloc w4 (.cells #[.string kk, .string vv, .bool false] 42)) hown hgrow hblk; have HS6 := Lib.hid q3; clear q3 hown hgrow hblk; obtain ⟨y0, y1, y2, y3, _⟩ := hrow4 HS6.out.res; have f0 := HS6.out.res.free 0; have f1 := HS6.out.res.free 1; have f2 := HS6.out.res.free 2; have f3 := HS6.out.res.free 3))
          have HSt := Lib.hid (store4 HS6.out.res HS6.out.z (Nat.le_refl _) (.slice none 0 0) (.slice none 0 0) (.slice none 0 0) (.slice none 0 0))
          clear y0 y1 y2 y3 f0 f1 f2 f3 q1 q2 r0 r1 r2 r3
          obtain ⟨d0, d1, d2, d3, _⟩ := hrow4 HSt.out.1
          refine bodyPost_ret (v := .tuple #[machV adz P.m0, .int .i64 (k : Int), .int .i64 8]) ?_ rfl ⟨adz, rfl, lies_none _ _, HSt.out.2⟩
          unfold machV
          simp [results, Tryz.results60, go_sem, d0, d1, d2, d3]
        replace hsv : sv ≤ 1 := by omega
        cases hkt : ((k : Int) != tn) with
        | false =>
          have hQ := HQ1.out k (HR.out.symm.trans (HLn.out.bad (by rw [hkt, Bool.and_false])))
          subst hQ
          clear HLn HQ1 HQ2 HR
          go_wp2_with (first
            | (go_at_call 149; refine (HCt.out _ (Hw.out.mono HS.out.z)).mono ?_; rintro e w2 ⟨rfl, hb2⟩; have HS2 := Lib.hid (HS.out.below hb2))
            | (go_at_call 150; refine (HIx.out w2.heap.size w2 rfl).mono ?_; rintro e w3 ⟨rfl, rfl⟩; have HS3 := Lib.hid (HS2.out.below (below_alloc w2 (.cells #[.string P.tFact, .string P.tFile, .string P.tSet, .string P.tSvc, .string P.tRun] 9))))
            | (go_at_call 151; refine (HPt.out _ (Hw.out.mono HS3.out.z)).mono ?_; rintro e w4 ⟨rfl, hb4⟩; have HS4 := Lib.hid (HS3.out.below hb4); clear hb2 hb4; obtain ⟨r0, r1, r2, r3, _⟩ := hrow4 HS4.out.ps.row)
            | (at_builtin; refine wpList_append_sl5 rfl _ _ 23 rfl (w.heap.size + 3) 42 i0 _ 3 40 Tryz.underlying23 hi hz0 hz1 hz2 rfl (by decide) _ _ _ rfl (own_below (W := w4) HS4.out.ps.own.i (below_alloc w4 (.cells #[.string kk, .string vv, .bool false] 42))) ⟨w4.heap.size, 0, none⟩ 1 1 (cellsF ⟨kk, vv, false⟩) rfl rfl (cells_new w4 (cellsF ⟨kk, vv, false⟩) 42) (by intro u hu; simp [cellsF] at hu; rcases hu with rfl | rfl | rfl <;> rfl) HLe.out.1 HLe.out.2 (Nat.le_trans HS4.out.ps.hb (below_alloc w4 (.cells #[.string kk, .string vv, .bool false] 42)).size) ?_; intro p' c' w6 hown hgrow hblk; obtain ⟨q1, q2, q3⟩ := HS4.out.addI (x := ⟨kk, vv, false⟩) (below_alloc w4 (.cells #[.string kk, .string vv, .bool false] 42)) hown hgrow hblk; have HS6 := Lib.hid q3; clear q3 hown hgrow hblk; obtain ⟨y0, y1, y2, y3, _⟩ := hrow4 HS6.out.res; have f0 := HS6.out.res.free 0; have f1 := HS6.out.res.free 1; have f2 := HS6.out.res.free 2; have f3 := HS6.out.res.free 3))
          have HSt := Lib.hid (store4 HS6.out.res HS6.out.z (Nat.le_refl _) (.slice none 0 0) (.slice none 0 0) (.slice none 0 0) (.slice none 0 0))
          clear y0 y1 y2 y3 f0 f1 f2 f3 q1 q2 r0 r1 r2 r3
          obtain ⟨d0, d1, d2, d3, _⟩ := hrow4 HSt.out.1
          refine bodyPost_ret (v := .tuple #[machV adz P.m0, .int .i64 (k : Int), .int .i64 8]) ?_ rfl ⟨adz, rfl, lies_none _ _, HSt.out.2⟩
          unfold machV
          simp [results, Tryz.results60, go_sem, d0, d1, d2, d3]
        | true =>
          cases q with
          | false =>
            have hQ := HQ1.out k (HR.out.symm.trans (HLn.out.bad (by rw [Bool.and_false, Bool.false_and])))
            subst hQ
            clear HLn HQ1 HQ2 HR
            go_wp2_with (first
              | (go_at_call 149; refine (HCt.out _ (Hw.out.mono HS.out.z)).mono ?_; rintro e w2 ⟨rfl, hb2⟩; have HS2 := Lib.hid (HS.out.below hb2))
              | (go_at_call 150; refine (HIx.out w2.heap.size w2 rfl).mono ?_; rintro e w3 ⟨rfl, rfl⟩; have HS3 := Lib.hid (HS2.out.below (below_alloc w2 (.cells #[.string P.tFact, .string P.tFile, .string P.tSet, .string P.tSvc, .string P.tRun] 9))))
              | (go_at_call 151; refine (HPt.out _ (Hw.out.mono HS3.out.z)).mono ?_; rintro e w4 ⟨rfl, hb4⟩; have HS4 := Lib.hid (HS3.out.below hb4); clear hb2 hb4; obtain ⟨r0, r1, r2, r3, _⟩ := hrow4 HS4.out.ps.row)
              | (at_builtin; refine wpList_append_sl5 rfl _ _ 23 rfl (w.heap.size + 3) 42 i0 _ 3 40 Tryz.underlying23 hi hz0 hz1 hz2 rfl (by decide) _ _ _ rfl (own_below (W := w4) HS4.out.ps.own.i (below_alloc w4 (.cells #[.string kk, .string vv, .bool false] 42))) ⟨w4.heap.size, 0, none⟩ 1 1 (cellsF ⟨kk, vv, false⟩) rfl rfl (cells_new w4 (cellsF ⟨kk, vv, false⟩) 42) (by intro u hu; simp [cellsF] at hu; rcases hu with rfl | rfl | rfl <;> rfl) HLe.out.1 HLe.out.2 (Nat.le_trans HS4.out.ps.hb (below_alloc w4 (.cells #[.string kk, .string vv, .bool false] 42)).size) ?_; intro p' c' w6 hown hgrow hblk; obtain ⟨q1, q2, q3⟩ := HS4.out.addI (x := ⟨kk, vv, false⟩) (below_alloc w4 (.cells #[.string kk, .string vv, .bool false] 42)) hown hgrow hblk; have HS6 := Lib.hid q3; clear q3 hown hgrow hblk; obtain ⟨y0, y1, y2, y3, _⟩ := hrow4 HS6.out.res; have f0 := HS6.out.res.free 0; have f1 := HS6.out.res.free 1; have f2 := HS6.out.res.free 2; have f3 := HS6.out.res.free 3))
            have HSt := Lib.hid (store4 HS6.out.res HS6.out.z (Nat.le_refl _) (.slice none 0 0) (.slice none 0 0) (.slice none 0 0) (.slice none 0 0))
            clear y0 y1 y2 y3 f0 f1 f2 f3 q1 q2 r0 r1 r2 r3
            obtain ⟨d0, d1, d2, d3, _⟩ := hrow4 HSt.out.1
            refine bodyPost_ret (v := .tuple #[machV adz P.m0, .int .i64 (k : Int), .int .i64 8]) ?_ rfl ⟨adz, rfl, lies_none _ _, HSt.out.2⟩
            unfold machV
            simp [results, Tryz.results60, go_sem, d0, d1, d2, d3]
          | true =>
            have hR2 := Lib.hid ((HLn.out.good (decide_eq_true hsv) rfl hkt).symm.trans HR.out)
            clear HLn HR
            go_wp2_with (first
            | (go_at_call 149; refine (HCt.out _ (Hw.out.mono HS.out.z)).mono ?_; rintro e w2 ⟨rfl, hb2⟩; have HS2 := Lib.hid (HS.out.below hb2))
            | (go_at_call 150; refine (HIx.out w2.heap.size w2 rfl).mono ?_; rintro e w3 ⟨rfl, rfl⟩; have HS3 := Lib.hid (HS2.out.below (below_alloc w2 (.cells #[.string P.tFact, .string P.tFile, .string P.tSet, .string P.tSvc, .string P.tRun] 9))))
            | (go_at_call 151; refine (HPt.out _ (Hw.out.mono HS3.out.z)).mono ?_; rintro e w4 ⟨rfl, hb4⟩; have HS4 := Lib.hid (HS3.out.below hb4); clear hb2 hb4; obtain ⟨r0, r1, r2, r3, _⟩ := hrow4 HS4.out.ps.row)
            | (at_builtin; refine wpList_append_sl5 rfl _ _ 23 rfl (w.heap.size + 3) 42 i0 _ 3 40 Tryz.underlying23 hi hz0 hz1 hz2 rfl (by decide) _ _ _ rfl (own_below (W := w4) HS4.out.ps.own.i (below_alloc w4 (.cells #[.string kk, .string vv, .bool false] 42))) ⟨w4.heap.size, 0, none⟩ 1 1 (cellsF ⟨kk, vv, false⟩) rfl rfl (cells_new w4 (cellsF ⟨kk, vv, false⟩) 42) (by intro u hu; simp [cellsF] at hu; rcases hu with rfl | rfl | rfl <;> rfl) HLe.out.1 HLe.out.2 (Nat.le_trans HS4.out.ps.hb (below_alloc w4 (.cells #[.string kk, .string vv, .bool false] 42)).size) ?_; intro p' c' w6 hown hgrow hblk; obtain ⟨q1, q2, q3⟩ := HS4.out.addI (x := ⟨kk, vv, false⟩) (below_alloc w4 (.cells #[.string kk, .string vv, .bool false] 42)) hown hgrow hblk; have HS6 := Lib.hid q3; clear q3 hown hgrow hblk; obtain ⟨y0, y1, y2, y3, _⟩ := hrow4 HS6.out.res; have f0 := HS6.out.res.free 0; have f1 := HS6.out.res.free 1; have f2 := HS6.out.res.free 2; have f3 := HS6.out.res.free 3))
            go_roundw
            case rel => exact ⟨k + 1, 1, _, _, rfl, by go_num, by omega, by (have h1 : P.lens { m with files := m.files ++ [⟨kk, vv, false⟩] } ≤ P.lens m + 1 := by unfold P.lens; simp only [List.length_append, List.length_cons, List.length_nil]; omega); omega, by omega, HS6, hR2⟩
            case measure => simp [RowKit.intOf]; omega
      by_cases hc2 : (P.cutA M[k] 32).toList = P.wRun
      · have hc := hc2
        have hix : P.idx5 (P.cutA M[k] 32).toList = 4 := by rw [hc]; decide +kernel
        rw [hix] at HIx
        have HLn := Lib.hid (P.ln_run (tn := tn) (m := m) (s := sv) hlt hc)
        obtain ⟨i0, hi, hz0, hz1, hz2⟩ := info_parts info42
        have HLe : Hid (m.files.length + 1 ≤ maxLen ∧ (m.files.length + 1) * 40 ≤ 140737488355328) := Lib.hid (by have := HMl.out; have hm2 := hm; unfold P.lens at hm2; unfold maxLen; omega)
        generalize M[k] = l at *
        unfold P.wRun at hc
        generalize P.cutA l 32 = wd at *
        generalize P.cutB l 32 = r at *
        generalize P.pairK r = kk at *
        generalize P.pairV r = vv at *
        generalize P.rq r = q at *
        clear hix hsz
        by_cases hsv : ¬ sv ≤ 1
        · skip
          have hQ := HQ1.out k (HR.out.symm.trans (HLn.out.bad (by rw [decide_eq_false hsv]; rfl)))
          subst hQ
          clear HLn HQ1 HQ2 HR
          go_wp2_with (first
            | (go_at_call 149; refine (HCt.out _ (Hw.out.mono HS.out.z)).mono ?_; rintro e w2 ⟨rfl, hb2⟩; have HS2 := Lib.hid (HS.out.below hb2))
            | (go_at_call 150; refine (HIx.out w2.heap.size w2 rfl).mono ?_; rintro e w3 ⟨rfl, rfl⟩; have HS3 := Lib.hid (HS2.out.below (below_alloc w2 (.cells #[.string P.tFact, .string P.tFile, .string P.tSet, .string P.tSvc, .string P.tRun] 9))))
            | (go_at_call 151; refine (HPt.out _ (Hw.out.mono HS3.out.z)).mono ?_; rintro e w4 ⟨rfl, hb4⟩; have HS4 := Lib.hid (HS3.out.below hb4); clear hb2 hb4; obtain ⟨r0, r1, r2, r3, _⟩ := hrow4 HS4.out.ps.row)
            | (at_builtin; refine wpList_append_sl5 rfl _ _ 23 rfl (w.heap.size + 3) 42 i0 _ 3 40 Tryz.underlying23 hi hz0 hz1 hz2 rfl (by decide) _ _ _ rfl (own_below (W := w4) HS4.out.ps.own.i (below_alloc w4 (.cells #[.string kk, .string vv, .bool true] 42))) ⟨w4.heap.size, 0, none⟩ 1 1 (cellsF ⟨kk, vv, true⟩) rfl rfl (cells_new w4 (cellsF ⟨kk, vv, true⟩) 42) (by intro u hu; simp [cellsF] at hu; rcases hu with rfl | rfl | rfl <;> rfl) HLe.out.1 HLe.out.2 (Nat.le_trans HS4.out.ps.hb (below_alloc w4 (.cells #[.string kk, .string vv, .bool true] 42)).size) ?_; intro p' c' w6 hown hgrow hblk; obtain ⟨q1, q2, q3⟩ := HS4.out.addI (x := ⟨kk, vv, true⟩) (below_alloc w4 (.cells #[.string kk, .string vv, .bool true] 42)) hown hgrow hblk; have HS6 := Lib.hid q3; clear q3 hown hgrow hblk; obtain ⟨y0, y1, y2, y3, _⟩ := hrow4 HS6.out.res; have f0 := HS6.out.res.free 0; have f1 := HS6.out.res.free 1; have f2 := HS6.out.res.free 2; have f3 := HS6.out.res.free 3))
          have HSt := Lib.hid (store4 HS6.out.res HS6.out.z (Nat.le_refl _) (.slice none 0 0) (.slice none 0 0) (.slice none 0 0) (.slice none 0 0))
          clear y0 y1 y2 y3 f0 f1 f2 f3 q1 q2 r0 r1 r2 r3
          obtain ⟨d0, d1, d2, d3, _⟩ := hrow4 HSt.out.1
          refine bodyPost_ret (v := .tuple #[machV adz P.m0, .int .i64 (k : Int), .int .i64 8]) ?_ rfl ⟨adz, rfl, lies_none _ _, HSt.out.2⟩
          unfold machV
          simp [results, Tryz.results60, go_sem, d0, d1, d2, d3]
        replace hsv : sv ≤ 1 := by omega
        cases hkt : ((k : Int) != tn) with
        | false =>
          have hQ := HQ1.out k (HR.out.symm.trans (HLn.out.bad (by rw [hkt, Bool.and_false])))
          subst hQ
          clear HLn HQ1 HQ2 HR
          go_wp2_with (first
            | (go_at_call 149; refine (HCt.out _ (Hw.out.mono HS.out.z)).mono ?_; rintro e w2 ⟨rfl, hb2⟩; have HS2 := Lib.hid (HS.out.below hb2))
            | (go_at_call 150; refine (HIx.out w2.heap.size w2 rfl).mono ?_; rintro e w3 ⟨rfl, rfl⟩; have HS3 := Lib.hid (HS2.out.below (below_alloc w2 (.cells #[.string P.tFact, .string P.tFile, .string P.tSet, .string P.tSvc, .string P.tRun] 9))))
            | (go_at_call 151; refine (HPt.out _ (Hw.out.mono HS3.out.z)).mono ?_; rintro e w4 ⟨rfl, hb4⟩; have HS4 := Lib.hid (HS3.out.below hb4); clear hb2 hb4; obtain ⟨r0, r1, r2, r3, _⟩ := hrow4 HS4.out.ps.row)
            | (at_builtin; refine wpList_append_sl5 rfl _ _ 23 rfl (w.heap.size + 3) 42 i0 _ 3 40 Tryz.underlying23 hi hz0 hz1 hz2 rfl (by decide) _ _ _ rfl (own_below (W := w4) HS4.out.ps.own.i (below_alloc w4 (.cells #[.string kk, .string vv, .bool true] 42))) ⟨w4.heap.size, 0, none⟩ 1 1 (cellsF ⟨kk, vv, true⟩) rfl rfl (cells_new w4 (cellsF ⟨kk, vv, true⟩) 42) (by intro u hu; simp [cellsF] at hu; rcases hu with rfl | rfl | rfl <;> rfl) HLe.out.1 HLe.out.2 (Nat.le_trans HS4.out.ps.hb (below_alloc w4 (.cells #[.string kk, .string vv, .bool true] 42)).size) ?_; intro p' c' w6 hown hgrow hblk; obtain ⟨q1, q2, q3⟩ := HS4.out.addI (x := ⟨kk, vv, true⟩) (below_alloc w4 (.cells #[.string kk, .string vv, .bool true] 42)) hown hgrow hblk; have HS6 := Lib.hid q3; clear q3 hown hgrow hblk; obtain ⟨y0, y1, y2, y3, _⟩ := hrow4 HS6.out.res; have f0 := HS6.out.res.free 0; have f1 := HS6.out.res.free 1; have f2 := HS6.out.res.free 2; have f3 := HS6.out.res.free 3))
          have HSt := Lib.hid (store4 HS6.out.res HS6.out.z (Nat.le_refl _) (.slice none 0 0) (.slice none 0 0) (.slice none 0 0) (.slice none 0 0))
          clear y0 y1 y2 y3 f0 f1 f2 f3 q1 q2 r0 r1 r2 r3
          obtain ⟨d0, d1, d2, d3, _⟩ := hrow4 HSt.out.1
          refine bodyPost_ret (v := .tuple #[machV adz P.m0, .int .i64 (k : Int), .int .i64 8]) ?_ rfl ⟨adz, rfl, lies_none _ _, HSt.out.2⟩
          unfold machV
          simp [results, Tryz.results60, go_sem, d0, d1, d2, d3]
        | true =>
          cases q with
          | false =>
            have hQ := HQ1.out k (HR.out.symm.trans (HLn.out.bad (by rw [Bool.and_false, Bool.false_and])))
            subst hQ
            clear HLn HQ1 HQ2 HR
            go_wp2_with (first
              | (go_at_call 149; refine (HCt.out _ (Hw.out.mono HS.out.z)).mono ?_; rintro e w2 ⟨rfl, hb2⟩; have HS2 := Lib.hid (HS.out.below hb2))
              | (go_at_call 150; refine (HIx.out w2.heap.size w2 rfl).mono ?_; rintro e w3 ⟨rfl, rfl⟩; have HS3 := Lib.hid (HS2.out.below (below_alloc w2 (.cells #[.string P.tFact, .string P.tFile, .string P.tSet, .string P.tSvc, .string P.tRun] 9))))
              | (go_at_call 151; refine (HPt.out _ (Hw.out.mono HS3.out.z)).mono ?_; rintro e w4 ⟨rfl, hb4⟩; have HS4 := Lib.hid (HS3.out.below hb4); clear hb2 hb4; obtain ⟨r0, r1, r2, r3, _⟩ := hrow4 HS4.out.ps.row)
              | (at_builtin; refine wpList_append_sl5 rfl _ _ 23 rfl (w.heap.size + 3) 42 i0 _ 3 40 Tryz.underlying23 hi hz0 hz1 hz2 rfl (by decide) _ _ _ rfl (own_below (W := w4) HS4.out.ps.own.i (below_alloc w4 (.cells #[.string kk, .string vv, .bool true] 42))) ⟨w4.heap.size, 0, none⟩ 1 1 (cellsF ⟨kk, vv, true⟩) rfl rfl (cells_new w4 (cellsF ⟨kk, vv, true⟩) 42) (by intro u hu; simp [cellsF] at hu; rcases hu with rfl | rfl | rfl <;> rfl) HLe.out.1 HLe.out.2 (Nat.le_trans HS4.out.ps.hb (below_alloc w4 (.cells #[.string kk, .string vv, .bool true] 42)).size) ?_; intro p' c' w6 hown hgrow hblk; obtain ⟨q1, q2, q3⟩ := HS4.out.addI (x := ⟨kk, vv, true⟩) (below_alloc w4 (.cells #[.string kk, .string vv, .bool true] 42)) hown hgrow hblk; have HS6 := Lib.hid q3; clear q3 hown hgrow hblk; obtain ⟨y0, y1, y2, y3, _⟩ := hrow4 HS6.out.res; have f0 := HS6.out.res.free 0; have f1 := HS6.out.res.free 1; have f2 := HS6.out.res.free 2; have f3 := HS6.out.res.free 3))
            have HSt := Lib.hid (store4 HS6.out.res HS6.out.z (Nat.le_refl _) (.slice none 0 0) (.slice none 0 0) (.slice none 0 0) (.slice none 0 0))
            clear y0 y1 y2 y3 f0 f1 f2 f3 q1 q2 r0 r1 r2 r3
            obtain ⟨d0, d1, d2, d3, _⟩ := hrow4 HSt.out.1
            refine bodyPost_ret (v := .tuple #[machV adz P.m0, .int .i64 (k : Int), .int .i64 8]) ?_ rfl ⟨adz, rfl, lies_none _ _, HSt.out.2⟩
            unfold machV
            simp [results, Tryz.results60, go_sem, d0, d1, d2, d3]
          | true =>
            have hR2 := Lib.hid ((HLn.out.good (decide_eq_true hsv) rfl hkt).symm.trans HR.out)
            clear HLn HR
            go_wp2_with (first
            | (go_at_call 149; refine (HCt.out _ (Hw.out.mono HS.out.z)).mono ?_; rintro e w2 ⟨rfl, hb2⟩; have HS2 := Lib.hid (HS.out.below hb2))
            | (go_at_call 150; refine (HIx.out w2.heap.size w2 rfl).mono ?_; rintro e w3 ⟨rfl, rfl⟩; have HS3 := Lib.hid (HS2.out.below (below_alloc w2 (.cells #[.string P.tFact, .string P.tFile, .string P.tSet, .string P.tSvc, .string P.tRun] 9))))
            | (go_at_call 151; refine (HPt.out _ (Hw.out.mono HS3.out.z)).mono ?_; rintro e w4 ⟨rfl, hb4⟩; have HS4 := Lib.hid (HS3.out.below hb4); clear hb2 hb4; obtain ⟨r0, r1, r2, r3, _⟩ := hrow4 HS4.out.ps.row)
            | (at_builtin; refine wpList_append_sl5 rfl _ _ 23 rfl (w.heap.size + 3) 42 i0 _ 3 40 Tryz.underlying23 hi hz0 hz1 hz2 rfl (by decide) _ _ _ rfl (own_below (W := w4) HS4.out.ps.own.i (below_alloc w4 (.cells #[.string kk, .string vv, .bool true] 42))) ⟨w4.heap.size, 0, none⟩ 1 1 (cellsF ⟨kk, vv, true⟩) rfl rfl (cells_new w4 (cellsF ⟨kk, vv, true⟩) 42) (by intro u hu; simp [cellsF] at hu; rcases hu with rfl | rfl | rfl <;> rfl) HLe.out.1 HLe.out.2 (Nat.le_trans HS4.out.ps.hb (below_alloc w4 (.cells #[.string kk, .string vv, .bool true] 42)).size) ?_; intro p' c' w6 hown hgrow hblk; obtain ⟨q1, q2, q3⟩ := HS4.out.addI (x := ⟨kk, vv, true⟩) (below_alloc w4 (.cells #[.string kk, .string vv, .bool true] 42)) hown hgrow hblk; have HS6 := Lib.hid q3; clear q3 hown hgrow hblk; obtain ⟨y0, y1, y2, y3, _⟩ := hrow4 HS6.out.res; have f0 := HS6.out.res.free 0; have f1 := HS6.out.res.free 1; have f2 := HS6.out.res.free 2; have f3 := HS6.out.res.free 3))
            go_roundw
            case rel => exact ⟨k + 1, 1, _, _, rfl, by go_num, by omega, by (have h1 : P.lens { m with files := m.files ++ [⟨kk, vv, true⟩] } ≤ P.lens m + 1 := by unfold P.lens; simp only [List.length_append, List.length_cons, List.length_nil]; omega); omega, by omega, HS6, hR2⟩
            case measure => simp [RowKit.intOf]; omega
      by_cases hc3 : (P.cutA M[k] 32).toList = P.wSet
      · have hc := hc3
        have hix : P.idx5 (P.cutA M[k] 32).toList = 2 := by rw [hc]; decide +kernel
        rw [hix] at HIx
        have HLn := Lib.hid (P.ln_set (tn := tn) (m := m) (s := sv) hlt hc)
        obtain ⟨i0, hi, hz0, hz1, hz2⟩ := info_parts info62
        have HLe : Hid (m.sets.length + 1 ≤ maxLen ∧ (m.sets.length + 1) * 32 ≤ 140737488355328) := Lib.hid (by have := HMl.out; have hm2 := hm; unfold P.lens at hm2; unfold maxLen; omega)
        generalize M[k] = l at *
        unfold P.wSet at hc
        generalize P.cutA l 32 = wd at *
        generalize P.cutB l 32 = r at *
        generalize P.pairK r = kk at *
        generalize P.pairV r = vv at *
        generalize P.rq r = q at *
        clear hix hsz
        by_cases hsv : ¬ sv ≤ 2
        · skip
          have hQ := HQ1.out k (HR.out.symm.trans (HLn.out.bad (by rw [decide_eq_false hsv]; rfl)))
          subst hQ
          clear HLn HQ1 HQ2 HR
          go_wp2_with (first
            | (go_at_call 149; refine (HCt.out _ (Hw.out.mono HS.out.z)).mono ?_; rintro e w2 ⟨rfl, hb2⟩; have HS2 := Lib.hid (HS.out.below hb2))
            | (go_at_call 150; refine (HIx.out w2.heap.size w2 rfl).mono ?_; rintro e w3 ⟨rfl, rfl⟩; have HS3 := Lib.hid (HS2.out.below (below_alloc w2 (.cells #[.string P.tFact, .string P.tFile, .string P.tSet, .string P.tSvc, .string P.tRun] 9))))
            | (go_at_call 151; refine (HPt.out _ (Hw.out.mono HS3.out.z)).mono ?_; rintro e w4 ⟨rfl, hb4⟩; have HS4 := Lib.hid (HS3.out.below hb4); clear hb2 hb4; obtain ⟨r0, r1, r2, r3, _⟩ := hrow4 HS4.out.ps.row)
            | (at_builtin; refine wpList_append_sl5 rfl _ _ 22 rfl (w.heap.size + 3) 62 i0 _ 2 32 Tryz.underlying22 hi hz0 hz1 hz2 rfl (by decide) _ _ _ rfl (own_below (W := w4) HS4.out.ps.own.s (below_alloc w4 (.cells #[.string kk, .string vv] 62))) ⟨w4.heap.size, 0, none⟩ 1 1 (cellsS ⟨kk, vv⟩) rfl rfl (cells_new w4 (cellsS ⟨kk, vv⟩) 62) (by intro u hu; simp [cellsS] at hu; rcases hu with rfl | rfl <;> rfl) HLe.out.1 HLe.out.2 (Nat.le_trans HS4.out.ps.hb (below_alloc w4 (.cells #[.string kk, .string vv] 62)).size) ?_; intro p' c' w6 hown hgrow hblk; obtain ⟨q1, q2, q3⟩ := HS4.out.addS (x := ⟨kk, vv⟩) (below_alloc w4 (.cells #[.string kk, .string vv] 62)) hown hgrow hblk; have HS6 := Lib.hid q3; clear q3 hown hgrow hblk; obtain ⟨y0, y1, y2, y3, _⟩ := hrow4 HS6.out.res; have f0 := HS6.out.res.free 0; have f1 := HS6.out.res.free 1; have f2 := HS6.out.res.free 2; have f3 := HS6.out.res.free 3))
          have HSt := Lib.hid (store4 HS6.out.res HS6.out.z (Nat.le_refl _) (.slice none 0 0) (.slice none 0 0) (.slice none 0 0) (.slice none 0 0))
          clear y0 y1 y2 y3 f0 f1 f2 f3 q1 q2 r0 r1 r2 r3
          obtain ⟨d0, d1, d2, d3, _⟩ := hrow4 HSt.out.1
          refine bodyPost_ret (v := .tuple #[machV adz P.m0, .int .i64 (k : Int), .int .i64 8]) ?_ rfl ⟨adz, rfl, lies_none _ _, HSt.out.2⟩
          unfold machV
          simp [results, Tryz.results60, go_sem, d0, d1, d2, d3]
        replace hsv : sv ≤ 2 := by omega
        cases hkt : ((k : Int) != tn) with
        | false =>
          have hQ := HQ1.out k (HR.out.symm.trans (HLn.out.bad (by rw [hkt, Bool.and_false])))
          subst hQ
          clear HLn HQ1 HQ2 HR
          go_wp2_with (first
            | (go_at_call 149; refine (HCt.out _ (Hw.out.mono HS.out.z)).mono ?_; rintro e w2 ⟨rfl, hb2⟩; have HS2 := Lib.hid (HS.out.below hb2))
            | (go_at_call 150; refine (HIx.out w2.heap.size w2 rfl).mono ?_; rintro e w3 ⟨rfl, rfl⟩; have HS3 := Lib.hid (HS2.out.below (below_alloc w2 (.cells #[.string P.tFact, .string P.tFile, .string P.tSet, .string P.tSvc, .string P.tRun] 9))))
            | (go_at_call 151; refine (HPt.out _ (Hw.out.mono HS3.out.z)).mono ?_; rintro e w4 ⟨rfl, hb4⟩; have HS4 := Lib.hid (HS3.out.below hb4); clear hb2 hb4; obtain ⟨r0, r1, r2, r3, _⟩ := hrow4 HS4.out.ps.row)
            | (at_builtin; refine wpList_append_sl5 rfl _ _ 22 rfl (w.heap.size + 3) 62 i0 _ 2 32 Tryz.underlying22 hi hz0 hz1 hz2 rfl (by decide) _ _ _ rfl (own_below (W := w4) HS4.out.ps.own.s (below_alloc w4 (.cells #[.string kk, .string vv] 62))) ⟨w4.heap.size, 0, none⟩ 1 1 (cellsS ⟨kk, vv⟩) rfl rfl (cells_new w4 (cellsS ⟨kk, vv⟩) 62) (by intro u hu; simp [cellsS] at hu; rcases hu with rfl | rfl <;> rfl) HLe.out.1 HLe.out.2 (Nat.le_trans HS4.out.ps.hb (below_alloc w4 (.cells #[.string kk, .string vv] 62)).size) ?_; intro p' c' w6 hown hgrow hblk; obtain ⟨q1, q2, q3⟩ := HS4.out.addS (x := ⟨kk, vv⟩) (below_alloc w4 (.cells #[.string kk, .string vv] 62)) hown hgrow hblk; have HS6 := Lib.hid q3; clear q3 hown hgrow hblk; obtain ⟨y0, y1, y2, y3, _⟩ := hrow4 HS6.out.res; have f0 := HS6.out.res.free 0; have f1 := HS6.out.res.free 1; have f2 := HS6.out.res.free 2; have f3 := HS6.out.res.free 3))
          have HSt := Lib.hid (store4 HS6.out.res HS6.out.z (Nat.le_refl _) (.slice none 0 0) (.slice none 0 0) (.slice none 0 0) (.slice none 0 0))
          clear y0 y1 y2 y3 f0 f1 f2 f3 q1 q2 r0 r1 r2 r3
          obtain ⟨d0, d1, d2, d3, _⟩ := hrow4 HSt.out.1
          refine bodyPost_ret (v := .tuple #[machV adz P.m0, .int .i64 (k : Int), .int .i64 8]) ?_ rfl ⟨adz, rfl, lies_none _ _, HSt.out.2⟩
          unfold machV
          simp [results, Tryz.results60, go_sem, d0, d1, d2, d3]
        | true =>
          cases q with
          | false =>
            have hQ := HQ1.out k (HR.out.symm.trans (HLn.out.bad (by rw [Bool.and_false, Bool.false_and])))
            subst hQ
            clear HLn HQ1 HQ2 HR
            go_wp2_with (first
              | (go_at_call 149; refine (HCt.out _ (Hw.out.mono HS.out.z)).mono ?_; rintro e w2 ⟨rfl, hb2⟩; have HS2 := Lib.hid (HS.out.below hb2))
              | (go_at_call 150; refine (HIx.out w2.heap.size w2 rfl).mono ?_; rintro e w3 ⟨rfl, rfl⟩; have HS3 := Lib.hid (HS2.out.below (below_alloc w2 (.cells #[.string P.tFact, .string P.tFile, .string P.tSet, .string P.tSvc, .string P.tRun] 9))))
              | (go_at_call 151; refine (HPt.out _ (Hw.out.mono HS3.out.z)).mono ?_; rintro e w4 ⟨rfl, hb4⟩; have HS4 := Lib.hid (HS3.out.below hb4); clear hb2 hb4; obtain ⟨r0, r1, r2, r3, _⟩ := hrow4 HS4.out.ps.row)
              | (at_builtin; refine wpList_append_sl5 rfl _ _ 22 rfl (w.heap.size + 3) 62 i0 _ 2 32 Tryz.underlying22 hi hz0 hz1 hz2 rfl (by decide) _ _ _ rfl (own_below (W := w4) HS4.out.ps.own.s (below_alloc w4 (.cells #[.string kk, .string vv] 62))) ⟨w4.heap.size, 0, none⟩ 1 1 (cellsS ⟨kk, vv⟩) rfl rfl (cells_new w4 (cellsS ⟨kk, vv⟩) 62) (by intro u hu; simp [cellsS] at hu; rcases hu with rfl | rfl <;> rfl) HLe.out.1 HLe.out.2 (Nat.le_trans HS4.out.ps.hb (below_alloc w4 (.cells #[.string kk, .string vv] 62)).size) ?_; intro p' c' w6 hown hgrow hblk; obtain ⟨q1, q2, q3⟩ := HS4.out.addS (x := ⟨kk, vv⟩) (below_alloc w4 (.cells #[.string kk, .string vv] 62)) hown hgrow hblk; have HS6 := Lib.hid q3; clear q3 hown hgrow hblk; obtain ⟨y0, y1, y2, y3, _⟩ := hrow4 HS6.out.res; have f0 := HS6.out.res.free 0; have f1 := HS6.out.res.free 1; have f2 := HS6.out.res.free 2; have f3 := HS6.out.res.free 3))
            have HSt := Lib.hid (store4 HS6.out.res HS6.out.z (Nat.le_refl _) (.slice none 0 0) (.slice none 0 0) (.slice none 0 0) (.slice none 0 0))
            clear y0 y1 y2 y3 f0 f1 f2 f3 q1 q2 r0 r1 r2 r3
            obtain ⟨d0, d1, d2, d3, _⟩ := hrow4 HSt.out.1
            refine bodyPost_ret (v := .tuple #[machV adz P.m0, .int .i64 (k : Int), .int .i64 8]) ?_ rfl ⟨adz, rfl, lies_none _ _, HSt.out.2⟩
            unfold machV
            simp [results, Tryz.results60, go_sem, d0, d1, d2, d3]
          | true =>
            have hR2 := Lib.hid ((HLn.out.good (decide_eq_true hsv) rfl hkt).symm.trans HR.out)
            clear HLn HR
            go_wp2_with (first
            | (go_at_call 149; refine (HCt.out _ (Hw.out.mono HS.out.z)).mono ?_; rintro e w2 ⟨rfl, hb2⟩; have HS2 := Lib.hid (HS.out.below hb2))
            | (go_at_call 150; refine (HIx.out w2.heap.size w2 rfl).mono ?_; rintro e w3 ⟨rfl, rfl⟩; have HS3 := Lib.hid (HS2.out.below (below_alloc w2 (.cells #[.string P.tFact, .string P.tFile, .string P.tSet, .string P.tSvc, .string P.tRun] 9))))
            | (go_at_call 151; refine (HPt.out _ (Hw.out.mono HS3.out.z)).mono ?_; rintro e w4 ⟨rfl, hb4⟩; have HS4 := Lib.hid (HS3.out.below hb4); clear hb2 hb4; obtain ⟨r0, r1, r2, r3, _⟩ := hrow4 HS4.out.ps.row)
            | (at_builtin; refine wpList_append_sl5 rfl _ _ 22 rfl (w.heap.size + 3) 62 i0 _ 2 32 Tryz.underlying22 hi hz0 hz1 hz2 rfl (by decide) _ _ _ rfl (own_below (W := w4) HS4.out.ps.own.s (below_alloc w4 (.cells #[.string kk, .string vv] 62))) ⟨w4.heap.size, 0, none⟩ 1 1 (cellsS ⟨kk, vv⟩) rfl rfl (cells_new w4 (cellsS ⟨kk, vv⟩) 62) (by intro u hu; simp [cellsS] at hu; rcases hu with rfl | rfl <;> rfl) HLe.out.1 HLe.out.2 (Nat.le_trans HS4.out.ps.hb (below_alloc w4 (.cells #[.string kk, .string vv] 62)).size) ?_; intro p' c' w6 hown hgrow hblk; obtain ⟨q1, q2, q3⟩ := HS4.out.addS (x := ⟨kk, vv⟩) (below_alloc w4 (.cells #[.string kk, .string vv] 62)) hown hgrow hblk; have HS6 := Lib.hid q3; clear q3 hown hgrow hblk; obtain ⟨y0, y1, y2, y3, _⟩ := hrow4 HS6.out.res; have f0 := HS6.out.res.free 0; have f1 := HS6.out.res.free 1; have f2 := HS6.out.res.free 2; have f3 := HS6.out.res.free 3))
            go_roundw
            case rel => exact ⟨k + 1, 2, _, _, rfl, by go_num, by omega, by (have h1 : P.lens { m with sets := m.sets ++ [⟨kk, vv⟩] } ≤ P.lens m + 1 := by unfold P.lens; simp only [List.length_append, List.length_cons, List.length_nil]; omega); omega, by omega, HS6, hR2⟩
            case measure => simp [RowKit.intOf]; omega
      by_cases hc4 : (P.cutA M[k] 32).toList = P.wSvc
      · have hc := hc4
        have hix : P.idx5 (P.cutA M[k] 32).toList = 3 := by rw [hc]; decide +kernel
        rw [hix] at HIx
        have HLn := Lib.hid (P.ln_svc (tn := tn) (m := m) (s := sv) hlt hc)
        have HSp := Lib.hid (split_row 32 (P.cutB M[k] 32) (by have := hsz.out; have := cutB_le M[k] 32; omega))
        have HSv := Lib.hid (serviceOf_any (P.parts 32 (P.cutB M[k] 32)))
        obtain ⟨i0, hi, hz0, hz1, hz2⟩ := info_parts info46
        have HLe : Hid (m.svcs.length + 1 ≤ maxLen ∧ (m.svcs.length + 1) * 40 ≤ 140737488355328) := Lib.hid (by have := HMl.out; have hm2 := hm; unfold P.lens at hm2; unfold maxLen; omega)
        generalize M[k] = l at *
        unfold P.wSvc at hc
        generalize P.cutA l 32 = wd at *
        generalize P.cutB l 32 = r at *
        generalize P.pairK r = kk at *
        generalize P.pairV r = vv at *
        generalize P.rq r = q0 at *
        generalize P.parts 32 r = pl at *
        generalize P.rsvc pl = y at *
        obtain ⟨⟨sn, sp, sa, so⟩, q⟩ := y
        unfold svcAgg at HSv
        simp only at HSv HLn
        clear hix hsz
        by_cases hsv : ¬ sv ≤ 3
        · skip
          have hQ := HQ1.out k (HR.out.symm.trans (HLn.out.bad (by rw [decide_eq_false hsv]; rfl)))
          subst hQ
          clear HLn HQ1 HQ2 HR
          go_wp2_with (first
            | (go_at_call 149; refine (HCt.out _ (Hw.out.mono HS.out.z)).mono ?_; rintro e w2 ⟨rfl, hb2⟩; have HS2 := Lib.hid (HS.out.below hb2))
            | (go_at_call 150; refine (HIx.out w2.heap.size w2 rfl).mono ?_; rintro e w3 ⟨rfl, rfl⟩; have HS3 := Lib.hid (HS2.out.below (below_alloc w2 (.cells #[.string P.tFact, .string P.tFile, .string P.tSet, .string P.tSvc, .string P.tRun] 9))))
            | (go_at_call 151; refine (HPt.out _ (Hw.out.mono HS3.out.z)).mono ?_; rintro e w4 ⟨rfl, hb4⟩; have HS4 := Lib.hid (HS3.out.below hb4); clear hb2 hb4; have HB5 := Lib.hid (below_alloc w4 (.cells #[.string ⟨#[]⟩, .string ⟨#[]⟩, .bool false, .bool false] 46)); have HN5 := Lib.hid (HasRow.new w4 #[.string ⟨#[]⟩, .string ⟨#[]⟩, .bool false, .bool false] 46))
            | (go_at_call 123; refine (HSp.out (w4.heap.size + 1) _ (by simp) (Hw.out.mono (HS4.out.below HB5.out).z)).mono ?_; rintro e w5 ⟨rfl, hrow5, hb5⟩; have HB6 := Lib.hid (bstep HB5.out hb5); have HN6 := Lib.hid (HN5.out.below hb5); have HW5 := Lib.hid hrow5; clear hrow5 hb5)
            | (go_at_call 152; refine (HSv.out _ _ w5 HW5.out).mono ?_; rintro e w6 ⟨rfl, hb6⟩; have HB7 := Lib.hid (bstep HB6.out hb6); have HN7 := Lib.hid (HN6.out.below hb6); clear hb6; obtain ⟨n0, n1, n2, n3, _⟩ := hrow4 HN7.out; have g0 := HN7.out.free 0; have g1 := HN7.out.free 1; have g2 := HN7.out.free 2; have g3 := HN7.out.free 3; have HST := Lib.hid (store4 HN7.out HB7.out (Nat.le_refl _) (.string sn) (.string sp) (.bool sa) (.bool so)); have HS8 := Lib.hid (HS4.out.below HST.out.2); have hs8 : ((((w6.setCell ⟨w4.heap.size, 0, none⟩ (.string sn)).setCell ⟨w4.heap.size, 1, none⟩ (.string sp)).setCell ⟨w4.heap.size, 2, none⟩ (.bool sa)).setCell ⟨w4.heap.size, 3, none⟩ (.bool so)).heap.size = w6.heap.size := (by simp [World.setCell]); obtain ⟨m0, m1, m2, m3, _⟩ := hrow4 HST.out.1; obtain ⟨r0, r1, r2, r3, _⟩ := hrow4 HS8.out.ps.row)
            | (at_builtin; refine wpList_append_sl5 rfl _ _ 24 rfl (w.heap.size + 3) 46 i0 _ 4 40 Tryz.underlying24 hi hz0 hz1 hz2 rfl (by decide) _ _ _ rfl (own_below (W := ((((w6.setCell ⟨w4.heap.size, 0, none⟩ (.string sn)).setCell ⟨w4.heap.size, 1, none⟩ (.string sp)).setCell ⟨w4.heap.size, 2, none⟩ (.bool sa)).setCell ⟨w4.heap.size, 3, none⟩ (.bool so))) HS8.out.ps.own.v (below_alloc ((((w6.setCell ⟨w4.heap.size, 0, none⟩ (.string sn)).setCell ⟨w4.heap.size, 1, none⟩ (.string sp)).setCell ⟨w4.heap.size, 2, none⟩ (.bool sa)).setCell ⟨w4.heap.size, 3, none⟩ (.bool so)) (.cells #[.string sn, .string sp, .bool sa, .bool so] 46))) ⟨w6.heap.size, 0, none⟩ 1 1 (cellsV ⟨sn, sp, sa, so⟩) rfl rfl (by have c := cells_new ((((w6.setCell ⟨w4.heap.size, 0, none⟩ (.string sn)).setCell ⟨w4.heap.size, 1, none⟩ (.string sp)).setCell ⟨w4.heap.size, 2, none⟩ (.bool sa)).setCell ⟨w4.heap.size, 3, none⟩ (.bool so)) (cellsV ⟨sn, sp, sa, so⟩) 46; rw [hs8] at c; exact c) (by intro u hu; simp [cellsV] at hu; rcases hu with rfl | rfl | rfl | rfl <;> rfl) HLe.out.1 HLe.out.2 (Nat.le_trans HS8.out.ps.hb (below_alloc ((((w6.setCell ⟨w4.heap.size, 0, none⟩ (.string sn)).setCell ⟨w4.heap.size, 1, none⟩ (.string sp)).setCell ⟨w4.heap.size, 2, none⟩ (.bool sa)).setCell ⟨w4.heap.size, 3, none⟩ (.bool so)) (.cells #[.string sn, .string sp, .bool sa, .bool so] 46)).size) ?_; intro p' c' w9 hown hgrow hblk; obtain ⟨q1, q2, q3⟩ := HS8.out.addV (x := ⟨sn, sp, sa, so⟩) (below_alloc ((((w6.setCell ⟨w4.heap.size, 0, none⟩ (.string sn)).setCell ⟨w4.heap.size, 1, none⟩ (.string sp)).setCell ⟨w4.heap.size, 2, none⟩ (.bool sa)).setCell ⟨w4.heap.size, 3, none⟩ (.bool so)) (.cells #[.string sn, .string sp, .bool sa, .bool so] 46)) hown hgrow hblk; have HS6 := Lib.hid q3; clear q3 hown hgrow hblk; obtain ⟨y0, y1, y2, y3, _⟩ := hrow4 HS6.out.res; have f0 := HS6.out.res.free 0; have f1 := HS6.out.res.free 1; have f2 := HS6.out.res.free 2; have f3 := HS6.out.res.free 3))
          have HSt := Lib.hid (store4 HS6.out.res HS6.out.z (Nat.le_refl _) (.slice none 0 0) (.slice none 0 0) (.slice none 0 0) (.slice none 0 0))
          clear n0 n1 n2 n3 g0 g1 g2 g3 m0 m1 m2 m3 y0 y1 y2 y3 f0 f1 f2 f3 q1 q2 r0 r1 r2 r3
          obtain ⟨d0, d1, d2, d3, _⟩ := hrow4 HSt.out.1
          refine bodyPost_ret (v := .tuple #[machV adz P.m0, .int .i64 (k : Int), .int .i64 8]) ?_ rfl ⟨adz, rfl, lies_none _ _, HSt.out.2⟩
          unfold machV
          simp [results, Tryz.results60, go_sem, d0, d1, d2, d3]
        replace hsv : sv ≤ 3 := by omega
        cases hkt : ((k : Int) != tn) with
        | false =>
          have hQ := HQ1.out k (HR.out.symm.trans (HLn.out.bad (by rw [hkt, Bool.and_false])))
          subst hQ
          clear HLn HQ1 HQ2 HR
          go_wp2_with (first
            | (go_at_call 149; refine (HCt.out _ (Hw.out.mono HS.out.z)).mono ?_; rintro e w2 ⟨rfl, hb2⟩; have HS2 := Lib.hid (HS.out.below hb2))
            | (go_at_call 150; refine (HIx.out w2.heap.size w2 rfl).mono ?_; rintro e w3 ⟨rfl, rfl⟩; have HS3 := Lib.hid (HS2.out.below (below_alloc w2 (.cells #[.string P.tFact, .string P.tFile, .string P.tSet, .string P.tSvc, .string P.tRun] 9))))
            | (go_at_call 151; refine (HPt.out _ (Hw.out.mono HS3.out.z)).mono ?_; rintro e w4 ⟨rfl, hb4⟩; have HS4 := Lib.hid (HS3.out.below hb4); clear hb2 hb4; have HB5 := Lib.hid (below_alloc w4 (.cells #[.string ⟨#[]⟩, .string ⟨#[]⟩, .bool false, .bool false] 46)); have HN5 := Lib.hid (HasRow.new w4 #[.string ⟨#[]⟩, .string ⟨#[]⟩, .bool false, .bool false] 46))
            | (go_at_call 123; refine (HSp.out (w4.heap.size + 1) _ (by simp) (Hw.out.mono (HS4.out.below HB5.out).z)).mono ?_; rintro e w5 ⟨rfl, hrow5, hb5⟩; have HB6 := Lib.hid (bstep HB5.out hb5); have HN6 := Lib.hid (HN5.out.below hb5); have HW5 := Lib.hid hrow5; clear hrow5 hb5)
            | (go_at_call 152; refine (HSv.out _ _ w5 HW5.out).mono ?_; rintro e w6 ⟨rfl, hb6⟩; have HB7 := Lib.hid (bstep HB6.out hb6); have HN7 := Lib.hid (HN6.out.below hb6); clear hb6; obtain ⟨n0, n1, n2, n3, _⟩ := hrow4 HN7.out; have g0 := HN7.out.free 0; have g1 := HN7.out.free 1; have g2 := HN7.out.free 2; have g3 := HN7.out.free 3; have HST := Lib.hid (store4 HN7.out HB7.out (Nat.le_refl _) (.string sn) (.string sp) (.bool sa) (.bool so)); have HS8 := Lib.hid (HS4.out.below HST.out.2); have hs8 : ((((w6.setCell ⟨w4.heap.size, 0, none⟩ (.string sn)).setCell ⟨w4.heap.size, 1, none⟩ (.string sp)).setCell ⟨w4.heap.size, 2, none⟩ (.bool sa)).setCell ⟨w4.heap.size, 3, none⟩ (.bool so)).heap.size = w6.heap.size := (by simp [World.setCell]); obtain ⟨m0, m1, m2, m3, _⟩ := hrow4 HST.out.1; obtain ⟨r0, r1, r2, r3, _⟩ := hrow4 HS8.out.ps.row)
            | (at_builtin; refine wpList_append_sl5 rfl _ _ 24 rfl (w.heap.size + 3) 46 i0 _ 4 40 Tryz.underlying24 hi hz0 hz1 hz2 rfl (by decide) _ _ _ rfl (own_below (W := ((((w6.setCell ⟨w4.heap.size, 0, none⟩ (.string sn)).setCell ⟨w4.heap.size, 1, none⟩ (.string sp)).setCell ⟨w4.heap.size, 2, none⟩ (.bool sa)).setCell ⟨w4.heap.size, 3, none⟩ (.bool so))) HS8.out.ps.own.v (below_alloc ((((w6.setCell ⟨w4.heap.size, 0, none⟩ (.string sn)).setCell ⟨w4.heap.size, 1, none⟩ (.string sp)).setCell ⟨w4.heap.size, 2, none⟩ (.bool sa)).setCell ⟨w4.heap.size, 3, none⟩ (.bool so)) (.cells #[.string sn, .string sp, .bool sa, .bool so] 46))) ⟨w6.heap.size, 0, none⟩ 1 1 (cellsV ⟨sn, sp, sa, so⟩) rfl rfl (by have c := cells_new ((((w6.setCell ⟨w4.heap.size, 0, none⟩ (.string sn)).setCell ⟨w4.heap.size, 1, none⟩ (.string sp)).setCell ⟨w4.heap.size, 2, none⟩ (.bool sa)).setCell ⟨w4.heap.size, 3, none⟩ (.bool so)) (cellsV ⟨sn, sp, sa, so⟩) 46; rw [hs8] at c; exact c) (by intro u hu; simp [cellsV] at hu; rcases hu with rfl | rfl | rfl | rfl <;> rfl) HLe.out.1 HLe.out.2 (Nat.le_trans HS8.out.ps.hb (below_alloc ((((w6.setCell ⟨w4.heap.size, 0, none⟩ (.string sn)).setCell ⟨w4.heap.size, 1, none⟩ (.string sp)).setCell ⟨w4.heap.size, 2, none⟩ (.bool sa)).setCell ⟨w4.heap.size, 3, none⟩ (.bool so)) (.cells #[.string sn, .string sp, .bool sa, .bool so] 46)).size) ?_; intro p' c' w9 hown hgrow hblk; obtain ⟨q1, q2, q3⟩ := HS8.out.addV (x := ⟨sn, sp, sa, so⟩) (below_alloc ((((w6.setCell ⟨w4.heap.size, 0, none⟩ (.string sn)).setCell ⟨w4.heap.size, 1, none⟩ (.string sp)).setCell ⟨w4.heap.size, 2, none⟩ (.bool sa)).setCell ⟨w4.heap.size, 3, none⟩ (.bool so)) (.cells #[.string sn, .string sp, .bool sa, .bool so] 46)) hown hgrow hblk; have HS6 := Lib.hid q3; clear q3 hown hgrow hblk; obtain ⟨y0, y1, y2, y3, _⟩ := hrow4 HS6.out.res; have f0 := HS6.out.res.free 0; have f1 := HS6.out.res.free 1; have f2 := HS6.out.res.free 2; have f3 := HS6.out.res.free 3))
          have HSt := Lib.hid (store4 HS6.out.res HS6.out.z (Nat.le_refl _) (.slice none 0 0) (.slice none 0 0) (.slice none 0 0) (.slice none 0 0))
          clear n0 n1 n2 n3 g0 g1 g2 g3 m0 m1 m2 m3 y0 y1 y2 y3 f0 f1 f2 f3 q1 q2 r0 r1 r2 r3
          obtain ⟨d0, d1, d2, d3, _⟩ := hrow4 HSt.out.1
          refine bodyPost_ret (v := .tuple #[machV adz P.m0, .int .i64 (k : Int), .int .i64 8]) ?_ rfl ⟨adz, rfl, lies_none _ _, HSt.out.2⟩
          unfold machV
          simp [results, Tryz.results60, go_sem, d0, d1, d2, d3]
        | true =>
          cases q with
          | false =>
            have hQ := HQ1.out k (HR.out.symm.trans (HLn.out.bad (by rw [Bool.and_false, Bool.false_and])))
            subst hQ
            clear HLn HQ1 HQ2 HR
            go_wp2_with (first
              | (go_at_call 149; refine (HCt.out _ (Hw.out.mono HS.out.z)).mono ?_; rintro e w2 ⟨rfl, hb2⟩; have HS2 := Lib.hid (HS.out.below hb2))
              | (go_at_call 150; refine (HIx.out w2.heap.size w2 rfl).mono ?_; rintro e w3 ⟨rfl, rfl⟩; have HS3 := Lib.hid (HS2.out.below (below_alloc w2 (.cells #[.string P.tFact, .string P.tFile, .string P.tSet, .string P.tSvc, .string P.tRun] 9))))
              | (go_at_call 151; refine (HPt.out _ (Hw.out.mono HS3.out.z)).mono ?_; rintro e w4 ⟨rfl, hb4⟩; have HS4 := Lib.hid (HS3.out.below hb4); clear hb2 hb4; have HB5 := Lib.hid (below_alloc w4 (.cells #[.string ⟨#[]⟩, .string ⟨#[]⟩, .bool false, .bool false] 46)); have HN5 := Lib.hid (HasRow.new w4 #[.string ⟨#[]⟩, .string ⟨#[]⟩, .bool false, .bool false] 46))
              | (go_at_call 123; refine (HSp.out (w4.heap.size + 1) _ (by simp) (Hw.out.mono (HS4.out.below HB5.out).z)).mono ?_; rintro e w5 ⟨rfl, hrow5, hb5⟩; have HB6 := Lib.hid (bstep HB5.out hb5); have HN6 := Lib.hid (HN5.out.below hb5); have HW5 := Lib.hid hrow5; clear hrow5 hb5)
              | (go_at_call 152; refine (HSv.out _ _ w5 HW5.out).mono ?_; rintro e w6 ⟨rfl, hb6⟩; have HB7 := Lib.hid (bstep HB6.out hb6); have HN7 := Lib.hid (HN6.out.below hb6); clear hb6; obtain ⟨n0, n1, n2, n3, _⟩ := hrow4 HN7.out; have g0 := HN7.out.free 0; have g1 := HN7.out.free 1; have g2 := HN7.out.free 2; have g3 := HN7.out.free 3; have HST := Lib.hid (store4 HN7.out HB7.out (Nat.le_refl _) (.string sn) (.string sp) (.bool sa) (.bool so)); have HS8 := Lib.hid (HS4.out.below HST.out.2); have hs8 : ((((w6.setCell ⟨w4.heap.size, 0, none⟩ (.string sn)).setCell ⟨w4.heap.size, 1, none⟩ (.string sp)).setCell ⟨w4.heap.size, 2, none⟩ (.bool sa)).setCell ⟨w4.heap.size, 3, none⟩ (.bool so)).heap.size = w6.heap.size := (by simp [World.setCell]); obtain ⟨m0, m1, m2, m3, _⟩ := hrow4 HST.out.1; obtain ⟨r0, r1, r2, r3, _⟩ := hrow4 HS8.out.ps.row)
              | (at_builtin; refine wpList_append_sl5 rfl _ _ 24 rfl (w.heap.size + 3) 46 i0 _ 4 40 Tryz.underlying24 hi hz0 hz1 hz2 rfl (by decide) _ _ _ rfl (own_below (W := ((((w6.setCell ⟨w4.heap.size, 0, none⟩ (.string sn)).setCell ⟨w4.heap.size, 1, none⟩ (.string sp)).setCell ⟨w4.heap.size, 2, none⟩ (.bool sa)).setCell ⟨w4.heap.size, 3, none⟩ (.bool so))) HS8.out.ps.own.v (below_alloc ((((w6.setCell ⟨w4.heap.size, 0, none⟩ (.string sn)).setCell ⟨w4.heap.size, 1, none⟩ (.string sp)).setCell ⟨w4.heap.size, 2, none⟩ (.bool sa)).setCell ⟨w4.heap.size, 3, none⟩ (.bool so)) (.cells #[.string sn, .string sp, .bool sa, .bool so] 46))) ⟨w6.heap.size, 0, none⟩ 1 1 (cellsV ⟨sn, sp, sa, so⟩) rfl rfl (by have c := cells_new ((((w6.setCell ⟨w4.heap.size, 0, none⟩ (.string sn)).setCell ⟨w4.heap.size, 1, none⟩ (.string sp)).setCell ⟨w4.heap.size, 2, none⟩ (.bool sa)).setCell ⟨w4.heap.size, 3, none⟩ (.bool so)) (cellsV ⟨sn, sp, sa, so⟩) 46; rw [hs8] at c; exact c) (by intro u hu; simp [cellsV] at hu; rcases hu with rfl | rfl | rfl | rfl <;> rfl) HLe.out.1 HLe.out.2 (Nat.le_trans HS8.out.ps.hb (below_alloc ((((w6.setCell ⟨w4.heap.size, 0, none⟩ (.string sn)).setCell ⟨w4.heap.size, 1, none⟩ (.string sp)).setCell ⟨w4.heap.size, 2, none⟩ (.bool sa)).setCell ⟨w4.heap.size, 3, none⟩ (.bool so)) (.cells #[.string sn, .string sp, .bool sa, .bool so] 46)).size) ?_; intro p' c' w9 hown hgrow hblk; obtain ⟨q1, q2, q3⟩ := HS8.out.addV (x := ⟨sn, sp, sa, so⟩) (below_alloc ((((w6.setCell ⟨w4.heap.size, 0, none⟩ (.string sn)).setCell ⟨w4.heap.size, 1, none⟩ (.string sp)).setCell ⟨w4.heap.size, 2, none⟩ (.bool sa)).setCell ⟨w4.heap.size, 3, none⟩ (.bool so)) (.cells #[.string sn, .string sp, .bool sa, .bool so] 46)) hown hgrow hblk; have HS6 := Lib.hid q3; clear q3 hown hgrow hblk; obtain ⟨y0, y1, y2, y3, _⟩ := hrow4 HS6.out.res; have f0 := HS6.out.res.free 0; have f1 := HS6.out.res.free 1; have f2 := HS6.out.res.free 2; have f3 := HS6.out.res.free 3))
            have HSt := Lib.hid (store4 HS6.out.res HS6.out.z (Nat.le_refl _) (.slice none 0 0) (.slice none 0 0) (.slice none 0 0) (.slice none 0 0))
            clear n0 n1 n2 n3 g0 g1 g2 g3 m0 m1 m2 m3 y0 y1 y2 y3 f0 f1 f2 f3 q1 q2 r0 r1 r2 r3
            obtain ⟨d0, d1, d2, d3, _⟩ := hrow4 HSt.out.1
            refine bodyPost_ret (v := .tuple #[machV adz P.m0, .int .i64 (k : Int), .int .i64 8]) ?_ rfl ⟨adz, rfl, lies_none _ _, HSt.out.2⟩
            unfold machV
            simp [results, Tryz.results60, go_sem, d0, d1, d2, d3]
          | true =>
            have hR2 := Lib.hid ((HLn.out.good (decide_eq_true hsv) rfl hkt).symm.trans HR.out)
            clear HLn HR
            go_wp2_with (first
            | (go_at_call 149; refine (HCt.out _ (Hw.out.mono HS.out.z)).mono ?_; rintro e w2 ⟨rfl, hb2⟩; have HS2 := Lib.hid (HS.out.below hb2))
            | (go_at_call 150; refine (HIx.out w2.heap.size w2 rfl).mono ?_; rintro e w3 ⟨rfl, rfl⟩; have HS3 := Lib.hid (HS2.out.below (below_alloc w2 (.cells #[.string P.tFact, .string P.tFile, .string P.tSet, .string P.tSvc, .string P.tRun] 9))))
            | (go_at_call 151; refine (HPt.out _ (Hw.out.mono HS3.out.z)).mono ?_; rintro e w4 ⟨rfl, hb4⟩; have HS4 := Lib.hid (HS3.out.below hb4); clear hb2 hb4; have HB5 := Lib.hid (below_alloc w4 (.cells #[.string ⟨#[]⟩, .string ⟨#[]⟩, .bool false, .bool false] 46)); have HN5 := Lib.hid (HasRow.new w4 #[.string ⟨#[]⟩, .string ⟨#[]⟩, .bool false, .bool false] 46))
            | (go_at_call 123; refine (HSp.out (w4.heap.size + 1) _ (by simp) (Hw.out.mono (HS4.out.below HB5.out).z)).mono ?_; rintro e w5 ⟨rfl, hrow5, hb5⟩; have HB6 := Lib.hid (bstep HB5.out hb5); have HN6 := Lib.hid (HN5.out.below hb5); have HW5 := Lib.hid hrow5; clear hrow5 hb5)
            | (go_at_call 152; refine (HSv.out _ _ w5 HW5.out).mono ?_; rintro e w6 ⟨rfl, hb6⟩; have HB7 := Lib.hid (bstep HB6.out hb6); have HN7 := Lib.hid (HN6.out.below hb6); clear hb6; obtain ⟨n0, n1, n2, n3, _⟩ := hrow4 HN7.out; have g0 := HN7.out.free 0; have g1 := HN7.out.free 1; have g2 := HN7.out.free 2; have g3 := HN7.out.free 3; have HST := Lib.hid (store4 HN7.out HB7.out (Nat.le_refl _) (.string sn) (.string sp) (.bool sa) (.bool so)); have HS8 := Lib.hid (HS4.out.below HST.out.2); have hs8 : ((((w6.setCell ⟨w4.heap.size, 0, none⟩ (.string sn)).setCell ⟨w4.heap.size, 1, none⟩ (.string sp)).setCell ⟨w4.heap.size, 2, none⟩ (.bool sa)).setCell ⟨w4.heap.size, 3, none⟩ (.bool so)).heap.size = w6.heap.size := (by simp [World.setCell]); obtain ⟨m0, m1, m2, m3, _⟩ := hrow4 HST.out.1; obtain ⟨r0, r1, r2, r3, _⟩ := hrow4 HS8.out.ps.row)
            | (at_builtin; refine wpList_append_sl5 rfl _ _ 24 rfl (w.heap.size + 3) 46 i0 _ 4 40 Tryz.underlying24 hi hz0 hz1 hz2 rfl (by decide) _ _ _ rfl (own_below (W := ((((w6.setCell ⟨w4.heap.size, 0, none⟩ (.string sn)).setCell ⟨w4.heap.size, 1, none⟩ (.string sp)).setCell ⟨w4.heap.size, 2, none⟩ (.bool sa)).setCell ⟨w4.heap.size, 3, none⟩ (.bool so))) HS8.out.ps.own.v (below_alloc ((((w6.setCell ⟨w4.heap.size, 0, none⟩ (.string sn)).setCell ⟨w4.heap.size, 1, none⟩ (.string sp)).setCell ⟨w4.heap.size, 2, none⟩ (.bool sa)).setCell ⟨w4.heap.size, 3, none⟩ (.bool so)) (.cells #[.string sn, .string sp, .bool sa, .bool so] 46))) ⟨w6.heap.size, 0, none⟩ 1 1 (cellsV ⟨sn, sp, sa, so⟩) rfl rfl (by have c := cells_new ((((w6.setCell ⟨w4.heap.size, 0, none⟩ (.string sn)).setCell ⟨w4.heap.size, 1, none⟩ (.string sp)).setCell ⟨w4.heap.size, 2, none⟩ (.bool sa)).setCell ⟨w4.heap.size, 3, none⟩ (.bool so)) (cellsV ⟨sn, sp, sa, so⟩) 46; rw [hs8] at c; exact c) (by intro u hu; simp [cellsV] at hu; rcases hu with rfl | rfl | rfl | rfl <;> rfl) HLe.out.1 HLe.out.2 (Nat.le_trans HS8.out.ps.hb (below_alloc ((((w6.setCell ⟨w4.heap.size, 0, none⟩ (.string sn)).setCell ⟨w4.heap.size, 1, none⟩ (.string sp)).setCell ⟨w4.heap.size, 2, none⟩ (.bool sa)).setCell ⟨w4.heap.size, 3, none⟩ (.bool so)) (.cells #[.string sn, .string sp, .bool sa, .bool so] 46)).size) ?_; intro p' c' w9 hown hgrow hblk; obtain ⟨q1, q2, q3⟩ := HS8.out.addV (x := ⟨sn, sp, sa, so⟩) (below_alloc ((((w6.setCell ⟨w4.heap.size, 0, none⟩ (.string sn)).setCell ⟨w4.heap.size, 1, none⟩ (.string sp)).setCell ⟨w4.heap.size, 2, none⟩ (.bool sa)).setCell ⟨w4.heap.size, 3, none⟩ (.bool so)) (.cells #[.string sn, .string sp, .bool sa, .bool so] 46)) hown hgrow hblk; have HS6 := Lib.hid q3; clear q3 hown hgrow hblk; obtain ⟨y0, y1, y2, y3, _⟩ := hrow4 HS6.out.res; have f0 := HS6.out.res.free 0; have f1 := HS6.out.res.free 1; have f2 := HS6.out.res.free 2; have f3 := HS6.out.res.free 3))
            go_roundw
            case rel => exact ⟨k + 1, 3, _, _, rfl, by go_num, by omega, by (have h1 : P.lens { m with svcs := m.svcs ++ [⟨sn, sp, sa, so⟩] } ≤ P.lens m + 1 := by unfold P.lens; simp only [List.length_append, List.length_cons, List.length_nil]; omega); omega, by omega, HS6, hR2⟩
            case measure => simp [RowKit.intOf]; omega
      obtain ⟨hr, hix⟩ := P.ln_other (tn := tn) (m := m) hlt hs0 hc0 hc1 hc2 hc3 hc4
      rw [hix] at HIx
      have hQ := HQ1.out k (HR.out.symm.trans hr)
      have hsv : ¬ sv ≤ -1 := by omega
      clear hc0 hc1 hc2 hc3 hc4 hr hix HR HQ1 HQ2
      subst hQ
      generalize M[k] = l at *
      generalize P.cutA l 32 = wd at *
      generalize P.cutB l 32 = r at *
      generalize P.pairK r = kk at *
      generalize P.pairV r = vv at *
      generalize P.rq r = q at *
      go_wp2_with (first
        | (go_at_call 149; refine (HCt.out _ (Hw.out.mono HS.out.z)).mono ?_; rintro e w2 ⟨rfl, hb2⟩; have HS2 := Lib.hid (HS.out.below hb2))
        | (go_at_call 150; refine (HIx.out w2.heap.size w2 rfl).mono ?_; rintro e w3 ⟨rfl, rfl⟩; have HS3 := Lib.hid (HS2.out.below (below_alloc w2 (.cells #[.string P.tFact, .string P.tFile, .string P.tSet, .string P.tSvc, .string P.tRun] 9))))
        | (go_at_call 151; refine (HPt.out _ (Hw.out.mono HS3.out.z)).mono ?_; rintro e w4 ⟨rfl, hb4⟩; have HS6 := Lib.hid (HS3.out.below hb4); obtain ⟨y0, y1, y2, y3, _⟩ := hrow4 HS6.out.res; have f0 := HS6.out.res.free 0; have f1 := HS6.out.res.free 1; have f2 := HS6.out.res.free 2; have f3 := HS6.out.res.free 3))
      have HSt := Lib.hid (store4 HS6.out.res HS6.out.z (Nat.le_refl _) (.slice none 0 0) (.slice none 0 0) (.slice none 0 0) (.slice none 0 0))
      clear y0 y1 y2 y3 f0 f1 f2 f3
      obtain ⟨d0, d1, d2, d3, _⟩ := hrow4 HSt.out.1
      refine bodyPost_ret (v := .tuple #[machV adz P.m0, .int .i64 (k : Int), .int .i64 8]) ?_ rfl ⟨adz, rfl, lies_none _ _, HSt.out.2⟩
      unfold machV
      simp [results, Tryz.results60, go_sem, d0, d1, d2, d3]
    · have hr := P.rloop_end (tn := tn) (m := m) (s := sv) (show M.length ≤ k by omega)
      obtain ⟨hfit, hok, hbad⟩ := HQ2.out m (HR.out.symm.trans hr)
      have HCk := Lib.hid (fun W hW hl => rcheck_any A m hfit W hW hl)
      obtain ⟨r0, r1, r2, r3, _⟩ := hrow4 HS.out.ps.row
      clear hr hfit HQ1 HQ2 HR HC HP HML HMs
      by_cases hz : P.machErr m = 0
      · have hQ := hok hz
        subst hQ
        rw [hz] at HCk
        clear hok hbad hz
        go_wp2_with (go_at_call 13; refine (HCk.out _ (Hw.out.mono HS.out.z) HS.out.ps.own.lies).mono ?_; rintro e w2 ⟨rfl, hb2⟩; have HS2 := Lib.hid (HS.out.below hb2); clear r0 r1 r2 r3; obtain ⟨r0, r1, r2, r3, _⟩ := hrow4 HS2.out.ps.row; obtain ⟨y0, y1, y2, y3, _⟩ := hrow4 HS2.out.res; have f0 := HS2.out.res.free 0; have f1 := HS2.out.res.free 1; have f2 := HS2.out.res.free 2; have f3 := HS2.out.res.free 3)
        have HSt := Lib.hid (store4 HS2.out.res HS2.out.z (Nat.le_refl _) (.slice A.a1 m.facts.length A.c1) (.slice A.a2 m.files.length A.c2) (.slice A.a3 m.sets.length A.c3) (.slice A.a4 m.svcs.length A.c4))
        have HO := Lib.hid ((HS2.out.ps.own.store (k := w.heap.size) (by omega) (.slice A.a1 m.facts.length A.c1) (.slice A.a2 m.files.length A.c2) (.slice A.a3 m.sets.length A.c3) (.slice A.a4 m.svcs.length A.c4)).lies)
        clear y0 y1 y2 y3 f0 f1 f2 f3 r0 r1 r2 r3
        obtain ⟨d0, d1, d2, d3, _⟩ := hrow4 HSt.out.1
        refine bodyPost_ret (v := .tuple #[machV A m, .int .i64 0, .int .i64 0]) ?_ rfl ⟨A, rfl, HO.out, HSt.out.2⟩
        unfold machV
        simp [results, Tryz.results60, go_sem, d0, d1, d2, d3]
      · have hQ := hbad hz
        have g : (P.machErr m != 0) = true := by simpa using hz
        clear hok hbad hz
        generalize P.machErr m = e1 at *
        subst hQ
        go_wp2_with (go_at_call 13; refine (HCk.out _ (Hw.out.mono HS.out.z) HS.out.ps.own.lies).mono ?_; rintro e w2 ⟨rfl, hb2⟩; have HS2 := Lib.hid (HS.out.below hb2); obtain ⟨y0, y1, y2, y3, _⟩ := hrow4 HS2.out.res; have f0 := HS2.out.res.free 0; have f1 := HS2.out.res.free 1; have f2 := HS2.out.res.free 2; have f3 := HS2.out.res.free 3)
        have HSt := Lib.hid (store4 HS2.out.res HS2.out.z (Nat.le_refl _) (.slice none 0 0) (.slice none 0 0) (.slice none 0 0) (.slice none 0 0))
        clear y0 y1 y2 y3 f0 f1 f2 f3 r0 r1 r2 r3
        obtain ⟨d0, d1, d2, d3, _⟩ := hrow4 HSt.out.1
        refine bodyPost_ret (v := .tuple #[machV adz P.m0, .int .i64 ((0 : Nat) : Int), .int .i64 e1]) ?_ rfl ⟨adz, rfl, lies_none _ _, HSt.out.2⟩
        unfold machV
        simp [results, Tryz.results60, go_sem, d0, d1, d2, d3]

theorem rrparse_any (t : ByteArray) (w : World) (hw : Good w) : Calls Tryz.prog 60 #[.string t] w fun e w' => PA w (P.parse t) e w' := by
  by_cases h : 4194304 < t.size
  · rw [P.parse_large h]; exact rparse_large t h w
  · exact rparse_read t (by omega) w hw
end Go.Proofs.YtkibmoekadmjnaaGreatDoor
