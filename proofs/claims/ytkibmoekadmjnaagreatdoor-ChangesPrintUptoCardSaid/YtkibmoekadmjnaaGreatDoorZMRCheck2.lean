/- Walks: package outref1: Check where the lists are not too long. -/
import Derived.Test.YtkibmoekadmjnaaGreatDoorZMRCheck
import Derived.Test.YtkibmoekadmjnaaGreatDoorZMBeside
import Derived.Deep.RegionHeld3

namespace Go.Proofs.YtkibmoekadmjnaaGreatDoor
open Go.RowKit Go.Shelf

set_option maxRecDepth 100000 in
set_option maxHeartbeats 16000000 in
theorem rcheck_fits (A : Ad) (m : P.Mach) (hf : m.fit) (h1 : m.facts.length ≤ 100) (h2 : m.files.length ≤ 2000) (h3 : m.sets.length ≤ 2000) (h4 : m.svcs.length ≤ 100) (w : World) (hw : Good w) (hl : Lies w.heap.size w A m) :
    Calls Tryz.prog 13 #[machV A m] w fun e w' => e = .returned (.int .i64 (P.machErr m)) ∧ Below w.heap.size w w' := by
  obtain ⟨a1, a2, a3, a4, c1, c2, c3, c4⟩ := A
  obtain ⟨F, I, S, V⟩ := m
  have hV : P.machErr ⟨F, I, S, V⟩ = P.orE (P.listErr P.factErr P.St.k P.noMore F) (P.orE (P.listErr P.fileErr P.Fi.p (P.clash I) I) (P.orE (P.listErr P.setErr P.St.k P.noMore S) (P.listErr P.svcErr P.Sv.n P.noMore V))) := if_neg (by simp only at *; omega)
  simp only at h1 h2 h3 h4
  unfold machV
  simp only
  have HRes := Lib.hid hV
  generalize P.machErr ⟨F, I, S, V⟩ = res at *
  have HL := Lib.hid hl
  have Hw := Lib.hid hw
  have HS := Lib.hid hf
  have g1 : decide ((100 : Int) < (F.length : Int)) = false := decide_eq_false (by omega)
  have g2 : decide ((2000 : Int) < (I.length : Int)) = false := decide_eq_false (by omega)
  have g3 : decide ((2000 : Int) < (S.length : Int)) = false := decide_eq_false (by omega)
  have g4 : decide ((100 : Int) < (V.length : Int)) = false := decide_eq_false (by omega)
  have LF : F.length ≤ 100 := h1
  have LI : I.length ≤ 2000 := h2
  have LS : S.length ≤ 2000 := h3
  have LV : V.length ≤ 100 := h4
  have HW := Lib.hid rwhenV
  have eB := enters_of Tryz.func80 (by kernel_rfl) rfl
  have hmm := @run_makeMap Tryz.prog
  clear h1 h2 h3 h4 hl hw hf hV
  go_enter Tryz.func13, Tryz.ntmps13
  go_wp2_with fail
  go_loopw [45] (fun i wr => ∃ (k : Nat) (t : ByteArray), k ≤ F.length ∧ i = .int .i64 k ∧ Aside (∀ j, j < k → P.stepE P.factErr P.St.k P.noMore F j = 0) ∧ Hid (∀ m (hm : m < F.length), k = m + 1 → t = F[m].k) ∧
    Hid (HasRow wr w.heap.size #[.slice a1 F.length c1, .slice a2 I.length c2, .slice a3 S.length c3, .slice a4 V.length c4]) ∧ Hid (HasRow wr (w.heap.size + 1) #[.string t]) ∧ Hid (Below w.heap.size w wr)) (fun i _ => F.length - (intOf i).toNat)
  case atStart =>
    refine ⟨0, ⟨#[]⟩, Nat.zero_le _, rfl, aside (fun j h => absurd h (by omega)), Lib.hid (fun m hm h => by omega), Lib.hid ((HasRow.new w _ _).alloc _), Lib.hid ?_, Lib.hid (((Below.refl _ w).alloc (Nat.le_refl _) _).alloc (by simp) _)⟩
    have := HasRow.new (w.alloc (.cells #[.slice a1 F.length c1, .slice a2 I.length c2, .slice a3 S.length c3, .slice a4 V.length c4] 26)) #[.string ⟨#[]⟩] 9
    rwa [World.size_alloc] at this
  case round =>
    obtain ⟨k, t, hk, rfl, A, HT, HM, HP, HB⟩ := hrel
    by_cases hlt : k < F.length
    · obtain ⟨b, off, rfl, hbm, hc⟩ := (HL.out.f.below HB.out).at_ (ne_nil_of_lt hlt)
      obtain ⟨c0, c1⟩ := hc k hlt
      have hr := P.step_fact F hlt HT.out
      have hN := fun W => rname_any F[k].k (HS.out.f k hlt).1 W
      have hY := fun W => rvalue_any F[k].v (HS.out.f k hlt).2 W
      have hlt1 := HP.out.lt
      have hne : wr.heap.size ≠ w.heap.size + 1 := by omega
      have HZ : Hid (P.stepE P.factErr P.St.k P.noMore F k = 0 → ∀ j, j < k + 1 → P.stepE P.factErr P.St.k P.noMore F j = 0) := Lib.hid fun h j hj => by
        by_cases e : j = k
        · subst e; exact h
        · exact A.out j (by omega)
      have HX : Hid (P.stepE P.factErr P.St.k P.noMore F k ≠ 0 → res = P.stepE P.factErr P.St.k P.noMore F k) := Lib.hid fun h => by
        rw [HRes.out]
        have : P.listErr P.factErr P.St.k P.noMore F = P.stepE P.factErr P.St.k P.noMore F k := P.firstErr_at hlt A.out h
        rw [this, P.orE_ne h]
      have HT1 : Hid (∀ m (hm : m < F.length), k + 1 = m + 1 → F[k].k = F[m].k) := Lib.hid fun m hm h => by
        obtain rfl : k = m := by omega
        rfl
      generalize P.stepE P.factErr P.St.k P.noMore F k = r at *
      have HBH := Lib.hid (fun W hW => behind_at k F[k].k t (w.heap.size + 1) _ rfl W hW)
      clear A hc HT
      generalize F[k] = x at *
      generalize P.nameS x.k = n1 at *
      generalize P.valueS x.v = n2 at *
      generalize P.behindV k x.k t = o at *
      have HO := Lib.hid (fun nb W hn => rfirst3 _ _ _ r hr nb W hn)
      replace hN := Lib.hid hN
      replace hY := Lib.hid hY
      clear hr
      go_wp2_with fail
      go_region_held3 (fun W => W.cell? ⟨wr.heap.size, 0, none⟩ = some (.string x.k) ∧ W.cell? ⟨wr.heap.size, 1, none⟩ = some (.string x.v))
        (first | exact s2_start _ _ _ _ | with_reducible assumption | exact s2_turn hne (by with_reducible assumption) hT | exact s2_keep (by with_reducible assumption) (below_alloc _ _))
        (first
          | (go_at_call 38; refine (hN.out _).mono ?_; rintro e w' ⟨rfl, rfl⟩)
          | (go_at_call 83; refine (hY.out _).mono ?_; rintro e w' ⟨rfl, rfl⟩)
          | (go_at_call 81; refine (HW.out _ _ _).mono ?_; rintro e w' ⟨rfl, rfl⟩)
          | (go_at_call 80; refine (HBH.out _ ((HP.out.alloc _).drew)).mono ?_; rintro e w3 ⟨rfl, hT⟩)
          | (go_at_call 82; refine (HO.out _ _ (by simp)).mono ?_; rintro e w' ⟨rfl, rfl⟩))
      have HB3 := Lib.hid (bstep (hT.below (bstep HB.out (below_alloc wr _)).drew (bstep HB.out (below_alloc wr _)).drew.size (Nat.le_succ _)) (below_alloc _ (.cells #[.int .i64 (P.whenV (!n1) 5), .int .i64 (P.whenV (!n2) 2), .int .i64 o] 29)))
      have HM3 := Lib.hid ((hT.row ((HM.out.alloc _).drew) (by omega)).alloc (.cells #[.int .i64 (P.whenV (!n1) 5), .int .i64 (P.whenV (!n2) 2), .int .i64 o] 29))
      have HP3 := Lib.hid (hT.r.alloc (.cells #[.int .i64 (P.whenV (!n1) 5), .int .i64 (P.whenV (!n2) 2), .int .i64 o] 29))
      clear hT HBH HO hN hY HB HM HP
      by_cases hz : r = 0
      · subst hz
        replace HZ := Lib.hid (HZ.out rfl)
        clear HX
        go_wp2_with fail
        go_roundw
        case rel => exact ⟨k + 1, x.k, by omega, by go_num, aside HZ.out, HT1, HM3, HP3, HB3⟩
        case measure => simp [intOf]; omega
      · replace HX := Lib.hid (HX.out hz)
        have g5 : (r != 0) = true := by simpa using hz
        clear HZ
        go_wp2_with fail
        go_ret
        exact ⟨by rw [HX.out]; rfl, HB3.out⟩
    · have HE1 : Hid (P.listErr P.factErr P.St.k P.noMore F = 0) := Lib.hid (P.firstErr_none fun j hj => A.out j (by omega))
      clear A HT
      rename World => wa
      have hwa := HP.out.lt
      obtain ⟨m0, m1, m2, m3, hltm⟩ := hrow4 HM.out
      go_wp2_with fail
      go_loopw [75] (fun i wq => ∃ (k : Nat) (t : ByteArray), k ≤ I.length ∧ i = .int .i64 k ∧ Aside (∀ j, j < k → P.stepE P.fileErr P.Fi.p (P.clash I) I j = 0) ∧ Hid (∀ m (hm : m < I.length), k = m + 1 → t = I[m].p) ∧
        Hid (HasRow wq w.heap.size #[.slice a1 F.length c1, .slice a2 I.length c2, .slice a3 S.length c3, .slice a4 V.length c4]) ∧ Hid (HasRow wq (w.heap.size + 1) #[.string t]) ∧ Hid (SetM wq wa.heap.size k (P.seen (I.take k))) ∧ Hid (Below w.heap.size w wq)) (fun i _ => I.length - (intOf i).toNat)
      case atStart =>
        exact ⟨0, t, Nat.zero_le _, rfl, aside (fun j h => absurd h (by omega)), Lib.hid (fun m hm h => by omega), Lib.hid (HM.out.alloc _), Lib.hid (HP.out.alloc _), Lib.hid (SetMap.made _ _ _ _), Lib.hid (bstep HB.out (below_alloc _ _))⟩
      case round =>
        clear m0 m1 m2 m3
        rename World => wq
        obtain ⟨j, s, hj, rfl, A2, HT2, HM2, HP2, HQ2, HB2⟩ := hrel
        by_cases hlt2 : j < I.length
        · obtain ⟨b, off, rfl, hbm, hc⟩ := (HL.out.i.below HB2.out).at_ (ne_nil_of_lt hlt2)
          obtain ⟨d0, d1, d2⟩ := hc j hlt2
          have hst := P.step_file I hlt2 HT2.out
          have hE := fun W hW => rfileError_any I[j] (HS.out.i j hlt2).1 (HS.out.i j hlt2).2 W hW
          have hltp := HP2.out.lt
          have hltq := HQ2.out.lt
          have hne : wq.heap.size ≠ w.heap.size + 1 := by omega
          have hsz := (HS.out.i j hlt2).1
          have HZ : Hid (P.stepE P.fileErr P.Fi.p (P.clash I) I j = 0 → ∀ i, i < j + 1 → P.stepE P.fileErr P.Fi.p (P.clash I) I i = 0) := Lib.hid fun h i hi => by
            by_cases e : i = j
            · subst e; exact h
            · exact A2.out i (by omega)
          have HX : Hid (P.stepE P.fileErr P.Fi.p (P.clash I) I j ≠ 0 → res = P.stepE P.fileErr P.Fi.p (P.clash I) I j) := Lib.hid fun h => by
            rw [HRes.out, HE1.out, P.orE_zero]
            have : P.listErr P.fileErr P.Fi.p (P.clash I) I = P.stepE P.fileErr P.Fi.p (P.clash I) I j := P.firstErr_at hlt2 A2.out h
            rw [this, P.orE_ne h]
          have HT1 : Hid (∀ m (hm : m < I.length), j + 1 = m + 1 → I[j].p = I[m].p) := Lib.hid fun m hm h => by
            obtain rfl : j = m := by omega
            rfl
          have HQs : Hid (∀ s, (P.seen (I.take j) s || decide (s = I[j].p)) = P.seen (I.take (j + 1)) s) := Lib.hid (P.seen_succ' hlt2)
          have HDE : Hid (P.dirK I[j].p (P.seen (I.take j)) I[j].p.size = P.clash I j) := Lib.hid (P.dirK_end I hlt2)
          have HBH := Lib.hid (fun W hW => behind_at j I[j].p s (w.heap.size + 1) _ rfl W hW)
          generalize P.stepE P.fileErr P.Fi.p (P.clash I) I j = r at *
          generalize P.clash I j = ce at *
          generalize P.seen (I.take j) = q at *
          clear A2 hc HT2
          generalize I[j] = x at *
          generalize P.behindV j x.p s = o at *
          generalize P.fileErr x = f1 at *
          generalize hr1 : P.orE f1 o = r1 at *
          have HO := Lib.hid (fun nb W hn => rfirst2r _ _ r1 hr1 nb W hn)
          have Hst := Lib.hid hst
          replace hE := Lib.hid hE
          clear hr1 hst
          go_wp2_with fail
          go_region_held3 (fun W => W.cell? ⟨wq.heap.size, 0, none⟩ = some (.string x.p) ∧ W.cell? ⟨wq.heap.size, 1, none⟩ = some (.string x.d) ∧ W.cell? ⟨wq.heap.size, 2, none⟩ = some (.bool x.r))
            (first | exact s3_start _ _ _ _ _ | with_reducible assumption | exact s3_turn hne (by with_reducible assumption) hT | exact s3_keep (by with_reducible assumption) (by with_reducible assumption) | exact s3_keep (by with_reducible assumption) (below_alloc _ _))
            (first
              | (go_at_call 84; refine (hE.out _ (Hw.out.mono (bstep HB2.out (below_alloc _ _)).drew)).mono ?_; rintro e w4 ⟨rfl, hb4⟩)
              | (go_at_call 80; refine (HBH.out _ (((HP2.out.alloc _).drew).below hb4)).mono ?_; rintro e w5 ⟨rfl, hT⟩)
              | (go_at_call 82; refine (HO.out _ _ (by simp)).mono ?_; rintro e w' ⟨rfl, rfl⟩))
          have HB5 := Lib.hid (bstep (hT.below (bstep (bstep HB2.out (below_alloc wq _)).drew hb4) (bstep (bstep HB2.out (below_alloc wq _)).drew hb4).size (Nat.le_succ _)) (below_alloc _ (.cells #[.int .i64 f1, .int .i64 o] 29)))
          have HM5 := Lib.hid ((hT.row (((HM2.out.alloc _).drew).below hb4) (by omega)).alloc (.cells #[.int .i64 f1, .int .i64 o] 29))
          have HP5 := Lib.hid (hT.r.alloc (.cells #[.int .i64 f1, .int .i64 o] 29))
          have HX5 := Lib.hid ((hT.row (((HasRow.new wq _ _).drew).below hb4) hne).alloc (.cells #[.int .i64 f1, .int .i64 o] 29))
          have HQ5 := Lib.hid ((((HQ2.out.alloc _).drew.below hb4 (HQ2.out.alloc _).drew.lt).kept hT.g (fun e => by injection e; omega)).alloc (.cells #[.int .i64 f1, .int .i64 o] 29))
          clear hT hb4 HBH HO hE HB2 HM2 HP2 HQ2
          generalize w5.alloc (.cells #[.int .i64 f1, .int .i64 o] 29) = W5 at *
          by_cases z : r1 = 0
          · subst z
            have hrc : r = ce := by rw [Hst.out]; rfl
            subst hrc
            obtain ⟨x0, x1, x2, hx5⟩ := hrow3 HX5.out
            have HK := Lib.hid (fun s hs => HQ5.out.look Tryz.underlying9 Tryz.underlying108 Tryz.underlying4 (zero4 _) (s := s) hs)
            go_wp2_with fail
            go_loop [11, 94] (fun e i => ∃ k : Nat, k ≤ x.p.size ∧ i = .int .i64 k ∧ e = .int .i64 (P.dirK x.p q k)) (fun _ i => x.p.size - (intOf i).toNat)
            case atStart => exact ⟨0, Nat.zero_le _, rfl, rfl⟩
            case round =>
              obtain ⟨k, hk, rfl, rfl⟩ := hrel
              by_cases hlt3 : k < x.p.size
              · have hkp : x.p.data.toList[k]? = some x.p[k] := by rw [List.getElem?_eq_getElem (by rw [P.size_len]; exact hlt3), ByteArray.getElem_eq_getElem_data, Array.getElem_toList]
                have he : (x.p.extract 0 k).size ≤ maxLen := by rw [ByteArray.size_extract]; unfold maxLen; omega
                by_cases h47 : (x.p[k].toNat : Int) = 47
                · have h47' : x.p.data.toList[k]? = some 47 := by rw [hkp]; congr 1; exact UInt8.toNat_inj.1 (show x.p[k].toNat = 47 by omega)
                  have hl := HK.out _ he
                  cases hq : q (x.p.extract 0 k) with
                  | true =>
                    rw [hq] at hl
                    have HD := Lib.hid (P.dirK_hit h47' hq)
                    clear hkp he h47' hq
                    go_wp2_with fail
                    go_round
                    case rel => exact ⟨k + 1, by omega, by go_num, by rw [HD.out]⟩
                    case measure => simp [intOf]; omega
                  | false =>
                    rw [hq] at hl
                    have HD := Lib.hid (P.dirK_miss (p := x.p) hq)
                    clear hkp he h47' hq
                    go_wp2_with fail
                    go_round
                    case rel => exact ⟨k + 1, by omega, by go_num, by rw [HD.out]⟩
                    case measure => simp [intOf]; omega
                · have HD := Lib.hid (P.dirK_no (q := q) (show x.p.data.toList[k]? ≠ some 47 by rw [hkp]; intro e; injection e with e; apply h47; rw [e]; rfl))
                  have h47' : ((x.p[k].toNat : Int) == 47) = false := by simpa using h47
                  clear hkp he
                  go_wp2_with fail
                  go_round
                  case rel => exact ⟨k + 1, by omega, by go_num, by rw [HD.out]⟩
                  case measure => simp [intOf]; omega
              · obtain rfl : k = x.p.size := by omega
                rw [HDE.out]
                by_cases zc : r = 0
                · subst zc
                  replace HZ := Lib.hid (HZ.out rfl)
                  have hjm : j < maxLen := by unfold maxLen; omega
                  have hxm : x.p.size ≤ maxLen := by unfold maxLen; omega
                  have hqw := HQ5.out.lt
                  clear HX
                  go_wp2_with (at_mapUpdate; refine wpList_mapUpdate_set _ rfl _ _ _ 108 rfl Tryz.underlying9 Tryz.underlying108 Tryz.underlying4 wa.heap.size j q rfl HQ5.out hjm x.p rfl rfl hxm ?_; intro W6 hM6 hg6)
                  have HQ6 := Lib.hid (hM6.congr HQs.out)
                  have HM6 := Lib.hid (HM5.out.grown hg6 (fun e => by injection e; omega))
                  have HP6 := Lib.hid (HP5.out.grown hg6 (fun e => by injection e; omega))
                  have HB6 := Lib.hid (HB5.out.grown hg6 HB5.out.size (fun k e => by cases e; omega))
                  clear hM6 hg6
                  go_roundw
                  case rel => exact ⟨j + 1, x.p, by omega, by go_num, aside HZ.out, HT1, HM6, HP6, HQ6, HB6⟩
                  case measure => simp [intOf]; omega
                · replace HX := Lib.hid (HX.out zc)
                  have g5 : (r != 0) = true := by simpa using zc
                  clear HZ
                  go_wp2_with fail
                  go_ret
                  exact ⟨by rw [HX.out]; rfl, HB5.out⟩
          · have hrc : r = r1 := by rw [Hst.out, P.orE_ne z]
            subst hrc
            replace HX := Lib.hid (HX.out z)
            have g5 : (r != 0) = true := by simpa using z
            have g6 : (r == 0) = false := by simpa using z
            clear HZ
            go_wp2_with fail
            go_ret
            exact ⟨by rw [HX.out]; rfl, HB5.out⟩
        · have HE2 : Hid (P.listErr P.fileErr P.Fi.p (P.clash I) I = 0) := Lib.hid (P.firstErr_none fun i hi => A2.out i (by omega))
          clear A2 HT2 HQ2
          rename World => wb
          obtain ⟨m0, m1, m2, m3, hltm⟩ := hrow4 HM2.out
          go_wp2_with fail
          go_loopw [121] (fun i wq => ∃ (k : Nat) (t : ByteArray), k ≤ S.length ∧ i = .int .i64 k ∧ Aside (∀ j, j < k → P.stepE P.setErr P.St.k P.noMore S j = 0) ∧ Hid (∀ m (hm : m < S.length), k = m + 1 → t = S[m].k) ∧
            Hid (HasRow wq w.heap.size #[.slice a1 F.length c1, .slice a2 I.length c2, .slice a3 S.length c3, .slice a4 V.length c4]) ∧ Hid (HasRow wq (w.heap.size + 1) #[.string t]) ∧ Hid (Below w.heap.size w wq)) (fun i _ => S.length - (intOf i).toNat)
          case atStart =>
            exact ⟨0, _, Nat.zero_le _, rfl, aside (fun j h => absurd h (by omega)), Lib.hid (fun m hm h => by omega), HM2, HP2, HB2⟩
          case round =>
            clear m0 m1 m2 m3
            rename World => wq
            obtain ⟨j, s, hj, rfl, A3, HT3, HM3, HP3, HB3⟩ := hrel
            by_cases hlt3 : j < S.length
            · obtain ⟨b, off, rfl, hbm, hc⟩ := (HL.out.s.below HB3.out).at_ (ne_nil_of_lt hlt3)
              obtain ⟨d0, d1⟩ := hc j hlt3
              have hr := P.step_two P.setErr P.St.k S hlt3 HT3.out
              have hE := fun W hW => rsettingError_any S[j] (HS.out.s j hlt3).1 (HS.out.s j hlt3).2 W hW
              have hltp := HP3.out.lt
              have hne : wq.heap.size ≠ w.heap.size + 1 := by omega
              have HZ : Hid (P.stepE P.setErr P.St.k P.noMore S j = 0 → ∀ i, i < j + 1 → P.stepE P.setErr P.St.k P.noMore S i = 0) := Lib.hid fun h i hi => by
                by_cases e : i = j
                · subst e; exact h
                · exact A3.out i (by omega)
              have HX : Hid (P.stepE P.setErr P.St.k P.noMore S j ≠ 0 → res = P.stepE P.setErr P.St.k P.noMore S j) := Lib.hid fun h => by
                rw [HRes.out, HE1.out, P.orE_zero, HE2.out, P.orE_zero]
                have : P.listErr P.setErr P.St.k P.noMore S = P.stepE P.setErr P.St.k P.noMore S j := P.firstErr_at hlt3 A3.out h
                rw [this, P.orE_ne h]
              have HT1 : Hid (∀ m (hm : m < S.length), j + 1 = m + 1 → S[j].k = S[m].k) := Lib.hid fun m hm h => by
                obtain rfl : j = m := by omega
                rfl
              have HBH := Lib.hid (fun W hW => behind_at j S[j].k s (w.heap.size + 1) _ rfl W hW)
              generalize P.stepE P.setErr P.St.k P.noMore S j = r at *
              clear A3 hc HT3
              generalize S[j] = x at *
              generalize P.behindV j x.k s = o at *
              generalize P.setErr x = f1 at *
              have HO := Lib.hid (fun nb W hn => rfirst2r _ _ r hr nb W hn)
              replace hE := Lib.hid hE
              clear hr
              go_wp2_with fail
              go_region_held3 (fun W => W.cell? ⟨wq.heap.size, 0, none⟩ = some (.string x.k) ∧ W.cell? ⟨wq.heap.size, 1, none⟩ = some (.string x.v))
                (first | exact s2_start _ _ _ _ | with_reducible assumption | exact s2_turn hne (by with_reducible assumption) hT | exact s2_keep (by with_reducible assumption) (by with_reducible assumption) | exact s2_keep (by with_reducible assumption) (below_alloc _ _))
                (first
                  | (go_at_call 85; refine (hE.out _ (Hw.out.mono (bstep HB3.out (below_alloc _ _)).drew)).mono ?_; rintro e w4 ⟨rfl, hb4⟩)
                  | (go_at_call 80; refine (HBH.out _ (((HP3.out.alloc _).drew).below hb4)).mono ?_; rintro e w5 ⟨rfl, hT⟩)
                  | (go_at_call 82; refine (HO.out _ _ (by simp)).mono ?_; rintro e w' ⟨rfl, rfl⟩))
              have HB5 := Lib.hid (bstep (hT.below (bstep (bstep HB3.out (below_alloc wq _)).drew hb4) (bstep (bstep HB3.out (below_alloc wq _)).drew hb4).size (Nat.le_succ _)) (below_alloc _ (.cells #[.int .i64 f1, .int .i64 o] 29)))
              have HM5 := Lib.hid ((hT.row (((HM3.out.alloc _).drew).below hb4) (by omega)).alloc (.cells #[.int .i64 f1, .int .i64 o] 29))
              have HP5 := Lib.hid (hT.r.alloc (.cells #[.int .i64 f1, .int .i64 o] 29))
              clear hT hb4 HBH HO hE HB3 HM3 HP3
              by_cases hz : r = 0
              · subst hz
                replace HZ := Lib.hid (HZ.out rfl)
                clear HX
                go_wp2_with fail
                go_roundw
                case rel => exact ⟨j + 1, x.k, by omega, by go_num, aside HZ.out, HT1, HM5, HP5, HB5⟩
                case measure => simp [intOf]; omega
              · replace HX := Lib.hid (HX.out hz)
                have g5 : (r != 0) = true := by simpa using hz
                clear HZ
                go_wp2_with fail
                go_ret
                exact ⟨by rw [HX.out]; rfl, HB5.out⟩
            · have HE3 : Hid (P.listErr P.setErr P.St.k P.noMore S = 0) := Lib.hid (P.firstErr_none fun i hi => A3.out i (by omega))
              clear A3 HT3
              rename World => wc
              obtain ⟨m0, m1, m2, m3, hltm⟩ := hrow4 HM3.out
              go_wp2_with fail
              go_loopw [142] (fun i wz => ∃ (k : Nat) (t : ByteArray), k ≤ V.length ∧ i = .int .i64 k ∧ Aside (∀ j, j < k → P.stepE P.svcErr P.Sv.n P.noMore V j = 0) ∧ Hid (∀ m (hm : m < V.length), k = m + 1 → t = V[m].n) ∧
                Hid (HasRow wz w.heap.size #[.slice a1 F.length c1, .slice a2 I.length c2, .slice a3 S.length c3, .slice a4 V.length c4]) ∧ Hid (HasRow wz (w.heap.size + 1) #[.string t]) ∧ Hid (Below w.heap.size w wz)) (fun i _ => V.length - (intOf i).toNat)
              case atStart =>
                exact ⟨0, _, Nat.zero_le _, rfl, aside (fun j h => absurd h (by omega)), Lib.hid (fun m hm h => by omega), HM3, HP3, HB3⟩
              case round =>
                clear m0 m1 m2 m3
                rename World => wz
                obtain ⟨j, s, hj, rfl, A4, HT4, HM4, HP4, HB4⟩ := hrel
                by_cases hlt4 : j < V.length
                · obtain ⟨b, off, rfl, hbm, hc⟩ := (HL.out.v.below HB4.out).at_ (ne_nil_of_lt hlt4)
                  obtain ⟨d0, d1, d2, d3⟩ := hc j hlt4
                  have hr := P.step_two P.svcErr P.Sv.n V hlt4 HT4.out
                  have hE := fun W hW => rserviceError_any V[j] (HS.out.v j hlt4).1 (HS.out.v j hlt4).2 W hW
                  have hltp := HP4.out.lt
                  have hne : wz.heap.size ≠ w.heap.size + 1 := by omega
                  have HZ : Hid (P.stepE P.svcErr P.Sv.n P.noMore V j = 0 → ∀ i, i < j + 1 → P.stepE P.svcErr P.Sv.n P.noMore V i = 0) := Lib.hid fun h i hi => by
                    by_cases e : i = j
                    · subst e; exact h
                    · exact A4.out i (by omega)
                  have HX : Hid (P.stepE P.svcErr P.Sv.n P.noMore V j ≠ 0 → res = P.stepE P.svcErr P.Sv.n P.noMore V j) := Lib.hid fun h => by
                    rw [HRes.out, HE1.out, P.orE_zero, HE2.out, P.orE_zero, HE3.out, P.orE_zero]
                    have : P.listErr P.svcErr P.Sv.n P.noMore V = P.stepE P.svcErr P.Sv.n P.noMore V j := P.firstErr_at hlt4 A4.out h
                    rw [this]
                  have HT1 : Hid (∀ m (hm : m < V.length), j + 1 = m + 1 → V[j].n = V[m].n) := Lib.hid fun m hm h => by
                    obtain rfl : j = m := by omega
                    rfl
                  have HBH := Lib.hid (fun W hW => behind_at j V[j].n s (w.heap.size + 1) _ rfl W hW)
                  generalize P.stepE P.svcErr P.Sv.n P.noMore V j = r at *
                  clear A4 hc HT4
                  generalize V[j] = x at *
                  generalize P.behindV j x.n s = o at *
                  generalize P.svcErr x = f1 at *
                  have HO := Lib.hid (fun nb W hn => rfirst2r _ _ r hr nb W hn)
                  replace hE := Lib.hid hE
                  clear hr
                  go_wp2_with fail
                  go_region_held3 (fun W => W.cell? ⟨wz.heap.size, 0, none⟩ = some (.string x.n) ∧ W.cell? ⟨wz.heap.size, 1, none⟩ = some (.string x.p) ∧ W.cell? ⟨wz.heap.size, 2, none⟩ = some (.bool x.a) ∧ W.cell? ⟨wz.heap.size, 3, none⟩ = some (.bool x.o))
                    (first | exact s4_start _ _ _ _ _ _ | with_reducible assumption | exact s4_turn hne (by with_reducible assumption) hT | exact s4_keep (by with_reducible assumption) (by with_reducible assumption) | exact s4_keep (by with_reducible assumption) (below_alloc _ _))
                    (first
                      | (go_at_call 86; refine (hE.out _ (Hw.out.mono (bstep HB4.out (below_alloc _ _)).drew)).mono ?_; rintro e w4 ⟨rfl, hb4⟩)
                      | (go_at_call 80; refine (HBH.out _ (((HP4.out.alloc _).drew).below hb4)).mono ?_; rintro e w5 ⟨rfl, hT⟩)
                      | (go_at_call 82; refine (HO.out _ _ (by simp)).mono ?_; rintro e w' ⟨rfl, rfl⟩))
                  have HB5 := Lib.hid (bstep (hT.below (bstep (bstep HB4.out (below_alloc wz _)).drew hb4) (bstep (bstep HB4.out (below_alloc wz _)).drew hb4).size (Nat.le_succ _)) (below_alloc _ (.cells #[.int .i64 f1, .int .i64 o] 29)))
                  have HM5 := Lib.hid ((hT.row (((HM4.out.alloc _).drew).below hb4) (by omega)).alloc (.cells #[.int .i64 f1, .int .i64 o] 29))
                  have HP5 := Lib.hid (hT.r.alloc (.cells #[.int .i64 f1, .int .i64 o] 29))
                  clear hT hb4 HBH HO hE HB4 HM4 HP4
                  by_cases hz : r = 0
                  · subst hz
                    replace HZ := Lib.hid (HZ.out rfl)
                    clear HX
                    go_wp2_with fail
                    go_roundw
                    case rel => exact ⟨j + 1, x.n, by omega, by go_num, aside HZ.out, HT1, HM5, HP5, HB5⟩
                    case measure => simp [intOf]; omega
                  · replace HX := Lib.hid (HX.out hz)
                    have g5 : (r != 0) = true := by simpa using hz
                    clear HZ
                    go_wp2_with fail
                    go_ret
                    exact ⟨by rw [HX.out]; rfl, HB5.out⟩
                · have HE4 : Hid (P.listErr P.svcErr P.Sv.n P.noMore V = 0) := Lib.hid (P.firstErr_none fun i hi => A4.out i (by omega))
                  have HX : Hid (res = 0) := Lib.hid (by rw [HRes.out, HE1.out, HE2.out, HE3.out, HE4.out]; rfl)
                  go_wp2_with fail
                  go_ret
                  exact ⟨by rw [HX.out]; rfl, HB4.out⟩
theorem rcheck_any (A : Ad) (m : P.Mach) (hf : m.fit) (w : World) (hw : Good w) (hl : Lies w.heap.size w A m) :
    Calls Tryz.prog 13 #[machV A m] w fun e w' => e = .returned (.int .i64 (P.machErr m)) ∧ Below w.heap.size w w' := by
  by_cases h : 100 < m.facts.length ∨ 2000 < m.files.length ∨ 2000 < m.sets.length ∨ 100 < m.svcs.length
  · rw [show P.machErr m = 4 from if_pos h]
    exact rcheck_large A m h w
  · exact rcheck_fits A m hf (by omega) (by omega) (by omega) (by omega) w hw hl
end Go.Proofs.YtkibmoekadmjnaaGreatDoor
