/- Walks: outref1's ParseJournal: how many changes there are, and these (its closure); cutLines with its capacity. -/
import Derived.Test.YtomikcemiacjmaaGreatDoorZJNumber
import Derived.Test.YtomikcemiacjmaaGreatDoorZJLink
import Derived.Test.YtomikcemiacjmaaGreatDoorZGRdL

namespace Go.Proofs.YtomikcemiacjmaaGreatDoor
open Go.RowKit Go.Lib Go.Shelf Go.Maps

namespace P
theorem sMany_short : ∀ (n : Nat) (ls : List ByteArray), ls.length < n → sMany n ls = none
  | 0, _, h => by omega
  | n + 1, [], _ => rfl
  | n + 1, l :: ls, h => by
    simp only [sMany]
    split
    · rw [sMany_short n ls (by simpa using h)]; rfl
    · rfl
theorem sMany_step {n i : Nat} {ls : List ByteArray} {m : List Chg} {R : Option (List Chg × List ByteArray)} (hi : i < n) (hl : i < ls.length) (h : (sMany (n - i) (ls.drop i)).map (fun r => (m ++ r.1, r.2)) = R) :
    ((chRead ls[i]).2 = false → R = none) ∧ ((chRead ls[i]).2 = true → (sMany (n - (i + 1)) (ls.drop (i + 1))).map (fun r => ((m ++ [(chRead ls[i]).1]) ++ r.1, r.2)) = R) := by
  obtain ⟨q, hq⟩ : ∃ q, n - i = q + 1 := ⟨n - i - 1, by omega⟩
  rw [hq, List.drop_eq_getElem_cons hl] at h
  simp only [sMany] at h
  refine ⟨fun hr => ?_, fun hr => ?_⟩
  · rw [if_neg (by rw [hr]; decide)] at h; rw [← h]; rfl
  · rw [if_pos hr] at h
    rw [← h, show n - (i + 1) = q by omega]
    cases sMany q (ls.drop (i + 1)) with
    | none => rfl
    | some r => simp
theorem sPart_end {w : B} {M : List ByteArray} {k : Nat} (h : M.length ≤ k) : sPart w (M.drop k) = none := by rw [List.drop_eq_nil_of_le h]; rfl
theorem sPart_no {w : B} {M : List ByteArray} {k : Nat} (h : k < M.length) (hp : Lib.hasPrefix M[k].data.toList w = false) : sPart w (M.drop k) = none := by
  rw [List.drop_eq_getElem_cons h]
  unfold sPart
  simp only [sBehind]
  unfold Lib.hasPrefix at hp
  rw [if_neg (by rw [hp]; decide)]; rfl
theorem sPart_yes {w : B} {M : List ByteArray} {k : Nat} (h : k < M.length) (hp : Lib.hasPrefix M[k].data.toList w = true) : sPart w (M.drop k) = (sNo (M[k].data.toList.drop w.length)).bind fun n => sMany n (M.drop (k + 1)) := by
  rw [List.drop_eq_getElem_cons h]
  unfold sPart
  simp only [sBehind]
  unfold Lib.hasPrefix at hp
  rw [if_pos hp]; rfl
end P
/-- lines where they lie -/
def RowAt (W : World) (nb : Nat) (M : List ByteArray) : Prop := nb < W.heap.size ∧ ∀ k (hk : k < M.length), W.cell? ⟨nb, k, none⟩ = some (.string M[k])
theorem RowAt.below {n nb : Nat} {W W' : World} {M : List ByteArray} (h : RowAt W nb M) (hb : Below n W W') (hn : nb < n) : RowAt W' nb M := ⟨Nat.lt_of_lt_of_le h.1 hb.size, fun k hk => by rw [hb.cell (p := ⟨nb, k, none⟩) hn]; exact h.2 k hk⟩

set_option maxRecDepth 100000 in
theorem cutLinesC_any (t : ByteArray) (hs : t.size ≤ 1000000000) (nb : Nat) (w : World) (hn : nb = w.heap.size) (hw : Good w) :
    Calls Tryz.prog 154 #[.string t] w fun e w' => e = .returned (.tuple #[.slice (some ⟨nb, 0, none⟩) (P.lns t).length (P.parts 10 t).length, .int .i64 (P.torn t)]) ∧ HasRow w' nb ((P.parts 10 t).map Value.string).toArray ∧ Below w.heap.size w w' := by
  have HS := Lib.hid (split_row 10 t hs nb w hn hw)
  have hlen := P.parts_len 10 t
  have hcnt : Lib.countB t ⟨#[10]⟩ ≤ t.size := Lib.countB_le _ (Nat.le_refl _) _ t (Nat.le_refl _)
  have hln := lns_len t
  have htn : P.torn t = if ((P.parts 10 t).getLast (P.parts_ne 10 t)).toList = [] then -1 else (Lib.countB t ⟨#[10]⟩ : Int) := rfl
  obtain ⟨x, hx⟩ : ∃ x, (P.parts 10 t).getLast (P.parts_ne 10 t) = x := ⟨_, rfl⟩
  have hx2 : (P.parts 10 t)[Lib.countB t ⟨#[10]⟩]'(by omega) = x := by
    rw [← hx, List.getLast_eq_getElem]
    congr 1; omega
  rw [hx] at hln htn
  have hcell : Hid (∀ W, HasRow W nb ((P.parts 10 t).map Value.string).toArray → W.cell? ⟨nb, Lib.countB t ⟨#[10]⟩, none⟩ = some (.string x)) := Lib.hid fun W h => by rw [← hx2]; exact row_cell h _ (by omega)
  clear hx hx2 hw
  generalize P.lns t = M at *
  generalize P.torn t = tn at *
  generalize P.parts 10 t = L at *
  generalize Lib.countB t ⟨#[10]⟩ = n at *
  have hw1 : IntKind.i64.wrap ((L.length : Int) - 1) = (n : Int) := by rw [IntKind.wrap_i64]; omega
  have hb1 : n < L.length := by omega
  have hb2 : (n : Int) < (L.length : Int) := by omega
  have hb3 : (0 : Int) ≤ (n : Int) := by omega
  cases hz : x.toList.isEmpty with
  | true =>
    have hz' := eq_of hz
    rw [if_pos hz'] at hln htn
    have hM : M.length = n := by omega
    subst htn
    rw [hM]
    clear hln hn hlen
    go_enter Tryz.func154, Tryz.ntmps154
    go_wp2_with (go_at_call 129; refine HS.out.mono ?_; rintro e w' ⟨rfl, hrow, hb⟩; have k0 := hcell.out _ hrow)
    go_ret2
    exact ⟨rfl, hrow, hb⟩
  | false =>
    have hz' := ne_of hz
    rw [if_neg hz'] at hln htn
    subst htn
    rw [hln]
    clear hln hn hlen
    go_enter Tryz.func154, Tryz.ntmps154
    go_wp2_with (go_at_call 129; refine HS.out.mono ?_; rintro e w' ⟨rfl, hrow, hb⟩; have k0 := hcell.out _ hrow)
    go_ret2
    exact ⟨rfl, hrow, hb⟩

/-- what the closure leaves -/
def PRT (w : World) (Ba : Nat) (M : List ByteArray) (o : Option (List P.Chg × List ByteArray)) (e : Ending) (w' : World) : Prop :=
  (o = none → e = .returned (.tuple #[.slice none 0 0, .bool false]) ∧ Below w.heap.size w w') ∧
  (∀ cs r, o = some (cs, r) → ∃ a c, e = .returned (.tuple #[.slice a cs.length c, .bool true]) ∧ w'.ownsRow w.heap.size 73 10 (.slice a cs.length c) cs.length (flat chC cs) ∧
    r = M.drop (M.length - r.length) ∧ r.length ≤ M.length ∧ HasRow w' Ba #[.int .i64 ((M.length - r.length : Nat) : Int)] ∧ Gb Ba w w')

set_option maxRecDepth 100000 in
set_option maxHeartbeats 16000000 in
theorem part_any (word wB : ByteArray) (hwB : word ++ ⟨#[32]⟩ = wB) (hws : word.size ≤ 100) (M : List ByteArray) (hML : M.length ≤ 2000000) (hMs : ∀ k (h : k < M.length), M[k].size ≤ 4194304) (k : Nat) (hk : k ≤ M.length) (Ba Bl nb cap : Nat) (hcap : M.length < cap) (w : World) (hw : JW w)
    (ha : HasRow w Ba #[.int .i64 (k : Int)]) (hl : HasRow w Bl #[.slice (some ⟨nb, 0, none⟩) M.length cap]) (hr : RowAt w nb M) :
    Calls Tryz.prog 174 #[.string word, .pointer (some ⟨Ba, 0, none⟩), .pointer (some ⟨Bl, 0, none⟩)] w fun e w' => PRT w Ba M (P.sPart wB.data.toList (M.drop k)) e w' := by
  have ha2 := Lib.hid ha
  have hl2 := Lib.hid hl
  have hr2 := Lib.hid hr
  have a0 := ha.cell 0
  have l0 := hl.cell 0
  by_cases hlt : k < M.length
  · have cat := fun W => run_string_add_sum (P := Tryz.prog) W word ⟨#[32]⟩ (by show word.size + 1 ≤ _; omega)
    rw [hwB] at cat
    have r0 := hr.2 k hlt
    have HP := Lib.hid (fun W => Tryz.strings_CutPrefix M[k] wB W)
    have hsz := hMs k hlt
    cases hp : Lib.hasPrefix M[k].data.toList wB.data.toList with
    | false =>
      have hS := P.sPart_no hlt hp
      have hT : Lib.trimPrefix M[k].data.toList wB.data.toList = M[k].data.toList := by unfold Lib.trimPrefix; rw [hp]; rfl
      rw [hp, hT, show (⟨M[k].data.toList.toArray⟩ : ByteArray) = M[k] from (P.txt_self M[k])] at HP
      rw [hS]
      have Hw := Lib.hid hw
      have HA : Hid (∀ W, JW W → Calls Tryz.prog 175 #[.string M[k]] W fun e w' => ∃ n er, e = .returned (.tuple #[.int .i64 n, er]) ∧ Below W.heap.size W w') := Lib.hid fun W hW => by
        by_cases hv : ∃ v, Lib.atoiAll M[k].data.toList = .ok v
        · obtain ⟨v, hv⟩ := hv
          exact (atoi_good M[k] (by omega) hv W).mono fun e w' ⟨h1, h2⟩ => ⟨_, _, h1, h2⟩
        · exact (atoi_bad M[k] (by omega) (fun v h => hv ⟨v, h⟩) W hW).mono fun e w' ⟨n, te, pe, h1, h2⟩ => ⟨_, _, h1, h2⟩
      generalize M[k] = l at *
      have hn1 : (k : Int) < (M.length : Int) := by omega
      have hn2 : (0 : Int) ≤ (k : Int) := by omega
      clear hS hT hp hMs ha hl hr hw
      go_enter Tryz.func174, Tryz.ntmps174
      go_wp2_with (first
        | (go_at_call 173; refine (HP.out _).mono ?_; rintro e w1 ⟨rfl, rfl⟩)
        | (go_at_call 175; refine (HA.out _ Hw.out).mono ?_; rintro e w2 ⟨n, er, rfl, hb2⟩))
      go_ret2
      exact ⟨fun _ => ⟨rfl, hb2⟩, fun cs r h => by cases h⟩
    | true =>
      have hS := P.sPart_yes hlt hp
      have hT : Lib.trimPrefix M[k].data.toList wB.data.toList = M[k].data.toList.drop wB.data.toList.length := by unfold Lib.trimPrefix; rw [hp]; rfl
      rw [hp, hT] at HP
      rw [hS]
      have hdl : (M[k].data.toList.drop wB.data.toList.length).length ≤ M[k].size := by rw [List.length_drop, P.size_len]; omega
      have Hw := Lib.hid hw
      have hn1 : (k : Int) < (M.length : Int) := by omega
      have hn2 : (0 : Int) ≤ (k : Int) := by omega
      generalize M[k].data.toList.drop wB.data.toList.length = d at *
      have hds : (P.txt d).size ≤ 1000000000 := by rw [P.txt_size]; omega
      have hdl2 := P.txt_list d
      have hPd : (⟨d.toArray⟩ : ByteArray) = P.txt d := rfl
      rw [hPd] at HP
      rcases P.num_cases d with ⟨n, e1, e2, e3, e4⟩ | ⟨e1, e2⟩
      · rw [e1]
        simp only [Option.bind_some]
        rw [← hdl2] at e2
        have HA := Lib.hid (fun W => atoi_good (P.txt d) hds e2 W)
        have HI := Lib.hid (fun W hW => itoa_any (n : Int) (by omega) e4 W hW)
        rw [e3] at HI
        have g1 : decide ((n : Int) < 0) = false := decide_eq_false (by omega)
        obtain ⟨q, hq⟩ : ∃ q, M.length = k + 1 + q := ⟨M.length - k - 1, by omega⟩
        obtain ⟨q1, hq1⟩ : ∃ q1, q1 = q + 1 := ⟨_, rfl⟩
        have hwA : IntKind.i64.wrap ((M.length : Int) - (k : Int)) = (q1 : Int) := by rw [IntKind.wrap_i64]; omega
        have hwB' : IntKind.i64.wrap ((q1 : Int) - 1) = (q : Int) := by rw [IntKind.wrap_i64]; omega
        have Hq1 := Lib.hid hq1
        clear hq1
        by_cases hnq : n ≤ q
        · have g2 : decide ((q : Int) < (n : Int)) = false := decide_eq_false (by omega)
          have hqn : ¬ q < n := by omega
          obtain ⟨k1, hk1⟩ : ∃ k1, k1 = k + 1 := ⟨_, rfl⟩
          obtain ⟨k2, hk2⟩ : ∃ k2, k2 = k1 + n := ⟨_, rfl⟩
          obtain ⟨n1, hn1'⟩ : ∃ n1, n1 = n + 1 := ⟨_, rfl⟩
          have hK1 : IntKind.i64.wrap ((k : Int) + 1) = (k1 : Int) := by rw [IntKind.wrap_i64]; omega
          have hK2 : IntKind.i64.wrap ((k1 : Int) + (n : Int)) = (k2 : Int) := by rw [IntKind.wrap_i64]; omega
          have hK3 : IntKind.i64.wrap (1 + (n : Int)) = (n1 : Int) := by rw [IntKind.wrap_i64]; omega
          have hK4 : IntKind.i64.wrap ((k : Int) + (n1 : Int)) = (k2 : Int) := by rw [IntKind.wrap_i64]; omega
          have hc1 : (k1 : Int) ≤ (k2 : Int) := by omega
          have hc2 : (k2 : Int) ≤ (cap : Int) := by omega
          have hc3 : (0 : Int) ≤ (k1 : Int) := by omega
          have hc4 : (0 : Int) ≤ (k2 : Int) := by omega
          have hc5 : ¬ cap = k1 := by omega
          have hc6 : ¬ cap - k1 = 0 := by omega
          have Hk1 := Lib.hid hk1
          have Hk2 := Lib.hid hk2
          have Hq := Lib.hid hq
          have Hnq := Lib.hid hnq
          clear hS hT hp ha hl hr hw e1 e2 e3 e4 hdl hdl2 hds hPd hk1 hk2 hn1' hq hnq hcap
          generalize P.txt d = D at *
          have HMs := Lib.hid hMs
          clear hMs
          generalize hl0 : M[k] = l at *
          clear hl0
          generalize hR : P.sMany n (M.drop (k + 1)) = R
          have HRe := Lib.hid hR
          clear hR
          have hkk : k2 - k1 = n := by have := Hk2.out; omega
          go_enter Tryz.func174, Tryz.ntmps174
          go_wp2_with (first
            | (go_at_call 173; refine (HP.out _).mono ?_; rintro e w1 ⟨rfl, rfl⟩)
            | (go_at_call 175; refine (HA.out _).mono ?_; rintro e w2 ⟨rfl, hb2⟩; have a2 := (ha2.out.below hb2).cell 0; have l2 := (hl2.out.below hb2).cell 0)
            | (go_at_call 168; refine (HI.out _ (Hw.out.mono hb2)).mono ?_; rintro e w3 ⟨rfl, hb3⟩; have hb23 := bstep hb2 hb3; have a3 := (ha2.out.below hb23).cell 0; have l3 := (hl2.out.below hb23).cell 0))
          have HB3 := Lib.hid hb23
          have HAt := Lib.hid ha2.out
          clear hb2 hb3 hb23 a2 l2 a0 l0 r0 cat HA HI HP hl2 g1 g2 hK1 hK2 hc1 hc2 hc3 hc4 hc5 hc6 hwA hwB' hn1 hn2 hsz hws
          try clear hqn
          have HR0 : Hid ((P.sMany (n - 0) ((M.drop (k + 1)).drop 0)).map (fun r => ([] ++ r.1, r.2)) = R) := Lib.hid (by
            rw [Nat.sub_zero, List.drop_zero, HRe.out]; cases R <;> rfl)
          obtain ⟨i0, hi, hz0, hz1, hz2⟩ := info_parts info73
          go_loopw [10, 68] (fun o i wr => ∃ (j : Nat) (a : Option Addr) (c : Nat) (m : List P.Chg), o = .slice a m.length c ∧ i = .int .i64 j ∧ j ≤ n ∧ m.length ≤ j ∧ Hid (wr.ownsRow w1.heap.size 73 10 (.slice a m.length c) m.length (flat chC m)) ∧ Hid (Below w1.heap.size w1 wr) ∧
            Hid ((P.sMany (n - j) ((M.drop (k + 1)).drop j)).map (fun r => (m ++ r.1, r.2)) = R)) (fun _ i _ => n - (RowKit.intOf i).toNat)
          case atStart => exact ⟨0, none, 0, [], rfl, rfl, Nat.zero_le _, Nat.le_refl _, Lib.hid ⟨rfl, .inl ⟨rfl, rfl⟩⟩, HB3, HR0⟩
          case round =>
            obtain ⟨j, a, c, m, rfl, rfl, hj, hm, HO, HB, HR⟩ := hrel
            by_cases hjn : j < n
            · have hjl : j < (M.drop (k + 1)).length := by rw [List.length_drop]; have := Hq.out; have := Hnq.out; omega
              have hst := P.sMany_step hjn hjl HR.out
              have hjM : k1 + j < M.length := by have := Hq.out; have := Hnq.out; have := Hk1.out; omega
              have hel : (M.drop (k + 1))[j] = M[k1 + j] := by
                have := Hk1.out
                subst this
                rw [List.getElem_drop]
              rw [hel] at hst
              have hcell := (hr2.out.below HB.out hr2.out.1).2 (k1 + j) hjM
              have HCt := Lib.hid (fun W (hW : JW W) => changeOf_any M[k1 + j] (by have := HMs.out (k1 + j) hjM; omega) W hW.g)
              obtain ⟨hq1', hq2'⟩ := P.chRef_eq M[k1 + j]
              have hJ1 : IntKind.i64.wrap ((j : Int) + 1) = ((j + 1 : Nat) : Int) := by rw [IntKind.wrap_i64]; omega
              have HLe : Hid (m.length + 1 ≤ maxLen ∧ (m.length + 1) * 120 ≤ 140737488355328) := Lib.hid (by have := Hq.out; have := Hnq.out; unfold maxLen; omega)
              have Hst := Lib.hid hst
              have Hq2 := Lib.hid hq2'
              have Hq1' := Lib.hid hq1'
              clear hst hel hjl hq1' hq2'
              have HJw := Lib.hid (Hw.out.mono HB.out)
              cases hok : (P.chRef M[k1 + j]).2 with
              | false =>
                have hRn := Hst.out.1 (by rw [← Hq1'.out]; exact hok)
                subst hRn
                clear Hst Hq2 Hq1'
                generalize P.chRef M[k1 + j] = y at *
                generalize M[k1 + j] = l' at *
                obtain ⟨⟨kd, ⟨fp, fd, fr⟩, ⟨sk, sv⟩, ⟨vn, vp, va, vo⟩⟩, ok⟩ := y
                simp only at hok
                subst hok
                unfold chAgg chA at HCt
                simp only at HCt
                go_wp2_with (go_at_call 164; refine (HCt.out _ HJw.out).mono ?_; rintro e w4 ⟨rfl, hb4⟩)
                go_ret2
                exact ⟨fun _ => ⟨rfl, bstep (bstep HB.out hb4) (below_alloc _ _)⟩, fun cs r h => by cases h⟩
              | true =>
                have hRs := Hst.out.2 (by rw [← Hq1'.out]; exact hok)
                rw [← Hq2.out (by rw [← Hq1'.out]; exact hok)] at hRs
                have HRs := Lib.hid hRs
                clear Hst Hq2 Hq1' hRs
                generalize P.chRef M[k1 + j] = y at *
                generalize M[k1 + j] = l' at *
                obtain ⟨⟨kd, ⟨fp, fd, fr⟩, ⟨sk, sv⟩, ⟨vn, vp, va, vo⟩⟩, ok⟩ := y
                simp only at hok HRs
                subst hok
                unfold chAgg chA at HCt
                simp only at HCt
                go_wp2_with (first
                  | (go_at_call 164; refine (HCt.out _ HJw.out).mono ?_; rintro e w4 ⟨rfl, hb4⟩; have HB5 := Lib.hid (bstep hb4 (below_alloc w4 (.cells #[.int .i64 kd, .string fp, .string fd, .bool fr, .string sk, .string sv, .string vn, .string vp, .bool va, .bool vo] 73))); have HO5 := Lib.hid (own_below HO.out HB5.out); have HZ5 := Lib.hid (bstep HB.out HB5.out))
                  | (at_builtin; refine wpList_append_sl5 rfl _ _ 27 rfl w1.heap.size 73 i0 _ 10 120 Tryz.underlying27 hi hz0 hz1 hz2 rfl (by decide) _ _ _ rfl (own_below (W := w4.alloc (.cells #[.int .i64 kd, .string fp, .string fd, .bool fr, .string sk, .string sv, .string vn, .string vp, .bool va, .bool vo] 73)) HO5.out (below_alloc _ (.cells #[.int .i64 kd, .string fp, .string fd, .bool fr, .string sk, .string sv, .string vn, .string vp, .bool va, .bool vo] 73))) ⟨w4.heap.size + 1, 0, none⟩ 1 1 (chC ⟨kd, ⟨fp, fd, fr⟩, ⟨sk, sv⟩, ⟨vn, vp, va, vo⟩⟩) rfl rfl (by have q := cells_new (w4.alloc (.cells #[.int .i64 kd, .string fp, .string fd, .bool fr, .string sk, .string sv, .string vn, .string vp, .bool va, .bool vo] 73)) (chC ⟨kd, ⟨fp, fd, fr⟩, ⟨sk, sv⟩, ⟨vn, vp, va, vo⟩⟩) 73; rw [World.size_alloc] at q; exact q) (chC_one _) HLe.out.1 HLe.out.2 (Nat.le_trans HZ5.out.size (below_alloc _ _).size) ?_; intro p' c' w6 hown hgrow hblk))
                have HB6 := Lib.hid ((bstep HZ5.out (below_alloc _ (.cells #[.int .i64 kd, .string fp, .string fd, .bool fr, .string sk, .string sv, .string vn, .string vp, .bool va, .bool vo] 73))).grown hgrow (Nat.le_trans HZ5.out.size (below_alloc _ _).size) (own_ge HO.out))
                go_roundw
                case rel => exact ⟨j + 1, p', c', m ++ [⟨kd, ⟨fp, fd, fr⟩, ⟨sk, sv⟩, ⟨vn, vp, va, vo⟩⟩], by simp, by go_num, by omega, by simp only [List.length_append, List.length_cons, List.length_nil]; omega, Lib.hid (by rw [List.length_append, flat_snoc]; exact hown), HB6, HRs⟩
                case measure => simp [RowKit.intOf]; omega
            · obtain rfl : j = n := by omega
              have hRs : R = some (m, M.drop (k1 + j)) := by
                rw [← HR.out, Nat.sub_self, List.drop_drop]
                have := Hk1.out
                subst this
                simp only [P.sMany, Option.map_some, List.append_nil]
              subst hRs
              have at0 := (HAt.out.belowN HB.out HAt.out.lt).cell 0
              have at1 := (HAt.out.belowN HB.out HAt.out.lt).free 0
              have hlen : (M.drop (k1 + j)).length = M.length - (k1 + j) := List.length_drop
              have hke : M.length - (M.drop (k1 + j)).length = k2 := by rw [hlen]; have := Hq.out; have := Hnq.out; have := Hk1.out; have := Hk2.out; omega
              have hkd : k1 + j = k2 := Hk2.out.symm
              have Hke := Lib.hid hke
              have Hkd := Lib.hid hkd
              have Hln := Lib.hid (show (M.drop (k1 + j)).length ≤ M.length by rw [hlen]; omega)
              clear hlen hke hkd
              go_wp2_with fail
              go_ret2
              refine ⟨(fun h => by cases h), fun cs r h => ?_⟩
              obtain ⟨rfl, rfl⟩ : m = cs ∧ M.drop (k1 + j) = r := by simpa using h
              refine ⟨a, c, rfl, ownsRow_setCell_below HO.out HAt.out.lt _, ?_, Hln.out, ?_, (Gb.of HB.out).set 0 _⟩
              · rw [Hke.out, ← Hkd.out]
              · rw [Hke.out]
                have := (HAt.out.belowN HB.out HAt.out.lt).set 0 (.int .i64 (k2 : Int)) (by simp)
                simpa using this
        · have hno := P.sMany_short n (M.drop (k + 1)) (by rw [List.length_drop]; omega)
          rw [hno]
          have g2 : decide ((q : Int) < (n : Int)) = true := decide_eq_true (by omega)
          have hqn : q < n := by omega
          clear hS hT hp hMs ha hl hr hw e1 e2 e3 e4 hdl hdl2 hds hPd hno hq hnq
          generalize P.txt d = D at *
          generalize M[k] = l at *
          go_enter Tryz.func174, Tryz.ntmps174
          go_wp2_with (first
            | (go_at_call 173; refine (HP.out _).mono ?_; rintro e w1 ⟨rfl, rfl⟩)
            | (go_at_call 175; refine (HA.out _).mono ?_; rintro e w2 ⟨rfl, hb2⟩; have a2 := (ha2.out.below hb2).cell 0; have l2 := (hl2.out.below hb2).cell 0)
            | (go_at_call 168; refine (HI.out _ (Hw.out.mono hb2)).mono ?_; rintro e w3 ⟨rfl, hb3⟩; have hb23 := bstep hb2 hb3; have a3 := (ha2.out.below hb23).cell 0; have l3 := (hl2.out.below hb23).cell 0))
          go_ret2
          exact ⟨fun _ => ⟨rfl, hb23⟩, fun cs r h => by cases h⟩
      · rw [e1]
        simp only [Option.bind_none]
        rcases e2 with e2 | ⟨v, e2, v1, v2, e3⟩
        · rw [← hdl2] at e2
          have HA := Lib.hid (fun W hW => atoi_bad (P.txt d) hds e2 W hW)
          clear hS hT hp hMs ha hl hr hw e1 e2 hdl hdl2 hds hPd
          generalize P.txt d = D at *
          generalize M[k] = l at *
          go_enter Tryz.func174, Tryz.ntmps174
          go_wp2_with (first
            | (go_at_call 173; refine (HP.out _).mono ?_; rintro e w1 ⟨rfl, rfl⟩)
            | (go_at_call 175; refine (HA.out _ Hw.out).mono ?_; rintro e w2 ⟨n, te, pe, rfl, hb2⟩))
          go_ret2
          exact ⟨fun _ => ⟨rfl, hb2⟩, fun cs r h => by cases h⟩
        · rw [← hdl2] at e2
          have HA := Lib.hid (fun W => atoi_good (P.txt d) hds e2 W)
          rcases e3 with e3 | ⟨e3, e4⟩
          · have g1 : decide (v < 0) = true := decide_eq_true e3
            clear hS hT hp hMs ha hl hr hw e1 e2 e3 v1 v2 hdl hdl2 hds hPd
            generalize P.txt d = D at *
            generalize M[k] = l at *
            go_enter Tryz.func174, Tryz.ntmps174
            go_wp2_with (first
              | (go_at_call 173; refine (HP.out _).mono ?_; rintro e w1 ⟨rfl, rfl⟩)
              | (go_at_call 175; refine (HA.out _).mono ?_; rintro e w2 ⟨rfl, hb2⟩))
            go_ret2
            exact ⟨fun _ => ⟨rfl, hb2⟩, fun cs r h => by cases h⟩
          · have HI := Lib.hid (fun W hW => itoa_any v v1 v2 W hW)
            have g1 : decide (v < 0) = false := decide_eq_false (by omega)
            have g2 : ((P.txt (Lib.itoa v)).toList == (P.txt d).toList) = false := by
              rw [Lib.toList_data, Lib.toList_data, P.txt_list, P.txt_list]; simpa using e4
            clear hS hT hp hMs ha hl hr hw e1 e2 e3 e4 v1 v2 hdl hdl2 hds hPd
            generalize P.txt d = D at *
            generalize P.txt (Lib.itoa v) = I at *
            generalize M[k] = l at *
            go_enter Tryz.func174, Tryz.ntmps174
            go_wp2_with (first
              | (go_at_call 173; refine (HP.out _).mono ?_; rintro e w1 ⟨rfl, rfl⟩)
              | (go_at_call 175; refine (HA.out _).mono ?_; rintro e w2 ⟨rfl, hb2⟩)
              | (go_at_call 168; refine (HI.out _ (Hw.out.mono hb2)).mono ?_; rintro e w3 ⟨rfl, hb3⟩))
            go_ret2
            exact ⟨fun _ => ⟨rfl, bstep hb2 hb3⟩, fun cs r h => by cases h⟩
  · have hS := P.sPart_end (w := wB.data.toList) (M := M) (k := k) (by omega)
    rw [hS]
    have g : decide ((M.length : Int) ≤ (k : Int)) = true := decide_eq_true (by omega)
    clear hS hMs ha hl hr hw hML
    go_enter Tryz.func174, Tryz.ntmps174
    go_wp2_with fail
    go_ret2
    exact ⟨fun _ => ⟨rfl, Below.refl _ _⟩, fun cs r h => by cases h⟩
end Go.Proofs.YtomikcemiacjmaaGreatDoor
