/- Walks: the errors of versions of package outref2. -/
import Derived.Test.YtffblkkhjphcfaaGreatDoorRefD
namespace Go.Proofs.YtffblkkhjphcfaaGreatDoor
open Go.RowKit Go.Shelf

abbrev VT := Int × Int × Int × ByteArray
def verrT (v : VT) : Int := P.verr v.1 v.2.1 v.2.2.1 v.2.2.2
/-- Versions in a row of memory. -/
def VersAt (w : World) (b : Nat) (L : List VT) : Prop :=
  ∀ j (hj : j < L.length), w.cell? ⟨b, j * 4, none⟩ = some (.int .i64 L[j].1) ∧ w.cell? ⟨b, j * 4 + 1, none⟩ = some (.int .i64 L[j].2.1) ∧
    w.cell? ⟨b, j * 4 + 1 + 1, none⟩ = some (.int .i64 L[j].2.2.1) ∧ w.cell? ⟨b, j * 4 + 1 + 1 + 1, none⟩ = some (.string L[j].2.2.2)

theorem dig_word {c : UInt8} (h : P.dig c = true) : P.wordC c = true := by unfold P.wordC; rw [h, Bool.or_true]
theorem digs_words {s : ByteArray} (h : P.allS P.dig s = true) : P.allS P.wordC s = true := by
  unfold P.allS at *
  rw [List.all_eq_true] at *
  exact fun c hc => dig_word (h c hc)

theorem in_num (n : Int) (w : World) : Calls Tryz.prog 59 #[.int .i64 n, .int .i64 0, .int .i64 999999] w fun e w' => e = .returned (.bool (P.numOk n)) ∧ w = w' := in_any n 0 999999 w

theorem word_chars {s : ByteArray} (h1 : s.toList.isEmpty = false) (h2 : s.size ≤ 10) (h3 : P.allS P.wordC s = false) : P.wordS s = false := by
  rw [word_else h1 h2]
  cases hd : P.allS P.dig s with
  | false => rw [if_neg (by simp)]; exact h3
  | true => rw [digs_words hd] at h3; cases h3
theorem word_mixed {s : ByteArray} (h1 : s.toList.isEmpty = false) (h2 : s.size ≤ 10) (h3 : P.allS P.wordC s = true) (h4 : P.allS P.dig s = false) : P.wordS s = true := by
  rw [word_else h1 h2, h4, if_neg (by simp)]; exact h3
theorem word_digits {s : ByteArray} (h1 : s.toList.isEmpty = false) (h2 : s.size ≤ 10) (h4 : P.allS P.dig s = true) : P.wordS s = P.numberS s := by
  rw [word_else h1 h2, h4, if_pos rfl]

/-- strings.Split, the new block under a name of its own. -/
theorem split_at (s : ByteArray) (c : UInt8) (hs : s.size ≤ 4294967280) (w : World) (hw : Good w) :
    Calls Tryz.prog 60 #[.string s, .string ⟨#[c]⟩] w fun e w' => ∃ b, e = .returned (.slice (some ⟨b, 0, none⟩) (P.splitS s c).length (P.splitS s c).length) ∧ SliceAt w w' (P.splitS s c) b (P.splitS s c).length :=
  (split_any s c hs w hw).mono fun e w' ⟨he, hw'⟩ => ⟨w.heap.size, he, rfl, by rw [hw']; simp, Nat.le_refl _, fun j hj => by rw [hw']; exact pieces_cell _ _ _ j hj, by rw [hw']; exact below_alloc _ _⟩

/-- The early tail of a version, word by word, where it is neither empty nor too long; the walk stands behind the test of its length. -/
theorem early_words {s : ByteArray} (h1 : s.toList.isEmpty = false) (h2 : s.size ≤ 40) {a b c : Int} (hn : P.numOk a = true ∧ P.numOk b = true ∧ P.numOk c = true) :
    P.verr a b c s = if (P.splitS s 46).all P.wordS then 0 else 2 := by
  unfold P.verr
  rw [hn.1, hn.2.1, hn.2.2, h1, early_short h2]
  cases (P.splitS s 46).all P.wordS <;> rfl

set_option maxHeartbeats 8000000 in
theorem versionError_any (L : List VT) (b : Nat) (hl : L.length ≤ 100000) (hs : ∀ j (hj : j < L.length), L[j].2.2.2.size ≤ 4294967280) (w : World) (hb : b < w.heap.size) (hw : Good w) (hc : VersAt w b L) :
    Calls Tryz.prog 9 #[.slice (some ⟨b, 0, none⟩) L.length L.length] w fun e w' => e = .returned (.int .i64 (P.orI (L.map verrT))) ∧ Below w.heap.size w w' := by
  have HC := Lib.hid hc
  have Hw := Lib.hid hw
  have HS := Lib.hid hs
  clear hc hw hs
  go_enter Tryz.func9, Tryz.ntmps9
  go_wp2
  go_loopw [11] (fun i wr => ∃ k : Nat, k ≤ L.length ∧ i = .int .i64 k ∧ Aside (∀ j (hj : j < L.length), j < k → verrT L[j] = 0) ∧ Below w.heap.size w wr) (fun i _ => L.length - (intOf i).toNat)
  case atStart => exact ⟨0, Nat.zero_le _, rfl, aside (fun j _ h => absurd h (by omega)), Below.refl _ _⟩
  case round =>
    obtain ⟨k, hk, rfl, A, hbw⟩ := hrel
    have HB := Lib.hid hbw
    clear hbw
    by_cases hlt : k < L.length
    · obtain ⟨c0, c1, c2, c3⟩ := HC.out k hlt
      rw [← HB.out.cell (p := ⟨b, k * 4, none⟩) hb] at c0
      rw [← HB.out.cell (p := ⟨b, k * 4 + 1, none⟩) hb] at c1
      rw [← HB.out.cell (p := ⟨b, k * 4 + 1 + 1, none⟩) hb] at c2
      rw [← HB.out.cell (p := ⟨b, k * 4 + 1 + 1 + 1, none⟩) hb] at c3
      have hE : Hid (∀ e, P.verr L[k].1 L[k].2.1 L[k].2.2.1 L[k].2.2.2 = e → e ≠ 0 → P.orI (L.map verrT) = e) := Lib.hid fun e he h0 => by
        have := orI_take (l := L.map verrT) (k := k) (fun j hj hjk => by simp only [List.getElem_map]; exact A.out j (by simpa using hj) hjk) (by simpa using hlt) (by simp only [List.getElem_map]; unfold verrT; rw [he]; exact h0)
        rw [this]; simp only [List.getElem_map]; exact he
      have hZ : Hid (P.verr L[k].1 L[k].2.1 L[k].2.2.1 L[k].2.2.2 = 0 → ∀ j (hj : j < L.length), j < k + 1 → verrT L[j] = 0) := Lib.hid fun h0 j hj hjk => by
        by_cases e : j = k
        · subst e; exact h0
        · exact A.out j hj (by omega)
      have hsz := HS.out k hlt
      clear A
      generalize L[k].1 = n1 at *
      generalize L[k].2.1 = n2 at *
      generalize L[k].2.2.1 = n3 at *
      generalize L[k].2.2.2 = s at *
      have I1 := in_num n1
      have I2 := in_num n2
      have I3 := in_num n3
      cases h1 : P.numOk n1 with
      | false =>
        rw [h1] at I1
        have HI1 := Lib.hid I1
        have HR := Lib.hid (hE.out 3 (verr_num (.inl h1)) (by decide))
        clear I1 I2 I3 h1 hE hZ
        go_wp2
        refine wp_loop_rounds 4 ?_
        rw [rounds_succ]
        go_wp2_with (go_at_call 59; refine (HI1.out _).mono ?_; rintro e w' ⟨rfl, rfl⟩)
        go_ret
        exact ⟨by rw [HR.out]; rfl, ((HB.out.alloc HB.out.size _).alloc (Nat.le_trans HB.out.size (by simp)) _)⟩
      | true =>
        rw [h1] at I1
        have HI1 := Lib.hid I1
        clear I1
        cases h2 : P.numOk n2 with
        | false =>
          rw [h2] at I2
          have HI2 := Lib.hid I2
          have HR := Lib.hid (hE.out 3 (verr_num (.inr (.inl h2))) (by decide))
          clear I2 I3 h1 h2 hE hZ
          go_wp2
          refine wp_loop_rounds 4 ?_
          rw [rounds_succ]
          go_wp2_with (go_at_call 59; refine (HI1.out _).mono ?_; rintro e w' ⟨rfl, rfl⟩)
          rw [rounds_succ]
          go_wp2_with (go_at_call 59; refine (HI2.out _).mono ?_; rintro e w' ⟨rfl, rfl⟩)
          go_ret
          exact ⟨by rw [HR.out]; rfl, ((HB.out.alloc HB.out.size _).alloc (Nat.le_trans HB.out.size (by simp)) _)⟩
        | true =>
          rw [h2] at I2
          have HI2 := Lib.hid I2
          clear I2
          cases h3 : P.numOk n3 with
          | false =>
            rw [h3] at I3
            have HI3 := Lib.hid I3
            have HR := Lib.hid (hE.out 3 (verr_num (.inr (.inr h3))) (by decide))
            clear I3 h1 h2 h3 hE hZ
            go_wp2
            refine wp_loop_rounds 4 ?_
            rw [rounds_succ]
            go_wp2_with (go_at_call 59; refine (HI1.out _).mono ?_; rintro e w' ⟨rfl, rfl⟩)
            rw [rounds_succ]
            go_wp2_with (go_at_call 59; refine (HI2.out _).mono ?_; rintro e w' ⟨rfl, rfl⟩)
            rw [rounds_succ]
            go_wp2_with (go_at_call 59; refine (HI3.out _).mono ?_; rintro e w' ⟨rfl, rfl⟩)
            go_ret
            exact ⟨by rw [HR.out]; rfl, ((HB.out.alloc HB.out.size _).alloc (Nat.le_trans HB.out.size (by simp)) _)⟩
          | true =>
            rw [h3] at I3
            have HI3 := Lib.hid I3
            have hn : Hid (P.numOk n1 = true ∧ P.numOk n2 = true ∧ P.numOk n3 = true) := Lib.hid ⟨h1, h2, h3⟩
            clear I3 h1 h2 h3
            cases h4 : s.toList.isEmpty with
            | true =>
              have h0 : P.verr n1 n2 n3 s = 0 := by unfold P.verr; rw [hn.out.1, hn.out.2.1, hn.out.2.2, h4]; rfl
              have HZ := Lib.hid (hZ.out h0)
              clear h0 hE hZ
              go_wp2
              refine wp_loop_rounds 4 ?_
              rw [rounds_succ]
              go_wp2_with (go_at_call 59; refine (HI1.out _).mono ?_; rintro e w' ⟨rfl, rfl⟩)
              rw [rounds_succ]
              go_wp2_with (go_at_call 59; refine (HI2.out _).mono ?_; rintro e w' ⟨rfl, rfl⟩)
              rw [rounds_succ]
              go_wp2_with (go_at_call 59; refine (HI3.out _).mono ?_; rintro e w' ⟨rfl, rfl⟩)
              rw [rounds_succ]
              go_wp2
              go_roundw
              case rel => exact ⟨k + 1, by omega, by go_num, aside HZ.out, ((HB.out.alloc HB.out.size _).alloc (Nat.le_trans HB.out.size (by simp)) _)⟩
              case measure => simp [intOf]; omega
            | false =>
              have h4' := ne_of h4
              by_cases h5 : s.size ≤ 40
              · have hv := early_words h4 h5 hn.out
                have hsp := fun W hW => split_at s 46 hsz W hW
                have hcnt := splitS_count s 46 hsz
                have hpz := fun j hj => Nat.le_trans (P.splitS_size s 46 j hj) h5
                generalize P.splitS s 46 = l at *
                have HV := Lib.hid hv
                have HSP := Lib.hid hsp
                have HPZ := Lib.hid hpz
                clear hv hsp hpz
                go_wp2
                refine wp_loop_rounds 4 ?_
                rw [rounds_succ]
                go_wp2_with (go_at_call 59; refine (HI1.out _).mono ?_; rintro e w' ⟨rfl, rfl⟩)
                rw [rounds_succ]
                go_wp2_with (go_at_call 59; refine (HI2.out _).mono ?_; rintro e w' ⟨rfl, rfl⟩)
                rw [rounds_succ]
                go_wp2_with (go_at_call 59; refine (HI3.out _).mono ?_; rintro e w' ⟨rfl, rfl⟩)
                rw [rounds_succ]
                go_wp2_with (go_at_call 60; refine (HSP.out _ ?_).mono ?_)
                · exact (Hw.out.mono HB.out).mono (by go_grown)
                · rintro e w1 ⟨bb, rfl, hbb, hbs, _, hcell, hb1⟩
                  have HC1 := Lib.hid hcell
                  have HB1 := Lib.hid (((HB.out.alloc HB.out.size _).alloc (Nat.le_trans HB.out.size (by simp)) _).trans (hb1.mono (by have := HB.out.size; simp; omega)))
                  have Hbs := Lib.hid hbs
                  clear hcell hb1 hbb hbs c0 c1 c2 c3 HI1 HI2 HI3 HSP
                  go_wp2
                  go_loopw [42] (fun i wi => ∃ m : Nat, m ≤ l.length ∧ i = .int .i64 m ∧ Aside ((l.take m).all P.wordS = true) ∧ Below w1.heap.size w1 wi) (fun i _ => l.length - (intOf i).toNat)
                  case atStart => exact ⟨0, Nat.zero_le _, rfl, aside (by simp), Below.refl _ _⟩
                  case round =>
                    obtain ⟨m, hm, rfl, A, hbi⟩ := hrel
                    have HI := Lib.hid hbi
                    clear hbi
                    by_cases hml : m < l.length
                    · have hcell := (HI.out.cell (p := ⟨bb, m, none⟩) Hbs.out).trans (HC1.out m hml)
                      have hz : l[m].size ≤ 4294967280 := by have := HPZ.out m hml; omega
                      have hstep : (l.take (m + 1)).all P.wordS = P.wordS l[m] := by
                        rw [List.take_succ_eq_append_getElem hml, List.all_append, A.out]; simp
                      have hfalse : Hid (P.wordS l[m] = false → P.orI (L.map verrT) = 2) := Lib.hid fun hq => by
                        have : l.all P.wordS = false := by
                          cases h : l.all P.wordS with
                          | true => have := List.all_eq_true.1 h _ (List.getElem_mem hml); rw [hq] at this; cases this
                          | false => rfl
                        exact hE.out 2 (by rw [HV.out, this]; rfl) (by decide)
                      have Hs := Lib.hid hstep
                      clear hstep A
                      generalize l[m] = x at *
                      cases g1 : x.toList.isEmpty with
                      | true =>
                        have Hq := Lib.hid (hfalse.out (word_empty g1))
                        clear hfalse
                        go_wp2_with fail
                        go_ret
                        exact ⟨by rw [Hq.out]; rfl, HB1.out.trans (HI.out.mono HB1.out.size)⟩
                      | false =>
                        have g1' := ne_of g1
                        by_cases g2 : x.size ≤ 10
                        · have ho := fun W => of_any x _ P.wordC setWord hz W
                          have hd := fun W => of_any x _ P.dig setDigits hz W
                          cases g3 : P.allS P.wordC x <;> rw [g3] at ho
                          · have Hq := Lib.hid (hfalse.out (word_chars g1 g2 g3))
                            have HO := Lib.hid ho
                            clear hfalse ho hd g3
                            go_wp2_with (go_at_call 61; refine (HO.out _).mono ?_; rintro e w2 ⟨rfl, hB⟩)
                            go_ret
                            exact ⟨by rw [Hq.out]; rfl, (HB1.out.trans (HI.out.mono HB1.out.size)).trans (Below.mono (by assumption) (Nat.le_trans HB1.out.size HI.out.size))⟩
                          · have HO := Lib.hid ho
                            clear ho
                            cases g4 : P.allS P.dig x <;> rw [g4] at hd
                            · have HD := Lib.hid hd
                              have Hw1 := Lib.hid (word_mixed g1 g2 g3 g4)
                              clear hd hfalse g3 g4
                              go_wp2_with fail
                              refine (HO.out _).mono ?_
                              rintro e w2 ⟨rfl, hb2⟩
                              have HB2 := Lib.hid (HI.out.trans (hb2.mono HI.out.size))
                              clear hb2
                              go_wp2_with fail
                              refine (HD.out _).mono ?_
                              rintro e w3 ⟨rfl, hb3⟩
                              have HB3 := Lib.hid (HB2.out.trans (hb3.mono HB2.out.size))
                              clear hb3
                              go_wp2
                              go_roundw
                              case rel => exact ⟨m + 1, by omega, by go_num, aside (by rw [Hs.out, Hw1.out]), HB3.out⟩
                              case measure => simp [intOf]; omega
                            · have HD := Lib.hid hd
                              clear hd
                              have hwd := word_digits g1 g2 g4
                              by_cases g5 : 1 < x.size
                              · have hzero := number_zero (pos_of g1) g4 g5
                                have g5' : (1 : Int) < (x.size : Int) := by omega
                                have g0 := pos_of g1
                                cases g6 : ((x[0].toNat : Int) == 48)
                                · have Hw1 : Hid (P.wordS x = true) := Lib.hid (by rw [hwd, hzero]; simp [bne, g6])
                                  clear hwd hzero hfalse g3 g4
                                  go_wp2_with fail
                                  refine (HO.out _).mono ?_
                                  rintro e w2 ⟨rfl, hb2⟩
                                  have HB2 := Lib.hid (HI.out.trans (hb2.mono HI.out.size))
                                  clear hb2
                                  go_wp2_with fail
                                  refine (HD.out _).mono ?_
                                  rintro e w3 ⟨rfl, hb3⟩
                                  have HB3 := Lib.hid (HB2.out.trans (hb3.mono HB2.out.size))
                                  clear hb3
                                  go_wp2
                                  go_roundw
                                  case rel => exact ⟨m + 1, by omega, by go_num, aside (by rw [Hs.out, Hw1.out]), HB3.out⟩
                                  case measure => simp [intOf]; omega
                                · have Hq := Lib.hid (hfalse.out (by rw [hwd, hzero]; simp [bne, g6]))
                                  clear hwd hzero hfalse g3 g4
                                  go_wp2_with fail
                                  refine (HO.out _).mono ?_
                                  rintro e w2 ⟨rfl, hb2⟩
                                  have HB2 := Lib.hid (HI.out.trans (hb2.mono HI.out.size))
                                  clear hb2
                                  go_wp2_with fail
                                  refine (HD.out _).mono ?_
                                  rintro e w3 ⟨rfl, hb3⟩
                                  have HB3 := Lib.hid (HB2.out.trans (hb3.mono HB2.out.size))
                                  clear hb3
                                  go_wp2
                                  go_ret
                                  exact ⟨by rw [Hq.out]; rfl, HB1.out.trans (HB3.out.mono HB1.out.size)⟩
                              · have Hw1 : Hid (P.wordS x = true) := Lib.hid (by rw [hwd]; exact number_one g4 (by have := pos_of g1; omega))
                                have g5' : ¬ (1 : Int) < (x.size : Int) := by omega
                                clear hwd hfalse g3 g4
                                go_wp2_with fail
                                refine (HO.out _).mono ?_
                                rintro e w2 ⟨rfl, hb2⟩
                                have HB2 := Lib.hid (HI.out.trans (hb2.mono HI.out.size))
                                clear hb2
                                go_wp2_with fail
                                refine (HD.out _).mono ?_
                                rintro e w3 ⟨rfl, hb3⟩
                                have HB3 := Lib.hid (HB2.out.trans (hb3.mono HB2.out.size))
                                clear hb3
                                go_wp2
                                go_roundw
                                case rel => exact ⟨m + 1, by omega, by go_num, aside (by rw [Hs.out, Hw1.out]), HB3.out⟩
                                case measure => simp [intOf]; omega
                        · have Hq := Lib.hid (hfalse.out (word_len (by omega : 10 < x.size)))
                          clear hfalse
                          go_wp2_with fail
                          go_ret
                          exact ⟨by rw [Hq.out]; rfl, HB1.out.trans (HI.out.mono HB1.out.size)⟩
                    · have hm' : m = l.length := by omega
                      have hA : l.all P.wordS = true := by have := A.out; rw [hm', List.take_of_length_le (Nat.le_refl _)] at this; exact this
                      have HZ := Lib.hid (hZ.out (by rw [HV.out, hA]; rfl))
                      clear hA hm' A hE hZ
                      go_wp2
                      go_roundw
                      case rel => exact ⟨k + 1, by omega, by go_num, aside HZ.out, HB1.out.trans (HI.out.mono HB1.out.size)⟩
                      case measure => simp [intOf]; omega
              · have h0 : P.verr n1 n2 n3 s = 2 := by unfold P.verr; rw [hn.out.1, hn.out.2.1, hn.out.2.2, h4, early_long (by omega : 40 < s.size)]; rfl
                have HR := Lib.hid (hE.out 2 h0 (by decide))
                clear h0 hE hZ
                go_wp2
                refine wp_loop_rounds 4 ?_
                rw [rounds_succ]
                go_wp2_with (go_at_call 59; refine (HI1.out _).mono ?_; rintro e w' ⟨rfl, rfl⟩)
                rw [rounds_succ]
                go_wp2_with (go_at_call 59; refine (HI2.out _).mono ?_; rintro e w' ⟨rfl, rfl⟩)
                rw [rounds_succ]
                go_wp2_with (go_at_call 59; refine (HI3.out _).mono ?_; rintro e w' ⟨rfl, rfl⟩)
                rw [rounds_succ]
                go_wp2
                go_ret
                exact ⟨by rw [HR.out]; rfl, ((HB.out.alloc HB.out.size _).alloc (Nat.le_trans HB.out.size (by simp)) _)⟩
    · have HR := Lib.hid (orI_none (l := L.map verrT) (fun j hj => by simp only [List.getElem_map]; exact A.out j (by simpa using hj) (by simp at hj; omega)))
      clear A
      go_wp2
      go_ret
      exact ⟨by rw [HR.out]; rfl, HB.out⟩
end Go.Proofs.YtffblkkhjphcfaaGreatDoor
