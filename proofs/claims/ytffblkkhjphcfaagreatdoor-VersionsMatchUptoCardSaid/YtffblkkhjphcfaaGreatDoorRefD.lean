/- Walks: numbers of package outref2. -/
import Derived.Test.YtffblkkhjphcfaaGreatDoorRefC
namespace Go.Proofs.YtffblkkhjphcfaaGreatDoor
open Go.RowKit Go.Shelf

/-- A number of at most m digits. -/
def numM (s : ByteArray) (m : Nat) : Bool := P.numberS s && decide (s.size ≤ m)
theorem numM_atoi {s : ByteArray} {m : Nat} (hm : m ≤ 18) (h : numM s m = true) : Lib.atoiAll s.data.toList = .ok (P.atoiV s) := by
  unfold numM at h
  rw [Bool.and_eq_true, decide_eq_true_eq] at h
  obtain ⟨c, t, e, hd⟩ := P.number_cons (l := s.data.toList) h.1
  obtain ⟨n, _, hn⟩ := P.atoi_digits hd
  rw [Lib.atoiAll_short _ (by rw [P.size_len]; omega)]
  unfold P.atoiV
  rw [e, hn]; rfl
theorem atoi_numM (s : ByteArray) (m : Nat) (hm : m ≤ 18) (h : numM s m = true) (w : World) :
    Calls Tryz.prog 74 #[.string s] w fun e w' => e = .returned (.tuple #[.int .i64 (P.atoiV s), .nilIface]) ∧ Below w.heap.size w w' := by
  have hs : s.size ≤ m := by unfold numM at h; rw [Bool.and_eq_true, decide_eq_true_eq] at h; exact h.2
  refine (Tryz.strconv_Atoi_ok s (by omega) _ (numM_atoi hm h) w).mono fun e w' ⟨he, hw'⟩ => ⟨he, ?_⟩
  rcases hw' with rfl | ⟨t, rfl⟩
  · exact Below.refl _ _
  · exact Lib.bytesWorld_below _ _ _
theorem number_zero {s : ByteArray} (h0 : 0 < s.size) (h : P.allS P.dig s = true) (h1 : 1 < s.size) : P.numberS s = ((s[0].toNat : Int) != 48) := by
  rw [number_true h0 h]
  have : (s.toList == [48]) = false := by
    rw [beq_eq_false_iff_ne, Lib.toList_data]
    intro e
    have := P.size_len s
    rw [e] at this
    simp at this; omega
  rw [this, Bool.false_or]
theorem number_one {s : ByteArray} (h : P.allS P.dig s = true) (h1 : s.size = 1) : P.numberS s = true := by
  have hl := P.size_len s
  unfold P.numberS
  unfold P.allS at h
  generalize s.data.toList = l at *
  match l, hl with
  | [c], _ => 
    show ([c].all P.dig && ([].isEmpty || (c.toNat : Int) != 48)) = true
    rw [h]; rfl
  | [], hl => simp at hl; omega
  | _ :: _ :: _, hl => simp at hl; omega

set_option maxHeartbeats 2000000 in
theorem number_any (s : ByteArray) (m : Nat) (hm : m ≤ 18) (hs : s.size ≤ 4294967280) (w : World) :
    Calls Tryz.prog 78 #[.string s, .int .i64 m] w fun e w' => e = .returned (.tuple #[.int .i64 (if numM s m then P.atoiV s else 0), .bool (numM s m)]) ∧ Below w.heap.size w w' := by
  have bad : P.numberS s = false ∨ m < s.size → numM s m = false := fun h => by
    unfold numM; rcases h with h | h
    · rw [h]; rfl
    · rw [decide_eq_false (by omega), Bool.and_false]
  cases h1 : s.toList.isEmpty with
  | true =>
    rw [bad (.inl (by rw [P.empty_iff] at h1; unfold P.numberS; rw [h1]; rfl))]
    have h1' := eq_of h1
    clear h1 bad
    go_enter Tryz.func78, Tryz.ntmps78
    go_wp2_with fail
    go_ret2
    exact ⟨rfl, Below.refl _ _⟩
  | false =>
    have h1' := ne_of h1
    have h0 := pos_of h1
    by_cases h2 : m < s.size
    · rw [bad (.inr h2)]
      have h2' : (m : Int) < (s.size : Int) := by omega
      clear bad
      go_enter Tryz.func78, Tryz.ntmps78
      go_wp2_with fail
      go_ret2
      exact ⟨rfl, Below.refl _ _⟩
    · have h2' : ¬ (m : Int) < (s.size : Int) := by omega
      have ho := fun W => of_any s _ P.dig setDigits hs W
      cases h3 : P.allS P.dig s <;> rw [h3] at ho
      · rw [bad (.inl (number_false h3))]
        have HO := Lib.hid ho
        clear bad ho h3
        go_enter Tryz.func78, Tryz.ntmps78
        go_wp2_with (go_at_call 61; refine (HO.out _).mono ?_; rintro e w1 ⟨rfl, hB⟩)
        go_ret2
        exact ⟨rfl, by assumption⟩
      · have HO := Lib.hid ho
        clear ho
        by_cases h4 : 1 < s.size
        · have hz := number_zero h0 h3 h4
          have h4' : (1 : Int) < (s.size : Int) := by omega
          cases h5 : ((s[0].toNat : Int) == 48)
          · have hn : numM s m = true := by unfold numM; rw [hz, decide_eq_true (by omega : s.size ≤ m)]; simp [bne, h5]
            have HA := Lib.hid (atoi_numM s m hm hn)
            rw [hn]
            clear hn hz h3 bad
            generalize P.atoiV s = v at *
            go_enter Tryz.func78, Tryz.ntmps78
            go_wp2_with fail
            refine (HO.out _).mono ?_
            rintro e w1 ⟨rfl, hb1⟩
            have HB1 := Lib.hid hb1
            clear hb1
            go_wp2_with fail
            refine (HA.out _).mono ?_
            rintro e w2 ⟨rfl, hb2⟩
            have HB2 := Lib.hid (below_step HB1.out hb2)
            clear hb2
            go_wp2_with fail
            go_quiet (fail)
            go_wp2
            go_ret2
            exact ⟨rfl, below_drewN' HB2.out _⟩
          · rw [bad (.inl (by rw [hz]; simp [bne, h5]))]
            clear bad hz h3
            go_enter Tryz.func78, Tryz.ntmps78
            go_wp2_with (go_at_call 61; refine (HO.out _).mono ?_; rintro e w1 ⟨rfl, hB⟩)
            go_ret2
            exact ⟨rfl, by assumption⟩
        · have hn : numM s m = true := by unfold numM; rw [number_one h3 (by omega), decide_eq_true (by omega : s.size ≤ m)]; rfl
          have h4' : ¬ (1 : Int) < (s.size : Int) := by omega
          have HA := Lib.hid (atoi_numM s m hm hn)
          rw [hn]
          clear hn h3 bad
          generalize P.atoiV s = v at *
          go_enter Tryz.func78, Tryz.ntmps78
          go_wp2_with fail
          refine (HO.out _).mono ?_
          rintro e w1 ⟨rfl, hb1⟩
          have HB1 := Lib.hid hb1
          clear hb1
          go_wp2_with fail
          refine (HA.out _).mono ?_
          rintro e w2 ⟨rfl, hb2⟩
          have HB2 := Lib.hid (below_step HB1.out hb2)
          clear hb2
          go_wp2_with fail
          go_quiet (fail)
          go_wp2
          go_ret2
          exact ⟨rfl, below_drewN' HB2.out _⟩
end Go.Proofs.YtffblkkhjphcfaaGreatDoor
