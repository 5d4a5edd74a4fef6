/- Walks: names, values and numbers of package outref2. -/
import Derived.Test.YtffblkkhjphcfaaGreatDoorRefA
namespace Go.Proofs.YtffblkkhjphcfaaGreatDoor
open Go.RowKit Go.Shelf

theorem setName : SetIs ⟨#[97, 98, 99, 100, 101, 102, 103, 104, 105, 106, 107, 108, 109, 110, 111, 112, 113, 114, 115, 116, 117, 118, 119, 120, 121, 122, 48, 49, 50, 51, 52, 53, 54, 55, 56, 57, 45, 46]⟩ P.nameC := set_of (by decide) (by decide) (by decide +kernel)
theorem setSmall : SetIs ⟨#[97, 98, 99, 100, 101, 102, 103, 104, 105, 106, 107, 108, 109, 110, 111, 112, 113, 114, 115, 116, 117, 118, 119, 120, 121, 122]⟩ P.sml := set_of (by decide) (by decide) (by decide +kernel)
theorem setWord : SetIs ⟨#[97, 98, 99, 100, 101, 102, 103, 104, 105, 106, 107, 108, 109, 110, 111, 112, 113, 114, 115, 116, 117, 118, 119, 120, 121, 122, 48, 49, 50, 51, 52, 53, 54, 55, 56, 57]⟩ P.wordC := set_of (by decide) (by decide) (by decide +kernel)
theorem setDigits : SetIs ⟨#[48, 49, 50, 51, 52, 53, 54, 55, 56, 57]⟩ P.dig := set_of (by decide) (by decide) (by decide +kernel)
theorem setPart : SetIs ⟨#[97, 98, 99, 100, 101, 102, 103, 104, 105, 106, 107, 108, 109, 110, 111, 112, 113, 114, 115, 116, 117, 118, 119, 120, 121, 122, 65, 66, 67, 68, 69, 70, 71, 72, 73, 74, 75, 76, 77, 78, 79, 80, 81, 82, 83, 84, 85, 86, 87, 88, 89, 90, 48, 49, 50, 51, 52, 53, 54, 55, 56, 57, 45, 46, 95]⟩ P.partC := set_of (by decide) (by decide) (by decide +kernel)

theorem head_all (s : ByteArray) (h : 0 < s.size) (p : UInt8 → Bool) : P.allS p (s.extract 0 1) = p s[0] := by
  have hh := P.head_get s h
  unfold P.allS
  rw [Lib.extract_from_zero, hh]
  simp

set_option maxHeartbeats 1000000 in
theorem nameOf_any (s : ByteArray) (hs : s.size ≤ 4294967280) (w : World) :
    Calls Tryz.prog 18 #[.string s] w fun e w' => e = .returned (.bool (P.nameS s)) ∧ Below w.heap.size w w' := by
  cases h1 : s.toList.isEmpty with
  | true =>
    have hr : Hid (P.nameS s = false) := Lib.hid (by rw [P.empty_iff] at h1; unfold P.nameS; rw [h1]; rfl)
    have h1' := eq_of h1
    clear h1
    go_enter Tryz.func18, Tryz.ntmps18
    go_wp2_with fail
    go_ret
    exact ⟨by rw [hr.out]; rfl, Below.refl _ _⟩
  | false =>
    have h1' := ne_of h1
    have h0 := pos_of h1
    have hh := P.head_get s h0
    have hcase : P.nameS s = (decide (s.size ≤ 40) && P.sml s[0] && P.allS P.nameC s) := by
      have hl := P.size_len s
      unfold P.nameS P.allS
      generalize s.data.toList = l at hh hl
      rw [← hl]
      cases l with
      | nil => cases hh
      | cons c t => injection hh with hc _; rw [← hc]; rfl
    clear hh
    by_cases h2 : s.size ≤ 40
    · rw [decide_eq_true h2] at hcase
      have ha := fun W => of_any s _ P.nameC setName (by omega) W
      have hb := fun W => of_any (s.extract 0 1) _ P.sml setSmall (by rw [ByteArray.size_extract]; omega) W
      rw [head_all s h0] at hb
      cases h3 : P.allS P.nameC s <;> rw [h3] at ha hcase
      · have HA := Lib.hid ha
        have HC := Lib.hid hcase
        clear ha hb hcase h3
        go_enter Tryz.func18, Tryz.ntmps18
        go_wp2_with (go_at_call 61; refine (HA.out _).mono ?_; rintro e w1 ⟨rfl, hB⟩)
        go_ret
        exact ⟨by rw [HC.out]; simp, by assumption⟩
      · have HA := Lib.hid ha
        have HB := Lib.hid hb
        have HC := Lib.hid hcase
        clear ha hb hcase h3
        go_enter Tryz.func18, Tryz.ntmps18
        go_wp2_with fail
        refine (HA.out _).mono ?_
        rintro e w1 ⟨rfl, hb1⟩
        have HB1 := Lib.hid hb1
        clear hb1
        go_wp2_with fail
        refine (HB.out _).mono ?_
        rintro e w2 ⟨rfl, hb2⟩
        have HB2 := Lib.hid (below_step HB1.out hb2)
        clear hb2
        go_wp2
        go_ret
        exact ⟨by rw [HC.out]; simp, HB2.out⟩
    · rw [decide_eq_false h2] at hcase
      have Hc := Lib.hid hcase
      clear hcase
      go_enter Tryz.func18, Tryz.ntmps18
      go_wp2_with fail
      go_ret
      exact ⟨by rw [Hc.out]; simp, Below.refl _ _⟩

set_option maxHeartbeats 1000000 in
theorem valueOf_any (s : ByteArray) (hs : s.size ≤ 4294967280) (w : World) :
    Calls Tryz.prog 22 #[.string s] w fun e w' => e = .returned (.bool (P.valueS s)) ∧ w = w' := by
  have hv : P.valueS s = (decide (s.size ≤ 1000) && P.allS P.valC s) := by unfold P.valueS P.value P.allS; rw [P.size_len]
  have Hv := Lib.hid hv
  clear hv
  go_enter Tryz.func22, Tryz.ntmps22
  go_wp2
  go_loop [6] (fun i => ∃ k : Nat, k ≤ s.size ∧ i = .int .i64 k ∧ Aside ((s.data.toList.take k).all P.valC = true)) (fun i => s.size - (intOf i).toNat)
  case atStart => exact ⟨0, Nat.zero_le _, rfl, aside (by simp)⟩
  case round =>
    obtain ⟨k, hk, rfl, A⟩ := hrel
    by_cases hlt : k < s.size
    · have hstep : (s.data.toList.take (k + 1)).all P.valC = P.valC s[k] := by
        rw [List.take_succ_eq_append_getElem (by simpa using hlt), List.all_append, A.out]; simp; rfl
      have hall : s.data.toList.all P.valC = true → P.valC s[k] = true := fun h => List.all_eq_true.1 h _ (by simp [ByteArray.getElem_eq_getElem_data])
      have Hs := Lib.hid hstep
      have Ha := Lib.hid hall
      clear hstep hall A
      have hq0 : P.valC s[k] = (decide ((32 : Int) ≤ s[k].toNat) && decide ((s[k].toNat : Int) ≤ 126)) := rfl
      by_cases h1 : (s[k].toNat : Int) < 32
      · have Hq : Hid (P.valC s[k] = false) := Lib.hid (by rw [hq0, dF (by omega)]; rfl)
        clear hq0
        go_wp2
        go_ret
        refine ⟨?_, rfl⟩
        have hf : P.allS P.valC s = false := by
          unfold P.allS
          cases h : s.data.toList.all P.valC with
          | true => have := Ha.out h; rw [Hq.out] at this; cases this
          | false => rfl
        rw [Hv.out, hf, Bool.and_false]; rfl
      · by_cases h2 : (126 : Int) < s[k].toNat
        · have Hq : Hid (P.valC s[k] = false) := Lib.hid (by rw [hq0, dF (a := (s[k].toNat : Int)) (by omega)]; simp)
          clear hq0
          go_wp2
          go_ret
          refine ⟨?_, rfl⟩
          have hf : P.allS P.valC s = false := by
            unfold P.allS
            cases h : s.data.toList.all P.valC with
            | true => have := Ha.out h; rw [Hq.out] at this; cases this
            | false => rfl
          rw [Hv.out, hf, Bool.and_false]; rfl
        · have Hq : Hid (P.valC s[k] = true) := Lib.hid (by rw [hq0, decide_eq_true (show (32 : Int) ≤ s[k].toNat by omega), decide_eq_true (show (s[k].toNat : Int) ≤ 126 by omega)]; rfl)
          clear hq0
          go_wp2
          go_round
          case rel => exact ⟨k + 1, by omega, by go_num, aside (by rw [Hs.out, Hq.out])⟩
          case measure => simp [intOf]; omega
    · have hk' : k = s.size := by omega
      have hA : P.allS P.valC s = true := by
        have := A.out; rw [hk', List.take_of_length_le (by simp)] at this; exact this
      have HA := Lib.hid hA
      clear hA hk' A
      by_cases h3 : s.size ≤ 1000
      · go_wp2
        go_ret
        exact ⟨by show Ending.returned (.bool (decide ((s.size : Int) ≤ 1000))) = _; rw [Hv.out, HA.out, decide_eq_true (show (s.size : Int) ≤ 1000 by omega), decide_eq_true h3]; rfl, rfl⟩
      · go_wp2
        go_ret
        exact ⟨by show Ending.returned (.bool (decide ((s.size : Int) ≤ 1000))) = _; rw [Hv.out, decide_eq_false (show ¬ (s.size : Int) ≤ 1000 by omega), decide_eq_false h3]; rfl, rfl⟩
end Go.Proofs.YtffblkkhjphcfaaGreatDoor
