/- Walks: names, parts, values, numbers, words of package ver. -/
import Derived.Test.YtemnhihpoabefaaGreatDoorMNames
namespace Go.Proofs.YtemnhihpoabefaaGreatDoor
open Go.RowKit Go.Lib Go.Shelf

theorem ne_of {s : ByteArray} (h : s.toList.isEmpty = false) : ¬ s.toList = [] := by simpa using h
theorem eq_of {s : ByteArray} (h : s.toList.isEmpty = true) : s.toList = [] := by simpa using h
theorem pos_of {s : ByteArray} (h : s.toList.isEmpty = false) : 0 < s.size := by
  rw [P.nonempty_iff] at h; rw [← P.size_len]; exact List.length_pos_iff.2 h
theorem dle {a b : Nat} (h : ¬ a ≤ b) : decide ((a : Int) ≤ (b : Int)) = false := decide_eq_false (by omega)

theorem part_false {s : ByteArray} (h : s.toList.isEmpty = true ∨ 40 < s.size ∨ s.toList = [46] ∨ s.toList = [46, 46]) : P.partS s = false := by
  unfold P.partS P.part
  rw [P.size_len]
  rcases h with h | h | h | h
  · rw [P.empty_iff] at h; simp [h]
  · simp; omega
  · rw [Lib.toList_data] at h; simp [h]
  · rw [Lib.toList_data] at h; simp [h]
theorem part_true {s : ByteArray} (h1 : s.toList.isEmpty = false) (h2 : s.size ≤ 40) (h3 : (s.toList == [46]) = false) (h4 : (s.toList == [46, 46]) = false) : P.partS s = P.allS P.partC s := by
  unfold P.partS P.part P.allS
  rw [P.size_len]
  rw [P.nonempty_iff] at h1
  rw [Lib.toList_data] at h3 h4
  generalize s.data.toList = l at *
  cases l with
  | nil => exact absurd rfl h1
  | cons c t => simp [bne, h2, h3, h4]

theorem isPart_any (s : ByteArray) (hs : s.size ≤ 4294967280) (w : World) :
    Calls Tryz.prog 150 #[.string s] w fun e w' => e = .returned (.bool (P.partS s)) ∧ w = w' := by
  cases h1 : s.toList.isEmpty with
  | true =>
    have hr := Lib.hid (part_false (.inl h1))
    have h1' := eq_of h1
    clear h1
    go_enter Tryz.func150, Tryz.ntmps150
    go_wp2_with fail
    go_ret
    exact ⟨by rw [hr.out]; rfl, rfl⟩
  | false =>
    have h1' := ne_of h1
    by_cases h2 : s.size ≤ 40
    · cases h3 : (s.toList == [46]) with
      | true =>
        have hr := Lib.hid (part_false (.inr (.inr (.inl (by simpa using h3)))))
        have h3' : s.toList = [46] := by simpa using h3
        clear h3 h1 h1'
        go_enter Tryz.func150, Tryz.ntmps150
        go_wp2_with fail
        go_ret
        exact ⟨by rw [hr.out]; rfl, rfl⟩
      | false =>
        have h3' : ¬ s.toList = [46] := by simpa using h3
        cases h4 : (s.toList == [46, 46]) with
        | true =>
          have hr := Lib.hid (part_false (.inr (.inr (.inr (by simpa using h4)))))
          go_enter Tryz.func150, Tryz.ntmps150
          go_wp2_with fail
          go_ret
          exact ⟨by rw [hr.out]; rfl, rfl⟩
        | false =>
          have hr := Lib.hid (part_true h1 h2 h3 h4)
          go_enter Tryz.func150, Tryz.ntmps150
          go_wp2_with (go_at_call 127; refine (all_any _ _ ByteFn.part s (by omega) _).mono ?_; rintro e w' ⟨rfl, rfl⟩)
          go_ret
          exact ⟨by rw [hr.out]; rfl, rfl⟩
    · have hr := Lib.hid (part_false (.inr (.inl (by omega : 40 < s.size))))
      go_enter Tryz.func150, Tryz.ntmps150
      go_wp2_with fail
      go_ret
      exact ⟨by rw [hr.out]; rfl, rfl⟩

theorem isName_any (s : ByteArray) (hs : s.size ≤ 4294967280) (w : World) :
    Calls Tryz.prog 57 #[.string s] w fun e w' => e = .returned (.bool (P.nameS s)) ∧ w = w' := by
  cases h1 : s.toList.isEmpty with
  | true =>
    have hr : Hid (P.nameS s = false) := Lib.hid (by rw [P.empty_iff] at h1; unfold P.nameS; rw [h1]; rfl)
    have h1' := eq_of h1
    clear h1
    go_enter Tryz.func57, Tryz.ntmps57
    go_wp2_with fail
    go_ret
    exact ⟨by rw [hr.out]; rfl, rfl⟩
  | false =>
    have h1' := ne_of h1
    have h0 := pos_of h1
    have hh := P.head_get s h0
    have hcase : P.nameS s = (decide (s.size ≤ 40) && P.sml s[0] && P.allS P.nameC s) := by
      have hl := P.size_len s
      unfold P.nameS P.allS
      generalize s.data.toList = l at hh hl
      rw [← hl]
      cases l with
      | nil => cases hh
      | cons c t => injection hh with hc _; rw [← hc]; rfl
    clear hh
    by_cases h2 : s.size ≤ 40
    · have hs0 := isSmall_any s[0]
      cases h3 : P.sml s[0] with
      | true =>
        rw [h3] at hs0 hcase
        rw [decide_eq_true h2] at hcase
        have Hs := Lib.hid hs0
        have Hc := Lib.hid hcase
        clear hs0 hcase h3
        go_enter Tryz.func57, Tryz.ntmps57
        go_wp2_with (first | (go_at_call 126; refine (Hs.out _).mono ?_; rintro e w' ⟨rfl, rfl⟩) | (go_at_call 127; refine (all_any _ _ ByteFn.name s (by omega) _).mono ?_; rintro e w' ⟨rfl, rfl⟩))
        go_ret
        exact ⟨by rw [Hc.out]; simp, rfl⟩
      | false =>
        rw [h3] at hs0 hcase
        have Hs := Lib.hid hs0
        have Hc := Lib.hid hcase
        clear hs0 hcase h3
        go_enter Tryz.func57, Tryz.ntmps57
        go_wp2_with (first | (go_at_call 126; refine (Hs.out _).mono ?_; rintro e w' ⟨rfl, rfl⟩) | (go_at_call 127; refine (all_any _ _ ByteFn.name s (by omega) _).mono ?_; rintro e w' ⟨rfl, rfl⟩))
        go_ret
        exact ⟨by rw [Hc.out]; simp, rfl⟩
    · rw [decide_eq_false h2] at hcase
      have Hc := Lib.hid hcase
      clear hcase
      go_enter Tryz.func57, Tryz.ntmps57
      go_wp2_with fail
      go_ret
      exact ⟨by rw [Hc.out]; simp, rfl⟩

theorem isValue_any (s : ByteArray) (hs : s.size ≤ 4294967280) (w : World) :
    Calls Tryz.prog 183 #[.string s] w fun e w' => e = .returned (.bool (P.valueS s)) ∧ w = w' := by
  have hc : P.valueS s = (decide (s.size ≤ 1000) && P.allS P.valC s) := by unfold P.valueS P.value P.allS; rw [P.size_len]
  by_cases h2 : s.size ≤ 1000
  · rw [decide_eq_true h2] at hc
    have Hc := Lib.hid hc
    clear hc
    go_enter Tryz.func183, Tryz.ntmps183
    go_wp2_with (go_at_call 127; refine (all_any _ _ ByteFn.val s (by omega) _).mono ?_; rintro e w' ⟨rfl, rfl⟩)
    go_ret
    exact ⟨by rw [Hc.out]; simp, rfl⟩
  · rw [decide_eq_false h2] at hc
    have Hc := Lib.hid hc
    clear hc
    go_enter Tryz.func183, Tryz.ntmps183
    go_wp2_with fail
    go_ret
    exact ⟨by rw [Hc.out]; simp, rfl⟩
end Go.Proofs.YtemnhihpoabefaaGreatDoor
