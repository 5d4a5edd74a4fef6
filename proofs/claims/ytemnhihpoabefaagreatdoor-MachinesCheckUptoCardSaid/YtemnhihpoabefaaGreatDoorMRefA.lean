/- Walks: package outref1: when, first, IsName, isPart, IsValue, IsPath. -/
import Derived.Test.YtemnhihpoabefaaGreatDoorMPaths
namespace Go.Proofs.YtemnhihpoabefaaGreatDoor
open Go.RowKit Go.Shelf

theorem rwhen_any (b : Bool) (x : Int) (w : World) :
    Calls Tryz.prog 59 #[.bool b, .int .i64 x] w fun e w' => e = .returned (.int .i64 (if b then x else 0)) ∧ w = w' := by
  cases b
  all_goals
    go_enter Tryz.func59, Tryz.ntmps59
    go_wp2
    go_ret
    exact ⟨rfl, rfl⟩

namespace P
def orL : List Int → Int
  | [] => 0
  | x :: l => orE x (orL l)
theorem orL_take {l : List Int} {k : Nat} (h : ∀ j (hj : j < l.length), j < k → l[j] = 0) (hk : k < l.length) (h0 : l[k] ≠ 0) : orL l = l[k] := by
  induction l generalizing k with
  | nil => simp at hk
  | cons x l ih =>
    cases k with
    | zero => simp only [List.getElem_cons_zero] at h0 ⊢; exact orE_ne h0 _
    | succ k =>
      have := h 0 (by simp) (by omega)
      simp only [List.getElem_cons_zero] at this
      subst this
      show orE 0 (orL l) = _
      rw [orE_zero]
      simp only [List.getElem_cons_succ] at h0 ⊢
      exact ih (fun j hj hjk => by have := h (j + 1) (by simpa using hj) (by omega); simpa using this) (by simpa using hk) h0
theorem orL_none {l : List Int} (h : ∀ j (hj : j < l.length), l[j] = 0) : orL l = 0 := by
  induction l with
  | nil => rfl
  | cons x l ih =>
    have h0 := h 0 (by simp)
    simp only [List.getElem_cons_zero] at h0
    subst h0
    exact ih (fun j hj => by have := h (j + 1) (by simpa using hj); simpa using this)
end P

theorem rfirst_any (b : Nat) (l : List Int) (hl : l.length ≤ 1000) (w : World) (hc : ∀ j (hj : j < l.length), w.cell? ⟨b, j, none⟩ = some (.int .i64 l[j])) :
    Calls Tryz.prog 60 #[.slice (some ⟨b, 0, none⟩) l.length l.length] w fun e w' => e = .returned (.int .i64 (P.orL l)) ∧ w = w' := by
  have HC := Lib.hid hc
  clear hc
  go_enter Tryz.func60, Tryz.ntmps60
  go_wp2
  go_loop [7] (fun i => ∃ k : Nat, k ≤ l.length ∧ i = .int .i64 k ∧ Aside (∀ j (hj : j < l.length), j < k → l[j] = 0)) (fun i => l.length - (intOf i).toNat)
  case atStart => exact ⟨0, Nat.zero_le _, rfl, aside (fun j _ h => absurd h (by omega))⟩
  case round =>
    obtain ⟨k, hk, rfl, A⟩ := hrel
    by_cases hlt : k < l.length
    · have hcell := HC.out k hlt
      by_cases hz : l[k] = 0
      · rw [hz] at hcell
        have Hz := Lib.hid hz
        clear hz
        go_wp2
        go_round
        case rel =>
          exact ⟨k + 1, by omega, by go_num, aside (fun j hj h => by
            by_cases e : j = k
            · subst e; exact Hz.out
            · exact A.out j hj (by omega))⟩
        case measure => simp [intOf]; omega
      · have hr := Lib.hid (P.orL_take A.out hlt hz)
        have hz' : (l[k] != 0) = true := by simpa using hz
        generalize l[k] = x at *
        clear A
        go_wp2
        go_ret
        exact ⟨by rw [hr.out]; rfl, rfl⟩
    · have hr := Lib.hid (P.orL_none (l := l) (fun j hj => A.out j hj (by omega)))
      clear A
      go_wp2
      go_ret
      exact ⟨by rw [hr.out]; rfl, rfl⟩

/-! ### names -/
namespace P
def nameAt (k : Nat) (c : UInt8) : Bool := if k = 0 then sml c else nameC c
theorem name_end {s : ByteArray} (h : ∀ j (hj : j < s.size), nameAt j s[j] = true) : nameS s = (!s.toList.isEmpty && decide (s.size ≤ 40)) := by
  cases he : s.toList.isEmpty with
  | true => rw [empty_iff] at he; unfold nameS; rw [he]; rfl
  | false =>
    have hpos : 0 < s.size := by rw [nonempty_iff] at he; rw [← size_len]; exact List.length_pos_iff.2 he
    have hh := head_get s hpos
    have h0 : sml s[0] = true := by have := h 0 hpos; unfold nameAt at this; simpa using this
    have hall : s.data.toList.all nameC = true := by
      rw [List.all_eq_true]
      intro c hc
      obtain ⟨j, hj, rfl⟩ := List.mem_iff_getElem.1 hc
      have hj' : j < s.size := by rw [← size_len]; exact hj
      have := h j hj'
      have e : s[j] = s.data.toList[j] := by rw [ByteArray.getElem_eq_getElem_data]; simp
      rw [e] at this
      unfold nameAt at this
      by_cases e0 : j = 0
      · rw [if_pos e0] at this; unfold nameC; rw [this]; rfl
      · rw [if_neg e0] at this; exact this
    have hl := size_len s
    unfold nameS
    rw [← hl]
    generalize s.data.toList = l at *
    cases l with
    | nil => cases hh
    | cons c t =>
      injection hh with hc _
      rw [← hc] at h0
      show (decide ((c :: t).length ≤ 40) && sml c && (c :: t).all nameC) = _
      rw [h0, hall]; simp
theorem name_bad {s : ByteArray} {j : Nat} (hj : j < s.size) (h : nameAt j s[j] = false) : nameS s = false := by
  have hpos : 0 < s.size := by omega
  have hh := head_get s hpos
  have e : s[j] = s.data.toList[j]'(by rw [size_len]; exact hj) := by rw [ByteArray.getElem_eq_getElem_data]; simp
  rw [e] at h
  have hm : s.data.toList[j]'(by rw [size_len]; exact hj) ∈ s.data.toList := List.getElem_mem _
  unfold nameAt at h
  unfold nameS
  by_cases e0 : j = 0
  · subst e0
    rw [if_pos rfl, ← e] at h
    clear hm e
    generalize s.data.toList = l at *
    cases l with
    | nil => cases hh
    | cons c t =>
      injection hh with hc _
      rw [← hc] at h
      show (decide ((c :: t).length ≤ 40) && sml c && (c :: t).all nameC) = _
      rw [h]; simp
  · rw [if_neg e0] at h
    have : s.data.toList.all nameC = false := by
      cases ha : s.data.toList.all nameC with
      | false => rfl
      | true => rw [List.all_eq_true.1 ha _ hm] at h; cases h
    clear hm e h
    generalize s.data.toList = l at *
    cases l with
    | nil => cases hh
    | cons c t =>
      show (decide ((c :: t).length ≤ 40) && sml c && (c :: t).all nameC) = _
      rw [this]; simp
end P
end Go.Proofs.YtemnhihpoabefaaGreatDoor
