/- Walks: the order of versions of package ver. -/
import Derived.Test.YtffblkkhjphcfaaGreatDoorVers2
import Derived.Test.YtffblkkhjphcfaaGreatDoorPure2
namespace Go.Proofs.YtffblkkhjphcfaaGreatDoor
open Go.RowKit Go.Shelf

theorem orI_take {l : List Int} {k : Nat} (h : ∀ j (hj : j < l.length), j < k → l[j] = 0) (hk : k < l.length) (hne : l[k] ≠ 0) : P.orI l = l[k] := by
  induction l generalizing k with
  | nil => simp at hk
  | cons x l ih =>
    unfold P.orI
    cases k with
    | zero => exact if_neg (show ¬ x = 0 from hne)
    | succ k =>
      have h0 : x = 0 := h 0 (by simp) (by omega)
      rw [if_pos h0]
      exact ih (fun j hj hlt => h (j + 1) (by simpa using hj) (by omega)) (by simpa using hk) hne
theorem orI_none {l : List Int} (h : ∀ j (hj : j < l.length), l[j] = 0) : P.orI l = 0 := by
  induction l with
  | nil => rfl
  | cons x l ih => unfold P.orI; rw [if_pos (show x = 0 from h 0 (by simp))]; exact ih (fun j hj => h (j + 1) (by simpa using hj))

theorem or_any (b : Nat) (l : List Int) (hl : l.length ≤ 1000) (w : World) (hc : ∀ j (hj : j < l.length), w.cell? ⟨b, j, none⟩ = some (.int .i64 l[j])) :
    Calls Tryz.prog 72 #[.slice (some ⟨b, 0, none⟩) l.length l.length] w fun e w' => e = .returned (.int .i64 (P.orI l)) ∧ w = w' := by
  have HC := Lib.hid hc
  clear hc
  go_enter Tryz.func72, Tryz.ntmps72
  go_wp2
  go_loop [8] (fun i => ∃ k : Nat, k ≤ l.length ∧ i = .int .i64 k ∧ Aside (∀ j (hj : j < l.length), j < k → l[j] = 0)) (fun i => l.length - (intOf i).toNat)
  case atStart => exact ⟨0, Nat.zero_le _, rfl, aside (fun j _ h => absurd h (by omega))⟩
  case round =>
    obtain ⟨k, hk, rfl, A⟩ := hrel
    by_cases hlt : k < l.length
    · have hcell := HC.out k hlt
      by_cases hz : l[k] = 0
      · rw [hz] at hcell
        have Hz := Lib.hid hz
        clear hz
        go_wp2
        go_round
        case rel =>
          exact ⟨k + 1, by omega, by go_num, aside (fun j hj h => by
            by_cases e : j = k
            · subst e; exact Hz.out
            · exact A.out j hj (by omega))⟩
        case measure => simp [intOf]; omega
      · have hr := Lib.hid (orI_take A.out hlt hz)
        have hz' : (l[k] != 0) = true := by simpa using hz
        generalize l[k] = x at *
        clear A
        go_wp2
        go_ret
        exact ⟨by rw [hr.out]; rfl, rfl⟩
    · have hr := Lib.hid (orI_none (l := l) (fun j hj => A.out j hj (by omega)))
      clear A
      go_wp2
      go_ret
      exact ⟨by rw [hr.out]; rfl, rfl⟩

theorem orderWords_any (a b : ByteArray) (ha : a.size ≤ 4294967280) (hb : b.size ≤ 4294967280) (w : World) :
    Calls Tryz.prog 206 #[.string a, .string b] w fun e w' => e = .returned (.int .i64 (P.wordCmp a b)) ∧ Below w.heap.size w w' := by
  have hA := all_any _ _ ByteFn.digit a (by omega)
  have hB := all_any _ _ ByteFn.digit b (by omega)
  have HC := Lib.hid (Tryz.strings_Compare a b)
  have HI := Lib.hid (Tryz.cmp_Compare_int (a.size : Int) (b.size : Int))
  have hr : P.wordCmp a b = if P.allS P.dig a then (if P.allS P.dig b then P.orI [Lib.compareInt a.size b.size, Lib.compareBytes a.data.toList b.data.toList] else -1) else if P.allS P.dig b then 1 else Lib.compareBytes a.data.toList b.data.toList := rfl
  generalize Lib.compareBytes a.data.toList b.data.toList = y at *
  generalize Lib.compareInt (a.size : Int) (b.size : Int) = x at *
  have hO := fun (W : World) => or_any W.heap.size [x, y] (by simp) (W.alloc (.cells #[.int .i64 x, .int .i64 y] 3)) (fun j hj => by
    rw [World.cell?_alloc_at _ _ _ _ rfl]
    match j, hj with
    | 0, _ => rfl
    | 1, _ => rfl)
  have HO := Lib.hid hO
  clear hO
  cases h1 : P.allS P.dig a <;> cases h2 : P.allS P.dig b <;> rw [h1, h2] at hr <;> rw [h1] at hA <;> rw [h2] at hB <;> clear h1 h2
  all_goals
    have Hr := Lib.hid hr
    have HA := Lib.hid hA
    have HB := Lib.hid hB
    clear hr hA hB
    go_enter Tryz.func206, Tryz.ntmps206
    go_wp2_with fail
    refine (HA.out _).mono ?_
    rintro e w' ⟨rfl, rfl⟩
    go_wp2_with fail
    refine (HB.out _).mono ?_
    rintro e w' ⟨rfl, rfl⟩
    go_wp2_with (first | (go_at_call 75; refine (HC.out _).mono ?_; rintro e w' ⟨rfl, rfl⟩) | (go_at_call 73; refine (HI.out _).mono ?_; rintro e w' ⟨rfl, rfl⟩) | (go_at_call 72; refine (HO.out _).mono ?_; rintro e w' ⟨rfl, rfl⟩))
    go_ret
    exact ⟨by rw [Hr.out]; rfl, by go_grown⟩
end Go.Proofs.YtffblkkhjphcfaaGreatDoor
