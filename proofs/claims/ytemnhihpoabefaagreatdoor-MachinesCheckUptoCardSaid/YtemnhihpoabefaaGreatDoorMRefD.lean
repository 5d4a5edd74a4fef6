/- Walks: package outref1: IsValue. -/
import Derived.Test.YtemnhihpoabefaaGreatDoorMRefC
namespace Go.Proofs.YtemnhihpoabefaaGreatDoor
open Go.RowKit Go.Shelf

set_option maxHeartbeats 2000000 in
theorem rvalue_any (s : ByteArray) (hs : s.size ≤ 4294967280) (w : World) :
    Calls Tryz.prog 61 #[.string s] w fun e w' => e = .returned (.bool (P.valueS s)) ∧ w = w' := by
  have hc : P.valueS s = (decide (s.size ≤ 1000) && P.allS P.valC s) := by unfold P.valueS P.value P.allS; rw [P.size_len]
  rw [hc]
  clear hc
  have HE : Hid ((∀ j (hj : j < s.size), P.valC s[j] = true) → P.allS P.valC s = true) := Lib.hid (fun h => P.allS_end h)
  have HN : Hid (∀ (j : Nat) (hj : j < s.size), P.valC s[j] = false → P.allS P.valC s = false) := Lib.hid (fun j hj h => P.allS_bad hj h)
  go_enter Tryz.func61, Tryz.ntmps61
  go_wp2
  go_loop [6] (fun i => ∃ k : Nat, k ≤ s.size ∧ i = .int .i64 k ∧ Aside (∀ j (hj : j < s.size), j < k → P.valC s[j] = true)) (fun i => s.size - (intOf i).toNat)
  case atStart => exact ⟨0, Nat.zero_le _, rfl, aside (fun j _ h => absurd h (by omega))⟩
  case round =>
    obtain ⟨k, hk, rfl, A⟩ := hrel
    by_cases hlt : k < s.size
    · have HB : Hid (P.valC s[k] = false → P.allS P.valC s = false) := Lib.hid (fun h => HN.out k hlt h)
      have HG : Hid (P.valC s[k] = true → ∀ j (hj : j < s.size), j < k + 1 → P.valC s[j] = true) := Lib.hid fun h j hj hjk => by
        by_cases e : j = k
        · subst e; exact h
        · exact A.out j hj (by omega)
      have hc := P.clsV s[k]
      clear A HE HN
      rcases hc with ⟨e1, h1, h2⟩ | ⟨e1, h1⟩ | ⟨e1, h1⟩
      · replace HG := Lib.hid (HG.out e1)
        clear HB e1
        go_wp2
        go_round
        case rel => exact ⟨k + 1, by omega, by go_num, aside HG.out⟩
        case measure => simp [intOf]; omega
      all_goals
        replace HB := Lib.hid (HB.out e1)
        clear HG e1
        go_wp2
        go_ret
        exact ⟨by rw [HB.out]; simp, rfl⟩
    · have HA := Lib.hid (HE.out (fun j hj => A.out j hj (by omega)))
      clear A HE HN
      go_wp2
      go_ret
      exact ⟨by rw [HA.out]; exact congrArg (fun b => Ending.returned (Value.bool b)) (by rw [Bool.and_true]; exact decide_eq_decide.2 (by omega)), rfl⟩
end Go.Proofs.YtemnhihpoabefaaGreatDoor
