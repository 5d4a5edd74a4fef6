/- Walks: package outref1: isPart. -/
import Derived.Test.YtemnhihpoabefaaGreatDoorMRefB
namespace Go.Proofs.YtemnhihpoabefaaGreatDoor
open Go.RowKit Go.Shelf

set_option maxHeartbeats 2000000 in
theorem rpart_any (s : ByteArray) (hs : s.size ≤ 4294967280) (w : World) :
    Calls Tryz.prog 102 #[.string s] w fun e w' => e = .returned (.bool (P.partS s)) ∧ w = w' := by
  have HE : Hid ((∀ j (hj : j < s.size), P.partC s[j] = true) → P.allS P.partC s = true) := Lib.hid (fun h => P.allS_end h)
  have HN : Hid (∀ (j : Nat) (hj : j < s.size), P.partC s[j] = false → P.allS P.partC s = false) := Lib.hid (fun j hj h => P.allS_bad hj h)
  go_enter Tryz.func102, Tryz.ntmps102
  go_wp2
  go_loop [7] (fun i => ∃ k : Nat, k ≤ s.size ∧ i = .int .i64 k ∧ Aside (∀ j (hj : j < s.size), j < k → P.partC s[j] = true)) (fun i => s.size - (intOf i).toNat)
  case atStart => exact ⟨0, Nat.zero_le _, rfl, aside (fun j _ h => absurd h (by omega))⟩
  case round =>
    obtain ⟨k, hk, rfl, A⟩ := hrel
    by_cases hlt : k < s.size
    · have HB : Hid (P.partC s[k] = false → P.partS s = false) := Lib.hid (fun h => P.part_all (HN.out k hlt h))
      have HG : Hid (P.partC s[k] = true → ∀ j (hj : j < s.size), j < k + 1 → P.partC s[j] = true) := Lib.hid fun h j hj hjk => by
        by_cases e : j = k
        · subst e; exact h
        · exact A.out j hj (by omega)
      clear A HE HN
      cases e1 : P.partC s[k] with
      | true =>
        replace HG := Lib.hid (HG.out e1)
        have hc := P.clsPt s[k] e1
        clear HB e1
        rcases hc with ⟨h1, h2⟩ | ⟨h1, h2⟩ | ⟨h1, h2⟩ | h1 | h1 | h1
        all_goals
          go_wp2
          go_round
          case rel => exact ⟨k + 1, by omega, by go_num, aside HG.out⟩
          case measure => simp [intOf]; omega
      | false =>
        replace HB := Lib.hid (HB.out e1)
        have hc := P.clsPf s[k] e1
        obtain ⟨h3, h4, h5⟩ := P.clsPn s[k] e1
        clear HG e1
        rcases hc with h1 | ⟨h1, h2⟩ | ⟨h1, h2⟩ | h1
        all_goals
          go_wp2
          go_ret
          exact ⟨by rw [HB.out]; rfl, rfl⟩
    · have HA := Lib.hid (HE.out (fun j hj => A.out j hj (by omega)))
      clear A HE HN
      cases h1 : s.toList.isEmpty with
      | true =>
        have hr := Lib.hid (part_false (.inl h1))
        have h1' := eq_of h1
        clear h1
        go_wp2
        go_ret
        exact ⟨by rw [hr.out]; rfl, rfl⟩
      | false =>
        have h1' := ne_of h1
        by_cases h2 : s.size ≤ 40
        · cases h3 : (s.toList == [46]) with
          | true =>
            have hr := Lib.hid (part_false (.inr (.inr (.inl (by simpa using h3)))))
            have h3' : s.toList = [46] := by simpa using h3
            clear h3 h1 h1'
            go_wp2
            go_ret
            exact ⟨by rw [hr.out]; rfl, rfl⟩
          | false =>
            have h3' : ¬ s.toList = [46] := by simpa using h3
            cases h4 : (s.toList == [46, 46]) with
            | true =>
              have hr := Lib.hid (part_false (.inr (.inr (.inr (by simpa using h4)))))
              go_wp2
              go_ret
              exact ⟨by rw [hr.out]; first | rfl | simp, rfl⟩
            | false =>
              have hr := Lib.hid (part_true h1 h2 h3 h4)
              have h4' : ¬ s.toList = [46, 46] := by simpa using h4
              go_wp2
              go_ret
              exact ⟨by rw [hr.out, HA.out]; first | rfl | simp [h4], rfl⟩
        · have hr := Lib.hid (part_false (.inr (.inl (by omega : 40 < s.size))))
          go_wp2
          go_ret
          exact ⟨by rw [hr.out]; first | rfl | simp, rfl⟩

end Go.Proofs.YtemnhihpoabefaaGreatDoor
