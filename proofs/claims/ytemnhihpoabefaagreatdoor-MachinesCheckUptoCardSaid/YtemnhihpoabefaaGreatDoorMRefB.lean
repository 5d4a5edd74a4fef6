/- Walks: package outref1: IsName, isPart, IsValue. -/
import Derived.Test.YtemnhihpoabefaaGreatDoorMCls
namespace Go.Proofs.YtemnhihpoabefaaGreatDoor
open Go.RowKit Go.Shelf

namespace P
theorem allS_end {p : UInt8 → Bool} {s : ByteArray} (h : ∀ j (hj : j < s.size), p s[j] = true) : allS p s = true := by
  unfold allS
  rw [List.all_eq_true]
  intro c hc
  obtain ⟨j, hj, rfl⟩ := List.mem_iff_getElem.1 hc
  have := h j (by rw [← size_len]; exact hj)
  rwa [ByteArray.getElem_eq_getElem_data, ← Array.getElem_toList] at this
theorem allS_bad {p : UInt8 → Bool} {s : ByteArray} {j : Nat} (hj : j < s.size) (h : p s[j] = false) : allS p s = false := by
  unfold allS
  cases ha : s.data.toList.all p with
  | false => rfl
  | true =>
    rw [ByteArray.getElem_eq_getElem_data, ← Array.getElem_toList] at h
    rw [List.all_eq_true.1 ha _ (List.getElem_mem _)] at h; cases h
theorem part_all {s : ByteArray} (h : allS partC s = false) : partS s = false := by
  unfold partS part; unfold allS at h; rw [h]; simp
end P

set_option maxHeartbeats 2000000 in
theorem rname_any (s : ByteArray) (hs : s.size ≤ 4294967280) (w : World) :
    Calls Tryz.prog 35 #[.string s] w fun e w' => e = .returned (.bool (P.nameS s)) ∧ w = w' := by
  have HE : Hid ((∀ j (hj : j < s.size), P.nameAt j s[j] = true) → P.nameS s = (!s.toList.isEmpty && decide (s.size ≤ 40))) := Lib.hid (fun h => P.name_end h)
  have HN : Hid (∀ (j : Nat) (hj : j < s.size), P.nameAt j s[j] = false → P.nameS s = false) := Lib.hid (fun j hj h => P.name_bad hj h)
  go_enter Tryz.func35, Tryz.ntmps35
  go_wp2
  go_loop [8] (fun i => ∃ k : Nat, k ≤ s.size ∧ i = .int .i64 k ∧ Aside (∀ j (hj : j < s.size), j < k → P.nameAt j s[j] = true)) (fun i => s.size - (intOf i).toNat)
  case atStart => exact ⟨0, Nat.zero_le _, rfl, aside (fun j _ h => absurd h (by omega))⟩
  case round =>
    obtain ⟨k, hk, rfl, A⟩ := hrel
    by_cases hlt : k < s.size
    · have HB : Hid (P.nameAt k s[k] = false → P.nameS s = false) := Lib.hid (fun h => HN.out k hlt h)
      have HG : Hid (P.nameAt k s[k] = true → ∀ j (hj : j < s.size), j < k + 1 → P.nameAt j s[j] = true) := Lib.hid fun h j hj hjk => by
        by_cases e : j = k
        · subst e; exact h
        · exact A.out j hj (by omega)
      have hc := P.clsN s[k]
      clear A HE HN
      by_cases h0 : k = 0
      · subst h0
        have hA : P.nameAt 0 s[0] = P.sml s[0] := if_pos rfl
        rw [hA] at HB HG
        clear hA
        rcases hc with ⟨e1, e2, h1, h2⟩ | ⟨e1, e2, h1, h2⟩ | ⟨e1, e2, h1⟩ | ⟨e1, e2, h1⟩ | ⟨e1, e2, h1, h2, h3⟩ | ⟨e1, e2, h1, h2, h3, h4⟩ | ⟨e1, e2, h1, h2, h3⟩
        · replace HG := Lib.hid (HG.out e1)
          clear HB e1 e2
          go_wp2
          go_round
          case rel => exact ⟨0 + 1, by omega, by first | rfl | go_num, aside HG.out⟩
          case measure => simp [intOf]; omega
        all_goals
          replace HB := Lib.hid (HB.out e1)
          clear HG e1 e2
          go_wp2
          go_ret
          exact ⟨by rw [HB.out]; rfl, rfl⟩
      · have h0' : ¬ (k : Int) = 0 := by omega
        have hA : P.nameAt k s[k] = P.nameC s[k] := if_neg h0
        rw [hA] at HB HG
        clear hA
        rcases hc with ⟨e1, e2, h1, h2⟩ | ⟨e1, e2, h1, h2⟩ | ⟨e1, e2, h1⟩ | ⟨e1, e2, h1⟩ | ⟨e1, e2, h1, h2, h3⟩ | ⟨e1, e2, h1, h2, h3, h4⟩ | ⟨e1, e2, h1, h2, h3⟩
        iterate 4
          · replace HG := Lib.hid (HG.out e2)
            clear HB e1 e2
            go_wp2
            go_round
            case rel => exact ⟨k + 1, by omega, by go_num, aside HG.out⟩
            case measure => simp [intOf]; omega
        iterate 2
          · replace HB := Lib.hid (HB.out e2)
            clear HG e1 e2
            go_wp2
            go_ret
            exact ⟨by rw [HB.out]; rfl, rfl⟩
        · replace HB := Lib.hid (HB.out e2)
          have h5 : decide ((s[k].toNat : Int) ≤ 122) = false := dF h1
          clear HG e1 e2
          go_wp2
          go_ret
          exact ⟨by rw [HB.out]; rfl, rfl⟩
    · have HR := Lib.hid (HE.out (fun j hj => A.out j hj (by omega)))
      clear A HE HN
      cases h1 : s.toList.isEmpty with
      | true =>
        have h1' := eq_of h1
        rw [h1] at HR
        clear h1
        go_wp2
        go_ret
        exact ⟨by rw [HR.out]; rfl, rfl⟩
      | false =>
        have h1' := ne_of h1
        rw [h1] at HR
        have H1 := Lib.hid h1
        clear h1
        go_wp2
        go_ret
        exact ⟨by rw [HR.out]; exact congrArg (fun b => Ending.returned (Value.bool b)) (by rw [H1.out]; simp only [Bool.not_false, Bool.true_and]; exact decide_eq_decide.2 (by omega)), rfl⟩

end Go.Proofs.YtemnhihpoabefaaGreatDoor
