/- Walks: slices.Equal of settings. -/
import Derived.Test.YtkibmoekadmjnaaGreatDoorZMCheck
import Derived.Deep.QuietTactic
import Derived.BigQuiet

namespace Go.Proofs.YtkibmoekadmjnaaGreatDoor
open Go.RowKit Go.Shelf

theorem toList_inj {a b : ByteArray} (h : a.toList = b.toList) : a = b := by
  rw [Lib.toList_data, Lib.toList_data] at h
  exact ByteArray.ext (Array.toList_inj.1 h)

set_option maxHeartbeats 4000000 in
theorem equalS_any (L M : List P.St) (a b : Option Addr) (ca cb : Nat) (hl : L.length ≤ 4294967280) (w : World) (ha : StsAt w.heap.size w a L ca) (hb : StsAt w.heap.size w b M cb) :
    Calls Tryz.prog 49 #[.slice a L.length ca, .slice b M.length cb] w fun e w' => (∃ x, e = .returned (.bool x) ∧ (x = true ↔ L = M)) ∧ Below w.heap.size w w' := by
  have HA := Lib.hid ha
  have HB := Lib.hid hb
  clear ha hb
  by_cases hn : L.length = M.length
  · have hn' : (L.length : Int) = (M.length : Int) := by omega
    have HE : Hid ((∀ j (h1 : j < L.length) (h2 : j < M.length), L[j] = M[j]) → L = M) := Lib.hid fun h => List.ext_getElem hn (fun j h1 h2 => h j h1 h2)
    go_enter Tryz.func49, Tryz.ntmps49
    go_wp2_with fail
    go_loopw [13] (fun i wr => ∃ k : Nat, k ≤ L.length ∧ i = .int .i64 k ∧ Aside (∀ j (h1 : j < L.length) (h2 : j < M.length), j < k → L[j] = M[j]) ∧ Hid (Below w.heap.size w wr)) (fun i _ => L.length - (intOf i).toNat)
    case atStart => exact ⟨0, Nat.zero_le _, rfl, aside (fun j _ _ h => absurd h (by omega)), Lib.hid (Below.refl _ _)⟩
    case round =>
      obtain ⟨k, hk, rfl, A, HW⟩ := hrel
      by_cases hlt : k < L.length
      · have hlt' : k < M.length := by omega
        obtain ⟨b1, o1, rfl, _, hc⟩ := (HA.out.below HW.out).at_ (ne_nil_of_lt hlt)
        obtain ⟨b2, o2, rfl, _, hd⟩ := (HB.out.below HW.out).at_ (ne_nil_of_lt hlt')
        obtain ⟨c0, c1⟩ := hc k hlt
        obtain ⟨d0, d1⟩ := hd k hlt'
        have HY : Hid (L[k].k.toList = M[k].k.toList → L[k].v.toList = M[k].v.toList → ∀ j (h1 : j < L.length) (h2 : j < M.length), j < k + 1 → L[j] = M[j]) := Lib.hid fun e1 e2 j h1 h2 hj => by
          by_cases e : j = k
          · subst e
            have f1 := toList_inj e1
            have f2 := toList_inj e2
            cases hx : L[j]; cases hy : M[j]; rw [hx, hy] at f1 f2; simp only at f1 f2; rw [f1, f2]
          · exact A.out j h1 h2 (by omega)
        have HN : Hid (¬ L[k].k.toList = M[k].k.toList ∨ ¬ L[k].v.toList = M[k].v.toList → ¬ L = M) := Lib.hid fun h e => by subst e; rcases h with h | h <;> exact h rfl
        have i1 : (k : Int) < (L.length : Int) := by omega
        have i2 : (k : Int) < (M.length : Int) := by omega
        have i0 : (0 : Int) ≤ (k : Int) := by omega
        clear hc hd A HE
        generalize L[k] = x at *
        generalize M[k] = y at *
        by_cases e1 : x.k.toList = y.k.toList
        · by_cases e2 : x.v.toList = y.v.toList
          · have HY' := Lib.hid (HY.out e1 e2)
            clear HY HN
            go_wp2_with fail
            go_region
            have HW' := Lib.hid HW.out.drew
            go_wp2_with fail
            go_roundw
            case rel => exact ⟨k + 1, by omega, by go_num, aside HY'.out, HW'⟩
            case measure => simp [intOf]; omega
          · have HN' := Lib.hid (HN.out (.inr e2))
            clear HY HN
            go_wp2_with fail
            go_region
            have HW' := Lib.hid HW.out.drew
            go_wp2_with fail
            go_ret
            exact ⟨⟨false, rfl, (fun h => by cases h), fun h => absurd h HN'.out⟩, HW'.out⟩
        · have HN' := Lib.hid (HN.out (.inl e1))
          clear HY HN
          go_wp2_with fail
          go_region
          have HW' := Lib.hid HW.out.drew
          go_wp2_with fail
          go_ret
          exact ⟨⟨false, rfl, (fun h => by cases h), fun h => absurd h HN'.out⟩, HW'.out⟩
      · have hkl : k = L.length := by omega
        have HE' := Lib.hid (HE.out (fun j h1 h2 => A.out j h1 h2 (by omega)))
        clear HE A
        go_wp2_with fail
        go_ret
        exact ⟨⟨true, rfl, fun _ => HE'.out, fun _ => rfl⟩, HW.out⟩
  · have hn' : ((L.length : Int) != (M.length : Int)) = true := by simp; omega
    have HN := Lib.hid (show ¬ L = M from fun e => hn (by rw [e]))
    go_enter Tryz.func49, Tryz.ntmps49
    go_wp2_with fail
    go_ret
    exact ⟨⟨false, rfl, (fun h => by cases h), fun h => absurd h HN.out⟩, Below.refl _ _⟩
end Go.Proofs.YtkibmoekadmjnaaGreatDoor
