/- Walks: bytes and the closures over them; package ver's all; names, parts, values, numbers, words of package ver. -/
import Derived.Test.YtemnhihpoabefaaGreatDoorMPure
import Derived.Test.YtemnhihpoabefaaGreatDoorRows
import Derived.WalkKit
import Derived.WalkSpells
import Derived.WalkLawsBesides
import Derived.BigQuiet
import Derived.Outline
import Derived.Lib.Hide
import Derived.Deep.LoopGhost
import Derived.Shelf.Abstract
namespace Go.Proofs.YtemnhihpoabefaaGreatDoor
open Go.RowKit Go.Lib Go.Shelf

theorem aside {p : Prop} (h : p) : Aside p := h
theorem dF {a b : Int} (h : b < a) : decide (a ≤ b) = false := decide_eq_false (by omega)

theorem isSmall_any (c : UInt8) (w : World) :
    Calls Tryz.prog 126 #[.int .u8 (c.toNat : Int)] w fun e w' => e = .returned (.bool (P.sml c)) ∧ w = w' := by
  by_cases h : (97 : Int) ≤ c.toNat
  · go_enter Tryz.func126, Tryz.ntmps126
    go_wp2
    go_ret
    exact ⟨by rw [P.sml, decide_eq_true h]; rfl, rfl⟩
  · go_enter Tryz.func126, Tryz.ntmps126
    go_wp2
    go_ret
    exact ⟨by rw [P.sml, dF (by omega)]; rfl, rfl⟩

theorem isDigit_any (c : UInt8) (w : World) :
    Calls Tryz.prog 129 #[.int .u8 (c.toNat : Int)] w fun e w' => e = .returned (.bool (P.dig c)) ∧ w = w' := by
  by_cases h : (48 : Int) ≤ c.toNat
  · go_enter Tryz.func129, Tryz.ntmps129
    go_wp2
    go_ret
    exact ⟨by rw [P.dig, decide_eq_true h]; rfl, rfl⟩
  · go_enter Tryz.func129, Tryz.ntmps129
    go_wp2
    go_ret
    exact ⟨by rw [P.dig, dF (by omega)]; rfl, rfl⟩

theorem nameC_any (c : UInt8) (w : World) :
    Calls Tryz.prog 128 #[.int .u8 (c.toNat : Int)] w fun e w' => e = .returned (.bool (P.nameC c)) ∧ w = w' := by
  have hs := isSmall_any c
  have hd := isDigit_any c
  unfold P.nameC
  cases h1 : P.sml c <;> cases h2 : P.dig c <;> rw [h1] at hs <;> rw [h2] at hd <;> cases h3 : ((c.toNat : Int) == 45) <;> clear h1 h2
  all_goals
    have Hs := Lib.hid hs
    have Hd := Lib.hid hd
    clear hs hd
    go_enter Tryz.func128, Tryz.ntmps128
    go_wp2_with (first | (go_at_call 126; refine (Hs.out _).mono ?_; rintro e w' ⟨rfl, rfl⟩) | (go_at_call 129; refine (Hd.out _).mono ?_; rintro e w' ⟨rfl, rfl⟩))
    go_ret
    exact ⟨rfl, rfl⟩

theorem valC_any (c : UInt8) (w : World) :
    Calls Tryz.prog 224 #[.int .u8 (c.toNat : Int)] w fun e w' => e = .returned (.bool (P.valC c)) ∧ w = w' := by
  by_cases h : (32 : Int) ≤ c.toNat
  · go_enter Tryz.func224, Tryz.ntmps224
    go_wp2
    go_ret
    exact ⟨by rw [P.valC, decide_eq_true h]; rfl, rfl⟩
  · go_enter Tryz.func224, Tryz.ntmps224
    go_wp2
    go_ret
    exact ⟨by rw [P.valC, dF (by omega)]; rfl, rfl⟩

theorem partC_any (c : UInt8) (w : World) :
    Calls Tryz.prog 194 #[.int .u8 (c.toNat : Int)] w fun e w' => e = .returned (.bool (P.partC c)) ∧ w = w' := by
  have hs := isSmall_any c
  have hd := isDigit_any c
  unfold P.partC P.grt
  cases h1 : P.sml c <;> cases h2 : P.dig c <;> rw [h1] at hs <;> rw [h2] at hd <;> clear h1 h2
  all_goals
    have Hs := Lib.hid hs
    have Hd := Lib.hid hd
    clear hs hd
    by_cases h5 : (65 : Int) ≤ c.toNat <;> by_cases h6 : (c.toNat : Int) ≤ 90 <;> cases h3 : ((c.toNat : Int) == 45) <;> cases h4 : ((c.toNat : Int) == 46)
  all_goals first
    | (exfalso; simp only [beq_iff_eq, beq_eq_false_iff_ne] at h3 h4; omega)
    | (go_enter Tryz.func194, Tryz.ntmps194
       go_wp2_with (first | (go_at_call 126; refine (Hs.out _).mono ?_; rintro e w' ⟨rfl, rfl⟩) | (go_at_call 129; refine (Hd.out _).mono ?_; rintro e w' ⟨rfl, rfl⟩))
       go_ret
       exact ⟨by first | rfl | (simp only [decide_eq_true (show (65 : Int) ≤ c.toNat by omega), decide_eq_true (show (c.toNat : Int) ≤ 90 by omega)]; rfl) | (simp only [dF (show (c.toNat : Int) < 65 by omega)]; rfl) | (simp only [dF (show (90 : Int) < c.toNat by omega), Bool.and_false]; rfl), rfl⟩)

/-- A closure on bytes that answers p. -/
def ByteFn (g : Nat) (p : UInt8 → Bool) : Prop :=
  (∀ args w, (callFunc g args).run Tryz.prog w = .ok (.enter g args) w) ∧
  ∀ (c : UInt8) (w : World), Calls Tryz.prog g #[.int .u8 (c.toNat : Int)] w fun e w' => e = .returned (.bool (p c)) ∧ w = w'

theorem ByteFn.name : ByteFn 128 P.nameC := ⟨enters_of Tryz.func128 (by kernel_rfl) rfl, nameC_any⟩
theorem ByteFn.val : ByteFn 224 P.valC := ⟨enters_of Tryz.func224 (by kernel_rfl) rfl, valC_any⟩
theorem ByteFn.part : ByteFn 194 P.partC := ⟨enters_of Tryz.func194 (by kernel_rfl) rfl, partC_any⟩

theorem all_any (g : Nat) (p : UInt8 → Bool) (hf : ByteFn g p) (s : ByteArray) (hs : s.size ≤ 9223372036854775807) (w : World) :
    Calls Tryz.prog 127 #[.string s, .func (.func g) #[] #[]] w fun e w' => e = .returned (.bool (P.allS p s)) ∧ w = w' := by
  obtain ⟨eg, hp⟩ := hf
  have Hp := Lib.hid hp
  clear hp
  go_enter Tryz.func127, Tryz.ntmps127
  go_wp2
  go_loop [8] (fun i => ∃ k : Nat, k ≤ s.size ∧ i = .int .i64 k ∧ Aside ((s.data.toList.take k).all p = true)) (fun i => s.size - (intOf i).toNat)
  case atStart => exact ⟨0, Nat.zero_le _, rfl, aside (by simp)⟩
  case round =>
    obtain ⟨k, hk, rfl, A⟩ := hrel
    by_cases hlt : k < s.size
    · have hc := Hp.out s[k]
      have hstep : (s.data.toList.take (k + 1)).all p = p s[k] := by
        rw [List.take_succ_eq_append_getElem (by simpa using hlt), List.all_append, A.out]; simp; rfl
      have hall : s.data.toList.all p = true → p s[k] = true := fun h => List.all_eq_true.1 h _ (by simp [ByteArray.getElem_eq_getElem_data])
      have Hs := Lib.hid hstep
      have Ha := Lib.hid hall
      clear hstep hall A
      cases hq : p s[k] with
      | true =>
        rw [hq] at hc
        have Hc := Lib.hid hc
        have Hq := Lib.hid hq
        clear hc hq
        go_wp2_with (go_at_fn g; refine (Hc.out _).mono ?_; rintro e w' ⟨rfl, rfl⟩)
        go_round
        case rel => exact ⟨k + 1, by omega, by go_num, aside (by rw [Hs.out, Hq.out])⟩
        case measure => simp [intOf]; omega
      | false =>
        rw [hq] at hc
        have Hc := Lib.hid hc
        have Hq := Lib.hid hq
        clear hc hq
        go_wp2_with (go_at_fn g; refine (Hc.out _).mono ?_; rintro e w' ⟨rfl, rfl⟩)
        go_ret
        refine ⟨?_, rfl⟩
        show Ending.returned (.bool false) = _
        unfold P.allS
        cases h : s.data.toList.all p with
        | true => have := Ha.out h; rw [Hq.out] at this; cases this
        | false => rfl
    · have hk' : k = s.size := by omega
      have hA : s.data.toList.all p = true := by
        have := A.out; rw [hk', List.take_of_length_le (by simp)] at this; exact this
      have HA := Lib.hid hA
      clear hA hk' A
      go_wp2
      go_ret
      exact ⟨by unfold P.allS; rw [HA.out]; rfl, rfl⟩
end Go.Proofs.YtemnhihpoabefaaGreatDoor
