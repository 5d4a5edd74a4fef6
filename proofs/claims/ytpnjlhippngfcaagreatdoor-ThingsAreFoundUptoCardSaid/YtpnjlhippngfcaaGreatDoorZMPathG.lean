/- Walks: package outref1: IsPath, and the world behind it. -/
import Derived.Test.YtpnjlhippngfcaaGreatDoorZMRefE
import Derived.Shelf.SlSortCmp.QuietGrown
import Derived.Shelf.GgClosure.Gives
import Derived.Test.YtpnjlhippngfcaaGreatDoorZMRefA
import Derived.Test.YtpnjlhippngfcaaGreatDoorZMNames

namespace Go.Proofs.YtpnjlhippngfcaaGreatDoor
open Go.RowKit Go.Shelf Go.Sort
theorem rpathG (s : ByteArray) (hs : s.size ≤ 4294967280) (w : World) (hw : Good w) :
    Calls Tryz.prog 36 #[.string s] w fun e w' => e = .returned (.bool (P.pathS s)) ∧ w' = w.alloc (.cells ((P.splitS s 47).map Value.string).toArray 9) := by
  have HT := Lib.hid (@P.path_of_parts s)
  have HF := Lib.hid (@P.path_of_bad s)
  have hsz := P.splitS_size s 47
  have Hsplit := Lib.hid (split_any s 47 (by omega) w hw)
  have hb := below_alloc w (.cells ((P.splitS s 47).map Value.string).toArray 9)
  have hcells := fun k h => pieces_cell w (P.splitS s 47) 9 k h
  have hlen : (P.splitS s 47).length ≤ 4294967281 := by rw [P.splitS_length]; have := Lib.countB_le ⟨#[47]⟩ (P.one_le 47) _ s (Nat.le_refl _); omega
  generalize P.splitS s 47 = l at *
  have HB := Lib.hid hb
  have HC := Lib.hid hcells
  have HZ := Lib.hid hsz
  clear hb hcells hsz
  go_enter Tryz.func36, Tryz.ntmps36
  go_wp2_with fail
  refine (Hsplit.out).mono ?_
  rintro e w1 ⟨rfl, hw1⟩
  have hc1 : ∀ k (h : k < l.length), w1.cell? ⟨w.heap.size, k, none⟩ = some (.string l[k]) := fun k h => by rw [hw1]; exact HC.out k h
  have hb1 : Below w.heap.size w w1 := by rw [hw1]; exact HB.out
  have HC1 := Lib.hid hc1
  have HB1 := Lib.hid hw1
  clear hc1 hb1 hw1 HC HB Hsplit
  go_wp2
  go_loop [8] (fun i => ∃ k : Nat, k ≤ l.length ∧ i = .int .i64 k ∧ Aside ((l.take k).all P.partS = true)) (fun i => l.length - (intOf i).toNat)
  case atStart => exact ⟨0, Nat.zero_le _, rfl, aside (by simp)⟩
  case round =>
    obtain ⟨k, hk, rfl, A⟩ := hrel
    by_cases hlt : k < l.length
    · have hcell := HC1.out k hlt
      have hp := rpart_any l[k] (by have := HZ.out k hlt; omega)
      have hstep : (l.take (k + 1)).all P.partS = P.partS l[k] := by
        rw [List.take_succ_eq_append_getElem hlt, List.all_append, A.out]; simp
      have hall : l.all P.partS = true → P.partS l[k] = true := fun h => List.all_eq_true.1 h _ (List.getElem_mem hlt)
      have Hs := Lib.hid hstep
      have Ha := Lib.hid hall
      clear hstep hall A
      generalize l[k] = x at *
      cases hq : P.partS x <;> rw [hq] at hp
      all_goals
        have Hp := Lib.hid hp
        have Hq := Lib.hid hq
        clear hp hq
        go_wp2_with (go_at_call 102; refine (Hp.out _).mono ?_; rintro e w' ⟨rfl, rfl⟩)
      · have HR := Lib.hid (HF.out (by
          cases h : l.all P.partS with
          | true => have := Ha.out h; rw [Hq.out] at this; cases this
          | false => rfl))
        go_ret
        exact ⟨by rw [HR.out]; rfl, HB1.out⟩
      · go_round
        case rel => exact ⟨k + 1, by omega, by go_num, aside (by rw [Hs.out, Hq.out])⟩
        case measure => simp [intOf]; omega
    · have hk' : k = l.length := by omega
      have hA : l.all P.partS = true := by have := A.out; rw [hk', List.take_of_length_le (Nat.le_refl _)] at this; exact this
      have HR := Lib.hid (HT.out hA)
      clear hA hk' A HT HF
      go_wp2
      go_ret
      exact ⟨by rw [HR.out]; exact congrArg (fun b => Ending.returned (Value.bool b)) (decide_eq_decide.2 (by omega)), HB1.out⟩
end Go.Proofs.YtpnjlhippngfcaaGreatDoor
