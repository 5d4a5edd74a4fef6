/- Walks: versions of package outlaw2. -/
import Derived.Test.YtffblkkhjphcfaaGreatDoorRefL
import Derived.Test.YtffblkkhjphcfaaGreatDoorPure6
import Derived.Test.YtffblkkhjphcfaaGreatDoorParse
import Derived.Test.YtffblkkhjphcfaaGreatDoorNext2
namespace Go.Proofs.YtffblkkhjphcfaaGreatDoor
open Go.RowKit Go.Shelf

theorem itoa_digit (k : Nat) (h : k < 10) : Lib.itoa k = [UInt8.ofNat (48 + k)] := by
  unfold Lib.itoa
  rw [if_neg (by omega)]
  rw [show ((k : Int)).toNat = k from rfl, Lib.decDigits, dif_pos h]
theorem one_verr : P.verr 1 0 0 ⟨#[]⟩ = 0 := by
  unfold P.verr
  rw [if_pos (by decide), Lib.toList_data]; rfl
theorem one_print : printS 1 0 0 ⟨#[]⟩ = ⟨#[49, 46, 48, 46, 48]⟩ := by
  unfold printS
  rw [if_pos one_verr]
  unfold P.vtextL
  rw [show Lib.itoa 1 = [49] from itoa_digit 1 (by decide), show Lib.itoa 0 = [48] from itoa_digit 0 (by decide)]
  rfl

theorem versions_any (w : World) (hw : Good w) :
    Calls Tryz.prog 15 #[] w fun e w' => e = .returned (.bool true) ∧ Below w.heap.size w w' := by
  have HP := fun W hW => print_any 1 0 0 ⟨#[]⟩ (by decide) W hW
  rw [one_verr, one_print] at HP
  have HP := Lib.hid HP
  have Hw := Lib.hid hw
  clear hw
  go_enter Tryz.func15, Tryz.ntmps15
  go_wp2_with fail
  go_at_call 11
  refine (HP.out _ ?_).mono ?_
  rotate_left
  rintro e w1 ⟨rfl, hb1⟩
  go_wp2_with fail
  · go_ret
    exact ⟨rfl, hb1⟩
  · exact Hw.out
end Go.Proofs.YtffblkkhjphcfaaGreatDoor
