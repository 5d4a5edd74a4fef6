/- Plain facts: the classes of a byte. -/
import Derived.Test.YtemnhihpoabefaaGreatDoorMRefA
namespace Go.Proofs.YtemnhihpoabefaaGreatDoor
namespace P
theorem everyC {q : UInt8 → Prop} [DecidablePred q] (h : ∀ n, n < 256 → q (UInt8.ofNat n)) (c : UInt8) : q c := by
  have := h c.toNat (by have := c.toNat_lt; omega)
  rwa [UInt8.ofNat_toNat] at this
theorem clsN (c : UInt8) :
    (sml c = true ∧ nameC c = true ∧ (97 : Int) ≤ c.toNat ∧ (c.toNat : Int) ≤ 122) ∨ (sml c = false ∧ nameC c = true ∧ (48 : Int) ≤ c.toNat ∧ (c.toNat : Int) ≤ 57) ∨
    (sml c = false ∧ nameC c = true ∧ (c.toNat : Int) = 45) ∨ (sml c = false ∧ nameC c = true ∧ (c.toNat : Int) = 46) ∨
    (sml c = false ∧ nameC c = false ∧ (c.toNat : Int) < 48 ∧ ((c.toNat : Int) != 45) = true ∧ ((c.toNat : Int) != 46) = true) ∨
    (sml c = false ∧ nameC c = false ∧ (57 : Int) < c.toNat ∧ (c.toNat : Int) < 97 ∧ ((c.toNat : Int) != 45) = true ∧ ((c.toNat : Int) != 46) = true) ∨ (sml c = false ∧ nameC c = false ∧ (122 : Int) < c.toNat ∧ ((c.toNat : Int) != 45) = true ∧ ((c.toNat : Int) != 46) = true) :=
  everyC (q := fun c => (sml c = true ∧ nameC c = true ∧ (97 : Int) ≤ c.toNat ∧ (c.toNat : Int) ≤ 122) ∨ (sml c = false ∧ nameC c = true ∧ (48 : Int) ≤ c.toNat ∧ (c.toNat : Int) ≤ 57) ∨
    (sml c = false ∧ nameC c = true ∧ (c.toNat : Int) = 45) ∨ (sml c = false ∧ nameC c = true ∧ (c.toNat : Int) = 46) ∨
    (sml c = false ∧ nameC c = false ∧ (c.toNat : Int) < 48 ∧ ((c.toNat : Int) != 45) = true ∧ ((c.toNat : Int) != 46) = true) ∨
    (sml c = false ∧ nameC c = false ∧ (57 : Int) < c.toNat ∧ (c.toNat : Int) < 97 ∧ ((c.toNat : Int) != 45) = true ∧ ((c.toNat : Int) != 46) = true) ∨ (sml c = false ∧ nameC c = false ∧ (122 : Int) < c.toNat ∧ ((c.toNat : Int) != 45) = true ∧ ((c.toNat : Int) != 46) = true)) (by decide +kernel) c
theorem clsPt (c : UInt8) : partC c = true →
    ((97 : Int) ≤ c.toNat ∧ (c.toNat : Int) ≤ 122) ∨ ((65 : Int) ≤ c.toNat ∧ (c.toNat : Int) ≤ 90) ∨ ((48 : Int) ≤ c.toNat ∧ (c.toNat : Int) ≤ 57) ∨ (c.toNat : Int) = 45 ∨ (c.toNat : Int) = 46 ∨ (c.toNat : Int) = 95 :=
  everyC (q := fun c => partC c = true → ((97 : Int) ≤ c.toNat ∧ (c.toNat : Int) ≤ 122) ∨ ((65 : Int) ≤ c.toNat ∧ (c.toNat : Int) ≤ 90) ∨ ((48 : Int) ≤ c.toNat ∧ (c.toNat : Int) ≤ 57) ∨ (c.toNat : Int) = 45 ∨ (c.toNat : Int) = 46 ∨ (c.toNat : Int) = 95) (by decide +kernel) c
theorem clsPf (c : UInt8) : partC c = false →
    ((c.toNat : Int) < 48) ∨ ((57 : Int) < c.toNat ∧ (c.toNat : Int) < 65) ∨ ((90 : Int) < c.toNat ∧ (c.toNat : Int) < 97) ∨ ((122 : Int) < c.toNat) :=
  everyC (q := fun c => partC c = false → ((c.toNat : Int) < 48) ∨ ((57 : Int) < c.toNat ∧ (c.toNat : Int) < 65) ∨ ((90 : Int) < c.toNat ∧ (c.toNat : Int) < 97) ∨ ((122 : Int) < c.toNat)) (by decide +kernel) c
theorem clsPn (c : UInt8) : partC c = false →
    ((c.toNat : Int) != 45) = true ∧ ((c.toNat : Int) != 46) = true ∧ ((c.toNat : Int) != 95) = true :=
  everyC (q := fun c => partC c = false → ((c.toNat : Int) != 45) = true ∧ ((c.toNat : Int) != 46) = true ∧ ((c.toNat : Int) != 95) = true) (by decide +kernel) c
theorem clsV (c : UInt8) :
    (valC c = true ∧ (32 : Int) ≤ c.toNat ∧ (c.toNat : Int) ≤ 126) ∨ (valC c = false ∧ (c.toNat : Int) < 32) ∨ (valC c = false ∧ (126 : Int) < c.toNat) :=
  everyC (q := fun c => (valC c = true ∧ (32 : Int) ≤ c.toNat ∧ (c.toNat : Int) ≤ 126) ∨ (valC c = false ∧ (c.toNat : Int) < 32) ∨ (valC c = false ∧ (126 : Int) < c.toNat)) (by decide +kernel) c
end P
end Go.Proofs.YtemnhihpoabefaaGreatDoor
