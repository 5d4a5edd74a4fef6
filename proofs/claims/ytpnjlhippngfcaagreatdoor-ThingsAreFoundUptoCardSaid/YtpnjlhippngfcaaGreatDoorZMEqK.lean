/- Walks: slices.Equal of texts, where they are equal; outlaw1's named. -/
import Derived.Test.YtpnjlhippngfcaaGreatDoorZMBelow
import Derived.Test.YtpnjlhippngfcaaGreatDoorZMSearch
import Derived.Test.YtpnjlhippngfcaaGreatDoorZMIndex
import Derived.BigQuiet

namespace Go.Proofs.YtpnjlhippngfcaaGreatDoor
open Go.RowKit Go.Shelf

theorem kys_of {W : World} {base n c : Nat} {p : Option Addr} {L : List ByteArray} (h : W.ownsRow base 9 1 (.slice p n c) n (L.map Value.string)) (hn : n = L.length) : KysAt base W.heap.size W p L := by
  subst hn
  obtain ⟨a, cap, e, hk⟩ := ownAtK h
  cases e
  exact hk
theorem KysAt.below {lo : Nat} {W W' : World} {a : Option Addr} {L : List ByteArray} (h : KysAt lo W.heap.size W a L) (hb : Below W.heap.size W W') : KysAt lo W'.heap.size W' a L :=
  ⟨fun hn => let ⟨b, e, h1, h2, h3⟩ := h.at_ hn; ⟨b, e, h1, Nat.lt_of_lt_of_le h2 hb.size, fun k hk => cell_keep hb (h3 k hk)⟩⟩
set_option maxHeartbeats 4000000 in
theorem equalK_any (L : List ByteArray) (n : Nat) (hn : n = L.length) (hL : n ≤ 4294967280) (a b : Option Addr) (ca cb lo1 lo2 : Nat) (w : World) (ha : KysAt lo1 w.heap.size w a L) (hb : KysAt lo2 w.heap.size w b L) :
    Calls Tryz.prog 38 #[.slice a n ca, .slice b n cb] w fun e w' => e = .returned (.bool true) ∧ Below w.heap.size w w' := by
  have HA := Lib.hid ha
  have HB := Lib.hid hb
  have HN := Lib.hid hn
  clear ha hb hn
  go_enter Tryz.func38, Tryz.ntmps38
  go_wp2_with fail
  go_loopw [13] (fun i wr => ∃ k : Nat, k ≤ n ∧ i = .int .i64 k ∧ Hid (Below w.heap.size w wr)) (fun i _ => n - (intOf i).toNat)
  case atStart => exact ⟨0, Nat.zero_le _, rfl, Lib.hid (Below.refl _ _)⟩
  case round =>
    obtain ⟨k, hk, rfl, HW⟩ := hrel
    by_cases hlt : k < n
    · have hlt2 : k < L.length := by rw [← HN.out]; exact hlt
      obtain ⟨b1, rfl, _, _, h1⟩ := (HA.out.below HW.out).at_ (ne_nil_of_lt hlt2)
      obtain ⟨b2, rfl, _, _, h2⟩ := (HB.out.below HW.out).at_ (ne_nil_of_lt hlt2)
      have c1 := h1 k hlt2
      have c2 := h2 k hlt2
      have i1 : (k : Int) < (n : Int) := by omega
      have i0 : (0 : Int) ≤ (k : Int) := by omega
      clear h1 h2
      generalize L[k] = x at *
      go_wp2_with fail
      go_region
      have HW2 := Lib.hid HW.out.drew
      go_wp2_with fail
      go_roundw
      case rel => exact ⟨k + 1, by omega, by go_num, HW2⟩
      case measure => simp [intOf]; omega
    · obtain rfl : k = n := by omega
      go_wp2_with fail
      go_ret
      exact ⟨rfl, HW.out⟩

theorem named_any (ok there : Bool) (r : Int) (hr : r = P.lookE ok there) (w : World) : Calls Tryz.prog 27 #[.bool ok, .bool there, .int .i64 r] w fun e w' => e = .returned (.bool true) ∧ w = w' := by
  subst hr
  cases ok <;> cases there <;> simp only [P.lookE, if_true, if_false, Bool.false_eq_true]
  all_goals
    go_enter Tryz.func27, Tryz.ntmps27
    go_wp2_with fail
    go_ret
    exact ⟨rfl, rfl⟩
end Go.Proofs.YtpnjlhippngfcaaGreatDoor
