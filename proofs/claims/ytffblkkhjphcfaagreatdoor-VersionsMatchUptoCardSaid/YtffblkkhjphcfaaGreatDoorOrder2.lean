/- Walks: lists of words, early tails and versions in order (package ver). -/
import Derived.Test.YtffblkkhjphcfaaGreatDoorOrder
namespace Go.Proofs.YtffblkkhjphcfaaGreatDoor
open Go.RowKit Go.Shelf

theorem listCmp_step {l m : List ByteArray} {k : Nat} (h1 : k < l.length) (h2 : k < m.length) :
    P.listCmp (l.drop k) (m.drop k) = if P.wordCmp l[k] m[k] = 0 then P.listCmp (l.drop (k + 1)) (m.drop (k + 1)) else P.wordCmp l[k] m[k] := by
  rw [List.drop_eq_getElem_cons h1, List.drop_eq_getElem_cons h2, P.listCmp]
theorem listCmp_long {l m : List ByteArray} {k : Nat} (h1 : k < l.length) (h2 : m.length ≤ k) : P.listCmp (l.drop k) (m.drop k) = 1 := by
  rw [List.drop_eq_getElem_cons h1, List.drop_eq_nil_of_le h2, P.listCmp]
theorem listCmp_short {l m : List ByteArray} {k : Nat} (h1 : l.length ≤ k) (h2 : k < m.length) : P.listCmp (l.drop k) (m.drop k) = -1 := by
  rw [List.drop_eq_getElem_cons h2, List.drop_eq_nil_of_le h1, P.listCmp]
theorem listCmp_end {l m : List ByteArray} {k : Nat} (h1 : l.length ≤ k) (h2 : m.length ≤ k) : P.listCmp (l.drop k) (m.drop k) = 0 := by
  rw [List.drop_eq_nil_of_le h1, List.drop_eq_nil_of_le h2, P.listCmp]

set_option maxHeartbeats 1000000 in
theorem compareFunc_any (b1 b2 : Nat) (l m : List ByteArray) (hl : l.length ≤ 4294967281) (hm : m.length ≤ 4294967281) (zl : ∀ j (hj : j < l.length), l[j].size ≤ 4294967280) (zm : ∀ j (hj : j < m.length), m[j].size ≤ 4294967280) (w : World)
    (hb1 : b1 < w.heap.size) (hb2 : b2 < w.heap.size)
    (c1 : ∀ j (hj : j < l.length), w.cell? ⟨b1, j, none⟩ = some (.string l[j])) (c2 : ∀ j (hj : j < m.length), w.cell? ⟨b2, j, none⟩ = some (.string m[j])) :
    Calls Tryz.prog 205 #[.slice (some ⟨b1, 0, none⟩) l.length l.length, .slice (some ⟨b2, 0, none⟩) m.length m.length, .func (.func 206) #[] #[]] w fun e w' =>
      e = .returned (.int .i64 (P.listCmp l m)) ∧ Below w.heap.size w w' := by
  have C1 := Lib.hid c1
  have C2 := Lib.hid c2
  have Z1 := Lib.hid zl
  have Z2 := Lib.hid zm
  clear c1 c2 zl zm
  go_enter Tryz.func205, Tryz.ntmps205
  go_wp2
  go_loopw [13] (fun i wr => ∃ k : Nat, k ≤ l.length ∧ k ≤ m.length ∧ i = .int .i64 k ∧ Aside (P.listCmp l m = P.listCmp (l.drop k) (m.drop k)) ∧ Below w.heap.size w wr) (fun i _ => l.length - (intOf i).toNat)
  case atStart => exact ⟨0, Nat.zero_le _, Nat.zero_le _, rfl, aside (by simp), Below.refl _ _⟩
  case round =>
    obtain ⟨k, hk, hk2, rfl, A, hbw⟩ := hrel
    have HB := Lib.hid hbw
    clear hbw
    by_cases hlt : k < l.length
    · have hcell : wr.cell? ⟨b1, k, none⟩ = some (.string l[k]) := (HB.out.cell (p := ⟨b1, k, none⟩) hb1).trans (C1.out k hlt)
      by_cases hlt2 : k < m.length
      · have hcell2 : wr.cell? ⟨b2, k, none⟩ = some (.string m[k]) := (HB.out.cell (p := ⟨b2, k, none⟩) hb2).trans (C2.out k hlt2)
        have hstep := listCmp_step hlt hlt2
        have HO := Lib.hid (orderWords_any l[k] m[k] (Z1.out k hlt) (Z2.out k hlt2) wr)
        generalize l[k] = x at *
        generalize m[k] = y at *
        have A' := A.out
        clear A
        by_cases hz : P.wordCmp x y = 0
        · rw [if_pos hz] at hstep
          rw [hz] at HO
          have HR := Lib.hid (A'.trans hstep)
          clear A' hstep hz
          go_wp2_with (go_at_call 206; refine (HO.out).mono ?_; rintro e w' ⟨rfl, hb'⟩)
          go_roundw
          case rel => exact ⟨k + 1, by omega, by omega, by go_num, aside HR.out, below_step HB.out hb'⟩
          case measure => simp [intOf]; omega
        · rw [if_neg hz] at hstep
          have HR := Lib.hid (A'.trans hstep)
          have hz' : (P.wordCmp x y != 0) = true := by simpa using hz
          clear A' hstep
          generalize P.wordCmp x y = c at *
          go_wp2_with (go_at_call 206; refine (HO.out).mono ?_; rintro e w' ⟨rfl, hb'⟩)
          go_ret
          exact ⟨by rw [HR.out]; rfl, below_step HB.out (by assumption)⟩
      · have HR := Lib.hid (A.out.trans (listCmp_long hlt (by omega)))
        clear A
        go_wp2
        go_ret
        exact ⟨by rw [HR.out]; rfl, HB.out⟩
    · by_cases hlt2 : k < m.length
      · have HR := Lib.hid (A.out.trans (listCmp_short (by omega) hlt2))
        clear A
        go_wp2
        go_ret
        exact ⟨by rw [HR.out]; rfl, HB.out⟩
      · have HR := Lib.hid (A.out.trans (listCmp_end (l := l) (m := m) (k := k) (by omega) (by omega)))
        clear A
        go_wp2
        go_ret
        exact ⟨by rw [HR.out]; rfl, HB.out⟩
end Go.Proofs.YtffblkkhjphcfaaGreatDoor
