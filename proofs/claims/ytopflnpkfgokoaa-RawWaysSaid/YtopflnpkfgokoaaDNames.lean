/- Walks: bytes and the closures over them; package ver's all; names. -/
import Derived.Test.YtopflnpkfgokoaaMPure
import Derived.Test.YtopflnpkfgokoaaRows
import Derived.WalkKit
import Derived.WalkSpells
import Derived.WalkLawsBesides
import Derived.BigQuiet
import Derived.Outline
import Derived.Lib.Hide
import Derived.Deep.LoopGhost
import Derived.Shelf.Abstract
namespace Go.Proofs.Ytopflnpkfgokoaa
open Go.RowKit Go.Lib Go.Shelf

theorem aside {p : Prop} (h : p) : Aside p := h
theorem dF {a b : Int} (h : b < a) : decide (a ≤ b) = false := decide_eq_false (by omega)

theorem isSmall_any (c : UInt8) (w : World) :
    Calls Try.prog 12 #[.int .u8 (c.toNat : Int)] w fun e w' => e = .returned (.bool (P.sml c)) ∧ w = w' := by
  by_cases h : (97 : Int) ≤ c.toNat
  · go_enter Try.func12, Try.ntmps12
    go_wp2
    go_ret
    exact ⟨by rw [P.sml, decide_eq_true h]; rfl, rfl⟩
  · go_enter Try.func12, Try.ntmps12
    go_wp2
    go_ret
    exact ⟨by rw [P.sml, dF (by omega)]; rfl, rfl⟩

theorem isDigit_any (c : UInt8) (w : World) :
    Calls Try.prog 15 #[.int .u8 (c.toNat : Int)] w fun e w' => e = .returned (.bool (P.dig c)) ∧ w = w' := by
  by_cases h : (48 : Int) ≤ c.toNat
  · go_enter Try.func15, Try.ntmps15
    go_wp2
    go_ret
    exact ⟨by rw [P.dig, decide_eq_true h]; rfl, rfl⟩
  · go_enter Try.func15, Try.ntmps15
    go_wp2
    go_ret
    exact ⟨by rw [P.dig, dF (by omega)]; rfl, rfl⟩

theorem nameC_any (c : UInt8) (w : World) :
    Calls Try.prog 14 #[.int .u8 (c.toNat : Int)] w fun e w' => e = .returned (.bool (P.nameC c)) ∧ w = w' := by
  have hs := isSmall_any c
  have hd := isDigit_any c
  unfold P.nameC
  cases h1 : P.sml c <;> cases h2 : P.dig c <;> rw [h1] at hs <;> rw [h2] at hd <;> cases h3 : ((c.toNat : Int) == 45) <;> clear h1 h2
  all_goals
    have Hs := Lib.hid hs
    have Hd := Lib.hid hd
    clear hs hd
    go_enter Try.func14, Try.ntmps14
    go_wp2_with (first | (go_at_call 12; refine (Hs.out _).mono ?_; rintro e w' ⟨rfl, rfl⟩) | (go_at_call 15; refine (Hd.out _).mono ?_; rintro e w' ⟨rfl, rfl⟩))
    go_ret
    exact ⟨rfl, rfl⟩

/-- A closure on bytes that answers p. -/
def ByteFn (g : Nat) (p : UInt8 → Bool) : Prop :=
  (∀ args w, (callFunc g args).run Try.prog w = .ok (.enter g args) w) ∧
  ∀ (c : UInt8) (w : World), Calls Try.prog g #[.int .u8 (c.toNat : Int)] w fun e w' => e = .returned (.bool (p c)) ∧ w = w'

theorem ByteFn.name : ByteFn 14 P.nameC := ⟨enters_of Try.func14 (by kernel_rfl) rfl, nameC_any⟩

theorem all_any (g : Nat) (p : UInt8 → Bool) (hf : ByteFn g p) (s : ByteArray) (hs : s.size ≤ 9223372036854775807) (w : World) :
    Calls Try.prog 13 #[.string s, .func (.func g) #[] #[]] w fun e w' => e = .returned (.bool (P.allS p s)) ∧ w = w' := by
  obtain ⟨eg, hp⟩ := hf
  have Hp := Lib.hid hp
  clear hp
  go_enter Try.func13, Try.ntmps13
  go_wp2
  go_loop [8] (fun i => ∃ k : Nat, k ≤ s.size ∧ i = .int .i64 k ∧ Aside ((s.data.toList.take k).all p = true)) (fun i => s.size - (intOf i).toNat)
  case atStart => exact ⟨0, Nat.zero_le _, rfl, aside (by simp)⟩
  case round =>
    obtain ⟨k, hk, rfl, A⟩ := hrel
    by_cases hlt : k < s.size
    · have hc := Hp.out s[k]
      have hstep : (s.data.toList.take (k + 1)).all p = p s[k] := by
        rw [List.take_succ_eq_append_getElem (by simpa using hlt), List.all_append, A.out]; simp; rfl
      have hall : s.data.toList.all p = true → p s[k] = true := fun h => List.all_eq_true.1 h _ (by simp [ByteArray.getElem_eq_getElem_data])
      have Hs := Lib.hid hstep
      have Ha := Lib.hid hall
      clear hstep hall A
      cases hq : p s[k] with
      | true =>
        rw [hq] at hc
        have Hc := Lib.hid hc
        have Hq := Lib.hid hq
        clear hc hq
        go_wp2_with (go_at_fn g; refine (Hc.out _).mono ?_; rintro e w' ⟨rfl, rfl⟩)
        go_round
        case rel => exact ⟨k + 1, by omega, by go_num, aside (by rw [Hs.out, Hq.out])⟩
        case measure => simp [intOf]; omega
      | false =>
        rw [hq] at hc
        have Hc := Lib.hid hc
        have Hq := Lib.hid hq
        clear hc hq
        go_wp2_with (go_at_fn g; refine (Hc.out _).mono ?_; rintro e w' ⟨rfl, rfl⟩)
        go_ret
        refine ⟨?_, rfl⟩
        show Ending.returned (.bool false) = _
        unfold P.allS
        cases h : s.data.toList.all p with
        | true => have := Ha.out h; rw [Hq.out] at this; cases this
        | false => rfl
    · have hk' : k = s.size := by omega
      have hA : s.data.toList.all p = true := by
        have := A.out; rw [hk', List.take_of_length_le (by simp)] at this; exact this
      have HA := Lib.hid hA
      clear hA hk' A
      go_wp2
      go_ret
      exact ⟨by unfold P.allS; rw [HA.out]; rfl, rfl⟩
theorem ne_of {s : ByteArray} (h : s.toList.isEmpty = false) : ¬ s.toList = [] := by simpa using h
theorem eq_of {s : ByteArray} (h : s.toList.isEmpty = true) : s.toList = [] := by simpa using h
theorem pos_of {s : ByteArray} (h : s.toList.isEmpty = false) : 0 < s.size := by
  rw [P.nonempty_iff] at h; rw [← P.size_len]; exact List.length_pos_iff.2 h
theorem isName_any (s : ByteArray) (hs : s.size ≤ 4294967280) (w : World) :
    Calls Try.prog 7 #[.string s] w fun e w' => e = .returned (.bool (P.nameS s)) ∧ w = w' := by
  cases h1 : s.toList.isEmpty with
  | true =>
    have hr : Hid (P.nameS s = false) := Lib.hid (by rw [P.empty_iff] at h1; unfold P.nameS; rw [h1]; rfl)
    have h1' := eq_of h1
    clear h1
    go_enter Try.func7, Try.ntmps7
    go_wp2_with fail
    go_ret
    exact ⟨by rw [hr.out]; rfl, rfl⟩
  | false =>
    have h1' := ne_of h1
    have h0 := pos_of h1
    have hh := P.head_get s h0
    have hcase : P.nameS s = (decide (s.size ≤ 40) && P.sml s[0] && P.allS P.nameC s) := by
      have hl := P.size_len s
      unfold P.nameS P.allS
      generalize s.data.toList = l at hh hl
      rw [← hl]
      cases l with
      | nil => cases hh
      | cons c t => injection hh with hc _; rw [← hc]; rfl
    clear hh
    by_cases h2 : s.size ≤ 40
    · have hs0 := isSmall_any s[0]
      cases h3 : P.sml s[0] with
      | true =>
        rw [h3] at hs0 hcase
        rw [decide_eq_true h2] at hcase
        have Hs := Lib.hid hs0
        have Hc := Lib.hid hcase
        clear hs0 hcase h3
        go_enter Try.func7, Try.ntmps7
        go_wp2_with (first | (go_at_call 12; refine (Hs.out _).mono ?_; rintro e w' ⟨rfl, rfl⟩) | (go_at_call 13; refine (all_any _ _ ByteFn.name s (by omega) _).mono ?_; rintro e w' ⟨rfl, rfl⟩))
        go_ret
        exact ⟨by rw [Hc.out]; simp, rfl⟩
      | false =>
        rw [h3] at hs0 hcase
        have Hs := Lib.hid hs0
        have Hc := Lib.hid hcase
        clear hs0 hcase h3
        go_enter Try.func7, Try.ntmps7
        go_wp2_with (first | (go_at_call 12; refine (Hs.out _).mono ?_; rintro e w' ⟨rfl, rfl⟩) | (go_at_call 13; refine (all_any _ _ ByteFn.name s (by omega) _).mono ?_; rintro e w' ⟨rfl, rfl⟩))
        go_ret
        exact ⟨by rw [Hc.out]; simp, rfl⟩
    · rw [decide_eq_false h2] at hcase
      have Hc := Lib.hid hcase
      clear hcase
      go_enter Try.func7, Try.ntmps7
      go_wp2_with fail
      go_ret
      exact ⟨by rw [Hc.out]; simp, rfl⟩

theorem name_a : P.nameS ⟨#[97]⟩ = true := by decide +kernel
theorem landed_any (w : World) : Calls Try.prog 4 #[] w fun e w' => e = .returned (.bool true) ∧ w = w' := by
  have H := fun W => isName_any ⟨#[97]⟩ (by decide) W
  rw [name_a] at H
  replace H := Lib.hid H
  go_enter Try.func4, Try.ntmps4
  go_wp2_with (go_at_call 7; refine (H.out _).mono ?_; rintro e w' ⟨rfl, rfl⟩)
  go_ret
  exact ⟨rfl, rfl⟩
theorem below_alloc (w : World) (o : Obj) : Below w.heap.size w (w.alloc o) := (Below.refl _ _).alloc (Nat.le_refl _) o

/-- Block k holds vs, and may be written. -/
structure HasRow (W : World) (k : Nat) (vs : Array Value) : Prop where
  cell : ∀ i, W.cell? ⟨k, i, none⟩ = vs[i]?
  free : ∀ i, W.frozen? ⟨k, i, none⟩ = false
  lt : k < W.heap.size
theorem HasRow.new (w : World) (vs : Array Value) (t : TypeId) : HasRow (w.alloc (.cells vs t)) w.heap.size vs :=
  ⟨fun i => World.cell?_alloc_at _ _ _ _ rfl, fun i => World.frozen?_alloc_at _ _ _ _ rfl, by simp⟩
theorem HasRow.below {W W' : World} {k : Nat} {vs : Array Value} (h : HasRow W k vs) (hb : Below W.heap.size W W') : HasRow W' k vs :=
  ⟨fun i => by rw [hb.cell (p := ⟨k, i, none⟩) h.lt]; exact h.cell i, fun i => by rw [hb.frozen (p := ⟨k, i, none⟩) h.lt]; exact h.free i, Nat.lt_of_lt_of_le h.lt hb.size⟩
theorem HasRow.alloc {W : World} {k : Nat} {vs : Array Value} (h : HasRow W k vs) (o : Obj) : HasRow (W.alloc o) k vs := h.below (below_alloc _ _)
theorem HasRow.set {W : World} {k : Nat} {vs : Array Value} (h : HasRow W k vs) (j : Nat) (v : Value) (hj : j < vs.size) : HasRow (W.setCell ⟨k, j, none⟩ v) k (vs.setIfInBounds j v) := by
  refine ⟨fun i => ?_, fun i => ?_, by simpa [World.setCell] using h.lt⟩
  · by_cases e : i = j
    · subst e
      rw [World.cell?_setCell_same' _ _ _ (by rw [h.cell]; simp [hj])]
      simp [hj]
    · rw [World.cell?_setCell_other (h := show (⟨k, j, none⟩ : Addr) ≠ ⟨k, i, none⟩ from fun h' => e (by injection h' with _ h2; exact h2.symm)), h.cell]
      rw [Array.getElem?_setIfInBounds_ne (by omega)]
  · rw [World.frozen?_setCell]; exact h.free i
theorem HasRow.other {W : World} {k k' : Nat} {vs : Array Value} (h : HasRow W k vs) (j : Nat) (v : Value) (hne : k ≠ k') : HasRow (W.setCell ⟨k', j, none⟩ v) k vs := by
  refine ⟨fun i => ?_, fun i => ?_, by simpa [World.setCell] using h.lt⟩
  · rw [World.cell?_setCell_other (h := show (⟨k', j, none⟩ : Addr) ≠ ⟨k, i, none⟩ from fun h' => hne (by injection h' with h1 _; exact h1.symm))]; exact h.cell i
  · rw [World.frozen?_setCell]; exact h.free i

/-- .. it stays while another block is written -/
theorem HasRow.grown {W W' : World} {k : Nat} {vs : Array Value} {row : Option Nat} (h : HasRow W k vs) (hg : W.grownBy W' row) (hne : some k ≠ row) : HasRow W' k vs :=
  ⟨fun i => by rw [World.cell?_of_block (w := W) (a := ⟨k, i, none⟩) (hg.block k h.lt hne)]; exact h.cell i, fun i => by rw [World.frozen?_of_block (w := W) (a := ⟨k, i, none⟩) (hg.block k h.lt hne)]; exact h.free i, Nat.lt_of_lt_of_le h.lt hg.size⟩
theorem bstep {w w1 w2 : World} (h : Below w.heap.size w w1) (k : Below w1.heap.size w1 w2) : Below w.heap.size w w2 := h.trans (k.mono h.size)
theorem hrow1 {W : World} {k : Nat} {a : Value} (h : HasRow W k #[a]) : W.cell? ⟨k, 0, none⟩ = some a ∧ W.frozen? ⟨k, 0, none⟩ = false ∧ k < W.heap.size := ⟨h.cell 0, h.free 0, h.lt⟩
theorem hrow2 {W : World} {k : Nat} {a b : Value} (h : HasRow W k #[a, b]) : W.cell? ⟨k, 0, none⟩ = some a ∧ W.cell? ⟨k, 1, none⟩ = some b ∧ k < W.heap.size := ⟨h.cell 0, h.cell 1, h.lt⟩
theorem hrow3 {W : World} {k : Nat} {a b c : Value} (h : HasRow W k #[a, b, c]) : W.cell? ⟨k, 0, none⟩ = some a ∧ W.cell? ⟨k, 1, none⟩ = some b ∧ W.cell? ⟨k, 2, none⟩ = some c ∧ k < W.heap.size := ⟨h.cell 0, h.cell 1, h.cell 2, h.lt⟩
theorem hrow4 {W : World} {k : Nat} {a b c d : Value} (h : HasRow W k #[a, b, c, d]) : W.cell? ⟨k, 0, none⟩ = some a ∧ W.cell? ⟨k, 1, none⟩ = some b ∧ W.cell? ⟨k, 2, none⟩ = some c ∧ W.cell? ⟨k, 3, none⟩ = some d ∧ k < W.heap.size := ⟨h.cell 0, h.cell 1, h.cell 2, h.cell 3, h.lt⟩
theorem cell_keep {W W' : World} {p : Addr} {v : Value} (hb : Below W.heap.size W W') (h : W.cell? p = some v) : W'.cell? p = some v := by
  have hlt : p.block < W.heap.size := by
    unfold World.cell? at h
    split at h
    · rename_i hh; exact (Array.getElem?_eq_some_iff.1 hh).1
    · cases h
  rw [hb.cell hlt]; exact h
theorem grown_set (W : World) (b : Nat) (v : Value) : W.grownBy (W.setCell ⟨b, 0, none⟩ v) (some b) :=
  ⟨rfl, rfl, rfl, by simp [World.setCell], fun k _ hk => Below.heap_setCell W _ v k (fun e => hk (by rw [e]))⟩
theorem HasRow.drew {W : World} {k : Nat} {vs : Array Value} (h : HasRow W k vs) : HasRow W.drew k vs := ⟨h.cell, h.free, h.lt⟩
end Go.Proofs.Ytopflnpkfgokoaa
