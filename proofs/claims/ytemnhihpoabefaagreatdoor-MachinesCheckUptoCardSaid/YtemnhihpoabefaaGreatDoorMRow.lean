/- Rows of memory that a call keeps; steps of worlds. -/
import Derived.Test.YtemnhihpoabefaaGreatDoorMWorld
namespace Go.Proofs.YtemnhihpoabefaaGreatDoor
open Go.RowKit Go.Shelf

/-- Block k holds vs, and may be written. -/
structure HasRow (W : World) (k : Nat) (vs : Array Value) : Prop where
  cell : ∀ i, W.cell? ⟨k, i, none⟩ = vs[i]?
  free : ∀ i, W.frozen? ⟨k, i, none⟩ = false
  lt : k < W.heap.size
theorem HasRow.new (w : World) (vs : Array Value) (t : TypeId) : HasRow (w.alloc (.cells vs t)) w.heap.size vs :=
  ⟨fun i => World.cell?_alloc_at _ _ _ _ rfl, fun i => World.frozen?_alloc_at _ _ _ _ rfl, by simp⟩
theorem HasRow.below {W W' : World} {k : Nat} {vs : Array Value} (h : HasRow W k vs) (hb : Below W.heap.size W W') : HasRow W' k vs :=
  ⟨fun i => by rw [hb.cell (p := ⟨k, i, none⟩) h.lt]; exact h.cell i, fun i => by rw [hb.frozen (p := ⟨k, i, none⟩) h.lt]; exact h.free i, Nat.lt_of_lt_of_le h.lt hb.size⟩
theorem HasRow.alloc {W : World} {k : Nat} {vs : Array Value} (h : HasRow W k vs) (o : Obj) : HasRow (W.alloc o) k vs := h.below (below_alloc _ _)
theorem HasRow.set {W : World} {k : Nat} {vs : Array Value} (h : HasRow W k vs) (j : Nat) (v : Value) (hj : j < vs.size) : HasRow (W.setCell ⟨k, j, none⟩ v) k (vs.setIfInBounds j v) := by
  refine ⟨fun i => ?_, fun i => ?_, by simpa [World.setCell] using h.lt⟩
  · by_cases e : i = j
    · subst e
      rw [World.cell?_setCell_same' _ _ _ (by rw [h.cell]; simp [hj])]
      simp [hj]
    · rw [World.cell?_setCell_other (h := show (⟨k, j, none⟩ : Addr) ≠ ⟨k, i, none⟩ from fun h' => e (by injection h' with _ h2; exact h2.symm)), h.cell]
      rw [Array.getElem?_setIfInBounds_ne (by omega)]
  · rw [World.frozen?_setCell]; exact h.free i
theorem HasRow.other {W : World} {k k' : Nat} {vs : Array Value} (h : HasRow W k vs) (j : Nat) (v : Value) (hne : k ≠ k') : HasRow (W.setCell ⟨k', j, none⟩ v) k vs := by
  refine ⟨fun i => ?_, fun i => ?_, by simpa [World.setCell] using h.lt⟩
  · rw [World.cell?_setCell_other (h := show (⟨k', j, none⟩ : Addr) ≠ ⟨k, i, none⟩ from fun h' => hne (by injection h' with h1 _; exact h1.symm))]; exact h.cell i
  · rw [World.frozen?_setCell]; exact h.free i

/-- .. it stays while another block is written -/
theorem HasRow.grown {W W' : World} {k : Nat} {vs : Array Value} {row : Option Nat} (h : HasRow W k vs) (hg : W.grownBy W' row) (hne : some k ≠ row) : HasRow W' k vs :=
  ⟨fun i => by rw [World.cell?_of_block (w := W) (a := ⟨k, i, none⟩) (hg.block k h.lt hne)]; exact h.cell i, fun i => by rw [World.frozen?_of_block (w := W) (a := ⟨k, i, none⟩) (hg.block k h.lt hne)]; exact h.free i, Nat.lt_of_lt_of_le h.lt hg.size⟩
theorem bstep {w w1 w2 : World} (h : Below w.heap.size w w1) (k : Below w1.heap.size w1 w2) : Below w.heap.size w w2 := h.trans (k.mono h.size)
theorem hrow1 {W : World} {k : Nat} {a : Value} (h : HasRow W k #[a]) : W.cell? ⟨k, 0, none⟩ = some a ∧ W.frozen? ⟨k, 0, none⟩ = false ∧ k < W.heap.size := ⟨h.cell 0, h.free 0, h.lt⟩
theorem hrow2 {W : World} {k : Nat} {a b : Value} (h : HasRow W k #[a, b]) : W.cell? ⟨k, 0, none⟩ = some a ∧ W.cell? ⟨k, 1, none⟩ = some b ∧ k < W.heap.size := ⟨h.cell 0, h.cell 1, h.lt⟩
theorem hrow3 {W : World} {k : Nat} {a b c : Value} (h : HasRow W k #[a, b, c]) : W.cell? ⟨k, 0, none⟩ = some a ∧ W.cell? ⟨k, 1, none⟩ = some b ∧ W.cell? ⟨k, 2, none⟩ = some c ∧ k < W.heap.size := ⟨h.cell 0, h.cell 1, h.cell 2, h.lt⟩
theorem hrow4 {W : World} {k : Nat} {a b c d : Value} (h : HasRow W k #[a, b, c, d]) : W.cell? ⟨k, 0, none⟩ = some a ∧ W.cell? ⟨k, 1, none⟩ = some b ∧ W.cell? ⟨k, 2, none⟩ = some c ∧ W.cell? ⟨k, 3, none⟩ = some d ∧ k < W.heap.size := ⟨h.cell 0, h.cell 1, h.cell 2, h.cell 3, h.lt⟩
theorem cell_keep {W W' : World} {p : Addr} {v : Value} (hb : Below W.heap.size W W') (h : W.cell? p = some v) : W'.cell? p = some v := by
  have hlt : p.block < W.heap.size := by
    unfold World.cell? at h
    split at h
    · rename_i hh; exact (Array.getElem?_eq_some_iff.1 hh).1
    · cases h
  rw [hb.cell hlt]; exact h
theorem grown_set (W : World) (b : Nat) (v : Value) : W.grownBy (W.setCell ⟨b, 0, none⟩ v) (some b) :=
  ⟨rfl, rfl, rfl, by simp [World.setCell], fun k _ hk => Below.heap_setCell W _ v k (fun e => hk (by rw [e]))⟩
theorem HasRow.drew {W : World} {k : Nat} {vs : Array Value} (h : HasRow W k vs) : HasRow W.drew k vs := ⟨h.cell, h.free, h.lt⟩
end Go.Proofs.YtemnhihpoabefaaGreatDoor
