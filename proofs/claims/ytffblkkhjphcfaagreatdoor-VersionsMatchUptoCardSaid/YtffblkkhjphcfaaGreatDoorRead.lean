/- Walks: versions read (package ver): the library's contracts in the walks' forms; rows of memory that a call keeps. -/
import Derived.Test.YtffblkkhjphcfaaGreatDoorNext2
import Derived.Test.YtffblkkhjphcfaaGreatDoorPure4
namespace Go.Proofs.YtffblkkhjphcfaaGreatDoor
open Go.RowKit Go.Shelf

/-- Block k holds vs, and may be written. -/
structure HasRow (W : World) (k : Nat) (vs : Array Value) : Prop where
  cell : ∀ i, W.cell? ⟨k, i, none⟩ = vs[i]?
  free : ∀ i, W.frozen? ⟨k, i, none⟩ = false
  lt : k < W.heap.size
theorem HasRow.new (w : World) (vs : Array Value) (t : TypeId) : HasRow (w.alloc (.cells vs t)) w.heap.size vs :=
  ⟨fun i => World.cell?_alloc_at _ _ _ _ rfl, fun i => World.frozen?_alloc_at _ _ _ _ rfl, by simp⟩
theorem HasRow.below {W W' : World} {k : Nat} {vs : Array Value} (h : HasRow W k vs) (hb : Below W.heap.size W W') : HasRow W' k vs :=
  ⟨fun i => by rw [hb.cell (p := ⟨k, i, none⟩) h.lt]; exact h.cell i, fun i => by rw [hb.frozen (p := ⟨k, i, none⟩) h.lt]; exact h.free i, Nat.lt_of_lt_of_le h.lt hb.size⟩
theorem HasRow.alloc {W : World} {k : Nat} {vs : Array Value} (h : HasRow W k vs) (o : Obj) : HasRow (W.alloc o) k vs := h.below (below_alloc _ _)
theorem HasRow.set {W : World} {k : Nat} {vs : Array Value} (h : HasRow W k vs) (j : Nat) (v : Value) (hj : j < vs.size) : HasRow (W.setCell ⟨k, j, none⟩ v) k (vs.setIfInBounds j v) := by
  refine ⟨fun i => ?_, fun i => ?_, by simpa [World.setCell] using h.lt⟩
  · by_cases e : i = j
    · subst e
      rw [World.cell?_setCell_same' _ _ _ (by rw [h.cell]; simp [hj])]
      simp [hj]
    · rw [World.cell?_setCell_other (h := show (⟨k, j, none⟩ : Addr) ≠ ⟨k, i, none⟩ from fun h' => e (by injection h' with _ h2; exact h2.symm)), h.cell]
      rw [Array.getElem?_setIfInBounds_ne (by omega)]
  · rw [World.frozen?_setCell]; exact h.free i
theorem HasRow.other {W : World} {k k' : Nat} {vs : Array Value} (h : HasRow W k vs) (j : Nat) (v : Value) (hne : k ≠ k') : HasRow (W.setCell ⟨k', j, none⟩ v) k vs := by
  refine ⟨fun i => ?_, fun i => ?_, by simpa [World.setCell] using h.lt⟩
  · rw [World.cell?_setCell_other (h := show (⟨k', j, none⟩ : Addr) ≠ ⟨k, i, none⟩ from fun h' => hne (by injection h' with h1 _; exact h1.symm))]; exact h.cell i
  · rw [World.frozen?_setCell]; exact h.free i

theorem cut_any (s : ByteArray) (hs : s.size ≤ 4294967280) (w : World) (hw : Good w) :
    Calls Tryz.prog 77 #[.string s, .string ⟨#[45]⟩] w fun e w' => e = .returned (.tuple #[.string (P.headS s), .string (P.tailS s), .bool (P.hasTail s)]) ∧ Below w.heap.size w w' := by
  obtain ⟨m, hm⟩ := hw.m
  exact (Tryz.strings_Cut s ⟨#[45]⟩ m w (by omega) hm).mono fun e w' ⟨he, n, hn⟩ => ⟨he, by rw [hn]; exact below_drewN' (Below.refl _ _) n⟩

/-- A slice of strings in a block of the call's own. -/
def SliceAt (w w' : World) (l : List ByteArray) (b cap : Nat) : Prop :=
  b = w.heap.size ∧ b < w'.heap.size ∧ l.length ≤ cap ∧ (∀ j (hj : j < l.length), w'.cell? ⟨b, j, none⟩ = some (.string l[j])) ∧ Below w.heap.size w w'
theorem splitN_any (s : ByteArray) (hs : s.size ≤ 4294967280) (w : World) (hw : Good w) :
    Calls Tryz.prog 139 #[.string s, .string ⟨#[46]⟩, .int .i64 4] w fun e w' => ∃ b cap, e = .returned (.slice (some ⟨b, 0, none⟩) (P.split4 s).length cap) ∧ SliceAt w w' (P.split4 s) b cap := by
  obtain ⟨m, hm⟩ := hw.m
  have hl : (P.split4 s).length ≤ min 4 (s.size + 1) := by
    have := Lib.splitB_length_le ⟨#[46]⟩ 0 (min 4 (s.size + 1) - 1) s
    unfold P.split4; omega
  refine (Tryz.strings_SplitN s ⟨#[46]⟩ 4 m w (by omega) hm (P.one_le 46) (by omega) (by omega)).mono fun e w' ⟨he, hw'⟩ => ?_
  refine ⟨w.heap.size, _, he, rfl, by rw [hw']; simp, hl, fun j hj => ?_, by rw [hw']; exact below_alloc _ _⟩
  rw [hw', World.cell?_alloc_at _ _ _ _ rfl]
  show (Lib.cellsOf (P.split4 s) _)[j]? = _
  simp only [Lib.cellsOf, List.getElem?_toArray]
  rw [List.getElem?_append_left (by simpa using hj)]
  simp [hj]

theorem atoi_num (s : ByteArray) (h : P.numW s = true) (w : World) :
    Calls Tryz.prog 74 #[.string s] w fun e w' => e = .returned (.tuple #[.int .i64 (P.atoiV s), .nilIface]) ∧ Below w.heap.size w w' := by
  have hs : s.size ≤ 9 := by unfold P.numW at h; rw [Bool.and_eq_true, decide_eq_true_eq] at h; exact h.2
  refine (Tryz.strconv_Atoi_ok s (by omega) _ (P.numW_atoi h) w).mono fun e w' ⟨he, hw'⟩ => ⟨he, ?_⟩
  rcases hw' with rfl | ⟨t, rfl⟩
  · exact Below.refl _ _
  · exact Lib.bytesWorld_below _ _ _
end Go.Proofs.YtffblkkhjphcfaaGreatDoor
