/- The world that every contract of this seat asks for: the library's variables as the rows list them. The library's contracts in the forms that the walks take. -/
import Derived.Test.YtemnhihpoabefaaGreatDoorMNames2
import Derived.Test.YtemnhihpoabefaaGreatDoorMShelf
import Derived.Lib.AppendIntMem
namespace Go.Proofs.YtemnhihpoabefaaGreatDoor
open Go.RowKit Go.Lib Go.Shelf

structure Good (w : World) : Prop where
  m : ∃ m, w.cell? ⟨0, 0, none⟩ = some (.int .i64 m)
  sz : 8 ≤ w.heap.size

theorem Good.mono {w w' : World} (h : Good w) (hb : Below w.heap.size w w') : Good w' where
  m := let ⟨m, e⟩ := h.m; ⟨m, by rw [hb.cell (p := ⟨0, 0, none⟩) (by have := h.sz; show 0 < _; omega)]; exact e⟩
  sz := Nat.le_trans h.sz hb.size

theorem split_any (s : ByteArray) (c : UInt8) (hs : s.size ≤ 4294967280) (w : World) (hw : Good w) :
    Calls Tryz.prog 101 #[.string s, .string ⟨#[c]⟩] w fun e w' =>
      e = .returned (.slice (some ⟨w.heap.size, 0, none⟩) (P.splitS s c).length (P.splitS s c).length) ∧ w' = w.alloc (.cells ((P.splitS s c).map Value.string).toArray 9) := by
  obtain ⟨m, hm⟩ := hw.m
  have h := Tryz.strings_Split s ⟨#[c]⟩ m w (by omega) hm (P.one_le c)
  rw [← P.splitS_length] at h
  exact h

/-- a cell of the new block of pieces -/
theorem pieces_cell (w : World) (l : List ByteArray) (t : TypeId) (k : Nat) (h : k < l.length) :
    (w.alloc (.cells (l.map Value.string).toArray t)).cell? ⟨w.heap.size, k, none⟩ = some (.string l[k]) := by
  rw [World.cell?_alloc_at _ _ _ _ rfl]
  simp [h]
theorem below_alloc (w : World) (o : Obj) : Below w.heap.size w (w.alloc o) := (Below.refl _ _).alloc (Nat.le_refl _) o

end Go.Proofs.YtemnhihpoabefaaGreatDoor
