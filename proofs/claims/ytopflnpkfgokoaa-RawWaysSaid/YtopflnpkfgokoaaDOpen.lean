/- Ways and sizes that came in, opened: they lie in the world. -/
import Derived.Test.YtopflnpkfgokoaaRows
import Derived.Test.YtopflnpkfgokoaaDWays
import Derived.OpenShut
import Derived.Carry
import Derived.Deep.Slices
import Derived.Deep.Fields
import Derived.Lib.SmallJoins
import Derived.ProofKit
namespace Go.Proofs.Ytopflnpkfgokoaa
open Go.ChangeShapes Go.WideShapes Go.RowKit Go.Joins Go.Deep

theorem wy_fields : ∃ f0 f1 f2 : Field, Try.prog.underlying 31 = some (.struct #[f0, f1, f2]) ∧ f0.type = 3 ∧ f1.type = 3 ∧ f2.type = 3 ∧ oneCellFields Try.prog #[f0, f1, f2] = true := by
  refine ⟨_, _, _, Try.underlying31, rfl, rfl, rfl, ?_⟩
  kernel_rfl
theorem cellsWy : Try.prog.cellsOf 31 = 3 := by kernel_rfl
theorem cellsInt : Try.prog.cellsOf 3 = 1 := by kernel_rfl
instance : Inhabited P.Wy := ⟨⟨0, 0, 0⟩⟩

section
variable {H : Type} {enc : TypeId × Value → H} {W : World} {base : Nat} {spare : Nat → Bool} {held : Bool}

set_option maxRecDepth 100000 in
theorem wy_cells {n : Nat} {cs : List Value} {y : DataW H × List MemPlace} (h : DataW.trod enc Try.prog W base spare held n 31 cs = some y) :
    ∃ x : P.Wy, cs = [.int .i64 x.f, .int .i64 x.t, .int .i64 x.c] := by
  obtain ⟨f0, f1, f2, u, t0, t1, t2, hone⟩ := wy_fields
  obtain ⟨y0, y1, y2, k, rfl, hl, h0, h1, h2⟩ := trod_struct3 u h
  rw [cellsWy] at hl
  obtain ⟨o0, k0⟩ := hone_of hone 0 f0 rfl
  obtain ⟨o1, k1⟩ := hone_of hone 1 f1 rfl
  obtain ⟨o2, k2⟩ := hone_of hone 2 f2 rfl
  match cs, hl with
  | [c0, c1, c2], _ =>
    simp [o0, k0] at h0
    simp [o1, k1] at h1
    simp [o2, k2] at h2
    rw [t0] at h0
    rw [t1] at h1
    rw [t2] at h2
    obtain ⟨a, e0, _⟩ := DataW.trod_int Try.underlying3 h0
    obtain ⟨b, e1, _⟩ := DataW.trod_int Try.underlying3 h1
    obtain ⟨c, e2, _⟩ := DataW.trod_int Try.underlying3 h2
    simp only [List.cons.injEq, and_true] at e0 e1 e2
    subst e0 e1 e2
    exact ⟨⟨a, b, c⟩, rfl⟩
theorem int_cells {n : Nat} {cs : List Value} {y : DataW H × List MemPlace} (h : DataW.trod enc Try.prog W base spare held n 3 cs = some y) : ∃ x : Int, cs = [.int .i64 x] := by
  obtain ⟨a, e, _⟩ := DataW.trod_int Try.underlying3 h
  exact ⟨a, e⟩

theorem block_lt {a : Addr} {v : Value} (h : W.cell? a = some v) : a.block < W.heap.size := by
  unfold World.cell? at h
  split at h
  · rename_i hh; exact (Array.getElem?_eq_some_iff.1 hh).1
  · cases h

/-- WHAT A LIST OPENS TO, whatever its elements: α the elements, k their cells, c how they stand in cells. -/
theorem open_cells {α : Type} [Inhabited α] {t e : TypeId} {k : Nat} (hk : 0 < k) (c : α → List Value) (ht : Try.prog.underlying t = some (.slice e)) (hc : Try.prog.cellsOf e = k)
    (one : ∀ (n : Nat) (cs : List Value) (y : DataW H × List MemPlace), DataW.trod enc Try.prog W base spare held n e cs = some y → ∃ x : α, cs = c x)
    {fuel : Nat} {v : Value} {y : DataW H × List MemPlace} (h : DataW.trod enc Try.prog W base spare held fuel t [v] = some y) :
    ∃ (a : Option Addr) (L : List α) (cap : Nat), v = .slice a L.length cap ∧ L.length ≤ cap ∧
      (L ≠ [] → ∃ b off, a = some ⟨b, off, none⟩ ∧ b < W.heap.size ∧ ∀ i (hi : i < L.length) j (_ : j < k), W.cell? ⟨b, off + i * k + j, none⟩ = (c L[i])[j]?) := by
  rcases open_slice ht h with ⟨h1, rfl⟩ | ⟨a, len, cap, m, n, D, Pl, h1, hb, hl, hm, hmm, rfl, hx⟩
  · obtain rfl := (List.cons.inj h1).1
    exact ⟨none, [], 0, rfl, Nat.le_refl _, fun h => absurd rfl h⟩
  obtain rfl := (List.cons.inj h1).1
  have hlm : len ≤ m := by rw [hmm]; split <;> omega
  rw [hc] at hx
  obtain ⟨f, hf⟩ := choose_lt (α := α) (n := len) (p := fun i x => W.cells? base (a.add (i * k)) k = some (c x)) (fun i hi => by
    obtain ⟨cs', h1, h2⟩ := hx i (by omega)
    obtain ⟨x, rfl⟩ := one _ _ _ h2
    exact ⟨x, h1⟩)
  refine ⟨some a, (List.range len).map f, cap, by simp, by simpa using hl, ?_⟩
  · intro hn
    have h0 : 0 < len := by
      rcases Nat.eq_zero_or_pos len with rfl | h
      · exact absurd rfl hn
      · exact h
    obtain ⟨b, off, spot⟩ := a
    have hz := hf 0 h0
    obtain ⟨_, hlen, hcell⟩ := World.cells?_some hz
    have hne : ∃ v, W.cell? (((⟨b, off, spot⟩ : Addr).add (0 * k)).add 0) = some v := by
      rw [hcell 0 hk]
      exact ⟨_, List.getElem?_eq_getElem (by omega)⟩
    obtain ⟨v, hv⟩ := hne
    rw [Nat.zero_mul] at hv
    have hv' : W.cell? ⟨b, off, spot⟩ = some v := by simpa [Addr.add] using hv
    obtain rfl : spot = none := World.cell?_spot hv'
    refine ⟨b, off, rfl, block_lt hv', fun i hi j hj => ?_⟩
    have hi' : i < len := by simpa using hi
    obtain ⟨_, _, hcell⟩ := World.cells?_some (hf i hi')
    have := hcell j hj
    rw [add_plain, add_plain] at this
    rw [this]
    simp

theorem open_ways {fuel : Nat} {v : Value} {y : DataW H × List MemPlace} (h : DataW.trod enc Try.prog W base spare held fuel 22 [v] = some y) :
    ∃ (a : Option Addr) (L : List P.Wy) (cap : Nat), v = .slice a L.length cap ∧ WysAt W.heap.size W a L cap := by
  obtain ⟨a, L, cap, rfl, h1, h4⟩ := open_cells (k := 3) (by decide) (fun x : P.Wy => [.int .i64 x.f, .int .i64 x.t, .int .i64 x.c]) Try.underlying22 cellsWy (fun n cs y h => wy_cells h) h
  refine ⟨a, L, cap, rfl, ⟨h1, fun hn => ?_⟩⟩
  obtain ⟨b, off, e, hb, hc⟩ := h4 hn
  exact ⟨b, off, e, hb, fun k hk => ⟨hc k hk 0 (by decide), hc k hk 1 (by decide), hc k hk 2 (by decide)⟩⟩
theorem open_sizes {fuel : Nat} {v : Value} {y : DataW H × List MemPlace} (h : DataW.trod enc Try.prog W base spare held fuel 23 [v] = some y) :
    ∃ (a : Option Addr) (L : List Int) (cap : Nat), v = .slice a L.length cap ∧ IntsAt W.heap.size W a L cap := by
  obtain ⟨a, L, cap, rfl, h1, h4⟩ := open_cells (k := 1) (by decide) (fun x : Int => [.int .i64 x]) Try.underlying23 cellsInt (fun n cs y h => int_cells h) h
  refine ⟨a, L, cap, rfl, ⟨h1, fun hn => ?_⟩⟩
  obtain ⟨b, off, e, hb, hc⟩ := h4 hn
  refine ⟨b, off, e, hb, fun k hk => ?_⟩
  have := hc k hk 0 (by decide)
  simpa using this
end
end Go.Proofs.Ytopflnpkfgokoaa
