/- Rows of memory behind a new block that was written; what the law's calls return, in the walk's forms. -/
import Derived.Test.YtffblkkhjphcfaaGreatDoorLawA
namespace Go.Proofs.YtffblkkhjphcfaaGreatDoor
open Go.RowKit Go.Shelf

/-- A new block of four cells, written. -/
def made (W : World) (z : Obj) (v0 v1 v2 v3 : Value) : World :=
  (((((W.alloc z).setCell ⟨W.heap.size, 0, none⟩ v0).setCell ⟨W.heap.size, 1, none⟩ v1).setCell ⟨W.heap.size, 2, none⟩ v2).setCell ⟨W.heap.size, 3, none⟩ v3)
theorem made_size (W : World) (z : Obj) (v0 v1 v2 v3 : Value) : (made W z v0 v1 v2 v3).heap.size = W.heap.size + 1 := by simp [made, World.setCell]
theorem made_new (W : World) (z0 z1 z2 z3 v0 v1 v2 v3 : Value) (t : TypeId) : HasRow (made W (.cells #[z0, z1, z2, z3] t) v0 v1 v2 v3) W.heap.size #[v0, v1, v2, v3] := by
  have h := ((((HasRow.new W #[z0, z1, z2, z3] t).set 0 v0 (by simp)).set 1 v1 (by simp)).set 2 v2 (by simp)).set 3 v3 (by simp)
  simpa [made] using h
theorem made_row {W : World} {k : Nat} {vs : Array Value} (h : HasRow W k vs) (z : Obj) (v0 v1 v2 v3 : Value) : HasRow (made W z v0 v1 v2 v3) k vs := by
  have hlt := h.lt
  exact ((((h.alloc z).other 0 v0 (by omega)).other 1 v1 (by omega)).other 2 v2 (by omega)).other 3 v3 (by omega)
theorem made_below {w W : World} (h : Below w.heap.size w W) (z : Obj) (v0 v1 v2 v3 : Value) : Below w.heap.size w (made W z v0 v1 v2 v3) := by
  have hs := h.size
  exact ((((h.alloc (by omega) z).setCell (p := ⟨W.heap.size, 0, none⟩) hs v0).setCell (p := ⟨W.heap.size, 1, none⟩) hs v1).setCell (p := ⟨W.heap.size, 2, none⟩) hs v2).setCell (p := ⟨W.heap.size, 3, none⟩) hs v3
/-- A block of four cells, written anew. -/
def over (W : World) (k : Nat) (v0 v1 v2 v3 : Value) : World :=
  ((((W.setCell ⟨k, 0, none⟩ v0).setCell ⟨k, 1, none⟩ v1).setCell ⟨k, 2, none⟩ v2).setCell ⟨k, 3, none⟩ v3)
theorem over_new {W : World} {k : Nat} {z0 z1 z2 z3 : Value} (h : HasRow W k #[z0, z1, z2, z3]) (v0 v1 v2 v3 : Value) : HasRow (over W k v0 v1 v2 v3) k #[v0, v1, v2, v3] := by
  have h := (((h.set 0 v0 (by simp)).set 1 v1 (by simp)).set 2 v2 (by simp)).set 3 v3 (by simp)
  simpa [over] using h
theorem over_row {W : World} {k k' : Nat} {vs : Array Value} (h : HasRow W k vs) (hne : k ≠ k') (v0 v1 v2 v3 : Value) : HasRow (over W k' v0 v1 v2 v3) k vs :=
  (((h.other 0 v0 hne).other 1 v1 hne).other 2 v2 hne).other 3 v3 hne
theorem over_below {w W : World} (h : Below w.heap.size w W) {k : Nat} (hk : w.heap.size ≤ k) (v0 v1 v2 v3 : Value) : Below w.heap.size w (over W k v0 v1 v2 v3) := below_set4' h hk _ _ _ _

theorem nextV_form (a b c : Int) (s : ByteArray) (p : Int) : ∃ n1 n2 n3 n4 ne, nextV a b c s p = .tuple #[.agg #[.int .i64 n1, .int .i64 n2, .int .i64 n3, .string n4], .int .i64 ne] := ⟨_, _, _, _, _, rfl⟩
theorem parseR_form : ∀ o, ∃ n1 n2 n3 n4 ne, parseR o = .tuple #[.agg #[.int .i64 n1, .int .i64 n2, .int .i64 n3, .string n4], .int .i64 ne]
  | none => ⟨_, _, _, _, _, rfl⟩
  | some (a, b, c, t) => by
    by_cases h : P.verr a b c t = 0
    · exact ⟨a, b, c, t, 0, if_pos h⟩
    · exact ⟨_, _, _, _, _, if_neg h⟩
theorem print_size {a b c : Int} {s : ByteArray} (hs : s.size ≤ 1048576) : (printS a b c s).size ≤ 4294967280 := by
  unfold printS
  split
  · rename_i h
    obtain ⟨h1, h2, h3⟩ := verr_zero h
    obtain ⟨a0, a1⟩ := numOk_true h1
    obtain ⟨b0, b1⟩ := numOk_true h2
    obtain ⟨c0, c1⟩ := numOk_true h3
    have k1 := Lib.itoa_length_le a (by omega) (by omega)
    have k2 := Lib.itoa_length_le b (by omega) (by omega)
    have k3 := Lib.itoa_length_le c (by omega) (by omega)
    have k4 : s.data.toList.length = s.size := Array.length_toList
    show (P.vtextL a b c s.data.toList).toArray.size ≤ _
    rw [List.size_toArray]
    unfold P.vtextL
    split <;> simp only [List.length_append, List.length_cons, List.length_nil] <;> omega
  · decide
theorem print_read {a b c : Int} {s : ByteArray} (h : P.verr a b c s = 0) : parseR (P.readV (printS a b c s)) = .tuple #[.agg #[.int .i64 a, .int .i64 b, .int .i64 c, .string s], .int .i64 0] := by
  obtain ⟨h1, h2, h3⟩ := verr_zero h
  rw [show printS a b c s = _ from if_pos h, P.read_text h1 h2 h3]
  exact if_pos h
theorem orI_right (y : Int) : P.orI [0, y] = y := by
  unfold P.orI; rw [if_pos rfl]
  unfold P.orI; split
  · rename_i h; rw [h]; rfl
  · rfl
theorem orI_left {x y : Int} (h : x ≠ 0) : P.orI [x, y] = x := by unfold P.orI; rw [if_neg h]
end Go.Proofs.YtffblkkhjphcfaaGreatDoor
