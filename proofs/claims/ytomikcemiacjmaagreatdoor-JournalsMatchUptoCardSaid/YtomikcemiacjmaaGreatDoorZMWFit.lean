/- Plain functions: a right machine is small; what putting a thing into a right machine gives; a machine of facts alone. No program stands here. -/
/- Walks: package disk: functions with a machine return its error. -/
/- Walks: package disk: the changes that take away, and those that bring. -/
/- Walks: package outref1: the keys of a map, in order. -/
/- Walks: package outref1: worldOf: a machine as maps. -/
/- A list appended to another one, both of the call's own, in a region that draws. No program stands here but the types. -/
/- Walks: package outref1: Check: what its walk wants. -/
/- Walks: package outref1: a change of a world: what is wrong with it. -/
/- Walks: package outref1: do: a setting is set. -/
/- Walks: package outref1: do: a service is set. -/
import Derived.Test.YtomikcemiacjmaaGreatDoorZPure
import Derived.Test.YtomikcemiacjmaaGreatDoorZMCheck
import Derived.Test.YtomikcemiacjmaaGreatDoorZMFMap
import Derived.Maps.AppendAt
import Derived.Sort.OwnSorted
import Derived.Test.YtomikcemiacjmaaGreatDoorZMShelf
import Derived.Deep.AppendLies
import Derived.Deep.AppendSrc
import Derived.Test.YtomikcemiacjmaaGreatDoorZMRefE
import Derived.Test.YtomikcemiacjmaaGreatDoorZMBeside
import Derived.Deep.RegionHeld3

namespace Go.Proofs.YtomikcemiacjmaaGreatDoor
namespace P
theorem name_size {s : ByteArray} (h : nameS s = true) : s.size ≤ 40 := by
  rw [← size_len]
  unfold nameS name at h
  generalize s.data.toList = l at h
  cases l with
  | nil => cases h
  | cons c l => simp only [Bool.and_eq_true, decide_eq_true_eq] at h; exact h.1.1
theorem path_size {s : ByteArray} (h : pathS s = true) : s.size ≤ 200 := by
  rw [← size_len]
  unfold pathS path at h
  simp only [Bool.and_eq_true, decide_eq_true_eq] at h; exact h.1
theorem value_size {s : ByteArray} (h : valueS s = true) : s.size ≤ 1000 := by
  rw [← size_len]
  unfold valueS value at h
  simp only [Bool.and_eq_true, decide_eq_true_eq] at h; exact h.1
theorem factErr_zero {x : St} : factErr x = 0 ↔ nameS x.k = true ∧ valueS x.v = true := by
  unfold factErr
  cases nameS x.k <;> cases valueS x.v <;> simp
theorem setErr_zero {x : St} : setErr x = 0 ↔ pathS x.k = true ∧ valueS x.v = true := by
  unfold setErr
  cases pathS x.k <;> cases valueS x.v <;> simp
theorem fileErr_zero {x : Fi} : fileErr x = 0 ↔ pathS x.p = true ∧ x.d.size ≤ 65536 := by
  unfold fileErr
  by_cases h : x.d.size ≤ 65536 <;> cases pathS x.p <;> simp [h]
theorem svcErr_zero {x : Sv} : svcErr x = 0 ↔ nameS x.n = true ∧ pathS x.p = true := by
  unfold svcErr
  cases nameS x.n <;> cases pathS x.p <;> simp
/-- the error of a change, and the machine behind it -/
def chgErr (m : Mach) (c : Chg) : Int := orE (thingErr c) (placeErr m c)
theorem Right.done {m : Mach} (h : Right m) {c : Chg} (he : chgErr m c = 0) : Right (P.made m c) := by
  obtain ⟨h1, h2⟩ := orE_zero_iff.1 he
  exact h.made h1 h2
end P
end Go.Proofs.YtomikcemiacjmaaGreatDoor

namespace Go.Proofs.YtomikcemiacjmaaGreatDoor
open Go.RowKit Go.Shelf

/-- Check of the machine V answers e, in w and in all later worlds -/
def ChecksTo (V : Value) (e : Int) (w : World) : Prop := Good w ∧ ∀ W, Below w.heap.size w W → Calls Tryz.prog 15 #[V] W fun x w' => x = .returned (.int .i64 e) ∧ Below W.heap.size W w'
theorem ChecksTo.later {V : Value} {e : Int} {w w' : World} (h : ChecksTo V e w) (hb : Below w.heap.size w w') : ChecksTo V e w' :=
  ⟨h.1.mono hb, fun W hW => h.2 W (bstep hb hW)⟩
theorem ChecksTo.of (A : Ad) (m : P.Mach) (hf : m.fit) (w : World) (hw : Good w) (hl : Lies w.heap.size w A m) : ChecksTo (machV A m) (P.machErr m) w :=
  ⟨hw, fun W hb => dcheck_any A m hf W (hw.mono hb) ((hl.below hb).up hb.size)⟩
theorem below2 (w : World) (o1 o2 : Obj) : Below w.heap.size w ((w.alloc o1).alloc o2) := bstep (below_alloc _ _) (below_alloc _ _)
theorem store4 {w W : World} {k : Nat} {a b c d : Value} (hR : HasRow W k #[a, b, c, d]) (hb : Below w.heap.size w W) (hk : w.heap.size ≤ k) (x y z u : Value) :
    HasRow ((((W.setCell ⟨k, 0, none⟩ x).setCell ⟨k, 1, none⟩ y).setCell ⟨k, 2, none⟩ z).setCell ⟨k, 3, none⟩ u) k #[x, y, z, u] ∧ Below w.heap.size w ((((W.setCell ⟨k, 0, none⟩ x).setCell ⟨k, 1, none⟩ y).setCell ⟨k, 2, none⟩ z).setCell ⟨k, 3, none⟩ u) :=
  ⟨(((hR.set 0 x (by simp)).set 1 y (by simp)).set 2 z (by simp)).set 3 u (by simp), (((hb.setCell (p := ⟨k, 0, none⟩) hk x).setCell (p := ⟨k, 1, none⟩) hk y).setCell (p := ⟨k, 2, none⟩) hk z).setCell (p := ⟨k, 3, none⟩) hk u⟩
theorem store2 {w W : World} {k : Nat} {a b : Value} (hR : HasRow W k #[a, b]) (hb : Below w.heap.size w W) (hk : w.heap.size ≤ k) (x y : Value) :
    HasRow ((W.setCell ⟨k, 0, none⟩ x).setCell ⟨k, 1, none⟩ y) k #[x, y] ∧ Below w.heap.size w ((W.setCell ⟨k, 0, none⟩ x).setCell ⟨k, 1, none⟩ y) :=
  ⟨(hR.set 0 x (by simp)).set 1 y (by simp), (hb.setCell (p := ⟨k, 0, none⟩) hk x).setCell (p := ⟨k, 1, none⟩) hk y⟩
abbrev mz : Array Value := #[.slice none 0 0, .slice none 0 0, .slice none 0 0, .slice none 0 0]

section
variable (s1 s2 s3 s4 : Value) (e : Int) (he : e ≠ 0)
include he

end
end Go.Proofs.YtomikcemiacjmaaGreatDoor

namespace Go.Proofs.YtomikcemiacjmaaGreatDoor
open Go.RowKit Go.Shelf

theorem flat_get {α : Type} (c : α → List Value) (n : Nat) (hc : ∀ x, (c x).length = n) : ∀ (L : List α) (k : Nat) (hk : k < L.length) (j : Nat), j < n → (flat c L)[k * n + j]? = (c L[k])[j]?
  | [], k, hk, j, hj => by simp at hk
  | x :: L, 0, hk, j, hj => by
    show (c x ++ flat c L)[0 * n + j]? = _
    rw [Nat.zero_mul, Nat.zero_add, List.getElem?_append_left (by rw [hc]; exact hj)]
    rfl
  | x :: L, k + 1, hk, j, hj => by
    show (c x ++ flat c L)[(k + 1) * n + j]? = _
    rw [List.getElem?_append_right (by rw [hc, Nat.succ_mul]; omega), hc, show (k + 1) * n + j - n = k * n + j by rw [Nat.succ_mul]; omega, flat_get c n hc L k (by simpa using hk) j hj]
    rfl
theorem own_cells {α : Type} {W : World} {base : Nat} {e : TypeId} {n : Nat} {v : Value} {c : α → List Value} {M : List α} (hc : ∀ x, (c x).length = n) (h : W.ownsRow base e n v M.length (flat c M)) :
    ∃ a cap, v = .slice a M.length cap ∧ M.length ≤ cap ∧ (∀ b, a = some b → base ≤ b.block ∧ b.block < W.heap.size) ∧ (M ≠ [] → ∃ g, a = some ⟨g, 0, none⟩ ∧ g < W.heap.size ∧ ∀ k (hk : k < M.length) j, j < n → W.cell? ⟨g, 0 + k * n + j, none⟩ = (c M[k])[j]?) := by
  obtain ⟨hl, ⟨rfl, h0⟩ | ⟨g, cap, cur, rfl, hg, hh, hn, hcap, hsz, ht⟩⟩ := h
  · exact ⟨none, 0, by rw [h0], by omega, (fun b e => by cases e), fun hne => absurd (List.length_eq_zero_iff.1 h0) hne⟩
  · refine ⟨_, cap, rfl, hn, (fun b e => by cases e; exact ⟨hg, (Array.getElem?_eq_some_iff.1 hh).1⟩), fun _ => ⟨g, rfl, (Array.getElem?_eq_some_iff.1 hh).1, fun k hk j hj => ?_⟩⟩
    rw [← flat_get c n hc M k hk j hj, ← ht]
    have hlt : k * n + j < M.length * n := by
      have : (k + 1) * n ≤ M.length * n := Nat.mul_le_mul_right _ hk
      rw [Nat.succ_mul] at this; omega
    have hlt2 : k * n + j < cur.size := by rw [hsz]; exact Nat.lt_of_lt_of_le hlt (Nat.mul_le_mul_right _ hn)
    rw [List.getElem?_take_of_lt hlt]
    simp [World.cell?, hh]
theorem info73 : (Tryz.prog.info? 73).map (fun i => (i.zero, i.size, i.bytes)) = some (some (.agg #[.int .i64 0, .string ⟨#[]⟩, .string ⟨#[]⟩, .bool false, .string ⟨#[]⟩, .string ⟨#[]⟩, .string ⟨#[]⟩, .string ⟨#[]⟩, .bool false, .bool false]), 10, 120) := by kernel_rfl
/-- the state of a list of changes that is being made, between two blocks' numbers P and Q that it shuns -/
structure LState (w : World) (P Q : Nat) (ra rb : Array Value) (wr : World) (v : Value) (n : Nat) (xs : List Value) : Prop where
  own : wr.ownsRow (w.heap.size + 2) 73 10 v n xs
  loc : ∀ g, v.ownBlock = some g → g < P ∨ Q ≤ g
  ba : HasRow wr w.heap.size ra
  bb : HasRow wr (w.heap.size + 1) rb
  bel : Below w.heap.size w wr
  q : Q ≤ wr.heap.size
theorem LState.step {w wr w3 : World} {P Q : Nat} {ra rb : Array Value} {v v' : Value} {n n' : Nat} {xs xs' : List Value} (h : LState w P Q ra rb wr v n xs) (o1 o2 : Obj) (hg : ((wr.alloc o1).alloc o2).grownBy w3 v.ownBlock)
    (hown : w3.ownsRow (w.heap.size + 2) 73 10 v' n' xs') (hloc : v'.ownBlock = v.ownBlock ∨ v'.ownBlock = some ((wr.alloc o1).alloc o2).heap.size) : LState w P Q ra rb w3 v' n' xs' := by
  have h0 := own_ge h.own
  have hsz : wr.heap.size ≤ ((wr.alloc o1).alloc o2).heap.size := (below2 wr o1 o2).size
  refine ⟨hown, fun g e => ?_, ?_, ?_, ?_, Nat.le_trans h.q (Nat.le_trans hsz hg.size)⟩
  · rcases hloc with e' | e'
    · exact h.loc g (by rw [← e']; exact e)
    · rw [e'] at e; injection e with e; subst e; exact .inr (Nat.le_trans h.q hsz)
  · exact ((h.ba.alloc _).alloc _).grown hg (fun e => by have := h0 _ e.symm; omega)
  · exact ((h.bb.alloc _).alloc _).grown hg (fun e => by have := h0 _ e.symm; omega)
  · exact (bstep h.bel (below2 wr o1 o2)).grown hg (bstep h.bel (below2 wr o1 o2)).size (fun k e => by have := h0 _ e; omega)
theorem cell_step {w wr w3 : World} {P Q : Nat} {ra rb : Array Value} {v u : Value} {n : Nat} {xs : List Value} {p : Addr} (h : LState w P Q ra rb wr v n xs) (o1 o2 : Obj) (hg : ((wr.alloc o1).alloc o2).grownBy w3 v.ownBlock)
    (hc : wr.cell? p = some u) (hp : P ≤ p.block ∧ p.block < Q) : w3.cell? p = some u := by
  have h1 := cell_keep (below2 wr o1 o2) hc
  have hlt : p.block < ((wr.alloc o1).alloc o2).heap.size := Nat.lt_of_lt_of_le hp.2 (Nat.le_trans h.q (below2 wr o1 o2).size)
  rw [World.cell?_of_block (w := (wr.alloc o1).alloc o2) (a := p) (hg.block _ hlt (fun e => by have := h.loc _ e.symm; omega))]
  exact h1
theorem ownAtS {W : World} {base : Nat} {v : Value} {M : List P.St} (h : W.ownsRow base 62 2 v M.length (flat cellsS M)) : ∃ a cap, v = .slice a M.length cap ∧ StsAt W.heap.size W a M cap ∧ ∀ b, a = some b → base ≤ b.block ∧ b.block < W.heap.size := by
  obtain ⟨a, cap, rfl, hle, hb, hc⟩ := own_cells (c := cellsS) (fun _ => rfl) h
  refine ⟨a, cap, rfl, ⟨hle, fun hne => ?_⟩, hb⟩
  obtain ⟨g, rfl, hg, hcell⟩ := hc hne
  exact ⟨g, 0, rfl, hg, fun k hk => ⟨hcell k hk 0 (by decide), hcell k hk 1 (by decide)⟩⟩
theorem StsAt.step {w wr w3 : World} {lo up : Nat} {ra rb : Array Value} {v : Value} {n : Nat} {xs : List Value} {a : Option Addr} {M : List P.St} {c : Nat} (hA : StsAt up wr a M c) (hP : ∀ b, a = some b → lo ≤ b.block ∧ b.block < up) (h : LState w lo up ra rb wr v n xs) (o1 o2 : Obj) (hg : ((wr.alloc o1).alloc o2).grownBy w3 v.ownBlock) : StsAt up w3 a M c :=
  ⟨hA.le, fun hn => let ⟨b, off, e, hb, hc⟩ := hA.at_ hn; ⟨b, off, e, hb, fun k hk => ⟨cell_step h o1 o2 hg (hc k hk).1 (hP ⟨b, off, none⟩ e), cell_step h o1 o2 hg (hc k hk).2 (hP ⟨b, off, none⟩ e)⟩⟩⟩
theorem ownAtF {W : World} {base : Nat} {v : Value} {M : List P.Fi} (h : W.ownsRow base 42 3 v M.length (flat cellsF M)) : ∃ a cap, v = .slice a M.length cap ∧ FisAt W.heap.size W a M cap ∧ ∀ b, a = some b → base ≤ b.block ∧ b.block < W.heap.size := by
  obtain ⟨a, cap, rfl, hle, hb, hc⟩ := own_cells (c := cellsF) (fun _ => rfl) h
  refine ⟨a, cap, rfl, ⟨hle, fun hne => ?_⟩, hb⟩
  obtain ⟨g, rfl, hg, hcell⟩ := hc hne
  exact ⟨g, 0, rfl, hg, fun k hk => ⟨hcell k hk 0 (by decide), hcell k hk 1 (by decide), hcell k hk 2 (by decide)⟩⟩
theorem FisAt.step {w wr w3 : World} {lo up : Nat} {ra rb : Array Value} {v : Value} {n : Nat} {xs : List Value} {a : Option Addr} {M : List P.Fi} {c : Nat} (hA : FisAt up wr a M c) (hP : ∀ b, a = some b → lo ≤ b.block ∧ b.block < up) (h : LState w lo up ra rb wr v n xs) (o1 o2 : Obj) (hg : ((wr.alloc o1).alloc o2).grownBy w3 v.ownBlock) : FisAt up w3 a M c :=
  ⟨hA.le, fun hn => let ⟨b, off, e, hb, hc⟩ := hA.at_ hn; ⟨b, off, e, hb, fun k hk => ⟨cell_step h o1 o2 hg (hc k hk).1 (hP ⟨b, off, none⟩ e), cell_step h o1 o2 hg (hc k hk).2.1 (hP ⟨b, off, none⟩ e), cell_step h o1 o2 hg (hc k hk).2.2 (hP ⟨b, off, none⟩ e)⟩⟩⟩
theorem ownAtV {W : World} {base : Nat} {v : Value} {M : List P.Sv} (h : W.ownsRow base 46 4 v M.length (flat cellsV M)) : ∃ a cap, v = .slice a M.length cap ∧ SvsAt W.heap.size W a M cap ∧ ∀ b, a = some b → base ≤ b.block ∧ b.block < W.heap.size := by
  obtain ⟨a, cap, rfl, hle, hb, hc⟩ := own_cells (c := cellsV) (fun _ => rfl) h
  refine ⟨a, cap, rfl, ⟨hle, fun hne => ?_⟩, hb⟩
  obtain ⟨g, rfl, hg, hcell⟩ := hc hne
  exact ⟨g, 0, rfl, hg, fun k hk => ⟨hcell k hk 0 (by decide), hcell k hk 1 (by decide), hcell k hk 2 (by decide), hcell k hk 3 (by decide)⟩⟩
theorem SvsAt.step {w wr w3 : World} {lo up : Nat} {ra rb : Array Value} {v : Value} {n : Nat} {xs : List Value} {a : Option Addr} {M : List P.Sv} {c : Nat} (hA : SvsAt up wr a M c) (hP : ∀ b, a = some b → lo ≤ b.block ∧ b.block < up) (h : LState w lo up ra rb wr v n xs) (o1 o2 : Obj) (hg : ((wr.alloc o1).alloc o2).grownBy w3 v.ownBlock) : SvsAt up w3 a M c :=
  ⟨hA.le, fun hn => let ⟨b, off, e, hb, hc⟩ := hA.at_ hn; ⟨b, off, e, hb, fun k hk => ⟨cell_step h o1 o2 hg (hc k hk).1 (hP ⟨b, off, none⟩ e), cell_step h o1 o2 hg (hc k hk).2.1 (hP ⟨b, off, none⟩ e), cell_step h o1 o2 hg (hc k hk).2.2.1 (hP ⟨b, off, none⟩ e), cell_step h o1 o2 hg (hc k hk).2.2.2 (hP ⟨b, off, none⟩ e)⟩⟩⟩
end Go.Proofs.YtomikcemiacjmaaGreatDoor

namespace Go.Proofs.YtomikcemiacjmaaGreatDoor
open Go.RowKit Go.Shelf Go.Maps Go.Sort

abbrev FilesM (W : World) (B : Nat) (L : List P.Fi) : Prop := LMap codedFi P.fi0 P.Fi.p id Tryz.prog 9 W B L
abbrev SetsM (W : World) (B : Nat) (L : List P.St) : Prop := LMap codedStr ⟨#[]⟩ P.St.k P.St.v Tryz.prog 9 W B L
abbrev SvcsM (W : World) (B : Nat) (L : List P.Sv) : Prop := LMap codedSv P.sv0 P.Sv.n id Tryz.prog 9 W B L

end Go.Proofs.YtomikcemiacjmaaGreatDoor

namespace Go.Proofs.YtomikcemiacjmaaGreatDoor
open Go.RowKit Go.Shelf Go.Maps

/-- a machine as maps: the world's block B, the three maps -/
structure WAt (n₀ : Nat) (W : World) (B b1 b2 b3 : Nat) (A : Ad) (m : P.Mach) : Prop where
  row : HasRow W B #[.slice A.a1 m.facts.length A.c1, .map (some b1), .map (some b2), .map (some b3)]
  f : StsAt n₀ W A.a1 m.facts A.c1
  i : FilesM W b1 m.files
  s : SetsM W b2 m.sets
  v : SvcsM W b3 m.svcs
  hB : n₀ ≤ B
  h1 : n₀ ≤ b1
  h2 : n₀ ≤ b2
  h3 : n₀ ≤ b3
  n12 : b1 ≠ b2
  n13 : b1 ≠ b3
  n23 : b2 ≠ b3
  nB1 : B ≠ b1
  nB2 : B ≠ b2
  nB3 : B ≠ b3
theorem WAt.below {n₀ : Nat} {W W' : World} {B b1 b2 b3 : Nat} {A : Ad} {m : P.Mach} (h : WAt n₀ W B b1 b2 b3 A m) (hn : n₀ ≤ W.heap.size) (hb : Below W.heap.size W W') : WAt n₀ W' B b1 b2 b3 A m :=
  { h with row := h.row.below hb, f := h.f.below (hb.mono hn), i := h.i.below hb h.i.lt, s := h.s.below hb h.s.lt, v := h.v.below hb h.v.lt }

/-- the state of worldOf: the machine's box, the three maps, the world's block -/
structure WSt (w wr : World) (A1 A2 : Array Value) (Ik : List P.Fi) (Sk : List P.St) (Vk : List P.Sv) : Prop where
  rm : HasRow wr w.heap.size A1
  rw : HasRow wr (w.heap.size + 1 + 1 + 1 + 1) A2
  i : FilesM wr (w.heap.size + 1) Ik
  s : SetsM wr (w.heap.size + 1 + 1) Sk
  v : SvcsM wr (w.heap.size + 1 + 1 + 1) Vk
  bel : Below w.heap.size w wr
section
variable {w wr W2 : World} {A1 A2 : Array Value} {Ik Ik' : List P.Fi} {Sk Sk' : List P.St} {Vk Vk' : List P.Sv}
theorem WSt.start (w : World) (A1 A2 : Array Value) : WSt w (((((w.alloc (.cells A1 26)).alloc (.map #[] 0)).alloc (.map #[] 0)).alloc (.map #[] 0)).alloc (.cells A2 160)) A1 A2 [] [] [] := by
  have h1 := LMap.made codedFi P.fi0 P.Fi.p id Tryz.prog 9 (w.alloc (.cells A1 26))
  have h2 := LMap.made codedStr ⟨#[]⟩ P.St.k P.St.v Tryz.prog 9 ((w.alloc (.cells A1 26)).alloc (.map #[] 0))
  have h3 := LMap.made codedSv P.sv0 P.Sv.n id Tryz.prog 9 (((w.alloc (.cells A1 26)).alloc (.map #[] 0)).alloc (.map #[] 0))
  have h4 := HasRow.new ((((w.alloc (.cells A1 26)).alloc (.map #[] 0)).alloc (.map #[] 0)).alloc (.map #[] 0)) A2 160
  simp only [World.size_alloc] at h1 h2 h3 h4
  exact ⟨((((HasRow.new w A1 26).alloc _).alloc _).alloc _).alloc _, h4, ((h1.alloc _).alloc _).alloc _, (h2.alloc _).alloc _, h3.alloc _, bstep (bstep (bstep (bstep (below_alloc _ _) (below_alloc _ _)) (below_alloc _ _)) (below_alloc _ _)) (below_alloc _ _)⟩
theorem WSt.below (h : WSt w wr A1 A2 Ik Sk Vk) (hb : Below wr.heap.size wr W2) : WSt w W2 A1 A2 Ik Sk Vk :=
  ⟨h.rm.below hb, h.rw.below hb, h.i.below hb h.i.lt, h.s.below hb h.s.lt, h.v.below hb h.v.lt, bstep h.bel hb⟩
theorem WSt.gs (h : WSt w wr A1 A2 Ik Sk Vk) (hF : SetsM W2 (w.heap.size + 1 + 1) Sk') (hg : wr.grownBy W2 (some (w.heap.size + 1 + 1))) : WSt w W2 A1 A2 Ik Sk' Vk :=
  ⟨h.rm.grown hg (fun e => by injection e; omega), h.rw.grown hg (fun e => by injection e; omega), h.i.kept hg (fun e => by injection e; omega), hF, h.v.kept hg (fun e => by injection e; omega), h.bel.grown hg h.bel.size (fun j e => by cases e; omega)⟩
end
end Go.Proofs.YtomikcemiacjmaaGreatDoor

namespace Go.Proofs.YtomikcemiacjmaaGreatDoor
open Go.RowKit Go.Shelf

theorem flat_one {α : Type} (c : α → List Value) (hc : ∀ x, ∀ u ∈ c x, u.oneCell' = true) (L : List α) : ∀ u ∈ flat c L, u.oneCell' = true := by
  intro u hu
  obtain ⟨x, _, hx⟩ := List.mem_flatMap.1 hu
  exact hc x u hx
end Go.Proofs.YtomikcemiacjmaaGreatDoor

namespace Go.Proofs.YtomikcemiacjmaaGreatDoor
open Go.RowKit Go.Shelf

namespace P
end P
theorem Turn.below {B m : Nat} {s : ByteArray} {w W W' : World} (hT : Turn B s W W') (h : Below m w W) (hm : m ≤ W.heap.size) (hB : m ≤ B) : Below m w W' := h.grown hT.g hm (fun k e => by cases e; exact hB)
theorem Turn.row {B k : Nat} {s : ByteArray} {W W' : World} {vs : Array Value} (hT : Turn B s W W') (h : HasRow W k vs) (hne : k ≠ B) : HasRow W' k vs := h.grown hT.g (fun e => hne (by injection e))
end Go.Proofs.YtomikcemiacjmaaGreatDoor

namespace Go.Proofs.YtomikcemiacjmaaGreatDoor
open Go.RowKit Go.Shelf

/-- ten cells, some of them stored anew -/
theorem hrow10 {W : World} {k : Nat} {a0 a1 a2 a3 a4 a5 a6 a7 a8 a9 : Value} (h : HasRow W k #[a0, a1, a2, a3, a4, a5, a6, a7, a8, a9]) :
    W.cell? ⟨k, 0, none⟩ = some a0 ∧ W.cell? ⟨k, 1, none⟩ = some a1 ∧ W.cell? ⟨k, 2, none⟩ = some a2 ∧ W.cell? ⟨k, 3, none⟩ = some a3 ∧ W.cell? ⟨k, 4, none⟩ = some a4 ∧ W.cell? ⟨k, 5, none⟩ = some a5 ∧ W.cell? ⟨k, 6, none⟩ = some a6 ∧ W.cell? ⟨k, 7, none⟩ = some a7 ∧ W.cell? ⟨k, 8, none⟩ = some a8 ∧ W.cell? ⟨k, 9, none⟩ = some a9 :=
  ⟨h.cell 0, h.cell 1, h.cell 2, h.cell 3, h.cell 4, h.cell 5, h.cell 6, h.cell 7, h.cell 8, h.cell 9⟩

end Go.Proofs.YtomikcemiacjmaaGreatDoor

namespace Go.Proofs.YtomikcemiacjmaaGreatDoor
open Go.RowKit Go.Shelf Go.Maps

section
variable {n₀ B b1 b2 b3 : Nat} {A : Ad} {m : P.Mach} {w w' : World}
theorem WAt.drew (h : WAt n₀ w B b1 b2 b3 A m) : WAt n₀ w.drew B b1 b2 b3 A m :=
  { h with row := h.row.drew, f := h.f.below ((Below.refl n₀ w).drew), i := h.i.drew, s := h.s.drew, v := h.v.drew }
theorem WAt.gs (h : WAt n₀ w B b1 b2 b3 A m) (hb : Below n₀ w w') (hg : w.grownBy w' (some b2)) {I : List P.St} (hi : SetsM w' b2 I) : WAt n₀ w' B b1 b2 b3 A { m with sets := I } :=
  { h with row := h.row.grown hg (fun e => h.nB2 (by injection e)), f := h.f.below hb, i := h.i.kept hg (fun e => h.n12 (by injection e)), s := hi, v := h.v.kept hg (fun e => h.n23 (by injection e with e; exact e.symm)) }
end

end Go.Proofs.YtomikcemiacjmaaGreatDoor

namespace Go.Proofs.YtomikcemiacjmaaGreatDoor
open Go.RowKit Go.Shelf Go.Maps

section
variable {n₀ B b1 b2 b3 : Nat} {A : Ad} {m : P.Mach} {w : World}
theorem WAt.alloc (h : WAt n₀ w B b1 b2 b3 A m) (hn : n₀ ≤ w.heap.size) (o : Obj) : WAt n₀ (w.alloc o) B b1 b2 b3 A m := h.below hn (below_alloc w o)
end
end Go.Proofs.YtomikcemiacjmaaGreatDoor
