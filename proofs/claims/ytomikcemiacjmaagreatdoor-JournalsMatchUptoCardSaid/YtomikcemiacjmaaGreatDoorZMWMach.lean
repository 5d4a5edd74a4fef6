/- Walks: package outref1: a world's machine. -/
/- Walks: outlaw1's fit: what it puts into its machine. -/
import Derived.Test.YtomikcemiacjmaaGreatDoorZMWFit
import Derived.Shelf.SlGeneric
import Derived.Shelf.SlSortCmp.InsertionK
import Derived.Ground.SlsfProg
import Derived.Shelf.Strings.Builder1
import Derived.Shelf.Strings.Builder2
import Derived.Shelf.Strings.OnBuilder
import Derived.Shelf.Strings.Trim
import Derived.Shelf.Small.Utf8
import Derived.Shelf.Small.Bits
import Derived.Shelf.Small.Strs
import Derived.Shelf.Small.Wraps
import Derived.Shelf.Strings.BuilderF
import Derived.Shelf.Strconv.Atoi
import Derived.Shelf.Strconv.Itoa0
import Derived.Shelf.Strconv.Itoa1
import Derived.Shelf.LaysM
import Derived.Shelf.Strconv.Itoa2
import Derived.Shelf.Strconv.Itoa3
import Derived.Shelf.Strconv.AtoiErrFast
import Derived.Shelf.Strconv.ParseIntEmpty
import Derived.Shelf.Strconv.AtoiFail
import Derived.Shelf.Strconv.Clone
import Derived.Shelf.Strconv.SyntaxError
import Derived.Shelf.LaysC
import Derived.Shelf.Strconv.ToError
import Derived.Shelf.Strconv.Lower
import Derived.Shelf.Strconv.ParseUint10
import Derived.Shelf.Strconv.ParseUint10Empty
import Derived.Shelf.Strconv.ParseUint10Any
import Derived.Shelf.Strconv.ParseInt10
import Derived.Shelf.Strconv.AtoiLong
import Derived.Shelf.Strconv.AtoiInnerAll
import Derived.Shelf.Strconv.RangeError
import Derived.Shelf.Strconv.ToErrorRange
import Derived.Shelf.Strconv.AtoiAll
import Derived.Shelf.Strings.Search1
import Derived.Shelf.Strings.Search2
import Derived.Shelf.Strings.Search3
import Derived.Shelf.Strings.Cut
import Derived.Shelf.Strings.Count
import Derived.Shelf.Strings.Shaped
import Derived.Shelf.Sort.Plain
import Derived.Shelf.Strings.Prefix
import Derived.Shelf.Strings.Split
import Derived.Shelf.Strings.SplitShaped
import Derived.Shelf.Strings.Runes
import Derived.Shelf.Strings.AsciiSet
import Derived.Shelf.Bits.Mul64
import Derived.Shelf.Strings.Repeat
import Derived.Shelf.Unicode.DecodeSlow
import Derived.Shelf.Slices.Equal
import Derived.Shelf.Slices.In.SortNone
import Derived.Shelf.Slices.Empties2
import Derived.Test.YtomikcemiacjmaaGreatDoorProg
import Derived.Deep.RegionHeld3
import Derived.Deep.RegionLaw
import Derived.Lib.SliceRun
import Derived.Test.YtomikcemiacjmaaGreatDoorZMBeside

namespace Go.Proofs.YtomikcemiacjmaaGreatDoor
open Go.RowKit Go.Shelf Go.Maps

theorem step_append_own {P : Program} {w : World} {ops : Array Oper} {o : Oper} {a : Act} {K : Act → World → Prop} {Q : Exit → Act → World → Prop} {E : Prop} (hgd : o.guard = none) (s x : Operand) (t : TypeId)
    (ho : o.op = .call { callee := .builtin .append, args := #[s, x], argTypes := #[t, t] })
    (base : Nat) (e : TypeId) (i : TypeInfo) (z : Value) (size bytes : Nat) (ht : P.underlying t = some (.slice e)) (hi : P.info? e = some i) (hz : i.zero = some z)
    (hsize : i.size = size) (hby : i.bytes = bytes) (hzs : z.cells.size = size) (hsz : 0 < size)
    (v : Value) (n : Nat) (xs : List Value) (hs : a.eval s = v) (hown : w.ownsRow base e size v n xs)
    (ad : Addr) (m c : Nat) (news : List Value) (hx : a.eval x = .slice (some ad) m c) (hl : news.length = m * size) (hnews : ∀ j u, news[j]? = some u → w.cell? (ad.add j) = some u) (h1 : ∀ u ∈ news, u.oneCell' = true)
    (h63 : n + m ≤ maxLen) (hbytes : (n + m) * bytes ≤ 140737488355328) (hbase : base ≤ w.heap.size)
    (h : ∀ p' c' w', w'.ownsRow base e size (.slice p' (n + m) c') (n + m) (xs ++ news) → w.grownBy w' v.ownBlock → K (a.put o.dst (.slice p' (n + m) c')) w') :
    if Region.wanted o (yielded ops a.tmps) = true then Oper.wp P o a w K Q else E := by
  have hw : Region.wanted o (yielded ops a.tmps) = true := by simp [Region.wanted, hgd]
  rw [if_pos hw]
  obtain ⟨v', w', hr, h2, h3, h4, h5⟩ := run_append_own_at (P := P) w base t o.type e i z size bytes ht hi hz hsize hby hzs hsz v n xs hown ad m c news hl hnews h1 h63 hbytes hbase
  obtain ⟨p', c', rfl⟩ : ∃ p c, v' = .slice p (n + m) c := by
    obtain ⟨_, ⟨rfl, e0⟩ | ⟨g, cap, cur, rfl, _⟩⟩ := h2
    · exact ⟨none, 0, by rw [e0]⟩
    · exact ⟨_, _, rfl⟩
  unfold Oper.wp execOp
  simp only [ho, resolve, invoke, builtin, Sem.run_bind, Sem.run_pure, Result.andThen_ok, List.map_toArray, List.map_cons, List.map_nil, hs, hx, hr]
  exact h p' c' w' h2 h3
/-- a world whose block N alone (of those that were there) has turned -/
theorem row_but {w2 wr : World} {N k : Nat} {vs : Array Value} (h : HasRow w2 k vs) (hg : w2.grownBy wr (some N)) (hne : k ≠ N) : HasRow wr k vs := h.grown hg (fun e => hne (by injection e))
theorem cell_but {w2 wr : World} {N : Nat} {p : Addr} {v : Value} (h : w2.cell? p = some v) (hg : w2.grownBy wr (some N)) (hne : p.block ≠ N) : wr.cell? p = some v := by
  have hlt : p.block < w2.heap.size := World.block_lt_of_cell? w2 p h
  rw [World.cell?_of_block (w := w2) (a := p) (hg.block _ hlt (fun e => hne (by injection e)))]; exact h
theorem own_store {w3 : World} {base N j n : Nat} {e : TypeId} {size : Nat} {v u : Value} {xs : List Value} (h : w3.ownsRow base e size v n xs) (hN : N < base) : (w3.setCell ⟨N, j, none⟩ u).ownsRow base e size v n xs :=
  h.kept ⟨rfl, rfl, rfl, by simp [World.setCell], fun k _ hk => Below.heap_setCell _ _ _ k (fun e => hk (by rw [e]))⟩ (Or.inr (row_ne_low h hN).symm)
theorem eq_nil_of_none {L : List P.St} {m cap : Nat} {w : World} (h : StsAt m w none L cap) : L = [] := by
  cases L with
  | nil => rfl
  | cons x r => obtain ⟨b, off, e, _⟩ := h.at_ (by simp); cases e
theorem sts_cells {L : List P.St} {m cap : Nat} {w : World} {ad : Addr} (h : StsAt m w (some ad) L cap) : ∀ j u, (flat cellsS L)[j]? = some u → w.cell? (ad.add j) = some u := by
  intro j u hj
  have hne : L ≠ [] := fun e => by subst e; simp [flat] at hj
  obtain ⟨b, off, e, _, hc⟩ := h.at_ hne
  cases e
  have hlen : ∀ M : List P.St, (flat cellsS M).length = M.length * 2 := fun M => by
    induction M with
    | nil => simp [flat]
    | cons x M ih => show (cellsS x ++ flat cellsS M).length = _; rw [List.length_append, ih]; simp [cellsS]; omega
  have hlt : j < L.length * 2 := by rw [← hlen]; exact (List.getElem?_eq_some_iff.1 hj).1
  have e2 : j = j / 2 * 2 + j % 2 := by omega
  have hq : j / 2 < L.length := by omega
  rw [e2, flat_get cellsS 2 (fun _ => rfl) L (j / 2) hq (j % 2) (by omega)] at hj
  have e1 : (⟨b, off, none⟩ : Addr).add j = ⟨b, off + j, none⟩ := by simp [Addr.add]
  rw [e1]
  obtain ⟨d0, d1⟩ := hc (j / 2) hq
  rcases (show j % 2 = 0 ∨ j % 2 = 1 by omega) with h2 | h2
  · rw [h2] at hj; simp [cellsS] at hj; rw [show off + j = off + j / 2 * 2 by omega, d0, hj]
  · rw [h2] at hj; simp [cellsS] at hj; rw [show off + j = off + j / 2 * 2 + 1 by omega, d1, hj]
theorem flat_len {α : Type} (c : α → List Value) (n : Nat) (hc : ∀ x, (c x).length = n) : ∀ M : List α, (flat c M).length = M.length * n
  | [] => by simp [flat]
  | x :: M => by show (c x ++ flat c M).length = _; rw [List.length_append, hc, flat_len c n hc M, List.length_cons, Nat.succ_mul]; omega
theorem cells_one (L : List P.St) : ∀ u ∈ flat cellsS L, u.oneCell' = true := flat_one cellsS (fun x u hu => by simp [cellsS] at hu; rcases hu with rfl | rfl <;> rfl) L

set_option maxHeartbeats 4000000 in
set_option maxRecDepth 100000 in
/-- slices.Clone at settings -/
theorem cloneS_any (L : List P.St) (a : Option Addr) (cap : Nat) (hl : L.length ≤ 4294967280) (w : World) (hm : StsAt w.heap.size w a L cap) :
    Calls Tryz.prog 196 #[.slice a L.length cap] w fun e w' => ∃ v, e = .returned v ∧ w'.ownsRow w.heap.size 62 2 v L.length (flat cellsS L) ∧ Below w.heap.size w w' := by
  obtain ⟨i0, hi, hz0, hz1, hz2⟩ := info_parts info62
  have q22 : ∀ (w : World) (a : Option Addr) (n c n' c' : Nat), (binOp .eql 22 (.slice a n c) (.slice none n' c')).run Tryz.prog w = .ok (.bool a.isNone) w := fun w a n c n' c' => Lib.run_eql_slice_nil w _ _ a n c n' c' Tryz.underlying22
  cases a with
  | none =>
    have hL := eq_nil_of_none hm
    subst hL
    clear hm
    go_enter Tryz.func196, Tryz.ntmps196
    go_wp2_with fail
    go_ret
    exact ⟨_, rfl, World.ownsRow_nil _ _ _ _, Below.refl _ _⟩
  | some ad =>
    have HC := Lib.hid (fun j u h => cell_keep (below_alloc w (.cells #[] 62)) (sts_cells hm j u h))
    have hone := cells_one L
    have hlen := flat_len cellsS 2 (fun _ => rfl) L
    generalize flat cellsS L = news at *
    generalize L.length = n at *
    clear hm
    go_enter Tryz.func196, Tryz.ntmps196
    go_wp2_with (at_builtin; refine wpList_append_own _ rfl _ _ 22 rfl w.heap.size 62 i0 _ 2 32 Tryz.underlying22 hi hz0 hz1 hz2 rfl (by decide) _ _ _ rfl (World.ownsRow_made w #[] 0 (Nat.le_refl _) (Nat.zero_le _) (by simp)) ad n cap news rfl hlen HC.out hone (by unfold maxLen; omega) (by omega) (by simp) ?_; intro v' w1 hown hgrow hnil)
    go_ret
    refine ⟨v', rfl, by simpa using hown, ?_⟩
    exact (below_alloc w _).grown hgrow (by simp) (fun k hk => by have h2 : some w.heap.size = some k := hk; injection h2 with h2; omega)

/-- the four lists of a machine are the call's own, in blocks from base on -/
structure MOwn (base : Nat) (W : World) (A : Ad) (m : P.Mach) : Prop where
  f : W.ownsRow base 62 2 (.slice A.a1 m.facts.length A.c1) m.facts.length (flat cellsS m.facts)
  i : W.ownsRow base 42 3 (.slice A.a2 m.files.length A.c2) m.files.length (flat cellsF m.files)
  s : W.ownsRow base 62 2 (.slice A.a3 m.sets.length A.c3) m.sets.length (flat cellsS m.sets)
  v : W.ownsRow base 46 4 (.slice A.a4 m.svcs.length A.c4) m.svcs.length (flat cellsV m.svcs)

/-- the state between the loops of machine -/
structure Stg (w W : World) (B N b1 b2 b3 : Nat) (rowB : Array Value) (v0 : Value) (F : List P.St) (I : List P.Fi) (S : List P.St) (V : List P.Sv) : Prop where
  rb : HasRow W B rowB
  i : FilesM W b1 I
  s : SetsM W b2 S
  v : SvcsM W b3 V
  rr : HasRow W w.heap.size #[.slice none 0 0, .slice none 0 0, .slice none 0 0, .slice none 0 0]
  o0 : W.ownsRow (w.heap.size + 1) 62 2 v0 F.length (flat cellsS F)
  bel : Below w.heap.size w W
  hN : w.heap.size + 1 ≤ N
  n0 : some N ≠ v0.ownBlock
  nB : B ≠ N
  n1 : b1 ≠ N
  n2 : b2 ≠ N
  n3 : b3 ≠ N
section
variable {w W W' : World} {B N b1 b2 b3 : Nat} {rowB : Array Value} {v0 : Value} {F : List P.St} {I : List P.Fi} {S : List P.St} {V : List P.Sv}
theorem Stg.below (h : Stg w W B N b1 b2 b3 rowB v0 F I S V) (hb : Below W.heap.size W W') : Stg w W' B N b1 b2 b3 rowB v0 F I S V :=
  { h with rb := h.rb.below hb, i := h.i.below hb h.i.lt, s := h.s.below hb h.s.lt, v := h.v.below hb h.v.lt, o0 := own_below h.o0 hb, bel := bstep h.bel hb, rr := h.rr.below hb }
theorem Stg.but (h : Stg w W B N b1 b2 b3 rowB v0 F I S V) (hg : W.grownBy W' (some N)) : Stg w W' B N b1 b2 b3 rowB v0 F I S V :=
  { h with rb := row_but h.rb hg h.nB, i := h.i.kept hg (fun e => h.n1 (by injection e)), s := h.s.kept hg (fun e => h.n2 (by injection e)), v := h.v.kept hg (fun e => h.n3 (by injection e)), o0 := h.o0.kept hg (Or.inr h.n0.symm), bel := h.bel.grown hg h.bel.size (fun j e => by cases e; have := h.hN; omega), rr := row_but h.rr hg (by have := h.hN; omega) }
theorem own_store4 {base n size k : Nat} {e : TypeId} {v : Value} {xs : List Value} (h : W.ownsRow base e size v n xs) (hk : k < base) (x y z u : Value) : ((((W.setCell ⟨k, 0, none⟩ x).setCell ⟨k, 1, none⟩ y).setCell ⟨k, 2, none⟩ z).setCell ⟨k, 3, none⟩ u).ownsRow base e size v n xs :=
  own_store (own_store (own_store (own_store h hk) hk) hk) hk
theorem MOwn.lies {base : Nat} {m : P.Mach} {A : Ad} (h : MOwn base W A m) : Lies W.heap.size W A m := by
  obtain ⟨a, c, q, g1, _⟩ := ownAtS h.f
  cases q
  obtain ⟨a, c, q, g2, _⟩ := ownAtF h.i
  cases q
  obtain ⟨a, c, q, g3, _⟩ := ownAtS h.s
  cases q
  obtain ⟨a, c, q, g4, _⟩ := ownAtV h.v
  cases q
  exact ⟨g1, g2, g3, g4⟩
theorem MOwn.store {base k : Nat} {m : P.Mach} {A : Ad} (h : MOwn base W A m) (hk : k < base) (x y z u : Value) : MOwn base ((((W.setCell ⟨k, 0, none⟩ x).setCell ⟨k, 1, none⟩ y).setCell ⟨k, 2, none⟩ z).setCell ⟨k, 3, none⟩ u) A m :=
  ⟨own_store4 h.f hk x y z u, own_store4 h.i hk x y z u, own_store4 h.s hk x y z u, own_store4 h.v hk x y z u⟩
theorem MOwn.below {base : Nat} {m : P.Mach} {A : Ad} (h : MOwn base W A m) (hb : Below W.heap.size W W') : MOwn base W' A m := ⟨own_below h.f hb, own_below h.i hb, own_below h.s hb, own_below h.v hb⟩
theorem MOwn.base {base b' : Nat} {m : P.Mach} {A : Ad} (h : MOwn base W A m) (hle : b' ≤ base) : MOwn b' W A m := ⟨own_base h.f hle, own_base h.i hle, own_base h.s hle, own_base h.v hle⟩
end

end Go.Proofs.YtomikcemiacjmaaGreatDoor

namespace Go.Proofs.YtomikcemiacjmaaGreatDoor
open Go.RowKit Go.Shelf Go.Maps

def machCells (A : Ad) (m : P.Mach) : Array Value := #[.slice A.a1 m.facts.length A.c1, .slice A.a2 m.files.length A.c2, .slice A.a3 m.sets.length A.c3, .slice A.a4 m.svcs.length A.c4]
theorem sts_but {W W' : World} {a : Option Addr} {L : List P.St} {cap k : Nat} (h : StsAt W.heap.size W a L cap) (hg : W.grownBy W' (some k)) (hne : ∀ p, a = some p → p.block ≠ k) : StsAt W'.heap.size W' a L cap :=
  ⟨h.le, fun hn => let ⟨b, off, e, hb, hc⟩ := h.at_ hn; ⟨b, off, e, Nat.lt_of_lt_of_le hb hg.size, fun j hj => ⟨cell_but (hc j hj).1 hg (show b ≠ k from hne ⟨b, off, none⟩ e), cell_but (hc j hj).2 hg (show b ≠ k from hne ⟨b, off, none⟩ e)⟩⟩⟩
theorem fis_but {W W' : World} {a : Option Addr} {L : List P.Fi} {cap k : Nat} (h : FisAt W.heap.size W a L cap) (hg : W.grownBy W' (some k)) (hne : ∀ p, a = some p → p.block ≠ k) : FisAt W'.heap.size W' a L cap :=
  ⟨h.le, fun hn => let ⟨b, off, e, hb, hc⟩ := h.at_ hn; ⟨b, off, e, Nat.lt_of_lt_of_le hb hg.size, fun j hj => ⟨cell_but (hc j hj).1 hg (show b ≠ k from hne ⟨b, off, none⟩ e), cell_but (hc j hj).2.1 hg (show b ≠ k from hne ⟨b, off, none⟩ e), cell_but (hc j hj).2.2 hg (show b ≠ k from hne ⟨b, off, none⟩ e)⟩⟩⟩
theorem svs_but {W W' : World} {a : Option Addr} {L : List P.Sv} {cap k : Nat} (h : SvsAt W.heap.size W a L cap) (hg : W.grownBy W' (some k)) (hne : ∀ p, a = some p → p.block ≠ k) : SvsAt W'.heap.size W' a L cap :=
  ⟨h.le, fun hn => let ⟨b, off, e, hb, hc⟩ := h.at_ hn; ⟨b, off, e, Nat.lt_of_lt_of_le hb hg.size, fun j hj => ⟨cell_but (hc j hj).1 hg (show b ≠ k from hne ⟨b, off, none⟩ e), cell_but (hc j hj).2.1 hg (show b ≠ k from hne ⟨b, off, none⟩ e), cell_but (hc j hj).2.2.1 hg (show b ≠ k from hne ⟨b, off, none⟩ e), cell_but (hc j hj).2.2.2 hg (show b ≠ k from hne ⟨b, off, none⟩ e)⟩⟩⟩
/-- a machine lies in blocks from base on -/
structure Up (base : Nat) (W : World) (A : Ad) (m : P.Mach) : Prop where
  l : Lies W.heap.size W A m
  f : ∀ p, A.a1 = some p → base ≤ p.block
  i : ∀ p, A.a2 = some p → base ≤ p.block
  s : ∀ p, A.a3 = some p → base ≤ p.block
  v : ∀ p, A.a4 = some p → base ≤ p.block
theorem Up.below {base : Nat} {W W' : World} {A : Ad} {m : P.Mach} (h : Up base W A m) (hb : Below W.heap.size W W') : Up base W' A m := ⟨(h.l.below hb).up hb.size, h.f, h.i, h.s, h.v⟩
theorem Up.grown {base k : Nat} {W W' : World} {A : Ad} {m : P.Mach} (h : Up base W A m) (hg : W.grownBy W' (some k)) (hk : k < base) : Up base W' A m :=
  ⟨⟨sts_but h.l.f hg (fun p e => by have := h.f p e; omega), fis_but h.l.i hg (fun p e => by have := h.i p e; omega), sts_but h.l.s hg (fun p e => by have := h.s p e; omega), svs_but h.l.v hg (fun p e => by have := h.v p e; omega)⟩, h.f, h.i, h.s, h.v⟩
theorem Up.base {b b' : Nat} {W : World} {A : Ad} {m : P.Mach} (h : Up b W A m) (hle : b' ≤ b) : Up b' W A m := ⟨h.l, fun p e => Nat.le_trans hle (h.f p e), fun p e => Nat.le_trans hle (h.i p e), fun p e => Nat.le_trans hle (h.s p e), fun p e => Nat.le_trans hle (h.v p e)⟩
theorem MOwn.up {base : Nat} {W : World} {A : Ad} {m : P.Mach} (h : MOwn base W A m) : Up base W A m := by
  obtain ⟨a, c, q, g1, u1⟩ := ownAtS h.f
  cases q
  obtain ⟨a, c, q, g2, u2⟩ := ownAtF h.i
  cases q
  obtain ⟨a, c, q, g3, u3⟩ := ownAtS h.s
  cases q
  obtain ⟨a, c, q, g4, u4⟩ := ownAtV h.v
  cases q
  exact ⟨⟨g1, g2, g3, g4⟩, fun p e => (u1 p e).1, fun p e => (u2 p e).1, fun p e => (u3 p e).1, fun p e => (u4 p e).1⟩
/-- block b holds a right machine, whose lists lie in blocks behind b -/
structure Box (W : World) (b : Nat) : Prop where
  of : ∃ A m, HasRow W b (machCells A m) ∧ P.Right m ∧ Up (b + 1) W A m
theorem grown_of_below {w w' : World} (h : Below w.heap.size w w') (row : Option Nat) : w.grownBy w' row := ⟨h.os, h.tape, h.output, h.size, fun k hk _ => h.block k hk⟩
theorem Box.below {W W' : World} {b : Nat} (h : Box W b) (hb : Below W.heap.size W W') : Box W' b := let ⟨A, m, h1, h2, h3⟩ := h.of; ⟨A, m, h1.below hb, h2, h3.below hb⟩
end Go.Proofs.YtomikcemiacjmaaGreatDoor
