/- Walks: package outref1: a world's machine. -/
import Derived.Test.YtkibmoekadmjnaaGreatDoorZMWWorld
import Derived.Test.YtkibmoekadmjnaaGreatDoorZMShelf
import Derived.Deep.RegionHeld3
import Derived.Deep.RegionLaw
import Derived.Lib.SliceRun
import Derived.Test.YtkibmoekadmjnaaGreatDoorZMApp2

namespace Go.Proofs.YtkibmoekadmjnaaGreatDoor
open Go.RowKit Go.Shelf Go.Maps

theorem step_append_own {P : Program} {w : World} {ops : Array Oper} {o : Oper} {a : Act} {K : Act → World → Prop} {Q : Exit → Act → World → Prop} {E : Prop} (hgd : o.guard = none) (s x : Operand) (t : TypeId)
    (ho : o.op = .call { callee := .builtin .append, args := #[s, x], argTypes := #[t, t] })
    (base : Nat) (e : TypeId) (i : TypeInfo) (z : Value) (size bytes : Nat) (ht : P.underlying t = some (.slice e)) (hi : P.info? e = some i) (hz : i.zero = some z)
    (hsize : i.size = size) (hby : i.bytes = bytes) (hzs : z.cells.size = size) (hsz : 0 < size)
    (v : Value) (n : Nat) (xs : List Value) (hs : a.eval s = v) (hown : w.ownsRow base e size v n xs)
    (ad : Addr) (m c : Nat) (news : List Value) (hx : a.eval x = .slice (some ad) m c) (hl : news.length = m * size) (hnews : ∀ j u, news[j]? = some u → w.cell? (ad.add j) = some u) (h1 : ∀ u ∈ news, u.oneCell' = true)
    (h63 : n + m ≤ maxLen) (hbytes : (n + m) * bytes ≤ 140737488355328) (hbase : base ≤ w.heap.size)
    (h : ∀ p' c' w', w'.ownsRow base e size (.slice p' (n + m) c') (n + m) (xs ++ news) → w.grownBy w' v.ownBlock → K (a.put o.dst (.slice p' (n + m) c')) w') :
    if Region.wanted o (yielded ops a.tmps) = true then Oper.wp P o a w K Q else E := by
  have hw : Region.wanted o (yielded ops a.tmps) = true := by simp [Region.wanted, hgd]
  rw [if_pos hw]
  obtain ⟨v', w', hr, h2, h3, h4, h5⟩ := run_append_own_at (P := P) w base t o.type e i z size bytes ht hi hz hsize hby hzs hsz v n xs hown ad m c news hl hnews h1 h63 hbytes hbase
  obtain ⟨p', c', rfl⟩ : ∃ p c, v' = .slice p (n + m) c := by
    obtain ⟨_, ⟨rfl, e0⟩ | ⟨g, cap, cur, rfl, _⟩⟩ := h2
    · exact ⟨none, 0, by rw [e0]⟩
    · exact ⟨_, _, rfl⟩
  unfold Oper.wp execOp
  simp only [ho, resolve, invoke, builtin, Sem.run_bind, Sem.run_pure, Result.andThen_ok, List.map_toArray, List.map_cons, List.map_nil, hs, hx, hr]
  exact h p' c' w' h2 h3
/-- the keys in order, as a slice of the call's own -/
structure KysAt (lo m : Nat) (w : World) (a : Option Addr) (L : List ByteArray) : Prop where
  at_ : L ≠ [] → ∃ b, a = some ⟨b, 0, none⟩ ∧ lo ≤ b ∧ b < m ∧ ∀ k (hk : k < L.length), w.cell? ⟨b, k, none⟩ = some (.string L[k])
theorem ownAtK {W : World} {base : Nat} {v : Value} {L : List ByteArray} (h : W.ownsRow base 9 1 v L.length (L.map Value.string)) : ∃ a cap, v = .slice a L.length cap ∧ KysAt base W.heap.size W a L := by
  obtain ⟨hl, ⟨rfl, h0⟩ | ⟨g, cap, cur, rfl, hg, hh, hn, hcap, hs, ht⟩⟩ := h
  · exact ⟨none, 0, by rw [h0], ⟨fun hne => absurd (List.length_eq_zero_iff.1 h0) hne⟩⟩
  · refine ⟨_, cap, rfl, ⟨fun hne => ⟨g, rfl, hg, (Array.getElem?_eq_some_iff.1 hh).1, fun k hk => ?_⟩⟩⟩
    have h1 : (cur.toList.take (L.length * 1))[k]? = (L.map Value.string)[k]? := by rw [ht]
    rw [List.getElem?_take_of_lt (by omega), List.getElem?_map, List.getElem?_eq_getElem hk] at h1
    simp only [World.cell?, hh]
    simp only [Option.isSome_none, Bool.false_eq_true, if_false]
    rw [← Array.getElem?_toList, h1]
    rfl

/-- a world whose block N alone (of those that were there) has turned -/
theorem row_but {w2 wr : World} {N k : Nat} {vs : Array Value} (h : HasRow w2 k vs) (hg : w2.grownBy wr (some N)) (hne : k ≠ N) : HasRow wr k vs := h.grown hg (fun e => hne (by injection e))
theorem cell_but {w2 wr : World} {N : Nat} {p : Addr} {v : Value} (h : w2.cell? p = some v) (hg : w2.grownBy wr (some N)) (hne : p.block ≠ N) : wr.cell? p = some v := by
  have hlt : p.block < w2.heap.size := World.block_lt_of_cell? w2 p h
  rw [World.cell?_of_block (w := w2) (a := p) (hg.block _ hlt (fun e => hne (by injection e)))]; exact h
theorem grown_store {w2 wr w3 : World} {N j : Nat} {o : Obj} {v u : Value} (h : w2.grownBy wr (some N)) (hg : (wr.drew.alloc o).grownBy w3 v.ownBlock) (hv : ∀ k, v.ownBlock = some k → w2.heap.size ≤ k) : w2.grownBy (w3.setCell ⟨N, j, none⟩ u) (some N) := by
  have h0 : w2.grownBy wr.drew (some N) := ⟨h.os, h.tape, h.output, h.size, h.block⟩
  have h1 : w2.grownBy (wr.drew.alloc o) (some N) := h0.trans (World.grownBy_alloc wr.drew o _)
  have h2 : w2.grownBy w3 (some N) := ⟨hg.os.trans h1.os, hg.tape.trans h1.tape, hg.output.trans h1.output, Nat.le_trans h1.size hg.size, fun k hk hne => (hg.block k (Nat.lt_of_lt_of_le hk h1.size) (fun e => by have := hv k e.symm; omega)).trans (h1.block k hk hne)⟩
  exact h2.trans ⟨rfl, rfl, rfl, by simp [World.setCell], fun k _ hk => Below.heap_setCell _ _ _ k (fun e => hk (by rw [e]))⟩
theorem own_store {w3 : World} {base N j n : Nat} {e : TypeId} {size : Nat} {v u : Value} {xs : List Value} (h : w3.ownsRow base e size v n xs) (hN : N < base) : (w3.setCell ⟨N, j, none⟩ u).ownsRow base e size v n xs :=
  h.kept ⟨rfl, rfl, rfl, by simp [World.setCell], fun k _ hk => Below.heap_setCell _ _ _ k (fun e => hk (by rw [e]))⟩ (Or.inr (row_ne_low h hN).symm)
theorem after_append {wr w3 : World} {N B j : Nat} {ra rb : Array Value} {o : Obj} {v s1 s2 u : Value} (HX : HasRow wr N ra) (HY : HasRow wr B rb) (hg : ((wr.alloc o).drew).grownBy w3 v.ownBlock) (hv : ∀ k, v.ownBlock = some k → N < k ∧ B < k) (hBN : B ≠ N) (h1 : ra[j]? = some s1) (h2 : rb[j]? = some s2) :
    w3.cell? ⟨N, j, none⟩ = some s1 ∧ w3.frozen? ⟨N, j, none⟩ = false ∧ w3.cell? ⟨B, j, none⟩ = some s2 ∧ (w3.setCell ⟨N, j, none⟩ u).cell? ⟨B, j, none⟩ = some s2 ∧ HasRow (w3.setCell ⟨N, j, none⟩ u) N (ra.setIfInBounds j u) := by
  have a3 := (HX.alloc o).drew.grown hg (fun e => by have := hv _ e.symm; omega)
  have b3 := (HY.alloc o).drew.grown hg (fun e => by have := hv _ e.symm; omega)
  exact ⟨(a3.cell j).trans h1, a3.free j, (b3.cell j).trans h2, ((b3.other j u hBN).cell j).trans h2, a3.set j u (Array.getElem?_eq_some_iff.1 h1).1⟩
theorem z42 (w : World) : (zeroValue 42).run Tryz.prog w = .ok (codedFi.enc P.fi0) w := by kernel_rfl
theorem z9 (w : World) : (zeroValue 9).run Tryz.prog w = .ok (codedStr.enc ⟨#[]⟩) w := by kernel_rfl
theorem z46 (w : World) : (zeroValue 46).run Tryz.prog w = .ok (codedSv.enc P.sv0) w := by kernel_rfl
theorem eq_nil_of_none {L : List P.St} {m cap : Nat} {w : World} (h : StsAt m w none L cap) : L = [] := by
  cases L with
  | nil => rfl
  | cons x r => obtain ⟨b, off, e, _⟩ := h.at_ (by simp); cases e
theorem sts_cells {L : List P.St} {m cap : Nat} {w : World} {ad : Addr} (h : StsAt m w (some ad) L cap) : ∀ j u, (flat cellsS L)[j]? = some u → w.cell? (ad.add j) = some u := by
  intro j u hj
  have hne : L ≠ [] := fun e => by subst e; simp [flat] at hj
  obtain ⟨b, off, e, _, hc⟩ := h.at_ hne
  cases e
  have hlen : ∀ M : List P.St, (flat cellsS M).length = M.length * 2 := fun M => by
    induction M with
    | nil => simp [flat]
    | cons x M ih => show (cellsS x ++ flat cellsS M).length = _; rw [List.length_append, ih]; simp [cellsS]; omega
  have hlt : j < L.length * 2 := by rw [← hlen]; exact (List.getElem?_eq_some_iff.1 hj).1
  have e2 : j = j / 2 * 2 + j % 2 := by omega
  have hq : j / 2 < L.length := by omega
  rw [e2, flat_get cellsS 2 (fun _ => rfl) L (j / 2) hq (j % 2) (by omega)] at hj
  have e1 : (⟨b, off, none⟩ : Addr).add j = ⟨b, off + j, none⟩ := by simp [Addr.add]
  rw [e1]
  obtain ⟨d0, d1⟩ := hc (j / 2) hq
  rcases (show j % 2 = 0 ∨ j % 2 = 1 by omega) with h2 | h2
  · rw [h2] at hj; simp [cellsS] at hj; rw [show off + j = off + j / 2 * 2 by omega, d0, hj]
  · rw [h2] at hj; simp [cellsS] at hj; rw [show off + j = off + j / 2 * 2 + 1 by omega, d1, hj]
theorem flat_len {α : Type} (c : α → List Value) (n : Nat) (hc : ∀ x, (c x).length = n) : ∀ M : List α, (flat c M).length = M.length * n
  | [] => by simp [flat]
  | x :: M => by show (c x ++ flat c M).length = _; rw [List.length_append, hc, flat_len c n hc M, List.length_cons, Nat.succ_mul]; omega
theorem cells_one (L : List P.St) : ∀ u ∈ flat cellsS L, u.oneCell' = true := flat_one cellsS (fun x u hu => by simp [cellsS] at hu; rcases hu with rfl | rfl <;> rfl) L

set_option maxHeartbeats 4000000 in
set_option maxRecDepth 100000 in
/-- slices.Clone at settings -/
theorem cloneS_any (L : List P.St) (a : Option Addr) (cap : Nat) (hl : L.length ≤ 4294967280) (w : World) (hm : StsAt w.heap.size w a L cap) :
    Calls Tryz.prog 179 #[.slice a L.length cap] w fun e w' => ∃ v, e = .returned v ∧ w'.ownsRow w.heap.size 62 2 v L.length (flat cellsS L) ∧ Below w.heap.size w w' := by
  obtain ⟨i0, hi, hz0, hz1, hz2⟩ := info_parts info62
  have q22 : ∀ (w : World) (a : Option Addr) (n c n' c' : Nat), (binOp .eql 22 (.slice a n c) (.slice none n' c')).run Tryz.prog w = .ok (.bool a.isNone) w := fun w a n c n' c' => Lib.run_eql_slice_nil w _ _ a n c n' c' Tryz.underlying22
  cases a with
  | none =>
    have hL := eq_nil_of_none hm
    subst hL
    clear hm
    go_enter Tryz.func179, Tryz.ntmps179
    go_wp2_with fail
    go_ret
    exact ⟨_, rfl, World.ownsRow_nil _ _ _ _, Below.refl _ _⟩
  | some ad =>
    have HC := Lib.hid (fun j u h => cell_keep (below_alloc w (.cells #[] 62)) (sts_cells hm j u h))
    have hone := cells_one L
    have hlen := flat_len cellsS 2 (fun _ => rfl) L
    generalize flat cellsS L = news at *
    generalize L.length = n at *
    clear hm
    go_enter Tryz.func179, Tryz.ntmps179
    go_wp2_with (at_builtin; refine wpList_append_own _ rfl _ _ 22 rfl w.heap.size 62 i0 _ 2 32 Tryz.underlying22 hi hz0 hz1 hz2 rfl (by decide) _ _ _ rfl (World.ownsRow_made w #[] 0 (Nat.le_refl _) (Nat.zero_le _) (by simp)) ad n cap news rfl hlen HC.out hone (by unfold maxLen; omega) (by omega) (by simp) ?_; intro v' w1 hown hgrow hnil)
    go_ret
    refine ⟨v', rfl, by simpa using hown, ?_⟩
    exact (below_alloc w _).grown hgrow (by simp) (fun k hk => by have h2 : some w.heap.size = some k := hk; injection h2 with h2; omega)

/-- the four lists of a machine are the call's own, in blocks from base on -/
structure MOwn (base : Nat) (W : World) (A : Ad) (m : P.Mach) : Prop where
  f : W.ownsRow base 62 2 (.slice A.a1 m.facts.length A.c1) m.facts.length (flat cellsS m.facts)
  i : W.ownsRow base 42 3 (.slice A.a2 m.files.length A.c2) m.files.length (flat cellsF m.files)
  s : W.ownsRow base 62 2 (.slice A.a3 m.sets.length A.c3) m.sets.length (flat cellsS m.sets)
  v : W.ownsRow base 46 4 (.slice A.a4 m.svcs.length A.c4) m.svcs.length (flat cellsV m.svcs)

/-- the state between the loops of machine -/
structure Stg (w W : World) (B N b1 b2 b3 : Nat) (rowB : Array Value) (v0 : Value) (F : List P.St) (I : List P.Fi) (S : List P.St) (V : List P.Sv) : Prop where
  rb : HasRow W B rowB
  i : FilesM W b1 I
  s : SetsM W b2 S
  v : SvcsM W b3 V
  rr : HasRow W w.heap.size #[.slice none 0 0, .slice none 0 0, .slice none 0 0, .slice none 0 0]
  o0 : W.ownsRow (w.heap.size + 1) 62 2 v0 F.length (flat cellsS F)
  bel : Below w.heap.size w W
  hN : w.heap.size + 1 ≤ N
  n0 : some N ≠ v0.ownBlock
  nB : B ≠ N
  n1 : b1 ≠ N
  n2 : b2 ≠ N
  n3 : b3 ≠ N
section
variable {w W W' : World} {B N b1 b2 b3 : Nat} {rowB : Array Value} {v0 : Value} {F : List P.St} {I : List P.Fi} {S : List P.St} {V : List P.Sv}
theorem Stg.below (h : Stg w W B N b1 b2 b3 rowB v0 F I S V) (hb : Below W.heap.size W W') : Stg w W' B N b1 b2 b3 rowB v0 F I S V :=
  { h with rb := h.rb.below hb, i := h.i.below hb h.i.lt, s := h.s.below hb h.s.lt, v := h.v.below hb h.v.lt, o0 := own_below h.o0 hb, bel := bstep h.bel hb, rr := h.rr.below hb }
theorem Stg.but (h : Stg w W B N b1 b2 b3 rowB v0 F I S V) (hg : W.grownBy W' (some N)) : Stg w W' B N b1 b2 b3 rowB v0 F I S V :=
  { h with rb := row_but h.rb hg h.nB, i := h.i.kept hg (fun e => h.n1 (by injection e)), s := h.s.kept hg (fun e => h.n2 (by injection e)), v := h.v.kept hg (fun e => h.n3 (by injection e)), o0 := h.o0.kept hg (Or.inr h.n0.symm), bel := h.bel.grown hg h.bel.size (fun j e => by cases e; have := h.hN; omega), rr := row_but h.rr hg (by have := h.hN; omega) }
theorem own_store4 {base n size k : Nat} {e : TypeId} {v : Value} {xs : List Value} (h : W.ownsRow base e size v n xs) (hk : k < base) (x y z u : Value) : ((((W.setCell ⟨k, 0, none⟩ x).setCell ⟨k, 1, none⟩ y).setCell ⟨k, 2, none⟩ z).setCell ⟨k, 3, none⟩ u).ownsRow base e size v n xs :=
  own_store (own_store (own_store (own_store h hk) hk) hk) hk
theorem own4 {m : P.Mach} {A : Ad} {k : Nat} {x y z u : Value} (h1 : W.ownsRow (k + 1) 62 2 (.slice A.a1 m.facts.length A.c1) m.facts.length (flat cellsS m.facts)) (h2 : W.ownsRow (k + 1) 42 3 (.slice A.a2 m.files.length A.c2) m.files.length (flat cellsF m.files))
    (h3 : W.ownsRow (k + 1) 62 2 (.slice A.a3 m.sets.length A.c3) m.sets.length (flat cellsS m.sets)) (h4 : W.ownsRow (k + 1) 46 4 (.slice A.a4 m.svcs.length A.c4) m.svcs.length (flat cellsV m.svcs)) :
    MOwn (k + 1) ((((W.setCell ⟨k, 0, none⟩ x).setCell ⟨k, 1, none⟩ y).setCell ⟨k, 2, none⟩ z).setCell ⟨k, 3, none⟩ u) A m :=
  ⟨own_store4 h1 (Nat.lt_succ_self k) x y z u, own_store4 h2 (Nat.lt_succ_self k) x y z u, own_store4 h3 (Nat.lt_succ_self k) x y z u, own_store4 h4 (Nat.lt_succ_self k) x y z u⟩
theorem MOwn.lies {base : Nat} {m : P.Mach} {A : Ad} (h : MOwn base W A m) : Lies W.heap.size W A m := by
  obtain ⟨a, c, q, g1, _⟩ := ownAtS h.f
  cases q
  obtain ⟨a, c, q, g2, _⟩ := ownAtF h.i
  cases q
  obtain ⟨a, c, q, g3, _⟩ := ownAtS h.s
  cases q
  obtain ⟨a, c, q, g4, _⟩ := ownAtV h.v
  cases q
  exact ⟨g1, g2, g3, g4⟩
theorem MOwn.store {base k : Nat} {m : P.Mach} {A : Ad} (h : MOwn base W A m) (hk : k < base) (x y z u : Value) : MOwn base ((((W.setCell ⟨k, 0, none⟩ x).setCell ⟨k, 1, none⟩ y).setCell ⟨k, 2, none⟩ z).setCell ⟨k, 3, none⟩ u) A m :=
  ⟨own_store4 h.f hk x y z u, own_store4 h.i hk x y z u, own_store4 h.s hk x y z u, own_store4 h.v hk x y z u⟩
theorem MOwn.below {base : Nat} {m : P.Mach} {A : Ad} (h : MOwn base W A m) (hb : Below W.heap.size W W') : MOwn base W' A m := ⟨own_below h.f hb, own_below h.i hb, own_below h.s hb, own_below h.v hb⟩
theorem MOwn.base {base b' : Nat} {m : P.Mach} {A : Ad} (h : MOwn base W A m) (hle : b' ≤ base) : MOwn b' W A m := ⟨own_base h.f hle, own_base h.i hle, own_base h.s hle, own_base h.v hle⟩
theorem own_but {base n size : Nat} {e : TypeId} {v : Value} {xs : List Value} (h : W.ownsRow base e size v n xs) (hne : some N ≠ v.ownBlock) (hg : W.grownBy W' (some N)) : W'.ownsRow base e size v n xs := h.kept hg (Or.inr hne.symm)
end

set_option maxRecDepth 100000 in
set_option maxHeartbeats 16000000 in
theorem machine_any (n₀ B b1 b2 b3 : Nat) (A : Ad) (m : P.Mach) (hr : P.Right m) (hf : m.fit) (w : World) (hn : n₀ ≤ w.heap.size) (hw : WAt n₀ w B b1 b2 b3 A m) :
    Calls Tryz.prog 130 #[.pointer (some ⟨B, 0, none⟩)] w fun e w' => ∃ A', e = .returned (machV A' m) ∧ MOwn w.heap.size w' A' m ∧ Below w.heap.size w w' := by
  obtain ⟨a1, a2, a3, a4, c1, c2, c3, c4⟩ := A
  obtain ⟨F, I, S, V⟩ := m
  have hLF : F.length ≤ 4294967280 := hf.l1
  have H0 := Lib.hid (fun W (h : StsAt W.heap.size W a1 F c1) => cloneS_any F a1 c1 hLF W h)
  have HK1 := Lib.hid (keysF_any I hr.r2 (fun x hx => by obtain ⟨q, hq, rfl⟩ := List.getElem_of_mem hx; exact Nat.le_trans (hf.i q hq).1 (by decide)) (Nat.le_trans hr.l2 (by decide)) b1)
  have HK2 := Lib.hid (keysS_any S hr.r3 (fun x hx => by obtain ⟨q, hq, rfl⟩ := List.getElem_of_mem hx; exact Nat.le_trans (hf.s q hq).1 (by decide)) (Nat.le_trans hr.l3 (by decide)) b2)
  have HK3 := Lib.hid (keysV_any V hr.r4 (fun x hx => by obtain ⟨q, hq, rfl⟩ := List.getElem_of_mem hx; exact Nat.le_trans (hf.v q hq).1 (by decide)) (Nat.le_trans hr.l4 (by decide)) b3)
  have HR := Lib.hid hr
  have HS := Lib.hid hf
  have HW := Lib.hid hw
  obtain ⟨r0, r1, r2, r3, hBlt⟩ := hrow4 hw.row
  have hst := (hw.f.up hn).below (below_alloc w (.cells #[.slice none 0 0, .slice none 0 0, .slice none 0 0, .slice none 0 0] 26))
  have HST := Lib.hid (hst.up (by simp : w.heap.size ≤ (w.alloc (.cells #[.slice none 0 0, .slice none 0 0, .slice none 0 0, .slice none 0 0] 26)).heap.size))
  obtain ⟨i0, hi, hz0, hz1, hz2⟩ := info_parts info42
  obtain ⟨j0, ji, jz0, jz1, jz2⟩ := info_parts info62
  obtain ⟨v0, vi, vz0, vz1, vz2⟩ := info_parts info46
  have hLI : I.length ≤ 4294967280 := Nat.le_trans hr.l2 (by decide)
  have hLS : S.length ≤ 4294967280 := Nat.le_trans hr.l3 (by decide)
  have hLV : V.length ≤ 4294967280 := Nat.le_trans hr.l4 (by decide)
  clear hr hf hw hst
  go_enter Tryz.func130, Tryz.ntmps130
  go_wp2_with fail
  refine (H0.out _ HST.out).mono ?_
  rintro e w1 ⟨v0, rfl, ho0, hb1⟩
  have ho := ho0
  obtain ⟨q0, d0, rfl, hat0, hloc0⟩ := ownAtS ho0
  have hb1s := hb1.size
  rw [World.size_alloc] at hb1s
  have HG1 := Lib.hid (show Stg w (w1.alloc (.cells #[.slice q0 F.length d0, .slice none 0 0, .slice none 0 0, .slice none 0 0] 26)) B w1.heap.size b1 b2 b3 _ _ F I S V from
    { rb := ((HW.out.row.alloc _).below hb1).alloc _, i := ((HW.out.i.alloc _).below hb1 (HW.out.i.alloc _).lt).alloc _, s := ((HW.out.s.alloc _).below hb1 (HW.out.s.alloc _).lt).alloc _, v := ((HW.out.v.alloc _).below hb1 (HW.out.v.alloc _).lt).alloc _,
      rr := ((HasRow.new w _ 26).below hb1).alloc _, o0 := own_below (own_base ho (by simp)) (below_alloc w1 _), bel := bstep (bstep (below_alloc w _) hb1) (below_alloc w1 _), hN := by omega, n0 := fun e => by have := own_lt ho _ e.symm; omega,
      nB := by omega, n1 := by have := HW.out.i.lt; omega, n2 := by have := HW.out.s.lt; omega, n3 := by have := HW.out.v.lt; omega })
  have HX1 := Lib.hid (HasRow.new w1 #[.slice q0 F.length d0, .slice none 0 0, .slice none 0 0, .slice none 0 0] 26)
  obtain ⟨_, y1, _, _, _⟩ := hrow4 HG1.out.rb
  obtain ⟨x0, x1, x2, x3, hxlt⟩ := hrow4 HX1.out
  clear ho0 hat0 hloc0 ho hb1 hb1s HST
  go_wp2_with fail
  refine (HK1.out _ HG1.out.i).mono ?_
  rintro e wb ⟨vk, rfl, hok, hb⟩
  obtain ⟨kp, kc, rfl, hka⟩ := ownAtK (L := I.map P.Fi.p) (by rw [List.length_map, List.map_map]; exact hok)
  rw [List.length_map]
  have hkN : w1.heap.size < (w1.alloc (.cells #[.slice q0 F.length d0, .slice none 0 0, .slice none 0 0, .slice none 0 0] 26)).heap.size := HX1.out.lt
  have HKA := Lib.hid hka
  have HG := Lib.hid (HG1.out.below hb)
  have HX := Lib.hid (HX1.out.below hb)
  have hN2 := HX.out.lt
  clear hok hka hb x0 x1 x2 x3 hxlt y1 HG1 HX1
  go_wp2_with fail
  go_loopw [22] (fun i wr => ∃ (k : Nat) (p1A : Option Addr) (e1A : Nat), k ≤ I.length ∧ i = .int .i64 k ∧ Hid (HasRow wr w1.heap.size #[.slice q0 F.length d0, .slice p1A k e1A, .slice none 0 0, .slice none 0 0]) ∧ Hid (wr.ownsRow wb.heap.size 42 3 (.slice p1A k e1A) k (flat cellsF (I.take k))) ∧ Hid (wb.grownBy wr (some w1.heap.size))) (fun i _ => I.length - (intOf i).toNat)
  case atStart => exact ⟨0, none, 0, Nat.zero_le _, rfl, HX, Lib.hid (World.ownsRow_nil _ _ _ _), Lib.hid (World.grownBy_refl' _ _)⟩
  case round =>
    obtain ⟨k, p1A, e1A, hk, rfl, HXr, HO, HGr⟩ := hrel
    by_cases hlt : k < I.length
    · obtain ⟨kb, rfl, hklo, hkhi, hkc⟩ := HKA.out.at_ (by intro e; rw [List.map_eq_nil_iff] at e; subst e; simp at hlt)
      have hkk := cell_but (hkc k (by simpa using hlt)) HGr.out (by show kb ≠ w1.heap.size; omega)
      rw [List.getElem_map] at hkk
      have hget := ((HG.out.i.kept HGr.out (fun e => HG.out.n1 (by injection e))).drew).get (t := 148) (e := 42) Tryz.underlying9 Tryz.underlying148 (z42 _) (s := I[k].p) (Nat.le_trans (HS.out.i k hlt).1 (by decide))
      rw [P.findK_mem HR.out.r2 (List.getElem_mem hlt)] at hget
      change (Instr.lookup 148 (.map (some b1)) (.string I[k].p) false).run _ _ = .ok (.agg #[.string I[k].p, .string I[k].d, .bool I[k].r]) _ at hget
      have HFL := Lib.hid (flat_take cellsF I hlt)
      obtain ⟨m0, m1, m2, m3, hml⟩ := hrow4 HXr.out.drew
      have HYr := Lib.hid (row_but HG.out.rb HGr.out HG.out.nB)
      have hBlt2 := HG.out.rb.lt
      have hyB : wr.drew.cell? ⟨B, 1, none⟩ = some (.map (some b1)) := HYr.out.drew.cell 1
      generalize I[k] = x at *
      have hwb : wb.heap.size ≤ ((wr.alloc (.cells #[.string x.p, .string x.d, .bool x.r] 42)).drew).heap.size := Nat.le_trans HGr.out.size (below_alloc wr.drew _).size
      have hm1' : ((wr.alloc (.cells #[.string x.p, .string x.d, .bool x.r] 42)).drew).cell? ⟨w1.heap.size, 1, none⟩ = some (.slice p1A k e1A) := cell_keep (below_alloc wr.drew _) m1
      have hyB' : ((wr.alloc (.cells #[.string x.p, .string x.d, .bool x.r] 42)).drew).cell? ⟨B, 1, none⟩ = some (.map (some b1)) := cell_keep (below_alloc wr.drew _) hyB
      go_wp2_with fail
      go_region_law
        (first
          | (refine step_append_own rfl _ _ 23 rfl wb.heap.size 42 i0 _ 3 40 Tryz.underlying23 hi hz0 hz1 hz2 rfl (by decide) _ _ _ rfl (own_below (W := wr.drew) HO.out (below_alloc wr.drew _)) ⟨wr.heap.size, 0, none⟩ 1 1 (cellsF x) rfl rfl (cells_new wr.drew (cellsF x) 42) (by intro u hu; simp [cellsF] at hu; rcases hu with rfl | rfl | rfl <;> rfl) (by unfold maxLen; omega) (by omega) hwb ?_; intro p' c' w3 hown3 hgrow3; obtain ⟨hc3, hf3, hyB3, hyB4, hX4⟩ := after_append (j := 1) (s1 := .slice p1A k e1A) (s2 := .map (some b1)) (u := .slice p' (k + 1) c') HXr.out HYr.out hgrow3 (fun g e => by have := own_ge HO.out g e; omega) HG.out.nB rfl rfl))
      all_goals
        have HX4 := Lib.hid hX4
        have HO4 := Lib.hid (own_store (j := 1) (u := .slice p' (k + 1) c') hown3 hN2)
        have HG4 := Lib.hid (grown_store (j := 1) (u := .slice p' (k + 1) c') HGr.out hgrow3 (own_ge HO.out))
        clear hX4 hown3 hgrow3 hc3 hf3 hyB3 hyB4 hyB hyB' hm1' m0 m1 m2 m3 hget hkk
        go_wp2_with fail
        go_roundw
        case rel => exact ⟨k + 1, p', c', by omega, by go_num, HX4, by rw [HFL.out]; exact HO4, HG4⟩
        case measure => simp [intOf]; omega
    · have hkl : k = I.length := by omega
      subst hkl
      have HP1 := Lib.hid (own_base (show wr.ownsRow wb.heap.size 42 3 (.slice p1A I.length e1A) I.length (flat cellsF I) by have := HO.out; rwa [List.take_length] at this) (by have := HG.out.hN; omega : w.heap.size + 1 ≤ wb.heap.size))
      have HN1 := Lib.hid (fun e => by have := own_ge HO.out _ e.symm; omega : some w1.heap.size ≠ Value.ownBlock (.slice p1A I.length e1A))
      have HG2 := Lib.hid (HG.out.but HGr.out)
      clear HO hlt hk HG HGr HKA hN2 hkN HX
      rename World => wA
      obtain ⟨x0, x1, x2, x3, hxlt⟩ := hrow4 HXr.out
      have HX2 := HXr
      clear HXr
      obtain ⟨_, z1, z2, z3, _⟩ := hrow4 HG2.out.rb
      have y1 := z2
      clear z1 z2 z3
      go_wp2_with fail
      refine (HK2.out _ HG2.out.s).mono ?_
      rintro e wb ⟨vk, rfl, hok, hb⟩
      obtain ⟨kp, kc, rfl, hka⟩ := ownAtK (L := S.map P.St.k) (by rw [List.length_map, List.map_map]; exact hok)
      rw [List.length_map]
      have hkN : w1.heap.size < (wA).heap.size := HX2.out.lt
      have HKA := Lib.hid hka
      have HG := Lib.hid (HG2.out.below hb)
      have HX := Lib.hid (HX2.out.below hb)
      have HP1b := Lib.hid (own_below HP1.out hb)
      have hN2 := HX.out.lt
      clear hok hka hb x0 x1 x2 x3 hxlt y1 HG2 HX2 HP1
      go_wp2_with fail
      go_loopw [44] (fun i wr => ∃ (k : Nat) (p1B : Option Addr) (e1B : Nat), k ≤ S.length ∧ i = .int .i64 k ∧ Hid (HasRow wr w1.heap.size #[.slice q0 F.length d0, .slice p1A I.length e1A, .slice p1B k e1B, .slice none 0 0]) ∧ Hid (wr.ownsRow wb.heap.size 62 2 (.slice p1B k e1B) k (flat cellsS (S.take k))) ∧ Hid (wb.grownBy wr (some w1.heap.size))) (fun i _ => S.length - (intOf i).toNat)
      case atStart => exact ⟨0, none, 0, Nat.zero_le _, rfl, HX, Lib.hid (World.ownsRow_nil _ _ _ _), Lib.hid (World.grownBy_refl' _ _)⟩
      case round =>
        obtain ⟨k, p1B, e1B, hk, rfl, HXr, HO, HGr⟩ := hrel
        by_cases hlt : k < S.length
        · obtain ⟨kb, rfl, hklo, hkhi, hkc⟩ := HKA.out.at_ (by intro e; rw [List.map_eq_nil_iff] at e; subst e; simp at hlt)
          have hkk := cell_but (hkc k (by simpa using hlt)) HGr.out (by show kb ≠ w1.heap.size; omega)
          rw [List.getElem_map] at hkk
          have hget := ((HG.out.s.kept HGr.out (fun e => HG.out.n2 (by injection e))).drew).get (t := 149) (e := 9) Tryz.underlying9 Tryz.underlying149 (z9 _) (s := S[k].k) (Nat.le_trans (HS.out.s k hlt).1 (by decide))
          rw [P.findK_mem HR.out.r3 (List.getElem_mem hlt)] at hget
          change (Instr.lookup 149 (.map (some b2)) (.string S[k].k) false).run _ _ = .ok (.string S[k].v) _ at hget
          have HFL := Lib.hid (flat_take cellsS S hlt)
          obtain ⟨m0, m1, m2, m3, hml⟩ := hrow4 HXr.out.drew
          have HYr := Lib.hid (row_but HG.out.rb HGr.out HG.out.nB)
          have hBlt2 := HG.out.rb.lt
          have hyB : wr.drew.cell? ⟨B, 2, none⟩ = some (.map (some b2)) := HYr.out.drew.cell 2
          generalize S[k] = x at *
          have hwb : wb.heap.size ≤ ((wr.alloc (.cells #[.string x.k, .string x.v] 62)).drew).heap.size := Nat.le_trans HGr.out.size (below_alloc wr.drew _).size
          have hm1' : ((wr.alloc (.cells #[.string x.k, .string x.v] 62)).drew).cell? ⟨w1.heap.size, 2, none⟩ = some (.slice p1B k e1B) := cell_keep (below_alloc wr.drew _) m2
          have hyB' : ((wr.alloc (.cells #[.string x.k, .string x.v] 62)).drew).cell? ⟨B, 2, none⟩ = some (.map (some b2)) := cell_keep (below_alloc wr.drew _) hyB
          go_wp2_with fail
          go_region_law
            (first
              | (refine step_append_own rfl _ _ 22 rfl wb.heap.size 62 j0 _ 2 32 Tryz.underlying22 ji jz0 jz1 jz2 rfl (by decide) _ _ _ rfl (own_below (W := wr.drew) HO.out (below_alloc wr.drew _)) ⟨wr.heap.size, 0, none⟩ 1 1 (cellsS x) rfl rfl (cells_new wr.drew (cellsS x) 62) (by intro u hu; simp [cellsS] at hu; rcases hu with rfl | rfl <;> rfl) (by unfold maxLen; omega) (by omega) hwb ?_; intro p' c' w3 hown3 hgrow3; obtain ⟨hc3, hf3, hyB3, hyB4, hX4⟩ := after_append (j := 2) (s1 := .slice p1B k e1B) (s2 := .map (some b2)) (u := .slice p' (k + 1) c') HXr.out HYr.out hgrow3 (fun g e => by have := own_ge HO.out g e; omega) HG.out.nB rfl rfl))
          all_goals
            have HX4 := Lib.hid hX4
            have HO4 := Lib.hid (own_store (j := 2) (u := .slice p' (k + 1) c') hown3 hN2)
            have HG4 := Lib.hid (grown_store (j := 2) (u := .slice p' (k + 1) c') HGr.out hgrow3 (own_ge HO.out))
            clear hX4 hown3 hgrow3 hc3 hf3 hyB3 hyB4 hyB hyB' hm1' m0 m1 m2 m3 hget hkk
            go_wp2_with fail
            go_roundw
            case rel => exact ⟨k + 1, p', c', by omega, by go_num, HX4, by rw [HFL.out]; exact HO4, HG4⟩
            case measure => simp [intOf]; omega
        · have hkl : k = S.length := by omega
          subst hkl
          have HP2 := Lib.hid (own_base (show wr.ownsRow wb.heap.size 62 2 (.slice p1B S.length e1B) S.length (flat cellsS S) by have := HO.out; rwa [List.take_length] at this) (by have := HG.out.hN; omega : w.heap.size + 1 ≤ wb.heap.size))
          have HN2 := Lib.hid (fun e => by have := own_ge HO.out _ e.symm; omega : some w1.heap.size ≠ Value.ownBlock (.slice p1B S.length e1B))
          have HP1 := Lib.hid (own_but HP1b.out HN1.out HGr.out)
          have HG3 := Lib.hid (HG.out.but HGr.out)
          clear HO hlt hk HG HGr HKA hN2 hkN HX HP1b
          rename World => wB
          obtain ⟨x0, x1, x2, x3, hxlt⟩ := hrow4 HXr.out
          have HX3 := HXr
          clear HXr
          obtain ⟨_, z1, z2, z3, _⟩ := hrow4 HG3.out.rb
          have y1 := z3
          clear z1 z2 z3
          go_wp2_with fail
          refine (HK3.out _ HG3.out.v).mono ?_
          rintro e wb ⟨vk, rfl, hok, hb⟩
          obtain ⟨kp, kc, rfl, hka⟩ := ownAtK (L := V.map P.Sv.n) (by rw [List.length_map, List.map_map]; exact hok)
          rw [List.length_map]
          have hkN : w1.heap.size < (wB).heap.size := HX3.out.lt
          have HKA := Lib.hid hka
          have HG := Lib.hid (HG3.out.below hb)
          have HX := Lib.hid (HX3.out.below hb)
          have HP1b := Lib.hid (own_below HP1.out hb)
          have HP2b := Lib.hid (own_below HP2.out hb)
          have hN2 := HX.out.lt
          clear hok hka hb x0 x1 x2 x3 hxlt y1 HG3 HX3 HP1 HP2
          go_wp2_with fail
          go_loopw [68] (fun i wr => ∃ (k : Nat) (p1C : Option Addr) (e1C : Nat), k ≤ V.length ∧ i = .int .i64 k ∧ Hid (HasRow wr w1.heap.size #[.slice q0 F.length d0, .slice p1A I.length e1A, .slice p1B S.length e1B, .slice p1C k e1C]) ∧ Hid (wr.ownsRow wb.heap.size 46 4 (.slice p1C k e1C) k (flat cellsV (V.take k))) ∧ Hid (wb.grownBy wr (some w1.heap.size))) (fun i _ => V.length - (intOf i).toNat)
          case atStart => exact ⟨0, none, 0, Nat.zero_le _, rfl, HX, Lib.hid (World.ownsRow_nil _ _ _ _), Lib.hid (World.grownBy_refl' _ _)⟩
          case round =>
            obtain ⟨k, p1C, e1C, hk, rfl, HXr, HO, HGr⟩ := hrel
            by_cases hlt : k < V.length
            · obtain ⟨kb, rfl, hklo, hkhi, hkc⟩ := HKA.out.at_ (by intro e; rw [List.map_eq_nil_iff] at e; subst e; simp at hlt)
              have hkk := cell_but (hkc k (by simpa using hlt)) HGr.out (by show kb ≠ w1.heap.size; omega)
              rw [List.getElem_map] at hkk
              have hget := ((HG.out.v.kept HGr.out (fun e => HG.out.n3 (by injection e))).drew).get (t := 150) (e := 46) Tryz.underlying9 Tryz.underlying150 (z46 _) (s := V[k].n) (Nat.le_trans (HS.out.v k hlt).1 (by decide))
              rw [P.findK_mem HR.out.r4 (List.getElem_mem hlt)] at hget
              change (Instr.lookup 150 (.map (some b3)) (.string V[k].n) false).run _ _ = .ok (.agg #[.string V[k].n, .string V[k].p, .bool V[k].a, .bool V[k].o]) _ at hget
              have HFL := Lib.hid (flat_take cellsV V hlt)
              obtain ⟨m0, m1, m2, m3, hml⟩ := hrow4 HXr.out.drew
              have HYr := Lib.hid (row_but HG.out.rb HGr.out HG.out.nB)
              have hBlt2 := HG.out.rb.lt
              have hyB : wr.drew.cell? ⟨B, 3, none⟩ = some (.map (some b3)) := HYr.out.drew.cell 3
              generalize V[k] = x at *
              have hwb : wb.heap.size ≤ ((wr.alloc (.cells #[.string x.n, .string x.p, .bool x.a, .bool x.o] 46)).drew).heap.size := Nat.le_trans HGr.out.size (below_alloc wr.drew _).size
              have hm1' : ((wr.alloc (.cells #[.string x.n, .string x.p, .bool x.a, .bool x.o] 46)).drew).cell? ⟨w1.heap.size, 3, none⟩ = some (.slice p1C k e1C) := cell_keep (below_alloc wr.drew _) m3
              have hyB' : ((wr.alloc (.cells #[.string x.n, .string x.p, .bool x.a, .bool x.o] 46)).drew).cell? ⟨B, 3, none⟩ = some (.map (some b3)) := cell_keep (below_alloc wr.drew _) hyB
              go_wp2_with fail
              go_region_law
                (first
                  | (refine step_append_own rfl _ _ 24 rfl wb.heap.size 46 v0 _ 4 40 Tryz.underlying24 vi vz0 vz1 vz2 rfl (by decide) _ _ _ rfl (own_below (W := wr.drew) HO.out (below_alloc wr.drew _)) ⟨wr.heap.size, 0, none⟩ 1 1 (cellsV x) rfl rfl (cells_new wr.drew (cellsV x) 46) (by intro u hu; simp [cellsV] at hu; rcases hu with rfl | rfl | rfl | rfl <;> rfl) (by unfold maxLen; omega) (by omega) hwb ?_; intro p' c' w3 hown3 hgrow3; obtain ⟨hc3, hf3, hyB3, hyB4, hX4⟩ := after_append (j := 3) (s1 := .slice p1C k e1C) (s2 := .map (some b3)) (u := .slice p' (k + 1) c') HXr.out HYr.out hgrow3 (fun g e => by have := own_ge HO.out g e; omega) HG.out.nB rfl rfl))
              all_goals
                have HX4 := Lib.hid hX4
                have HO4 := Lib.hid (own_store (j := 3) (u := .slice p' (k + 1) c') hown3 hN2)
                have HG4 := Lib.hid (grown_store (j := 3) (u := .slice p' (k + 1) c') HGr.out hgrow3 (own_ge HO.out))
                clear hX4 hown3 hgrow3 hc3 hf3 hyB3 hyB4 hyB hyB' hm1' m0 m1 m2 m3 hget hkk
                go_wp2_with fail
                go_roundw
                case rel => exact ⟨k + 1, p', c', by omega, by go_num, HX4, by rw [HFL.out]; exact HO4, HG4⟩
                case measure => simp [intOf]; omega
            · have hkl : k = V.length := by omega
              subst hkl
              have HP3 := Lib.hid (own_base (show wr.ownsRow wb.heap.size 46 4 (.slice p1C V.length e1C) V.length (flat cellsV V) by have := HO.out; rwa [List.take_length] at this) (by have := HG.out.hN; omega : w.heap.size + 1 ≤ wb.heap.size))
              have HN3 := Lib.hid (fun e => by have := own_ge HO.out _ e.symm; omega : some w1.heap.size ≠ Value.ownBlock (.slice p1C V.length e1C))
              have HP1 := Lib.hid (own_but HP1b.out HN1.out HGr.out)
              have HP2 := Lib.hid (own_but HP2b.out HN2.out HGr.out)
              have HG4 := Lib.hid (HG.out.but HGr.out)
              clear HO hlt hk HG HGr HKA hN2 hkN HX HP1b HP2b
              rename World => wC
              obtain ⟨x0, x1, x2, x3, hxlt⟩ := hrow4 HXr.out
              have HX4 := HXr
              clear HXr
              obtain ⟨_, z1, z2, z3, _⟩ := hrow4 HG4.out.rb
              have y1 := z3
              clear z1 z2 z3
              clear y1
              have hRR := HG4.out.rr
              have HS4 := Lib.hid (store4 hRR HG4.out.bel (Nat.le_refl _) (.slice q0 F.length d0) (.slice p1A I.length e1A) (.slice p1B S.length e1B) (.slice p1C V.length e1C))
              have HL4 := Lib.hid (own4 (m := ⟨F, I, S, V⟩) (A := ⟨q0, p1A, p1B, p1C, d0, e1A, e1B, e1C⟩) HG4.out.o0 HP1.out HP2.out HP3.out (x := .slice q0 F.length d0) (y := .slice p1A I.length e1A) (z := .slice p1B S.length e1B) (u := .slice p1C V.length e1C))
              obtain ⟨c0', c1', c2', c3', hltr⟩ := hrow4 hRR
              have f0 := hRR.free 0
              have f1 := hRR.free 1
              have f2 := hRR.free 2
              have f3 := hRR.free 3
              clear hRR
              go_wp2_with fail
              refine bodyPost_ret (v := machV ⟨q0, p1A, p1B, p1C, d0, e1A, e1B, e1C⟩ ⟨F, I, S, V⟩) ?_ rfl ⟨⟨q0, p1A, p1B, p1C, d0, e1A, e1B, e1C⟩, rfl, HL4.out.base (Nat.le_succ _), HS4.out.2⟩
              clear c0' c1' c2' c3' f0 f1 f2 f3
              obtain ⟨d0', d1', d2', d3', _⟩ := hrow4 HS4.out.1
              simp [results, Tryz.results130, go_sem, d0', d1', d2', d3', machV]
end Go.Proofs.YtkibmoekadmjnaaGreatDoor
