/- Worlds: what the journal's walks ask of a world; nothing but one block has turned. -/
/- Walks: outlaw1.sameJournal of journals that say the same. -/
import Derived.Test.YtomikcemiacjmaaGreatDoorZGRdL
import Derived.Test.YtomikcemiacjmaaGreatDoorZTPure
import Derived.Test.YtomikcemiacjmaaGreatDoorZJShelf
import Derived.Laws.AppendOwnNone
import Derived.Lib.AppendIntMem
import Derived.Lib.ItoaLen
import Derived.Test.YtomikcemiacjmaaGreatDoorZMOpen

namespace Go.Proofs.YtomikcemiacjmaaGreatDoor
open Go.RowKit Go.Lib Go.Shelf Go.Maps

/-- the library's variables -/
structure JW (w : World) : Prop where
  g : Good w
  t : Tz w
  e : Es w
  r : ∃ ev, w.cell? ⟨3, 0, none⟩ = some ev ∧ (ev = .nilIface ∨ ∃ te pe, ev = .iface te pe)
  p : Lib.TabBelow Tryz.prog 8 w "internal/strconv.uint64pow10" .u64 Lib.pow10Tab
theorem Tz.monoN {N : Nat} {w w' : World} (h : Tz w) (hN : 8 ≤ N) (hb : Below N w w') : Tz w' := by
  unfold Tz at *
  rw [hb.cell (p := ⟨7, 15, none⟩) (show 7 < N by omega)]; exact h
theorem JW.monoN {N : Nat} {w w' : World} (h : JW w) (hN : 8 ≤ N) (hb : Below N w w') : JW w' :=
  ⟨h.g.monoN hN hb, h.t.monoN hN hb, h.e.monoN hN hb, let ⟨ev, h1, h2⟩ := h.r; ⟨ev, by rw [hb.cell (p := ⟨3, 0, none⟩) (show 3 < N by omega)]; exact h1, h2⟩, h.p.on (hb.mono hN)⟩
theorem JW.mono {w w' : World} (h : JW w) (hb : Below w.heap.size w w') : JW w' := h.monoN h.g.sz hb

/-- nothing but block b has turned -/
def Gb (b : Nat) (w w' : World) : Prop := w.grownBy w' (some b)
theorem Gb.refl (b : Nat) (w : World) : Gb b w w := World.grownBy.refl w _
theorem Gb.trans {b : Nat} {u v w : World} (h : Gb b u v) (k : Gb b v w) : Gb b u w := World.grownBy.trans h k
theorem Gb.of {b : Nat} {w w' : World} (h : Below w.heap.size w w') : Gb b w w' := ⟨h.os, h.tape, h.output, h.size, fun k hk _ => h.block k hk⟩
theorem Gb.set {b : Nat} {w w' : World} (h : Gb b w w') (j : Nat) (v : Value) : Gb b w (w'.setCell ⟨b, j, none⟩ v) :=
  h.trans ⟨rfl, rfl, rfl, by simp [World.setCell], fun k _ hk => Below.heap_setCell _ _ v k (fun e => hk (by rw [e]))⟩
theorem Gb.drew {b : Nat} {w w' : World} (h : Gb b w w') : Gb b w w'.drew := ⟨h.os, h.tape, h.output, h.size, h.block⟩
theorem Gb.size {b : Nat} {w w' : World} (h : Gb b w w') : w.heap.size ≤ w'.heap.size := World.grownBy.size h
theorem Gb.below {b n : Nat} {w w' : World} (h : Gb b w w') (hn : n ≤ b) (hb : b < w.heap.size) : Below n w w' :=
  ⟨h.os, h.tape, h.output, World.grownBy.size h, fun k hk => h.block k (by omega) (fun e => by have := Option.some.inj e; omega)⟩
theorem JW.gb {b : Nat} {w w' : World} (h : JW w) (hg : Gb b w w') (h8 : 8 ≤ b) (hb : b < w.heap.size) : JW w' := h.monoN (Nat.le_refl 8) (hg.below h8 hb)
theorem own_gb {b base : Nat} {w w' : World} {e : TypeId} {size : Nat} {v : Value} {n : Nat} {xs : List Value} (h : w.ownsRow base e size v n xs) (hg : Gb b w w') (hb : b < base) : w'.ownsRow base e size v n xs := by
  obtain ⟨h1, h2⟩ := h
  refine ⟨h1, ?_⟩
  rcases h2 with h2 | ⟨g, cap, cur, hv, hgb, hh, r⟩
  · exact .inl h2
  · refine .inr ⟨g, cap, cur, hv, hgb, ?_, r⟩
    rw [hg.block g (Array.getElem?_eq_some_iff.1 hh).1 (fun e => by have := Option.some.inj e; omega)]
    exact hh
/-- an append to a slice that lies behind block b -/
theorem Gb.grown {b : Nat} {w w1 w2 : World} {row : Option Nat} (h : Gb b w w1) (hg : w1.grownBy w2 row) (hr : ∀ k, row = some k → w.heap.size ≤ k) : Gb b w w2 :=
  ⟨hg.os.trans h.os, hg.tape.trans h.tape, hg.output.trans h.output, Nat.le_trans h.size hg.size, fun k hk hne => (hg.block k (Nat.lt_of_lt_of_le hk h.size) (fun e => by have := hr k e.symm; omega)).trans (h.block k hk hne)⟩

/-- a list that lies in another block stays while block b is written -/
theorem ChsAt.gb {b : Nat} {w w' : World} {a : Option Addr} {L : List P.Chg} {c : Nat} (h : ChsAt w.heap.size w a L c) (hg : Gb b w w') (hne : L ≠ [] → ∀ k, (Value.slice a L.length c).ownBlock = some k → k ≠ b) : ChsAt w'.heap.size w' a L c := by
  refine ⟨h.le, fun hn => ?_⟩
  obtain ⟨g, off, e, hb, hc⟩ := h.at_ hn
  subst e
  have hk : g ≠ b := hne hn g rfl
  have hblk := hg.block g hb (fun e => hk (Option.some.inj e))
  have e := fun i => World.cell?_of_block (w := w) (w' := w') (a := ⟨g, i, none⟩) hblk
  exact ⟨g, off, rfl, Nat.lt_of_lt_of_le hb hg.size, fun k hk => let ⟨h0, h1, h2, h3, h4, h5, h6, h7, h8, h9⟩ := hc k hk; ⟨(e _).trans h0, (e _).trans h1, (e _).trans h2, (e _).trans h3, (e _).trans h4, (e _).trans h5, (e _).trans h6, (e _).trans h7, (e _).trans h8, (e _).trans h9⟩⟩
theorem append_none {w : World} (base : Nat) (t ty e : TypeId) (i : TypeInfo) (size : Nat) (ht : Tryz.prog.underlying t = some (.slice e)) (hi : Tryz.prog.info? e = some i)
    (v : Value) (n : Nat) (xs : List Value) (hown : w.ownsRow base e size v n xs) (c : Nat) :
    (Builtin.append_ #[t, t] ty #[v, .slice none 0 c]).run Tryz.prog w = .ok v w := by
  rcases hown.2 with ⟨rfl, rfl⟩ | ⟨g, cap, cur, rfl, _, _, hnc, _⟩
  · simp [Builtin.append_, run_underlying ht, sizeOf, typeInfo, hi, Builtin.lenOf, Builtin.firstCells]
  · simp [Builtin.append_, run_underlying ht, sizeOf, typeInfo, hi, Builtin.lenOf, Builtin.firstCells, hnc, storeCells]
theorem flat_chs (L : List P.Chg) : (flat chC L).length = L.length * 10 := by
  induction L with
  | nil => rfl
  | cons x l ih => unfold flat at *; rw [List.flatMap_cons, List.length_append, ih, List.length_cons]; show 10 + _ = _; omega
/-- append(l, m...): both lists of changes, the first one own -/
theorem wpList_append_chs {w : World} {ops : Array Oper} {rest : List Oper} {o : Oper} {a : Act} {Q : Exit → Act → World → Prop} (hgd : o.guard = none) (s x : Operand)
    (ho : o.op = .call { callee := .builtin .append, args := #[s, x], argTypes := #[27, 27] })
    (base : Nat) (p : Option Addr) (cp : Nat) (L : List P.Chg) (hs : a.eval s = .slice p L.length cp) (hown : w.ownsRow base 73 10 (.slice p L.length cp) L.length (flat chC L))
    (q : Option Addr) (M : List P.Chg) (c : Nat) (hM : M.length ≤ 1) (hx : a.eval x = .slice q M.length c) (hA : ChsAt w.heap.size w q M c)
    (hlen : L.length ≤ 10000000) (hbase : base ≤ w.heap.size)
    (h : ∀ p' c' w', w'.ownsRow base 73 10 (.slice p' (L ++ M).length c') (L ++ M).length (flat chC (L ++ M)) → w.grownBy w' (Value.slice p L.length cp).ownBlock →
      wpList Tryz.prog ops Q rest (a.put o.dst (.slice p' (L ++ M).length c')) w') : wpList Tryz.prog ops Q (o :: rest) a w := by
  obtain ⟨i0, hi, hz0, hz1, hz2⟩ := info_parts info73
  have hadd : (L ++ M).length = L.length + M.length := List.length_append
  have hfl : flat chC (L ++ M) = flat chC L ++ flat chC M := by unfold flat; rw [List.flatMap_append]
  cases q with
  | none =>
    have hMn : M = [] := by
      rcases Classical.em (M = []) with e | e
      · exact e
      · obtain ⟨b, off, e1, _⟩ := hA.at_ e
        cases e1
    subst hMn
    simp only [List.append_nil] at h
    refine wpList_plain hgd fun K hK => ?_
    have hrun := append_none base 27 o.type 73 i0 10 Tryz.underlying27 hi _ _ _ hown c
    unfold Oper.wp
    simp only [List.length_nil] at hx
    simp [execOp, ho, resolve, invoke, builtin, hs, hx, hrun, Result.andThen]
    exact hK _ _ (h p cp w hown (World.grownBy.refl _ _))
  | some ad =>
    refine wpList_append_sl5 hgd s x 27 ho base 73 i0 _ 10 120 Tryz.underlying27 hi hz0 hz1 hz2 rfl (by decide) _ _ _ hs hown ad M.length c (flat chC M) hx (flat_chs M) (fun j u hu => ?_) (fun u hu => ?_) (by unfold maxLen; omega) (by omega) hbase ?_
    · have hj : j < (flat chC M).length := (List.getElem?_eq_some_iff.1 hu).1
      rw [flat_chs] at hj
      match M, hM with
      | [], _ => simp at hj
      | [y], _ =>
        obtain ⟨b, off, e1, hb, hc⟩ := hA.at_ (by simp)
        cases e1
        obtain ⟨c0, c1, c2, c3, c4, c5, c6, c7, c8, c9⟩ := hc 0 (by simp)
        simp only [Nat.zero_mul, Nat.add_zero, List.getElem_cons_zero] at c0 c1 c2 c3 c4 c5 c6 c7 c8 c9
        have hfy : flat chC [y] = chC y := by unfold flat; simp
        rw [hfy] at hu
        simp only [List.length_cons, List.length_nil] at hj
        have : j = 0 ∨ j = 1 ∨ j = 2 ∨ j = 3 ∨ j = 4 ∨ j = 5 ∨ j = 6 ∨ j = 7 ∨ j = 8 ∨ j = 9 := by omega
        rcases this with rfl | rfl | rfl | rfl | rfl | rfl | rfl | rfl | rfl | rfl <;> (cases hu; assumption)
    · unfold flat at hu
      obtain ⟨y, _, hy⟩ := List.mem_flatMap.1 hu
      exact chC_one y u hy
    · intro p' c' w' h1 h2 h3
      rw [← hadd, ← hfl] at h1
      rw [← hadd]
      exact h p' c' w' h1 h2
end Go.Proofs.YtomikcemiacjmaaGreatDoor

namespace Go.Proofs.YtomikcemiacjmaaGreatDoor
open Go.RowKit Go.Lib Go.Shelf Go.Maps

set_option maxRecDepth 100000 in
set_option maxHeartbeats 4000000 in
theorem same_any (id : ByteArray) (cs os : List P.Chg) (hl1 : cs.length ≤ 4000000000) (hl2 : os.length ≤ 4000000000) (a1 : Option Addr) (c1 : Nat) (a2 : Option Addr) (c2 : Nat) (b1 : Option Addr) (d1 : Nat) (b2 : Option Addr) (d2 : Nat) (w : World)
    (h1 : ChsAt w.heap.size w a1 cs c1) (h2 : ChsAt w.heap.size w a2 os c2) (g1 : ChsAt w.heap.size w b1 cs d1) (g2 : ChsAt w.heap.size w b2 os d2) :
    Calls Tryz.prog 83 #[.agg #[.string id, .slice a1 cs.length c1, .slice a2 os.length c2], .agg #[.string id, .slice b1 cs.length d1, .slice b2 os.length d2]] w fun e w' => e = .returned (.bool true) ∧ Below w.heap.size w w' := by
  have HE1 := Lib.hid (fun W (hb : Below w.heap.size w W) => equalC_same cs a1 b1 c1 d1 hl1 W ((h1.below hb).up hb.size) ((g1.below hb).up hb.size))
  have HE2 := Lib.hid (fun W (hb : Below w.heap.size w W) => equalC_same os a2 b2 c2 d2 hl2 W ((h2.below hb).up hb.size) ((g2.below hb).up hb.size))
  have HZ := Lib.hid (below2 w (.cells #[.string id, .slice a1 cs.length c1, .slice a2 os.length c2] 106) (.cells #[.string id, .slice b1 cs.length d1, .slice b2 os.length d2] 106))
  have HJ := Lib.hid ((HasRow.new w #[.string id, .slice a1 cs.length c1, .slice a2 os.length c2] 106).alloc (.cells #[.string id, .slice b1 cs.length d1, .slice b2 os.length d2] 106))
  have HK := Lib.hid (HasRow.new (w.alloc (.cells #[.string id, .slice a1 cs.length c1, .slice a2 os.length c2] 106)) #[.string id, .slice b1 cs.length d1, .slice b2 os.length d2] 106)
  rw [World.size_alloc] at HK
  have hid : (id.toList == id.toList) = true := by simp
  have k0 := HJ.out.cell 0
  have k1 := HJ.out.cell 1
  have l0 := HK.out.cell 0
  have l1 := HK.out.cell 1
  clear h1 h2 g1 g2 hl1 hl2
  go_enter Tryz.func83, Tryz.ntmps83
  go_wp2_with (first
    | (go_at_call_of 48 (Value.slice a1 cs.length c1); refine (HE1.out _ HZ.out).mono ?_; rintro e w1 ⟨rfl, hb1⟩; have HB1 := Lib.hid (bstep HZ.out hb1); have m2 := (HJ.out.below hb1).cell 2; have n2 := (HK.out.below hb1).cell 2)
    | (go_at_call_of 48 (Value.slice a2 os.length c2); refine (HE2.out _ HB1.out).mono ?_; rintro e w2 ⟨rfl, hb2⟩))
  go_ret
  exact ⟨rfl, bstep HB1.out hb2⟩
end Go.Proofs.YtomikcemiacjmaaGreatDoor
