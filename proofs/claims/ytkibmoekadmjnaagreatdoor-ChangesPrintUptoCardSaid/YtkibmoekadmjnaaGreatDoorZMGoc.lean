/- Walks: package disk: the changes that take away, and those that bring. -/
import Derived.Test.YtkibmoekadmjnaaGreatDoorZMMsg
import Derived.Test.YtkibmoekadmjnaaGreatDoorZMBad
import Derived.Maps.AppendAt

namespace Go.Proofs.YtkibmoekadmjnaaGreatDoor
open Go.RowKit Go.Shelf

theorem flat_get {α : Type} (c : α → List Value) (n : Nat) (hc : ∀ x, (c x).length = n) : ∀ (L : List α) (k : Nat) (hk : k < L.length) (j : Nat), j < n → (flat c L)[k * n + j]? = (c L[k])[j]?
  | [], k, hk, j, hj => by simp at hk
  | x :: L, 0, hk, j, hj => by
    show (c x ++ flat c L)[0 * n + j]? = _
    rw [Nat.zero_mul, Nat.zero_add, List.getElem?_append_left (by rw [hc]; exact hj)]
    rfl
  | x :: L, k + 1, hk, j, hj => by
    show (c x ++ flat c L)[(k + 1) * n + j]? = _
    rw [List.getElem?_append_right (by rw [hc, Nat.succ_mul]; omega), hc, show (k + 1) * n + j - n = k * n + j by rw [Nat.succ_mul]; omega, flat_get c n hc L k (by simpa using hk) j hj]
    rfl
theorem own_cells {α : Type} {W : World} {base : Nat} {e : TypeId} {n : Nat} {v : Value} {c : α → List Value} {M : List α} (hc : ∀ x, (c x).length = n) (h : W.ownsRow base e n v M.length (flat c M)) :
    ∃ a cap, v = .slice a M.length cap ∧ M.length ≤ cap ∧ (∀ b, a = some b → base ≤ b.block ∧ b.block < W.heap.size) ∧ (M ≠ [] → ∃ g, a = some ⟨g, 0, none⟩ ∧ g < W.heap.size ∧ ∀ k (hk : k < M.length) j, j < n → W.cell? ⟨g, 0 + k * n + j, none⟩ = (c M[k])[j]?) := by
  obtain ⟨hl, ⟨rfl, h0⟩ | ⟨g, cap, cur, rfl, hg, hh, hn, hcap, hsz, ht⟩⟩ := h
  · exact ⟨none, 0, by rw [h0], by omega, (fun b e => by cases e), fun hne => absurd (List.length_eq_zero_iff.1 h0) hne⟩
  · refine ⟨_, cap, rfl, hn, (fun b e => by cases e; exact ⟨hg, (Array.getElem?_eq_some_iff.1 hh).1⟩), fun _ => ⟨g, rfl, (Array.getElem?_eq_some_iff.1 hh).1, fun k hk j hj => ?_⟩⟩
    rw [← flat_get c n hc M k hk j hj, ← ht]
    have hlt : k * n + j < M.length * n := by
      have : (k + 1) * n ≤ M.length * n := Nat.mul_le_mul_right _ hk
      rw [Nat.succ_mul] at this; omega
    have hlt2 : k * n + j < cur.size := by rw [hsz]; exact Nat.lt_of_lt_of_le hlt (Nat.mul_le_mul_right _ hn)
    rw [List.getElem?_take_of_lt hlt]
    simp [World.cell?, hh]
theorem flat_take {α : Type} (c : α → List Value) (L : List α) {k : Nat} (hk : k < L.length) : flat c (L.take (k + 1)) = flat c (L.take k) ++ c L[k] := by rw [List.take_succ_eq_append_getElem hk, flat_snoc]
theorem info73 : (Tryz.prog.info? 73).map (fun i => (i.zero, i.size, i.bytes)) = some (some (.agg #[.int .i64 0, .string ⟨#[]⟩, .string ⟨#[]⟩, .bool false, .string ⟨#[]⟩, .string ⟨#[]⟩, .string ⟨#[]⟩, .string ⟨#[]⟩, .bool false, .bool false]), 10, 120) := by kernel_rfl
/-- the state of a list of changes that is being made, between two blocks' numbers P and Q that it shuns -/
structure LState (w : World) (P Q : Nat) (ra rb : Array Value) (wr : World) (v : Value) (n : Nat) (xs : List Value) : Prop where
  own : wr.ownsRow (w.heap.size + 2) 73 10 v n xs
  loc : ∀ g, v.ownBlock = some g → g < P ∨ Q ≤ g
  ba : HasRow wr w.heap.size ra
  bb : HasRow wr (w.heap.size + 1) rb
  bel : Below w.heap.size w wr
  q : Q ≤ wr.heap.size
theorem own_lt {W : World} {base : Nat} {e : TypeId} {size n : Nat} {v : Value} {xs : List Value} (h : W.ownsRow base e size v n xs) : ∀ k, v.ownBlock = some k → k < W.heap.size := by
  obtain ⟨_, ⟨rfl, _⟩ | ⟨g, cap, cur, rfl, _, hh, _⟩⟩ := h
  · intro k e; cases e
  · intro k e; injection e with e; subst e; exact (Array.getElem?_eq_some_iff.1 hh).1
theorem LState.step {w wr w3 : World} {P Q : Nat} {ra rb : Array Value} {v v' : Value} {n n' : Nat} {xs xs' : List Value} (h : LState w P Q ra rb wr v n xs) (o1 o2 : Obj) (hg : ((wr.alloc o1).alloc o2).grownBy w3 v.ownBlock)
    (hown : w3.ownsRow (w.heap.size + 2) 73 10 v' n' xs') (hloc : v'.ownBlock = v.ownBlock ∨ v'.ownBlock = some ((wr.alloc o1).alloc o2).heap.size) : LState w P Q ra rb w3 v' n' xs' := by
  have h0 := own_ge h.own
  have hsz : wr.heap.size ≤ ((wr.alloc o1).alloc o2).heap.size := (below2 wr o1 o2).size
  refine ⟨hown, fun g e => ?_, ?_, ?_, ?_, Nat.le_trans h.q (Nat.le_trans hsz hg.size)⟩
  · rcases hloc with e' | e'
    · exact h.loc g (by rw [← e']; exact e)
    · rw [e'] at e; injection e with e; subst e; exact .inr (Nat.le_trans h.q hsz)
  · exact ((h.ba.alloc _).alloc _).grown hg (fun e => by have := h0 _ e.symm; omega)
  · exact ((h.bb.alloc _).alloc _).grown hg (fun e => by have := h0 _ e.symm; omega)
  · exact (bstep h.bel (below2 wr o1 o2)).grown hg (bstep h.bel (below2 wr o1 o2)).size (fun k e => by have := h0 _ e; omega)
theorem LState.next {w wr wJ : World} {P Q : Nat} {ra rb : Array Value} {v : Value} {n : Nat} {xs : List Value} (h : LState w P Q ra rb wr v n xs) (hb : Below wr.heap.size wr wJ) : LState w wr.heap.size wJ.heap.size ra rb wJ v n xs :=
  ⟨own_below h.own hb, fun g e => .inl (own_lt h.own g e), h.ba.below hb, h.bb.below hb, bstep h.bel hb, Nat.le_refl _⟩
theorem cell_step {w wr w3 : World} {P Q : Nat} {ra rb : Array Value} {v u : Value} {n : Nat} {xs : List Value} {p : Addr} (h : LState w P Q ra rb wr v n xs) (o1 o2 : Obj) (hg : ((wr.alloc o1).alloc o2).grownBy w3 v.ownBlock)
    (hc : wr.cell? p = some u) (hp : P ≤ p.block ∧ p.block < Q) : w3.cell? p = some u := by
  have h1 := cell_keep (below2 wr o1 o2) hc
  have hlt : p.block < ((wr.alloc o1).alloc o2).heap.size := Nat.lt_of_lt_of_le hp.2 (Nat.le_trans h.q (below2 wr o1 o2).size)
  rw [World.cell?_of_block (w := (wr.alloc o1).alloc o2) (a := p) (hg.block _ hlt (fun e => by have := h.loc _ e.symm; omega))]
  exact h1
theorem hrows {W : World} {k : Nat} {s1 s2 s3 s4 : Value} (h : HasRow W k #[s1, s2, s3, s4]) : W.cell? ⟨k, 1, none⟩ = some s2 ∧ W.cell? ⟨k, 2, none⟩ = some s3 ∧ W.cell? ⟨k, 3, none⟩ = some s4 ∧ k < W.heap.size := ⟨h.cell 1, h.cell 2, h.cell 3, h.lt⟩
theorem ownAtS {W : World} {base : Nat} {v : Value} {M : List P.St} (h : W.ownsRow base 62 2 v M.length (flat cellsS M)) : ∃ a cap, v = .slice a M.length cap ∧ StsAt W.heap.size W a M cap ∧ ∀ b, a = some b → base ≤ b.block ∧ b.block < W.heap.size := by
  obtain ⟨a, cap, rfl, hle, hb, hc⟩ := own_cells (c := cellsS) (fun _ => rfl) h
  refine ⟨a, cap, rfl, ⟨hle, fun hne => ?_⟩, hb⟩
  obtain ⟨g, rfl, hg, hcell⟩ := hc hne
  exact ⟨g, 0, rfl, hg, fun k hk => ⟨hcell k hk 0 (by decide), hcell k hk 1 (by decide)⟩⟩
theorem StsAt.step {w wr w3 : World} {lo up : Nat} {ra rb : Array Value} {v : Value} {n : Nat} {xs : List Value} {a : Option Addr} {M : List P.St} {c : Nat} (hA : StsAt up wr a M c) (hP : ∀ b, a = some b → lo ≤ b.block ∧ b.block < up) (h : LState w lo up ra rb wr v n xs) (o1 o2 : Obj) (hg : ((wr.alloc o1).alloc o2).grownBy w3 v.ownBlock) : StsAt up w3 a M c :=
  ⟨hA.le, fun hn => let ⟨b, off, e, hb, hc⟩ := hA.at_ hn; ⟨b, off, e, hb, fun k hk => ⟨cell_step h o1 o2 hg (hc k hk).1 (hP ⟨b, off, none⟩ e), cell_step h o1 o2 hg (hc k hk).2 (hP ⟨b, off, none⟩ e)⟩⟩⟩
theorem ownAtF {W : World} {base : Nat} {v : Value} {M : List P.Fi} (h : W.ownsRow base 42 3 v M.length (flat cellsF M)) : ∃ a cap, v = .slice a M.length cap ∧ FisAt W.heap.size W a M cap ∧ ∀ b, a = some b → base ≤ b.block ∧ b.block < W.heap.size := by
  obtain ⟨a, cap, rfl, hle, hb, hc⟩ := own_cells (c := cellsF) (fun _ => rfl) h
  refine ⟨a, cap, rfl, ⟨hle, fun hne => ?_⟩, hb⟩
  obtain ⟨g, rfl, hg, hcell⟩ := hc hne
  exact ⟨g, 0, rfl, hg, fun k hk => ⟨hcell k hk 0 (by decide), hcell k hk 1 (by decide), hcell k hk 2 (by decide)⟩⟩
theorem FisAt.step {w wr w3 : World} {lo up : Nat} {ra rb : Array Value} {v : Value} {n : Nat} {xs : List Value} {a : Option Addr} {M : List P.Fi} {c : Nat} (hA : FisAt up wr a M c) (hP : ∀ b, a = some b → lo ≤ b.block ∧ b.block < up) (h : LState w lo up ra rb wr v n xs) (o1 o2 : Obj) (hg : ((wr.alloc o1).alloc o2).grownBy w3 v.ownBlock) : FisAt up w3 a M c :=
  ⟨hA.le, fun hn => let ⟨b, off, e, hb, hc⟩ := hA.at_ hn; ⟨b, off, e, hb, fun k hk => ⟨cell_step h o1 o2 hg (hc k hk).1 (hP ⟨b, off, none⟩ e), cell_step h o1 o2 hg (hc k hk).2.1 (hP ⟨b, off, none⟩ e), cell_step h o1 o2 hg (hc k hk).2.2 (hP ⟨b, off, none⟩ e)⟩⟩⟩
theorem ownAtV {W : World} {base : Nat} {v : Value} {M : List P.Sv} (h : W.ownsRow base 46 4 v M.length (flat cellsV M)) : ∃ a cap, v = .slice a M.length cap ∧ SvsAt W.heap.size W a M cap ∧ ∀ b, a = some b → base ≤ b.block ∧ b.block < W.heap.size := by
  obtain ⟨a, cap, rfl, hle, hb, hc⟩ := own_cells (c := cellsV) (fun _ => rfl) h
  refine ⟨a, cap, rfl, ⟨hle, fun hne => ?_⟩, hb⟩
  obtain ⟨g, rfl, hg, hcell⟩ := hc hne
  exact ⟨g, 0, rfl, hg, fun k hk => ⟨hcell k hk 0 (by decide), hcell k hk 1 (by decide), hcell k hk 2 (by decide), hcell k hk 3 (by decide)⟩⟩
theorem SvsAt.step {w wr w3 : World} {lo up : Nat} {ra rb : Array Value} {v : Value} {n : Nat} {xs : List Value} {a : Option Addr} {M : List P.Sv} {c : Nat} (hA : SvsAt up wr a M c) (hP : ∀ b, a = some b → lo ≤ b.block ∧ b.block < up) (h : LState w lo up ra rb wr v n xs) (o1 o2 : Obj) (hg : ((wr.alloc o1).alloc o2).grownBy w3 v.ownBlock) : SvsAt up w3 a M c :=
  ⟨hA.le, fun hn => let ⟨b, off, e, hb, hc⟩ := hA.at_ hn; ⟨b, off, e, hb, fun k hk => ⟨cell_step h o1 o2 hg (hc k hk).1 (hP ⟨b, off, none⟩ e), cell_step h o1 o2 hg (hc k hk).2.1 (hP ⟨b, off, none⟩ e), cell_step h o1 o2 hg (hc k hk).2.2.1 (hP ⟨b, off, none⟩ e), cell_step h o1 o2 hg (hc k hk).2.2.2 (hP ⟨b, off, none⟩ e)⟩⟩⟩
def rmF (x : P.Fi) : List Value := [.int .i64 2, .string x.p, .string ⟨#[]⟩, .bool false, .string ⟨#[]⟩, .string ⟨#[]⟩, .string ⟨#[]⟩, .string ⟨#[]⟩, .bool false, .bool false]
def rmS (x : P.St) : List Value := [.int .i64 4, .string ⟨#[]⟩, .string ⟨#[]⟩, .bool false, .string x.k, .string ⟨#[]⟩, .string ⟨#[]⟩, .string ⟨#[]⟩, .bool false, .bool false]
def rmV (x : P.Sv) : List Value := [.int .i64 6, .string ⟨#[]⟩, .string ⟨#[]⟩, .bool false, .string ⟨#[]⟩, .string ⟨#[]⟩, .string x.n, .string ⟨#[]⟩, .bool false, .bool false]
def putF (x : P.Fi) : List Value := [.int .i64 1, .string x.p, .string x.d, .bool x.r, .string ⟨#[]⟩, .string ⟨#[]⟩, .string ⟨#[]⟩, .string ⟨#[]⟩, .bool false, .bool false]
def setS (x : P.St) : List Value := [.int .i64 3, .string ⟨#[]⟩, .string ⟨#[]⟩, .bool false, .string x.k, .string x.v, .string ⟨#[]⟩, .string ⟨#[]⟩, .bool false, .bool false]
def svcV (x : P.Sv) : List Value := [.int .i64 5, .string ⟨#[]⟩, .string ⟨#[]⟩, .bool false, .string ⟨#[]⟩, .string ⟨#[]⟩, .string x.n, .string x.p, .bool x.a, .bool x.o]

set_option maxRecDepth 100000 in
set_option maxHeartbeats 16000000 in
theorem goings_any (A B : Ad) (a b : P.Mach) (hfa : a.fit) (hfb : b.fit) (w : World) (hla : Lies w.heap.size w A a) (hlb : Lies w.heap.size w B b) :
    Calls Tryz.prog 98 #[machV A a, machV B b] w fun e w' => ∃ v, e = .returned v ∧ w'.ownsRow w.heap.size 73 10 v ((a.files.filter (P.missF b.files)).length + (a.sets.filter (P.missS b.sets)).length + (a.svcs.filter (P.missV b.svcs)).length) (flat rmF (a.files.filter (P.missF b.files)) ++ flat rmS (a.sets.filter (P.missS b.sets)) ++ flat rmV (a.svcs.filter (P.missV b.svcs))) ∧ Below w.heap.size w w' := by
  obtain ⟨a1, a2, a3, a4, c1, c2, c3, c4⟩ := A
  obtain ⟨F, I, S, V⟩ := a
  obtain ⟨b1, b2, b3, b4, d1, d2, d3, d4⟩ := B
  obtain ⟨F', I', S', V'⟩ := b
  unfold machV
  simp only
  obtain ⟨i0, hi, hz0, hz1, hz2⟩ := info_parts info73
  have H1 := fun W h1 h2 => missingF_any I I' a2 b2 c2 d2 hfa.l2 hfb.l2 hfa.i hfb.i W h1 h2
  have hM1 : (I.filter (P.missF I')).length ≤ 4294967280 := Nat.le_trans (List.length_filter_le _ _) hfa.l2
  have H2 := fun W h1 h2 => missingS_any S S' a3 b3 c3 d3 hfa.l3 hfb.l3 hfa.s hfb.s W h1 h2
  have hM2 : (S.filter (P.missS S')).length ≤ 4294967280 := Nat.le_trans (List.length_filter_le _ _) hfa.l3
  have H3 := fun W h1 h2 => missingV_any V V' a4 b4 c4 d4 hfa.l4 hfb.l4 hfa.v hfb.v W h1 h2
  have hM3 : (V.filter (P.missV V')).length ≤ 4294967280 := Nat.le_trans (List.length_filter_le _ _) hfa.l4
  generalize (I.filter (P.missF I')) = M1 at *
  generalize (S.filter (P.missS S')) = M2 at *
  generalize (V.filter (P.missV V')) = M3 at *
  replace H1 := Lib.hid H1
  replace H2 := Lib.hid H2
  replace H3 := Lib.hid H3
  have HLA := Lib.hid hla
  have HLB := Lib.hid hlb
  clear hla hlb hfa hfb
  go_enter Tryz.func98, Tryz.ntmps98
  go_wp2_with fail
  refine (H1.out _ ((HLA.out.i.below (below2 _ _ _)).up (below2 _ _ _).size) ((HLB.out.i.below (below2 _ _ _)).up (below2 _ _ _).size)).mono ?_
  rintro e w1 ⟨v1, rfl, ho, hb⟩
  have hRB := (HasRow.new (w.alloc (.cells #[.slice a1 F.length c1, .slice a2 I.length c2, .slice a3 S.length c3, .slice a4 V.length c4] 26)) #[.slice b1 F'.length d1, .slice b2 I'.length d2, .slice b3 S'.length d3, .slice b4 V'.length d4] 26).below hb
  rw [World.size_alloc] at hRB
  have RA1 := Lib.hid (((HasRow.new w #[.slice a1 F.length c1, .slice a2 I.length c2, .slice a3 S.length c3, .slice a4 V.length c4] 26).alloc _).below hb)
  have RB1 := Lib.hid hRB
  have HL1 : Hid (LState w (w.heap.size + 2) w1.heap.size #[.slice a1 F.length c1, .slice a2 I.length c2, .slice a3 S.length c3, .slice a4 V.length c4] #[.slice b1 F'.length d1, .slice b2 I'.length d2, .slice b3 S'.length d3, .slice b4 V'.length d4] w1 (.slice none 0 0) 0 []) :=
    Lib.hid ⟨World.ownsRow_nil _ _ _ _, (fun g e => by cases e), RA1.out, RB1.out, bstep (below2 _ _ _) hb, Nat.le_refl _⟩
  simp only [World.size_alloc] at ho
  clear hb hRB RA1 RB1
  obtain ⟨x1, y1, rfl, hat, hloc⟩ := ownAtF ho
  have HAT1 := Lib.hid hat
  have HP1 := Lib.hid hloc
  clear ho hat hloc
  go_wp2_with fail
  go_loopw [5, 18] (fun v i wr => ∃ k : Nat, k ≤ M1.length ∧ i = .int .i64 k ∧ Hid (LState w (w.heap.size + 2) w1.heap.size #[.slice a1 F.length c1, .slice a2 I.length c2, .slice a3 S.length c3, .slice a4 V.length c4] #[.slice b1 F'.length d1, .slice b2 I'.length d2, .slice b3 S'.length d3, .slice b4 V'.length d4] wr v (0 + k) (([] : List Value) ++ flat rmF (M1.take k))) ∧ Hid (FisAt w1.heap.size wr x1 M1 y1)) (fun _ i _ => M1.length - (intOf i).toNat)
  case atStart => exact ⟨0, Nat.zero_le _, rfl, Lib.hid (by simpa [flat] using HL1.out), HAT1⟩
  case round =>
    obtain ⟨k, hk, rfl, HQ, HR⟩ := hrel
    by_cases hlt : k < M1.length
    · obtain ⟨b, off, rfl, hbm, hc⟩ := HR.out.at_ (ne_nil_of_lt hlt)
      obtain ⟨e0, e1, e2⟩ := hc k hlt
      have HF := Lib.hid (flat_take rmF M1 hlt)
      clear hc
      generalize M1[k] = x at *
      have HB' := Lib.hid (bstep HQ.out.bel (below2 wr (.cells #[.string x.p, .string x.d, .bool x.r] 42) (.cells #[.int .i64 2, .string x.p, .string ⟨#[]⟩, .bool false, .string ⟨#[]⟩, .string ⟨#[]⟩, .string ⟨#[]⟩, .string ⟨#[]⟩, .bool false, .bool false] 73)))
      have hwb : w.heap.size + 2 ≤ ((wr.alloc (.cells #[.string x.p, .string x.d, .bool x.r] 42)).alloc (.cells #[.int .i64 2, .string x.p, .string ⟨#[]⟩, .bool false, .string ⟨#[]⟩, .string ⟨#[]⟩, .string ⟨#[]⟩, .string ⟨#[]⟩, .bool false, .bool false] 73)).heap.size := Nat.le_trans HQ.out.bb.lt (below2 wr _ _).size
      have hnew := cells_new (wr.alloc (.cells #[.string x.p, .string x.d, .bool x.r] 42)) (rmF x) 73
      rw [World.size_alloc] at hnew
      have HN := Lib.hid hnew
      clear hnew
      go_wp2_with (at_builtin; refine wpList_append_own_at _ rfl _ _ 27 rfl (w.heap.size + 2) 73 i0 _ 10 120 Tryz.underlying27 hi hz0 hz1 hz2 rfl (by decide) _ _ _ rfl (own_below HQ.out.own (below2 _ _ _)) ⟨wr.heap.size + 1, 0, none⟩ 1 1 (rmF x) rfl rfl HN.out (by intro u hu; simp [rmF] at hu; rcases hu with rfl | rfl | rfl | rfl | rfl | rfl | rfl | rfl | rfl | rfl <;> rfl) (by unfold maxLen; omega) (by omega) hwb ?_; intro v' w3 hown3 hgrow3 _ hloc3)
      have HQ3 := Lib.hid (HQ.out.step _ _ hgrow3 hown3 hloc3)
      have HR3 := Lib.hid (HR.out.step HP1.out HQ.out _ _ hgrow3)
      clear hown3 hgrow3 hloc3
      go_roundw
      case rel => exact ⟨k + 1, by omega, by go_num, by rw [HF.out, ← List.append_assoc, ← Nat.add_assoc]; exact HQ3, HR3⟩
      case measure => simp [intOf]; omega
    · have hkl : k = M1.length := by omega
      subst hkl
      have HQe := HQ.out
      rw [List.take_length] at HQe
      rename World => wP1
      obtain ⟨p1, p2, p3, p4⟩ := hrows HQe.ba
      obtain ⟨r1, r2, r3, r4⟩ := hrows HQe.bb
      have HLx := Lib.hid HQe
      clear HQe
      go_wp2_with fail
      refine (H2.out _ ((HLA.out.s.below HLx.out.bel).up HLx.out.bel.size) ((HLB.out.s.below HLx.out.bel).up HLx.out.bel.size)).mono ?_
      rintro e w2 ⟨v2, rfl, ho, hb⟩
      have HL2 := Lib.hid (HLx.out.next hb)
      clear hb p1 p2 p3 p4 r1 r2 r3 r4
      obtain ⟨x2, y2, rfl, hat, hloc⟩ := ownAtS ho
      have HAT2 := Lib.hid hat
      have HP2 := Lib.hid hloc
      clear ho hat hloc
      go_wp2_with fail
      go_loopw [5, 36] (fun v i wr => ∃ k : Nat, k ≤ M2.length ∧ i = .int .i64 k ∧ Hid (LState w wP1.heap.size w2.heap.size #[.slice a1 F.length c1, .slice a2 I.length c2, .slice a3 S.length c3, .slice a4 V.length c4] #[.slice b1 F'.length d1, .slice b2 I'.length d2, .slice b3 S'.length d3, .slice b4 V'.length d4] wr v ((0 + M1.length) + k) ((([] : List Value) ++ flat rmF M1) ++ flat rmS (M2.take k))) ∧ Hid (StsAt w2.heap.size wr x2 M2 y2)) (fun _ i _ => M2.length - (intOf i).toNat)
      case atStart => exact ⟨0, Nat.zero_le _, rfl, Lib.hid (by simpa [flat] using HL2.out), HAT2⟩
      case round =>
        obtain ⟨k, hk, rfl, HQ, HR⟩ := hrel
        by_cases hlt : k < M2.length
        · obtain ⟨b, off, rfl, hbm, hc⟩ := HR.out.at_ (ne_nil_of_lt hlt)
          obtain ⟨e0, e1⟩ := hc k hlt
          have HF := Lib.hid (flat_take rmS M2 hlt)
          clear hc
          generalize M2[k] = x at *
          have HB' := Lib.hid (bstep HQ.out.bel (below2 wr (.cells #[.string x.k, .string x.v] 62) (.cells #[.int .i64 4, .string ⟨#[]⟩, .string ⟨#[]⟩, .bool false, .string x.k, .string ⟨#[]⟩, .string ⟨#[]⟩, .string ⟨#[]⟩, .bool false, .bool false] 73)))
          have hwb : w.heap.size + 2 ≤ ((wr.alloc (.cells #[.string x.k, .string x.v] 62)).alloc (.cells #[.int .i64 4, .string ⟨#[]⟩, .string ⟨#[]⟩, .bool false, .string x.k, .string ⟨#[]⟩, .string ⟨#[]⟩, .string ⟨#[]⟩, .bool false, .bool false] 73)).heap.size := Nat.le_trans HQ.out.bb.lt (below2 wr _ _).size
          have hnew := cells_new (wr.alloc (.cells #[.string x.k, .string x.v] 62)) (rmS x) 73
          rw [World.size_alloc] at hnew
          have HN := Lib.hid hnew
          clear hnew
          go_wp2_with (at_builtin; refine wpList_append_own_at _ rfl _ _ 27 rfl (w.heap.size + 2) 73 i0 _ 10 120 Tryz.underlying27 hi hz0 hz1 hz2 rfl (by decide) _ _ _ rfl (own_below HQ.out.own (below2 _ _ _)) ⟨wr.heap.size + 1, 0, none⟩ 1 1 (rmS x) rfl rfl HN.out (by intro u hu; simp [rmS] at hu; rcases hu with rfl | rfl | rfl | rfl | rfl | rfl | rfl | rfl | rfl | rfl <;> rfl) (by unfold maxLen; omega) (by omega) hwb ?_; intro v' w3 hown3 hgrow3 _ hloc3)
          have HQ3 := Lib.hid (HQ.out.step _ _ hgrow3 hown3 hloc3)
          have HR3 := Lib.hid (HR.out.step HP2.out HQ.out _ _ hgrow3)
          clear hown3 hgrow3 hloc3
          go_roundw
          case rel => exact ⟨k + 1, by omega, by go_num, by rw [HF.out, ← List.append_assoc, ← Nat.add_assoc]; exact HQ3, HR3⟩
          case measure => simp [intOf]; omega
        · have hkl : k = M2.length := by omega
          subst hkl
          have HQe := HQ.out
          rw [List.take_length] at HQe
          rename World => wP2
          obtain ⟨p1, p2, p3, p4⟩ := hrows HQe.ba
          obtain ⟨r1, r2, r3, r4⟩ := hrows HQe.bb
          have HLx := Lib.hid HQe
          clear HQe
          go_wp2_with fail
          refine (H3.out _ ((HLA.out.v.below HLx.out.bel).up HLx.out.bel.size) ((HLB.out.v.below HLx.out.bel).up HLx.out.bel.size)).mono ?_
          rintro e w3 ⟨v3, rfl, ho, hb⟩
          have HL3 := Lib.hid (HLx.out.next hb)
          clear hb p1 p2 p3 p4 r1 r2 r3 r4
          obtain ⟨x3, y3, rfl, hat, hloc⟩ := ownAtV ho
          have HAT3 := Lib.hid hat
          have HP3 := Lib.hid hloc
          clear ho hat hloc
          go_wp2_with fail
          go_loopw [5, 54] (fun v i wr => ∃ k : Nat, k ≤ M3.length ∧ i = .int .i64 k ∧ Hid (LState w wP2.heap.size w3.heap.size #[.slice a1 F.length c1, .slice a2 I.length c2, .slice a3 S.length c3, .slice a4 V.length c4] #[.slice b1 F'.length d1, .slice b2 I'.length d2, .slice b3 S'.length d3, .slice b4 V'.length d4] wr v (((0 + M1.length) + M2.length) + k) (((([] : List Value) ++ flat rmF M1) ++ flat rmS M2) ++ flat rmV (M3.take k))) ∧ Hid (SvsAt w3.heap.size wr x3 M3 y3)) (fun _ i _ => M3.length - (intOf i).toNat)
          case atStart => exact ⟨0, Nat.zero_le _, rfl, Lib.hid (by simpa [flat] using HL3.out), HAT3⟩
          case round =>
            obtain ⟨k, hk, rfl, HQ, HR⟩ := hrel
            by_cases hlt : k < M3.length
            · obtain ⟨b, off, rfl, hbm, hc⟩ := HR.out.at_ (ne_nil_of_lt hlt)
              obtain ⟨e0, e1, e2, e3⟩ := hc k hlt
              have HF := Lib.hid (flat_take rmV M3 hlt)
              clear hc
              generalize M3[k] = x at *
              have HB' := Lib.hid (bstep HQ.out.bel (below2 wr (.cells #[.string x.n, .string x.p, .bool x.a, .bool x.o] 46) (.cells #[.int .i64 6, .string ⟨#[]⟩, .string ⟨#[]⟩, .bool false, .string ⟨#[]⟩, .string ⟨#[]⟩, .string x.n, .string ⟨#[]⟩, .bool false, .bool false] 73)))
              have hwb : w.heap.size + 2 ≤ ((wr.alloc (.cells #[.string x.n, .string x.p, .bool x.a, .bool x.o] 46)).alloc (.cells #[.int .i64 6, .string ⟨#[]⟩, .string ⟨#[]⟩, .bool false, .string ⟨#[]⟩, .string ⟨#[]⟩, .string x.n, .string ⟨#[]⟩, .bool false, .bool false] 73)).heap.size := Nat.le_trans HQ.out.bb.lt (below2 wr _ _).size
              have hnew := cells_new (wr.alloc (.cells #[.string x.n, .string x.p, .bool x.a, .bool x.o] 46)) (rmV x) 73
              rw [World.size_alloc] at hnew
              have HN := Lib.hid hnew
              clear hnew
              go_wp2_with (at_builtin; refine wpList_append_own_at _ rfl _ _ 27 rfl (w.heap.size + 2) 73 i0 _ 10 120 Tryz.underlying27 hi hz0 hz1 hz2 rfl (by decide) _ _ _ rfl (own_below HQ.out.own (below2 _ _ _)) ⟨wr.heap.size + 1, 0, none⟩ 1 1 (rmV x) rfl rfl HN.out (by intro u hu; simp [rmV] at hu; rcases hu with rfl | rfl | rfl | rfl | rfl | rfl | rfl | rfl | rfl | rfl <;> rfl) (by unfold maxLen; omega) (by omega) hwb ?_; intro v' w3 hown3 hgrow3 _ hloc3)
              have HQ3 := Lib.hid (HQ.out.step _ _ hgrow3 hown3 hloc3)
              have HR3 := Lib.hid (HR.out.step HP3.out HQ.out _ _ hgrow3)
              clear hown3 hgrow3 hloc3
              go_roundw
              case rel => exact ⟨k + 1, by omega, by go_num, by rw [HF.out, ← List.append_assoc, ← Nat.add_assoc]; exact HQ3, HR3⟩
              case measure => simp [intOf]; omega
            · have hkl : k = M3.length := by omega
              subst hkl
              have HQe := HQ.out
              rw [List.take_length] at HQe
              have HQx := Lib.hid (own_base HQe.own (Nat.le_add_right w.heap.size 2))
              have HBx := Lib.hid HQe.bel
              clear HQe
              go_wp2_with fail
              go_ret
              exact ⟨_, rfl, by simpa using HQx.out, HBx.out⟩

set_option maxRecDepth 100000 in
set_option maxHeartbeats 16000000 in
theorem comings_any (A B : Ad) (a b : P.Mach) (hfa : a.fit) (hfb : b.fit) (w : World) (hla : Lies w.heap.size w A a) (hlb : Lies w.heap.size w B b) :
    Calls Tryz.prog 99 #[machV A a, machV B b] w fun e w' => ∃ v, e = .returned v ∧ w'.ownsRow w.heap.size 73 10 v ((b.files.filter (P.unlF a.files)).length + (b.sets.filter (P.unlS a.sets)).length + (b.svcs.filter (P.unlV a.svcs)).length) (flat putF (b.files.filter (P.unlF a.files)) ++ flat setS (b.sets.filter (P.unlS a.sets)) ++ flat svcV (b.svcs.filter (P.unlV a.svcs))) ∧ Below w.heap.size w w' := by
  obtain ⟨a1, a2, a3, a4, c1, c2, c3, c4⟩ := A
  obtain ⟨F, I, S, V⟩ := a
  obtain ⟨b1, b2, b3, b4, d1, d2, d3, d4⟩ := B
  obtain ⟨F', I', S', V'⟩ := b
  unfold machV
  simp only
  obtain ⟨i0, hi, hz0, hz1, hz2⟩ := info_parts info73
  have H1 := fun W h1 h2 => unlikeF_any I I' a2 b2 c2 d2 hfa.l2 hfb.l2 hfa.i hfb.i W h1 h2
  have hM1 : (I'.filter (P.unlF I)).length ≤ 4294967280 := Nat.le_trans (List.length_filter_le _ _) hfb.l2
  have H2 := fun W h1 h2 => unlikeS_any S S' a3 b3 c3 d3 hfa.l3 hfb.l3 hfa.s hfb.s W h1 h2
  have hM2 : (S'.filter (P.unlS S)).length ≤ 4294967280 := Nat.le_trans (List.length_filter_le _ _) hfb.l3
  have H3 := fun W h1 h2 => unlikeV_any V V' a4 b4 c4 d4 hfa.l4 hfb.l4 hfa.v hfb.v W h1 h2
  have hM3 : (V'.filter (P.unlV V)).length ≤ 4294967280 := Nat.le_trans (List.length_filter_le _ _) hfb.l4
  generalize (I'.filter (P.unlF I)) = M1 at *
  generalize (S'.filter (P.unlS S)) = M2 at *
  generalize (V'.filter (P.unlV V)) = M3 at *
  replace H1 := Lib.hid H1
  replace H2 := Lib.hid H2
  replace H3 := Lib.hid H3
  have HLA := Lib.hid hla
  have HLB := Lib.hid hlb
  clear hla hlb hfa hfb
  go_enter Tryz.func99, Tryz.ntmps99
  go_wp2_with fail
  refine (H1.out _ ((HLA.out.i.below (below2 _ _ _)).up (below2 _ _ _).size) ((HLB.out.i.below (below2 _ _ _)).up (below2 _ _ _).size)).mono ?_
  rintro e w1 ⟨v1, rfl, ho, hb⟩
  have hRB := (HasRow.new (w.alloc (.cells #[.slice a1 F.length c1, .slice a2 I.length c2, .slice a3 S.length c3, .slice a4 V.length c4] 26)) #[.slice b1 F'.length d1, .slice b2 I'.length d2, .slice b3 S'.length d3, .slice b4 V'.length d4] 26).below hb
  rw [World.size_alloc] at hRB
  have RA1 := Lib.hid (((HasRow.new w #[.slice a1 F.length c1, .slice a2 I.length c2, .slice a3 S.length c3, .slice a4 V.length c4] 26).alloc _).below hb)
  have RB1 := Lib.hid hRB
  have HL1 : Hid (LState w (w.heap.size + 2) w1.heap.size #[.slice a1 F.length c1, .slice a2 I.length c2, .slice a3 S.length c3, .slice a4 V.length c4] #[.slice b1 F'.length d1, .slice b2 I'.length d2, .slice b3 S'.length d3, .slice b4 V'.length d4] w1 (.slice none 0 0) 0 []) :=
    Lib.hid ⟨World.ownsRow_nil _ _ _ _, (fun g e => by cases e), RA1.out, RB1.out, bstep (below2 _ _ _) hb, Nat.le_refl _⟩
  simp only [World.size_alloc] at ho
  clear hb hRB RA1 RB1
  obtain ⟨x1, y1, rfl, hat, hloc⟩ := ownAtF ho
  have HAT1 := Lib.hid hat
  have HP1 := Lib.hid hloc
  clear ho hat hloc
  go_wp2_with fail
  go_loopw [5, 18] (fun v i wr => ∃ k : Nat, k ≤ M1.length ∧ i = .int .i64 k ∧ Hid (LState w (w.heap.size + 2) w1.heap.size #[.slice a1 F.length c1, .slice a2 I.length c2, .slice a3 S.length c3, .slice a4 V.length c4] #[.slice b1 F'.length d1, .slice b2 I'.length d2, .slice b3 S'.length d3, .slice b4 V'.length d4] wr v (0 + k) (([] : List Value) ++ flat putF (M1.take k))) ∧ Hid (FisAt w1.heap.size wr x1 M1 y1)) (fun _ i _ => M1.length - (intOf i).toNat)
  case atStart => exact ⟨0, Nat.zero_le _, rfl, Lib.hid (by simpa [flat] using HL1.out), HAT1⟩
  case round =>
    obtain ⟨k, hk, rfl, HQ, HR⟩ := hrel
    by_cases hlt : k < M1.length
    · obtain ⟨b, off, rfl, hbm, hc⟩ := HR.out.at_ (ne_nil_of_lt hlt)
      obtain ⟨e0, e1, e2⟩ := hc k hlt
      have HF := Lib.hid (flat_take putF M1 hlt)
      clear hc
      generalize M1[k] = x at *
      have HB' := Lib.hid (bstep HQ.out.bel (below2 wr (.cells #[.string x.p, .string x.d, .bool x.r] 42) (.cells #[.int .i64 1, .string x.p, .string x.d, .bool x.r, .string ⟨#[]⟩, .string ⟨#[]⟩, .string ⟨#[]⟩, .string ⟨#[]⟩, .bool false, .bool false] 73)))
      have hwb : w.heap.size + 2 ≤ ((wr.alloc (.cells #[.string x.p, .string x.d, .bool x.r] 42)).alloc (.cells #[.int .i64 1, .string x.p, .string x.d, .bool x.r, .string ⟨#[]⟩, .string ⟨#[]⟩, .string ⟨#[]⟩, .string ⟨#[]⟩, .bool false, .bool false] 73)).heap.size := Nat.le_trans HQ.out.bb.lt (below2 wr _ _).size
      have hnew := cells_new (wr.alloc (.cells #[.string x.p, .string x.d, .bool x.r] 42)) (putF x) 73
      rw [World.size_alloc] at hnew
      have HN := Lib.hid hnew
      clear hnew
      go_wp2_with (at_builtin; refine wpList_append_own_at _ rfl _ _ 27 rfl (w.heap.size + 2) 73 i0 _ 10 120 Tryz.underlying27 hi hz0 hz1 hz2 rfl (by decide) _ _ _ rfl (own_below HQ.out.own (below2 _ _ _)) ⟨wr.heap.size + 1, 0, none⟩ 1 1 (putF x) rfl rfl HN.out (by intro u hu; simp [putF] at hu; rcases hu with rfl | rfl | rfl | rfl | rfl | rfl | rfl | rfl | rfl | rfl <;> rfl) (by unfold maxLen; omega) (by omega) hwb ?_; intro v' w3 hown3 hgrow3 _ hloc3)
      have HQ3 := Lib.hid (HQ.out.step _ _ hgrow3 hown3 hloc3)
      have HR3 := Lib.hid (HR.out.step HP1.out HQ.out _ _ hgrow3)
      clear hown3 hgrow3 hloc3
      go_roundw
      case rel => exact ⟨k + 1, by omega, by go_num, by rw [HF.out, ← List.append_assoc, ← Nat.add_assoc]; exact HQ3, HR3⟩
      case measure => simp [intOf]; omega
    · have hkl : k = M1.length := by omega
      subst hkl
      have HQe := HQ.out
      rw [List.take_length] at HQe
      rename World => wP1
      obtain ⟨p1, p2, p3, p4⟩ := hrows HQe.ba
      obtain ⟨r1, r2, r3, r4⟩ := hrows HQe.bb
      have HLx := Lib.hid HQe
      clear HQe
      go_wp2_with fail
      refine (H2.out _ ((HLA.out.s.below HLx.out.bel).up HLx.out.bel.size) ((HLB.out.s.below HLx.out.bel).up HLx.out.bel.size)).mono ?_
      rintro e w2 ⟨v2, rfl, ho, hb⟩
      have HL2 := Lib.hid (HLx.out.next hb)
      clear hb p1 p2 p3 p4 r1 r2 r3 r4
      obtain ⟨x2, y2, rfl, hat, hloc⟩ := ownAtS ho
      have HAT2 := Lib.hid hat
      have HP2 := Lib.hid hloc
      clear ho hat hloc
      go_wp2_with fail
      go_loopw [5, 34] (fun v i wr => ∃ k : Nat, k ≤ M2.length ∧ i = .int .i64 k ∧ Hid (LState w wP1.heap.size w2.heap.size #[.slice a1 F.length c1, .slice a2 I.length c2, .slice a3 S.length c3, .slice a4 V.length c4] #[.slice b1 F'.length d1, .slice b2 I'.length d2, .slice b3 S'.length d3, .slice b4 V'.length d4] wr v ((0 + M1.length) + k) ((([] : List Value) ++ flat putF M1) ++ flat setS (M2.take k))) ∧ Hid (StsAt w2.heap.size wr x2 M2 y2)) (fun _ i _ => M2.length - (intOf i).toNat)
      case atStart => exact ⟨0, Nat.zero_le _, rfl, Lib.hid (by simpa [flat] using HL2.out), HAT2⟩
      case round =>
        obtain ⟨k, hk, rfl, HQ, HR⟩ := hrel
        by_cases hlt : k < M2.length
        · obtain ⟨b, off, rfl, hbm, hc⟩ := HR.out.at_ (ne_nil_of_lt hlt)
          obtain ⟨e0, e1⟩ := hc k hlt
          have HF := Lib.hid (flat_take setS M2 hlt)
          clear hc
          generalize M2[k] = x at *
          have HB' := Lib.hid (bstep HQ.out.bel (below2 wr (.cells #[.string x.k, .string x.v] 62) (.cells #[.int .i64 3, .string ⟨#[]⟩, .string ⟨#[]⟩, .bool false, .string x.k, .string x.v, .string ⟨#[]⟩, .string ⟨#[]⟩, .bool false, .bool false] 73)))
          have hwb : w.heap.size + 2 ≤ ((wr.alloc (.cells #[.string x.k, .string x.v] 62)).alloc (.cells #[.int .i64 3, .string ⟨#[]⟩, .string ⟨#[]⟩, .bool false, .string x.k, .string x.v, .string ⟨#[]⟩, .string ⟨#[]⟩, .bool false, .bool false] 73)).heap.size := Nat.le_trans HQ.out.bb.lt (below2 wr _ _).size
          have hnew := cells_new (wr.alloc (.cells #[.string x.k, .string x.v] 62)) (setS x) 73
          rw [World.size_alloc] at hnew
          have HN := Lib.hid hnew
          clear hnew
          go_wp2_with (at_builtin; refine wpList_append_own_at _ rfl _ _ 27 rfl (w.heap.size + 2) 73 i0 _ 10 120 Tryz.underlying27 hi hz0 hz1 hz2 rfl (by decide) _ _ _ rfl (own_below HQ.out.own (below2 _ _ _)) ⟨wr.heap.size + 1, 0, none⟩ 1 1 (setS x) rfl rfl HN.out (by intro u hu; simp [setS] at hu; rcases hu with rfl | rfl | rfl | rfl | rfl | rfl | rfl | rfl | rfl | rfl <;> rfl) (by unfold maxLen; omega) (by omega) hwb ?_; intro v' w3 hown3 hgrow3 _ hloc3)
          have HQ3 := Lib.hid (HQ.out.step _ _ hgrow3 hown3 hloc3)
          have HR3 := Lib.hid (HR.out.step HP2.out HQ.out _ _ hgrow3)
          clear hown3 hgrow3 hloc3
          go_roundw
          case rel => exact ⟨k + 1, by omega, by go_num, by rw [HF.out, ← List.append_assoc, ← Nat.add_assoc]; exact HQ3, HR3⟩
          case measure => simp [intOf]; omega
        · have hkl : k = M2.length := by omega
          subst hkl
          have HQe := HQ.out
          rw [List.take_length] at HQe
          rename World => wP2
          obtain ⟨p1, p2, p3, p4⟩ := hrows HQe.ba
          obtain ⟨r1, r2, r3, r4⟩ := hrows HQe.bb
          have HLx := Lib.hid HQe
          clear HQe
          go_wp2_with fail
          refine (H3.out _ ((HLA.out.v.below HLx.out.bel).up HLx.out.bel.size) ((HLB.out.v.below HLx.out.bel).up HLx.out.bel.size)).mono ?_
          rintro e w3 ⟨v3, rfl, ho, hb⟩
          have HL3 := Lib.hid (HLx.out.next hb)
          clear hb p1 p2 p3 p4 r1 r2 r3 r4
          obtain ⟨x3, y3, rfl, hat, hloc⟩ := ownAtV ho
          have HAT3 := Lib.hid hat
          have HP3 := Lib.hid hloc
          clear ho hat hloc
          go_wp2_with fail
          go_loopw [5, 50] (fun v i wr => ∃ k : Nat, k ≤ M3.length ∧ i = .int .i64 k ∧ Hid (LState w wP2.heap.size w3.heap.size #[.slice a1 F.length c1, .slice a2 I.length c2, .slice a3 S.length c3, .slice a4 V.length c4] #[.slice b1 F'.length d1, .slice b2 I'.length d2, .slice b3 S'.length d3, .slice b4 V'.length d4] wr v (((0 + M1.length) + M2.length) + k) (((([] : List Value) ++ flat putF M1) ++ flat setS M2) ++ flat svcV (M3.take k))) ∧ Hid (SvsAt w3.heap.size wr x3 M3 y3)) (fun _ i _ => M3.length - (intOf i).toNat)
          case atStart => exact ⟨0, Nat.zero_le _, rfl, Lib.hid (by simpa [flat] using HL3.out), HAT3⟩
          case round =>
            obtain ⟨k, hk, rfl, HQ, HR⟩ := hrel
            by_cases hlt : k < M3.length
            · obtain ⟨b, off, rfl, hbm, hc⟩ := HR.out.at_ (ne_nil_of_lt hlt)
              obtain ⟨e0, e1, e2, e3⟩ := hc k hlt
              have HF := Lib.hid (flat_take svcV M3 hlt)
              clear hc
              generalize M3[k] = x at *
              have HB' := Lib.hid (bstep HQ.out.bel (below2 wr (.cells #[.string x.n, .string x.p, .bool x.a, .bool x.o] 46) (.cells #[.int .i64 5, .string ⟨#[]⟩, .string ⟨#[]⟩, .bool false, .string ⟨#[]⟩, .string ⟨#[]⟩, .string x.n, .string x.p, .bool x.a, .bool x.o] 73)))
              have hwb : w.heap.size + 2 ≤ ((wr.alloc (.cells #[.string x.n, .string x.p, .bool x.a, .bool x.o] 46)).alloc (.cells #[.int .i64 5, .string ⟨#[]⟩, .string ⟨#[]⟩, .bool false, .string ⟨#[]⟩, .string ⟨#[]⟩, .string x.n, .string x.p, .bool x.a, .bool x.o] 73)).heap.size := Nat.le_trans HQ.out.bb.lt (below2 wr _ _).size
              have hnew := cells_new (wr.alloc (.cells #[.string x.n, .string x.p, .bool x.a, .bool x.o] 46)) (svcV x) 73
              rw [World.size_alloc] at hnew
              have HN := Lib.hid hnew
              clear hnew
              go_wp2_with (at_builtin; refine wpList_append_own_at _ rfl _ _ 27 rfl (w.heap.size + 2) 73 i0 _ 10 120 Tryz.underlying27 hi hz0 hz1 hz2 rfl (by decide) _ _ _ rfl (own_below HQ.out.own (below2 _ _ _)) ⟨wr.heap.size + 1, 0, none⟩ 1 1 (svcV x) rfl rfl HN.out (by intro u hu; simp [svcV] at hu; rcases hu with rfl | rfl | rfl | rfl | rfl | rfl | rfl | rfl | rfl | rfl <;> rfl) (by unfold maxLen; omega) (by omega) hwb ?_; intro v' w3 hown3 hgrow3 _ hloc3)
              have HQ3 := Lib.hid (HQ.out.step _ _ hgrow3 hown3 hloc3)
              have HR3 := Lib.hid (HR.out.step HP3.out HQ.out _ _ hgrow3)
              clear hown3 hgrow3 hloc3
              go_roundw
              case rel => exact ⟨k + 1, by omega, by go_num, by rw [HF.out, ← List.append_assoc, ← Nat.add_assoc]; exact HQ3, HR3⟩
              case measure => simp [intOf]; omega
            · have hkl : k = M3.length := by omega
              subst hkl
              have HQe := HQ.out
              rw [List.take_length] at HQe
              have HQx := Lib.hid (own_base HQe.own (Nat.le_add_right w.heap.size 2))
              have HBx := Lib.hid HQe.bel
              clear HQe
              go_wp2_with fail
              go_ret
              exact ⟨_, rfl, by simpa using HQx.out, HBx.out⟩
end Go.Proofs.YtkibmoekadmjnaaGreatDoor
