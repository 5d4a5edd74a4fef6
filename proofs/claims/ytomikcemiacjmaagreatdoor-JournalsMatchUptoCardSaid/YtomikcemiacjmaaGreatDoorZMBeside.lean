/- Walks: package disk: the closure that looks whether a directory above a file is a file that came before. -/
import Derived.Test.YtomikcemiacjmaaGreatDoorZMSet
import Derived.Test.YtomikcemiacjmaaGreatDoorZMNames

namespace Go.Proofs.YtomikcemiacjmaaGreatDoor
open Go.RowKit Go.Shelf
attribute [local go_sem] Oper.semAt_some

theorem zero4 (w : World) : (zeroValue 4).run Tryz.prog w = .ok (.bool false) w := by kernel_rfl
abbrev SetM (W : World) (B n : Nat) (q : ByteArray → Bool) : Prop := SetMap Tryz.prog 9 4 W B n q
theorem row_kept {A B : World} {k : Nat} {vs : Array Value} {row : Option Nat} (h : HasRow A k vs) (hg : A.grownBy B row) (hr : ∀ r, row = some r → A.heap.size ≤ r ∨ ∃ o : Obj, A.heap[r]? = some o ∧ o.isCells = false) (hc : ∃ v, A.cell? ⟨k, 0, none⟩ = some v) : HasRow B k vs := by
  refine h.grown hg (fun e => ?_)
  rcases hr k e.symm with h1 | ⟨o, ho, hn⟩
  · have := h.lt; omega
  · obtain ⟨v, hv⟩ := hc
    obtain ⟨o', ho', hc'⟩ := cells_of_cell hv
    rw [show A.heap[k]? = some o' from ho'] at ho
    cases ho
    rw [hc'] at hn; cases hn

namespace P
def dirE (p : ByteArray) (q : ByteArray → Bool) : Int := if (dirs p).any q then 11 else 0
theorem dirE_no {p : ByteArray} {q : ByteArray → Bool} (h : (dirs p).any q = false) : dirE p q = 0 := by unfold dirE; rw [h]; rfl
theorem dirE_yes {p : ByteArray} {q : ByteArray → Bool} (h : (dirs p).any q = true) : dirE p q = 11 := by unfold dirE; rw [h]; rfl
end P
theorem World.grownBy_refl' (W : World) (r : Option Nat) : W.grownBy W r := ⟨rfl, rfl, rfl, Nat.le_refl _, fun _ _ _ => rfl⟩
theorem grow_of {w W w1 : World} {r : Option Nat} (hB : Below w.heap.size w W) (hg : W.grownBy w1 r) : w.grownBy w1 r :=
  ⟨hg.os.trans hB.os, hg.tape.trans hB.tape, hg.output.trans hB.output, Nat.le_trans hB.size hg.size, fun k hk hne => (hg.block k (Nat.lt_of_lt_of_le hk hB.size) hne).trans (hB.block k hk)⟩
theorem grow_step {w W W2 : World} {r : Option Nat} {j : Nat} (h : w.grownBy W r) (hg : W.grownBy W2 (some j)) (hj : w.heap.size ≤ j) : w.grownBy W2 r :=
  ⟨hg.os.trans h.os, hg.tape.trans h.tape, hg.output.trans h.output, Nat.le_trans h.size hg.size, fun k hk hne => (hg.block k (Nat.lt_of_lt_of_le hk h.size) (fun e => by cases e; omega)).trans (h.block k hk hne)⟩

theorem any_take {pre : List Txt} {l : List ByteArray} {q : ByteArray → Bool} (h : pre.map (·.1) = l) (hn : ∀ y ∈ pre, q y.1 = false) : l.any q = false := by
  subst h
  rw [List.any_eq_false]
  intro s hs
  obtain ⟨y, hy, rfl⟩ := List.mem_map.1 hs
  rw [hn y hy]; decide
theorem any_some {pre : List Txt} {p : ByteArray} {k : Nat} {q : ByteArray → Bool} (hk : k ≤ p.size) (h : pre.map (·.1) = P.dirsTo p k) (hn : ∃ y ∈ pre, q y.1 = true) : (P.dirs p).any q = true := by
  obtain ⟨y, hy, hq⟩ := hn
  rw [List.any_eq_true]
  refine ⟨y.1, ?_, hq⟩
  obtain ⟨t, ht⟩ := P.dirsTo_pre p hk
  show y.1 ∈ P.dirsTo p p.size
  rw [← ht, ← h]
  exact List.mem_append_left _ (List.mem_map.2 ⟨y, hy, rfl⟩)

set_option maxRecDepth 100000 in
set_option maxHeartbeats 4000000 in
theorem beside_in (F : Fence) (n : Nat) (h1 : F.fn 183) (h2 : F.fn 184) (h3 : F.fn 248) (hro : F.round = none) (hn : 3 ≤ n) (x : P.Fi) (hs : x.p.size ≤ 4294967280)
    (Bs BM nn : Nat) (q : ByteArray → Bool) (w : World) (hS : HasRow w Bs #[.map (some BM)]) (hM : SetM w BM nn q) (hnn : nn < maxLen) :
    CallsIn F n Tryz.prog 183 #[.agg #[.string x.p, .string x.d, .bool x.r], .pointer (some ⟨Bs, 0, none⟩)] w fun e W' =>
      e = .returned (.int .i64 (P.dirE x.p q)) ∧ (P.dirE x.p q = 0 → SetM W' BM (nn + 1) (fun s => q s || decide (s = x.p))) ∧ w.grownBy W' (some BM) := by
  have hn1 : 1 ≤ n := by omega
  have hMlt := hM.lt
  have hSlt := hS.lt
  refine callsIn_of_wp_marks Tryz.func183 rfl h1 ?_ hro
  simp only [Tryz.ntmps183, List.size_toArray, List.length_cons, List.length_nil, Nat.reduceAdd, Nat.reduceSub, Array.replicate_succ, Array.replicate_zero, List.push_toArray, List.append_toArray, List.nil_append, List.cons_append]
  gi_wp2_with (gi_at_call 184; refine (above_in F (n - 1) h2 hro _ _).mono ?_; rintro e w' ⟨rfl, rfl⟩)
  obtain ⟨W0, hW0⟩ : ∃ W0, ((w.alloc (.cells #[.string x.p, .string x.d, .bool x.r] 42)).alloc (.cells #[.int .i64 0] 29)).alloc (.cells #[.string x.p] 9) = W0 := ⟨_, rfl⟩
  have hs0 : W0.heap.size = w.heap.size + 3 := by rw [← hW0]; simp
  have R0 : HasRow W0 w.heap.size #[.string x.p, .string x.d, .bool x.r] := by rw [← hW0]; exact ((HasRow.new w _ _).alloc _).alloc _
  have R1 : HasRow W0 (w.heap.size + 1) #[.int .i64 0] := by
    rw [← hW0]; have := (HasRow.new (w.alloc (.cells #[.string x.p, .string x.d, .bool x.r] 42)) #[.int .i64 0] 29).alloc (.cells #[.string x.p] 9); rwa [World.size_alloc] at this
  have R2 : HasRow W0 (w.heap.size + 1 + 1) #[.string x.p] := by
    rw [← hW0]; have := HasRow.new ((w.alloc (.cells #[.string x.p, .string x.d, .bool x.r] 42)).alloc (.cells #[.int .i64 0] 29)) #[.string x.p] 9; rwa [World.size_alloc, World.size_alloc] at this
  have RS : HasRow W0 Bs #[.map (some BM)] := by rw [← hW0]; exact ((hS.alloc _).alloc _).alloc _
  have M0 : SetM W0 BM nn q := by rw [← hW0]; exact ((hM.alloc _).alloc _).alloc _
  have B0 : Below w.heap.size w W0 := by rw [← hW0]; exact (((Below.refl _ w).alloc (Nat.le_refl _) _).alloc (by simp) _).alloc (by simp; omega) _
  rw [hW0]
  refine wpIn_rangeFunc_ownG hro hn1 (gf := 248) (lb := #[.pointer (some ⟨w.heap.size + 1 + 1, 0, none⟩)]) rfl h3 (enters_of Tryz.func248 (by kernel_rfl) rfl)
    (above_stops F (n - 1) h3 hro (by omega) (w.heap.size + 1 + 1) (w.heap.size + 3) x.p hs W0 (by omega) (by omega) (R2.cell 0)) belowK_t (belowK_b (by omega)) (Below.refl _ _) (fun _ => rfl)
    (fun pre W => ((∀ y ∈ pre, q y.1 = false) ∧ HasRow W (w.heap.size + 1) #[.int .i64 0] ∧ HasRow W w.heap.size #[.string x.p, .string x.d, .bool x.r] ∧ HasRow W Bs #[.map (some BM)] ∧ SetM W BM nn q) ∧ Below w.heap.size w W)
    (fun c pre W => (c = .ret ∧ (∃ y ∈ pre, q y.1 = true) ∧ HasRow W (w.heap.size + 1) #[.int .i64 11]) ∧ Below w.heap.size w W)
    (OwnFrom.and (fun s A B row hs' hg hr => ⟨hs'.1, row_kept hs'.2.1 hg (fun r e => .inr (hr r e).2) ⟨_, hs'.2.1.cell 0⟩, row_kept hs'.2.2.1 hg (fun r e => .inr (hr r e).2) ⟨_, hs'.2.2.1.cell 0⟩, row_kept hs'.2.2.2.1 hg (fun r e => .inr (hr r e).2) ⟨_, hs'.2.2.2.1.cell 0⟩,
      hs'.2.2.2.2.kept hg (fun e => by have := (hr _ e.symm).1; omega)⟩) (ownFrom_below (Nat.le_refl _) (by omega)))
    (fun c => OwnFrom.and (fun s A B row hs' hg hr => ⟨hs'.1, hs'.2.1, row_kept hs'.2.2 hg (fun r e => .inr (hr r e).2) ⟨_, hs'.2.2.cell 0⟩⟩) (ownFrom_below (Nat.le_refl _) (by omega)))
    ⟨⟨(fun y hy => by cases hy), R1, R0, RS, M0⟩, B0⟩
    (fun y => { tmps := #[.agg #[.string x.p, .string x.d, .bool x.r], .pointer (some ⟨Bs, 0, none⟩), .pointer (some ⟨w.heap.size, 0, none⟩), .pointer (some ⟨w.heap.size + 1, 0, none⟩), .string y.1, .pointer (some ⟨w.heap.size, 0, none⟩), .string x.p, .func (.func 248) #[] #[.pointer (some ⟨w.heap.size + 1 + 1, 0, none⟩)], .string y.1, undef, undef, undef, undef, undef, undef], defers := [] }) ?assign ?body ?done ?stop
  case assign =>
    intro l y W K hK
    gi_wp2
    exact hK
  case body =>
    rintro l pre y W ⟨⟨hp, H1, H0, HS, HM⟩, hB⟩ hlt
    have cS := HS.cell 0
    have c1 := H1.cell 0
    have f1 := H1.free 0
    cases hq : q y.1 with
    | false =>
      gi_wp2_with (gi_at_lookup; refine wpListIn_lookup_set _ rfl _ _ 116 rfl Tryz.underlying9 Tryz.underlying116 Tryz.underlying4 (zero4 _) BM nn q rfl HM y.1 rfl (by have := y.2; unfold maxLen; omega) ?_; rw [hq])
      exact ⟨KeepsFrom.refl _ _, Below.refl _ _, ⟨⟨fun z hz => (List.mem_append.1 hz).elim (hp z) (fun e => by simp at e; subst e; exact hq), H1, H0, HS, HM⟩, hB⟩⟩
    | true =>
      gi_wp2_with (gi_at_lookup; refine wpListIn_lookup_set _ rfl _ _ 116 rfl Tryz.underlying9 Tryz.underlying116 Tryz.underlying4 (zero4 _) BM nn q rfl HM y.1 rfl (by have := y.2; unfold maxLen; omega) ?_; rw [hq])
      exact ⟨(KeepsOthers.setCell _ _ _).from _, ⟨⟨rfl, ⟨y, by simp, hq⟩, H1.set 0 _ (by simp)⟩, hB.setCell (p := ⟨w.heap.size + 1, 0, none⟩) (by simp) _⟩⟩
  case done =>
    rintro D ys W hD hall ⟨⟨hp, H1, H0, HS, HM⟩, hB⟩ hK
    have hany := any_take hall hp
    have cS := HS.cell 0
    have c0 := H0.cell 0
    gi_wp2_with (gi_at_mapUpdate; refine wpListIn_mapUpdate_set _ rfl _ _ _ 116 rfl Tryz.underlying9 Tryz.underlying116 Tryz.underlying4 BM nn q rfl HM hnn x.p rfl rfl (by unfold maxLen; omega) ?_; intro w1 hM1 hg1; have H1' := H1.grown hg1 (fun e => by cases e; omega); have c1 := H1'.cell 0; have f1 := H1'.free 0)
    have hK1 : w1.heap[D]? = some (.deferred (some [])) := (hg1.block D (Array.getElem?_eq_some_iff.1 hK).1 (fun e => by cases e; omega)).trans hK
    have hK' := (KeepsOthers.setCell w1 ⟨w.heap.size + 1, 0, none⟩ (.int .i64 0)).same D _ hK1 rfl
    refine ⟨by simp, .inl ⟨_, _, rfl, run_takeDeferred hK', ?_⟩⟩
    have hc5 := cell_kept ((H1'.set 0 (.int .i64 0) (by simp)).cell 0) (grownBy_putObj' _ D (.deferred none)) (fun r e => by cases e; exact ⟨_, hK', rfl⟩)
    refine ⟨.int .i64 0, by simp [results, Tryz.f183, go_sem, hc5], by rw [P.dirE_no hany], fun _ => ?_, ?_⟩
    · exact (hM1.setCell (a := ⟨w.heap.size + 1, 0, none⟩) (by show BM ≠ w.heap.size + 1; omega) (.int .i64 0)).kept (grownBy_putObj' _ D (.deferred none)) (fun e => by cases e; omega)
    · exact grow_step (grow_step (grow_of hB hg1) (grown_set w1 (w.heap.size + 1) (.int .i64 0)) (by omega)) (grownBy_putObj' _ D (.deferred none)) (by omega)
  case stop =>
    rintro D c pre W hD ⟨k, hk, hpre⟩ ⟨⟨rfl, hex, H1⟩, hB⟩ hK
    have hany := any_some hk hpre hex
    gi_wp2
    refine ⟨by simp, .inl ⟨_, _, rfl, run_takeDeferred hK, ?_⟩⟩
    have hc5 := cell_kept (H1.cell 0) (grownBy_putObj' _ D (.deferred none)) (fun r e => by cases e; exact ⟨_, hK, rfl⟩)
    refine ⟨.int .i64 11, by simp [results, Tryz.f183, go_sem, hc5], by rw [P.dirE_yes hany], fun h => (by rw [P.dirE_yes hany] at h; cases h), ?_⟩
    exact grow_step (grow_of hB (World.grownBy_refl' W _)) (grownBy_putObj' _ D (.deferred none)) (by omega)
end Go.Proofs.YtomikcemiacjmaaGreatDoor
