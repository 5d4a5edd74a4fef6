/- Walks: slices.CompactFunc at facts of the call's own, at most 20, in order: the keys rise behind it. -/
import Derived.Test.YtgdpbdgaldiggaaGreatDoorZMWFit
import Derived.Test.YtgdpbdgaldiggaaGreatDoorZMWMach
import Derived.Test.YtgdpbdgaldiggaaGreatDoorZMEqual
import Derived.Deep.RegionHeld3
import Derived.Lib.SliceRun

namespace Go.Proofs.YtgdpbdgaldiggaaGreatDoor
open Go.RowKit Go.Shelf

/-- block g holds the settings N, and may be written -/
structure Row2 (W : World) (g : Nat) (N : List P.St) : Prop where
  c : ∀ j (hj : j < N.length), W.cell? ⟨g, j * 2, none⟩ = some (.string N[j].k) ∧ W.cell? ⟨g, j * 2 + 1, none⟩ = some (.string N[j].v)
  fr : ∀ i, W.frozen? ⟨g, i, none⟩ = false
  lt : g < W.heap.size
theorem Row2.below {W W' : World} {g : Nat} {N : List P.St} (h : Row2 W g N) (hb : Below W.heap.size W W') : Row2 W' g N :=
  ⟨fun j hj => ⟨cell_keep hb (h.c j hj).1, cell_keep hb (h.c j hj).2⟩, fun i => by rw [hb.frozen (p := ⟨g, i, none⟩) h.lt]; exact h.fr i, Nat.lt_of_lt_of_le h.lt hb.size⟩
theorem Row2.drew {W : World} {g : Nat} {N : List P.St} (h : Row2 W g N) : Row2 W.drew g N := ⟨h.c, h.fr, h.lt⟩
theorem Row2.set {W : World} {g : Nat} {N : List P.St} (h : Row2 W g N) (k : Nat) (hk : k < N.length) (x : P.St) : Row2 ((W.setCell ⟨g, k * 2, none⟩ (.string x.k)).setCell ⟨g, k * 2 + 1, none⟩ (.string x.v)) g (N.set k x) := by
  have h0 := (h.c k hk).1
  have h1 := (h.c k hk).2
  refine ⟨fun j hj => ?_, fun i => by rw [World.frozen?_setCell, World.frozen?_setCell]; exact h.fr i, by simpa [World.setCell] using h.lt⟩
  have hj' : j < N.length := by simpa using hj
  by_cases e : j = k
  · subst e
    rw [List.getElem_set_self]
    refine ⟨?_, ?_⟩
    · rw [World.cell?_setCell_other (h := show (⟨g, j * 2 + 1, none⟩ : Addr) ≠ ⟨g, j * 2, none⟩ from fun h' => by injection h' with _ h2; omega)]
      exact World.cell?_setCell_same' _ _ _ (by rw [h0]; rfl)
    · refine World.cell?_setCell_same' _ _ _ ?_
      rw [World.cell?_setCell_other (h := show (⟨g, j * 2, none⟩ : Addr) ≠ ⟨g, j * 2 + 1, none⟩ from fun h' => by injection h' with _ h2; omega), h1]; rfl
  · rw [List.getElem_set_ne (by omega)]
    refine ⟨?_, ?_⟩
    · rw [World.cell?_setCell_other (h := show (⟨g, k * 2 + 1, none⟩ : Addr) ≠ ⟨g, j * 2, none⟩ from fun h' => by injection h' with _ h2; omega), World.cell?_setCell_other (h := show (⟨g, k * 2, none⟩ : Addr) ≠ ⟨g, j * 2, none⟩ from fun h' => by injection h' with _ h2; omega)]
      exact (h.c j hj').1
    · rw [World.cell?_setCell_other (h := show (⟨g, k * 2 + 1, none⟩ : Addr) ≠ ⟨g, j * 2 + 1, none⟩ from fun h' => by injection h' with _ h2; omega), World.cell?_setCell_other (h := show (⟨g, k * 2, none⟩ : Addr) ≠ ⟨g, j * 2 + 1, none⟩ from fun h' => by injection h' with _ h2; omega)]
      exact (h.c j hj').2
theorem grown_set2 (W : World) (g i j : Nat) (x y : Value) : W.grownBy ((W.setCell ⟨g, i, none⟩ x).setCell ⟨g, j, none⟩ y) (some g) :=
  ⟨rfl, rfl, rfl, by simp [World.setCell], fun k _ hk => by
    have hne : k ≠ g := fun e => hk (by rw [e])
    rw [Below.heap_setCell _ _ _ k (fun e => hne e), Below.heap_setCell _ _ _ k (fun e => hne e)]⟩
theorem grown_setCells (g : Nat) : ∀ (vs : List Value) (o : Nat) (W : World), W.grownBy (W.setCells g o vs) (some g)
  | [], _, W => World.grownBy_refl' _ _
  | v :: r, o, W => by
    rw [World.setCells]
    have h : W.grownBy (W.setCell ⟨g, o, none⟩ v) (some g) := ⟨rfl, rfl, rfl, by simp [World.setCell], fun k _ hk => Below.heap_setCell _ _ _ k (fun e => hk (by rw [e]))⟩
    exact h.trans (grown_setCells g r (o + 1) _)
theorem zeroT62' (w : World) : (zeroValue 62).run Tryz.prog w = .ok (.agg #[.string ⟨#[]⟩, .string ⟨#[]⟩]) w := by kernel_rfl
theorem clear_run (W : World) (g k n c : Nat) (hn : 0 < n) (hc : ∀ j, j < n * 2 → (W.cell? ⟨g, k * 2 + j, none⟩).isSome = true) (hf : ∀ i, W.frozen? ⟨g, i, none⟩ = false) :
    ∃ W', (∀ ty, (Builtin.clear_ #[22] ty #[.slice (some ⟨g, k * 2, none⟩) n c]).run Tryz.prog W = .ok (.tuple #[]) W') ∧ (∀ j, j < k * 2 → W'.cell? ⟨g, j, none⟩ = W.cell? ⟨g, j, none⟩) ∧ W.grownBy W' (some g) := by
  obtain ⟨m, rfl⟩ : ∃ m, n = m + 1 := ⟨n - 1, by omega⟩
  generalize hz : (Builtin.zeroCells (Value.agg #[.string ⟨#[]⟩, .string ⟨#[]⟩]).cells (m + 1)).toList = Z
  have hlen : Z.length = (m + 1) * 2 := by rw [← hz]; simp [Builtin.zeroCells, Value.cells]
  have hone : ∀ v ∈ Z, v.oneCell' = true := by
    intro v hv
    rw [← hz] at hv
    simp [Builtin.zeroCells, Value.cells] at hv
    obtain ⟨i, hi, rfl⟩ := hv
    rcases (show i % 2 = 0 ∨ i % 2 = 1 by omega) with h | h <;> simp [h, Value.oneCell']
  have hst := run_storeCells_cells (P := Tryz.prog) g (k * 2) Z 0 W (by rw [hlen]; simpa using hc) (by intro j _; simpa using hf _) hone
  simp only [Nat.add_zero] at hst
  refine ⟨W.setCells g (k * 2) Z, fun ty => ?_, fun j hj => World.cell?_setCells_out g Z (k * 2) W ⟨g, j, none⟩ (fun _ _ => .inl hj), grown_setCells g Z _ W⟩
  simp [Builtin.clear_, run_underlying Tryz.underlying22, hz, hst]

set_option maxHeartbeats 1000000 in
theorem fitEq_any (x y : P.St) (w : World) : Calls Tryz.prog 99 #[.agg #[.string x.k, .string x.v], .agg #[.string y.k, .string y.v]] w fun e w' => e = .returned (.bool (decide (x.k = y.k))) ∧ Below w.heap.size w w' := by
  by_cases hx : x.k = y.k
  · rw [decide_eq_true hx]
    go_enter Tryz.func99, Tryz.ntmps99
    go_wp2_with fail
    go_ret
    exact ⟨by simp [hx], below2 _ _ _⟩
  · rw [decide_eq_false hx]
    have hne : (x.k.toList == y.k.toList) = false := by
      rw [beq_eq_false_iff_ne]; exact fun h => hx (toList_inj h)
    go_enter Tryz.func99, Tryz.ntmps99
    go_wp2_with fail
    go_ret
    exact ⟨by simp [], below2 _ _ _⟩

theorem c4_keep {W W' : World} {p1 p2 p3 p4 : Addr} {u1 u2 u3 u4 : Value} (h : W.cell? p1 = some u1 ∧ W.cell? p2 = some u2 ∧ W.cell? p3 = some u3 ∧ W.cell? p4 = some u4) (hb : Below W.heap.size W W') : W'.cell? p1 = some u1 ∧ W'.cell? p2 = some u2 ∧ W'.cell? p3 = some u3 ∧ W'.cell? p4 = some u4 :=
  ⟨cell_keep hb h.1, cell_keep hb h.2.1, cell_keep hb h.2.2.1, cell_keep hb h.2.2.2⟩
theorem take_set {N : List P.St} {k : Nat} (hk : k < N.length) (x : P.St) : (N.set k x).take (k + 1) = N.take k ++ [x] := by
  rw [List.take_succ_eq_append_getElem (by simpa using hk), List.getElem_set_self, List.take_set_of_le (Nat.le_refl _)]
theorem rising_short {M : List P.St} (h : M.length < 2) : P.Rising P.St.k M := by
  match M, h with
  | [], _ => exact List.Pairwise.nil
  | [x], _ => exact List.pairwise_singleton _ _
  | _ :: _ :: _, h => simp only [List.length_cons] at h; omega
theorem Row2.sts {W : World} {g cap : Nat} {N : List P.St} (h : Row2 W g N) (hcap : N.length ≤ cap) : StsAt W.heap.size W (some ⟨g, 0, none⟩) N cap :=
  ⟨hcap, fun _ => ⟨g, 0, rfl, h.lt, fun k hk => by rw [Nat.zero_add]; exact h.c k hk⟩⟩
theorem sts_prefix {W W' : World} {g cap kk : Nat} {N : List P.St} (h : Row2 W g N) (hk : kk ≤ N.length) (hcap : kk ≤ cap) (hc : ∀ j, j < kk * 2 → W'.cell? ⟨g, j, none⟩ = W.cell? ⟨g, j, none⟩) (hlt : g < W'.heap.size) : StsAt W'.heap.size W' (some ⟨g, 0, none⟩) (N.take kk) cap := by
  have hl : (N.take kk).length = kk := by simp; omega
  refine ⟨by omega, fun _ => ⟨g, 0, rfl, hlt, fun j hj => ?_⟩⟩
  have hj' : j < kk := by omega
  rw [Nat.zero_add, hc _ (by omega), hc _ (by omega), List.getElem_take]
  exact h.c j (by omega)
theorem grown_of_below' {w w' : World} (h : Below w.heap.size w w') (row : Option Nat) : w.grownBy w' row := ⟨h.os, h.tape, h.output, h.size, fun k hk _ => h.block k hk⟩
theorem grown_of_drew {w w' : World} (h : Below w.drew.heap.size w.drew w') (row : Option Nat) : w.grownBy w' row := ⟨h.os, h.tape, h.output, h.size, fun k hk _ => h.block k hk⟩
theorem Row2.isSome {W : World} {g : Nat} {N : List P.St} (h : Row2 W g N) (i : Nat) (hi : i < N.length * 2) : (W.cell? ⟨g, i, none⟩).isSome = true := by
  obtain ⟨h0, h1⟩ := h.c (i / 2) (by omega)
  rcases (show i = i / 2 * 2 ∨ i = i / 2 * 2 + 1 by omega) with e | e
  · rw [e, h0]; rfl
  · rw [e, h1]; rfl
/-- the state of the second loop -/
structure Comp2 (M : List P.St) (g : Nat) (w wr : World) (N : List P.St) (kk i : Nat) : Prop where
  row : Row2 wr g N
  len : N.length = M.length
  top : ∀ j (h1 : j < N.length) (h2 : j < M.length), i - 1 ≤ j → N[j] = M[j]
  comp : P.Comp M (N.take kk) i
  gr : w.grownBy wr (some g)
/-- what CompactFunc owes -/
def CompPost (base : Nat) (M : List P.St) (w : World) (v : Value) (e : Ending) (w' : World) : Prop :=
  ∃ (a : Option Addr) (A : List P.St) (cap : Nat), e = .returned (.slice a A.length cap) ∧ P.Rising P.St.k A ∧ A.length ≤ M.length ∧ (∀ x ∈ A, x ∈ M) ∧ StsAt w'.heap.size w' a A cap ∧ (∀ p, a = some p → base ≤ p.block) ∧ w.grownBy w' v.ownBlock

set_option maxRecDepth 100000 in
set_option maxHeartbeats 16000000 in
theorem compact_any (M : List P.St) (base : Nat) (v : Value) (hl : M.length ≤ 20) (hs : M.Pairwise (fun x y => ¬ P.ltB y.k x.k)) (w : World) (ho : w.ownsRow base 62 2 v M.length (flat cellsS M)) :
    Calls Tryz.prog 98 #[v, .func (.func 99) #[] #[]] w (CompPost base M w v) := by
  obtain ⟨a, cap, rfl, hst, hbl⟩ := ownAtS ho
  by_cases h2 : M.length < 2
  · have HP : Hid (CompPost base M w (.slice a M.length cap) (.returned (.slice a M.length cap)) w) := Lib.hid ⟨a, M, cap, rfl, rising_short h2, Nat.le_refl _, fun x h => h, hst, fun p e => (hbl p e).1, World.grownBy_refl' _ _⟩
    clear ho hst hbl hs
    go_enter Tryz.func98, Tryz.ntmps98
    go_wp2_with fail
    go_ret
    exact HP.out
  · obtain ⟨_, ⟨h0, h1⟩ | ⟨g, cap', cur, e1, hg, hh, hn, hcap, hsz, ht⟩⟩ := ho
    · omega
    · cases e1
      have hrow : Row2 w g M := ⟨fun j hj => by
        obtain ⟨b, off, e, _, hc⟩ := hst.at_ (ne_nil_of_lt hj)
        cases e
        have := hc j hj
        simpa using this, fun i => by simp [World.frozen?, hh], (Array.getElem?_eq_some_iff.1 hh).1⟩
      have HR := Lib.hid hrow
      have HS := Lib.hid hs
      have HC1 := Lib.hid (P.comp_start (M := M) (by omega))
      have hcl : M.length < 9223372036854775807 := by omega
      clear hrow hs hst hbl hh ht hsz
      go_enter Tryz.func98, Tryz.ntmps98
      go_wp2_with fail
      go_loopw [5] (fun i wr => ∃ k : Nat, 1 ≤ k ∧ k ≤ M.length ∧ i = .int .i64 k ∧ Hid (Below w.heap.size w wr) ∧ Hid (P.Comp M (M.take k) k)) (fun i _ => M.length - (intOf i).toNat)
      case atStart => exact ⟨1, Nat.le_refl _, by omega, rfl, Lib.hid (Below.refl _ _), HC1⟩
      case round =>
        obtain ⟨k, hk1, hk, rfl, HB, HC⟩ := hrel
        by_cases hlt : k < M.length
        · obtain ⟨m, hm⟩ : ∃ m, k = m + 1 := ⟨k - 1, by omega⟩
          have hml : m < M.length := by omega
          have hR2 := HR.out.below HB.out
          obtain ⟨c0, c1⟩ := hR2.c k hlt
          obtain ⟨d0, d1⟩ := hR2.c m hml
          have HE := Lib.hid (fun W => fitEq_any M[k] M[m] W)
          have HSk : Hid (M[k].k = M[m].k → P.Comp M (M.take k) (k + 1)) := Lib.hid (fun h => by subst hm; exact P.comp_skip HC.out (by omega) hlt h)
          have HTk : Hid (M[k].k ≠ M[m].k → P.Comp M (M.take (k + 1)) (k + 1)) := Lib.hid (fun h => by subst hm; exact P.comp_take1 HC.out (by omega) HS.out hlt h)
          have e3 : IntKind.i64.wrap ((k : Int) - 1) = (m : Int) := by rw [show (k : Int) - 1 = (m : Int) by omega, IntKind.wrap_i64]; omega
          have b0 : (0 : Int) ≤ (m : Int) := Int.natCast_nonneg m
          have b1 : (m : Int) < (M.length : Int) := by omega
          have H0 := Lib.hid (show wr.drew.cell? ⟨g, k * 2, none⟩ = some (.string M[k].k) ∧ wr.drew.cell? ⟨g, k * 2 + 1, none⟩ = some (.string M[k].v) ∧ wr.drew.cell? ⟨g, m * 2, none⟩ = some (.string M[m].k) ∧ wr.drew.cell? ⟨g, m * 2 + 1, none⟩ = some (.string M[m].v) from ⟨c0, c1, d0, d1⟩)
          clear hm hR2 c0 c1 d0 d1
          generalize M[k] = x at *
          generalize M[m] = y at *
          by_cases hd : x.k = y.k
          · have HSk2 := Lib.hid (HSk.out hd)
            rw [decide_eq_true hd] at HE
            clear HSk HTk hd
            go_wp2_with fail
            go_region_held3 (fun W => W.cell? ⟨g, k * 2, none⟩ = some (.string x.k) ∧ W.cell? ⟨g, k * 2 + 1, none⟩ = some (.string x.v) ∧ W.cell? ⟨g, m * 2, none⟩ = some (.string y.k) ∧ W.cell? ⟨g, m * 2 + 1, none⟩ = some (.string y.v))
              (first | exact H0.out | with_reducible assumption)
              ((refine (HE.out _).mono ?_; rintro e w5 ⟨rfl, hb5⟩; have hS5 := c4_keep H0.out hb5))
            have HB5 := Lib.hid (bstep HB.out.drew hb5)
            have HQ0 := Lib.hid (show Comp2 M g w w5 M k (k + 1) from ⟨HR.out.below HB5.out, rfl, fun j _ _ _ => rfl, HSk2.out, grown_of_below' HB5.out _⟩)
            have hkc : k < cap := by omega
            have hkc2 : ¬ cap = k := by omega
            have hkc3 : ¬ cap ≤ k := by omega
            clear hb5 hS5 H0 HB HC HE e3 b0 b1 HB5 HSk2
            go_wp2_with fail
            go_loopw [5, 7] (fun a5 a7 wr => ∃ (kk k2 : Nat) (N : List P.St), a5 = .int .i64 kk ∧ a7 = .int .i64 k2 ∧ 1 ≤ k2 ∧ k + k2 ≤ M.length ∧ 1 ≤ kk ∧ kk + 1 ≤ k + k2 ∧ Hid (Comp2 M g w wr N kk (k + k2))) (fun _ a7 _ => M.length - (k + (intOf a7).toNat))
            case atStart => exact ⟨k, 1, M, rfl, rfl, Nat.le_refl _, by omega, by omega, by omega, HQ0⟩
            case round =>
              obtain ⟨kk, k2, N, rfl, rfl, h21, h2n, hkk1, hkk, HQ⟩ := hrel
              have hNl := HQ.out.len
              by_cases hlt2 : k + k2 < M.length
              · have hR2 := HQ.out.row
                have hkN : kk < N.length := by omega
                obtain ⟨o0, o1⟩ := hR2.c kk hkN
                generalize N[kk] = old at o0 o1
                obtain ⟨m2, hm2⟩ : ∃ m2, k2 = m2 + 1 := ⟨k2 - 1, by omega⟩
                have hml2 : k + m2 < M.length := by omega
                obtain ⟨c0, c1⟩ := hR2.c (k + k2) (by omega)
                obtain ⟨d0, d1⟩ := hR2.c (k + m2) (by omega)
                have f0 := hR2.fr (kk * 2)
                have f1 := hR2.fr (kk * 2 + 1)
                rw [HQ.out.top (k + k2) (by omega) hlt2 (by omega)] at c0 c1
                rw [HQ.out.top (k + m2) (by omega) hml2 (by omega)] at d0 d1
                rw [show (k + k2) * 2 = k * 2 + k2 * 2 by omega] at c0 c1
                rw [show (k + m2) * 2 = k * 2 + m2 * 2 by omega] at d0 d1
                have HE := Lib.hid (fun W => fitEq_any M[k + k2] (M[k + m2]'hml2) W)
                have HSk : Hid (M[k + k2].k = (M[k + m2]'hml2).k → P.Comp M (N.take kk) (k + k2 + 1)) := Lib.hid (fun h => by subst hm2; exact P.comp_skip HQ.out.comp (by omega) hlt2 h)
                have HTk : Hid (M[k + k2].k ≠ (M[k + m2]'hml2).k → P.Comp M ((N.set kk M[k + k2]).take (kk + 1)) (k + k2 + 1)) := Lib.hid (fun h => by subst hm2; rw [take_set hkN]; exact P.comp_take HQ.out.comp (by omega) HS.out hlt2 h)
                have HTop : Hid (∀ j (h1 : j < (N.set kk M[k + k2]).length) (h2 : j < M.length), k + k2 + 1 - 1 ≤ j → (N.set kk M[k + k2])[j] = M[j]) := Lib.hid (fun j h1 h2 hj => by
                  rw [List.getElem_set_ne (by omega)]
                  exact HQ.out.top j (by simpa using h1) h2 (by omega))
                have e3 : IntKind.i64.wrap ((k2 : Int) - 1) = (m2 : Int) := by rw [show (k2 : Int) - 1 = (m2 : Int) by omega, IntKind.wrap_i64]; omega
                have b0 : (0 : Int) ≤ (m2 : Int) := Int.natCast_nonneg m2
                have b1 : (m2 : Int) < ((M.length - k : Nat) : Int) := by omega
                have b2 : (k2 : Int) < ((M.length - k : Nat) : Int) := by omega
                have H0 := Lib.hid (show wr.drew.cell? ⟨g, k * 2 + k2 * 2, none⟩ = some (.string M[k + k2].k) ∧ wr.drew.cell? ⟨g, k * 2 + k2 * 2 + 1, none⟩ = some (.string M[k + k2].v) ∧ wr.drew.cell? ⟨g, k * 2 + m2 * 2, none⟩ = some (.string (M[k + m2]'hml2).k) ∧ wr.drew.cell? ⟨g, k * 2 + m2 * 2 + 1, none⟩ = some (.string (M[k + m2]'hml2).v) from ⟨c0, c1, d0, d1⟩)
                clear hR2 c0 c1 d0 d1
                generalize M[k + k2] = x at *
                generalize M[k + m2] = y at *
                clear hm2 hml2
                by_cases hd : x.k = y.k
                · have HSk2 := Lib.hid (HSk.out hd)
                  rw [decide_eq_true hd] at HE
                  clear HSk HTk hd HTop
                  go_wp2_with fail
                  go_region_held3 (fun W => W.cell? ⟨g, k * 2 + k2 * 2, none⟩ = some (.string x.k) ∧ W.cell? ⟨g, k * 2 + k2 * 2 + 1, none⟩ = some (.string x.v) ∧ W.cell? ⟨g, k * 2 + m2 * 2, none⟩ = some (.string y.k) ∧ W.cell? ⟨g, k * 2 + m2 * 2 + 1, none⟩ = some (.string y.v))
                    (first | exact H0.out | with_reducible assumption)
                    ((refine (HE.out _).mono ?_; rintro e w5 ⟨rfl, hb5⟩; have hS5 := c4_keep H0.out hb5))
                  have HQ5 := Lib.hid (show Comp2 M g w w5 N kk (k + (k2 + 1)) from ⟨HQ.out.row.drew.below hb5, hNl, fun j h1 h2 hj => HQ.out.top j h1 h2 (by omega), HSk2.out, HQ.out.gr.trans (grown_of_drew hb5 _)⟩)
                  clear hb5 hS5 H0
                  go_wp2_with fail
                  go_roundw
                  case rel => exact ⟨kk, k2 + 1, N, rfl, by go_num, by omega, by omega, hkk1, by omega, HQ5⟩
                  case measure => simp [intOf]; omega
                · have HTk2 := Lib.hid (HTk.out hd)
                  rw [decide_eq_false hd] at HE
                  clear HSk HTk hd
                  go_wp2_with fail
                  go_region_held3 (fun W => W.cell? ⟨g, k * 2 + k2 * 2, none⟩ = some (.string x.k) ∧ W.cell? ⟨g, k * 2 + k2 * 2 + 1, none⟩ = some (.string x.v) ∧ W.cell? ⟨g, k * 2 + m2 * 2, none⟩ = some (.string y.k) ∧ W.cell? ⟨g, k * 2 + m2 * 2 + 1, none⟩ = some (.string y.v))
                    (first | exact H0.out | with_reducible assumption)
                    ((refine (HE.out _).mono ?_; rintro e w5 ⟨rfl, hb5⟩; have hS5 := c4_keep H0.out hb5))
                  have hR5 := HQ.out.row.drew.below hb5
                  have HQ5 := Lib.hid (show Comp2 M g w ((w5.setCell ⟨g, kk * 2, none⟩ (.string x.k)).setCell ⟨g, kk * 2 + 1, none⟩ (.string x.v)) (N.set kk x) (kk + 1) (k + (k2 + 1)) from ⟨hR5.set kk hkN x, by simpa using hNl, fun j h1 h2 hj => HTop.out j h1 h2 (by omega), HTk2.out, (HQ.out.gr.trans (grown_of_drew hb5 _)).trans (grown_set2 w5 g _ _ _ _)⟩)
                  have p0 : w5.cell? ⟨g, kk * 2, none⟩ = some (.string old.k) := cell_keep hb5 (show wr.drew.cell? ⟨g, kk * 2, none⟩ = _ from o0)
                  have p1 : w5.cell? ⟨g, kk * 2 + 1, none⟩ = some (.string old.v) := cell_keep hb5 (show wr.drew.cell? ⟨g, kk * 2 + 1, none⟩ = _ from o1)
                  have t0 := hR5.fr (kk * 2)
                  have t1 := hR5.fr (kk * 2 + 1)
                  obtain ⟨x0, x1, _, _⟩ := hS5
                  have hkM : kk < M.length := by omega
                  clear hb5 H0 hR5 o0 o1 f0 f1 e3 b0 b1
                  go_wp2_with fail
                  go_roundw
                  case rel => exact ⟨kk + 1, k2 + 1, N.set kk x, by go_num, by go_num, by omega, by omega, by omega, by omega, HQ5⟩
                  case measure => simp [intOf]; omega
              · have hend : k + k2 = M.length := by omega
                have hkM : kk < M.length := by omega
                have hkc4 : kk < cap := by omega
                have hkc5 : ¬ cap = kk := by omega
                have hkc6 : ¬ cap ≤ kk := by omega
                have hkc7 : kk ≤ M.length := by omega
                have hkc8 : kk ≤ cap := by omega
                obtain ⟨W', hclr, hlow, hgr⟩ := clear_run wr g kk (M.length - kk) (cap - kk) (by omega) (fun j hj => HQ.out.row.isSome _ (by omega)) HQ.out.row.fr
                have HP : Hid (CompPost base M w (.slice (some ⟨g, 0, none⟩) M.length cap) (.returned (.slice (some ⟨g, 0, none⟩) kk cap)) W') := Lib.hid ⟨some ⟨g, 0, none⟩, N.take kk, cap, by rw [show (N.take kk).length = kk by simp; omega], HQ.out.comp.rise, (by simp; omega), HQ.out.comp.mem, sts_prefix HQ.out.row (by omega) (by omega) hlow (Nat.lt_of_lt_of_le HQ.out.row.lt hgr.size), fun p e => by injection e with e; subst e; exact hg, HQ.out.gr.trans hgr⟩
                clear HQ hlow hgr
                go_wp2_with fail
                go_ret
                exact HP.out
          · have HTk2 := Lib.hid (HTk.out hd)
            rw [decide_eq_false hd] at HE
            clear HSk HTk hd
            go_wp2_with fail
            go_region_held3 (fun W => W.cell? ⟨g, k * 2, none⟩ = some (.string x.k) ∧ W.cell? ⟨g, k * 2 + 1, none⟩ = some (.string x.v) ∧ W.cell? ⟨g, m * 2, none⟩ = some (.string y.k) ∧ W.cell? ⟨g, m * 2 + 1, none⟩ = some (.string y.v))
              (first | exact H0.out | with_reducible assumption)
              ((refine (HE.out _).mono ?_; rintro e w5 ⟨rfl, hb5⟩; have hS5 := c4_keep H0.out hb5))
            have HB5 := Lib.hid (bstep HB.out.drew hb5)
            clear hb5 hS5 H0
            go_wp2_with fail
            go_roundw
            case rel => exact ⟨k + 1, by omega, by omega, by go_num, HB5, HTk2⟩
            case measure => simp [intOf]; omega
        · obtain rfl : k = M.length := by omega
          have HC2 := HC.out
          rw [List.take_length] at HC2
          have HP : Hid (CompPost base M w (.slice (some ⟨g, 0, none⟩) M.length cap) (.returned (.slice (some ⟨g, 0, none⟩) M.length cap)) wr) := Lib.hid ⟨some ⟨g, 0, none⟩, M, cap, rfl, HC2.rise, Nat.le_refl _, fun x hx => hx, (HR.out.below HB.out).sts hn, fun p e => by injection e with e; subst e; exact hg, grown_of_below' HB.out _⟩
          clear HC2
          go_wp2_with fail
          go_ret
          exact HP.out
end Go.Proofs.YtgdpbdgaldiggaaGreatDoor
