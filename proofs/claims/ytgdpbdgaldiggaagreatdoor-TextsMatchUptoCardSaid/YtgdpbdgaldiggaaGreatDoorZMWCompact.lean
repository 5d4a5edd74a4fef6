/- Walks: slices.CompactFunc at facts of the call's own, at most 20, in order: the keys rise behind it. -/
/- Walks: outlaw1's fit: it makes a right machine of any. -/
import Derived.Test.YtgdpbdgaldiggaaGreatDoorZMWFit
import Derived.Test.YtgdpbdgaldiggaaGreatDoorZMWMach
import Derived.Test.YtgdpbdgaldiggaaGreatDoorZMEqual
import Derived.Deep.RegionHeld3
import Derived.Lib.SliceRun
import Derived.Test.YtgdpbdgaldiggaaGreatDoorZMWApply
import Derived.Test.YtgdpbdgaldiggaaGreatDoorZMWSort

namespace Go.Proofs.YtgdpbdgaldiggaaGreatDoor
open Go.RowKit Go.Shelf

/-- block g holds the settings N, and may be written -/
structure Row2 (W : World) (g : Nat) (N : List P.St) : Prop where
  c : ∀ j (hj : j < N.length), W.cell? ⟨g, j * 2, none⟩ = some (.string N[j].k) ∧ W.cell? ⟨g, j * 2 + 1, none⟩ = some (.string N[j].v)
  fr : ∀ i, W.frozen? ⟨g, i, none⟩ = false
  lt : g < W.heap.size
theorem Row2.below {W W' : World} {g : Nat} {N : List P.St} (h : Row2 W g N) (hb : Below W.heap.size W W') : Row2 W' g N :=
  ⟨fun j hj => ⟨cell_keep hb (h.c j hj).1, cell_keep hb (h.c j hj).2⟩, fun i => by rw [hb.frozen (p := ⟨g, i, none⟩) h.lt]; exact h.fr i, Nat.lt_of_lt_of_le h.lt hb.size⟩
theorem Row2.drew {W : World} {g : Nat} {N : List P.St} (h : Row2 W g N) : Row2 W.drew g N := ⟨h.c, h.fr, h.lt⟩
theorem Row2.set {W : World} {g : Nat} {N : List P.St} (h : Row2 W g N) (k : Nat) (hk : k < N.length) (x : P.St) : Row2 ((W.setCell ⟨g, k * 2, none⟩ (.string x.k)).setCell ⟨g, k * 2 + 1, none⟩ (.string x.v)) g (N.set k x) := by
  have h0 := (h.c k hk).1
  have h1 := (h.c k hk).2
  refine ⟨fun j hj => ?_, fun i => by rw [World.frozen?_setCell, World.frozen?_setCell]; exact h.fr i, by simpa [World.setCell] using h.lt⟩
  have hj' : j < N.length := by simpa using hj
  by_cases e : j = k
  · subst e
    rw [List.getElem_set_self]
    refine ⟨?_, ?_⟩
    · rw [World.cell?_setCell_other (h := show (⟨g, j * 2 + 1, none⟩ : Addr) ≠ ⟨g, j * 2, none⟩ from fun h' => by injection h' with _ h2; omega)]
      exact World.cell?_setCell_same' _ _ _ (by rw [h0]; rfl)
    · refine World.cell?_setCell_same' _ _ _ ?_
      rw [World.cell?_setCell_other (h := show (⟨g, j * 2, none⟩ : Addr) ≠ ⟨g, j * 2 + 1, none⟩ from fun h' => by injection h' with _ h2; omega), h1]; rfl
  · rw [List.getElem_set_ne (by omega)]
    refine ⟨?_, ?_⟩
    · rw [World.cell?_setCell_other (h := show (⟨g, k * 2 + 1, none⟩ : Addr) ≠ ⟨g, j * 2, none⟩ from fun h' => by injection h' with _ h2; omega), World.cell?_setCell_other (h := show (⟨g, k * 2, none⟩ : Addr) ≠ ⟨g, j * 2, none⟩ from fun h' => by injection h' with _ h2; omega)]
      exact (h.c j hj').1
    · rw [World.cell?_setCell_other (h := show (⟨g, k * 2 + 1, none⟩ : Addr) ≠ ⟨g, j * 2 + 1, none⟩ from fun h' => by injection h' with _ h2; omega), World.cell?_setCell_other (h := show (⟨g, k * 2, none⟩ : Addr) ≠ ⟨g, j * 2 + 1, none⟩ from fun h' => by injection h' with _ h2; omega)]
      exact (h.c j hj').2
theorem grown_set2 (W : World) (g i j : Nat) (x y : Value) : W.grownBy ((W.setCell ⟨g, i, none⟩ x).setCell ⟨g, j, none⟩ y) (some g) :=
  ⟨rfl, rfl, rfl, by simp [World.setCell], fun k _ hk => by
    have hne : k ≠ g := fun e => hk (by rw [e])
    rw [Below.heap_setCell _ _ _ k (fun e => hne e), Below.heap_setCell _ _ _ k (fun e => hne e)]⟩
theorem grown_setCells (g : Nat) : ∀ (vs : List Value) (o : Nat) (W : World), W.grownBy (W.setCells g o vs) (some g)
  | [], _, W => World.grownBy_refl' _ _
  | v :: r, o, W => by
    rw [World.setCells]
    have h : W.grownBy (W.setCell ⟨g, o, none⟩ v) (some g) := ⟨rfl, rfl, rfl, by simp [World.setCell], fun k _ hk => Below.heap_setCell _ _ _ k (fun e => hk (by rw [e]))⟩
    exact h.trans (grown_setCells g r (o + 1) _)
theorem zeroT62' (w : World) : (zeroValue 62).run Tryz.prog w = .ok (.agg #[.string ⟨#[]⟩, .string ⟨#[]⟩]) w := by kernel_rfl
theorem clear_run (W : World) (g k n c : Nat) (hn : 0 < n) (hc : ∀ j, j < n * 2 → (W.cell? ⟨g, k * 2 + j, none⟩).isSome = true) (hf : ∀ i, W.frozen? ⟨g, i, none⟩ = false) :
    ∃ W', (∀ ty, (Builtin.clear_ #[22] ty #[.slice (some ⟨g, k * 2, none⟩) n c]).run Tryz.prog W = .ok (.tuple #[]) W') ∧ (∀ j, j < k * 2 → W'.cell? ⟨g, j, none⟩ = W.cell? ⟨g, j, none⟩) ∧ W.grownBy W' (some g) := by
  obtain ⟨m, rfl⟩ : ∃ m, n = m + 1 := ⟨n - 1, by omega⟩
  generalize hz : (Builtin.zeroCells (Value.agg #[.string ⟨#[]⟩, .string ⟨#[]⟩]).cells (m + 1)).toList = Z
  have hlen : Z.length = (m + 1) * 2 := by rw [← hz]; simp [Builtin.zeroCells, Value.cells]
  have hone : ∀ v ∈ Z, v.oneCell' = true := by
    intro v hv
    rw [← hz] at hv
    simp [Builtin.zeroCells, Value.cells] at hv
    obtain ⟨i, hi, rfl⟩ := hv
    rcases (show i % 2 = 0 ∨ i % 2 = 1 by omega) with h | h <;> simp [h, Value.oneCell']
  have hst := run_storeCells_cells (P := Tryz.prog) g (k * 2) Z 0 W (by rw [hlen]; simpa using hc) (by intro j _; simpa using hf _) hone
  simp only [Nat.add_zero] at hst
  refine ⟨W.setCells g (k * 2) Z, fun ty => ?_, fun j hj => World.cell?_setCells_out g Z (k * 2) W ⟨g, j, none⟩ (fun _ _ => .inl hj), grown_setCells g Z _ W⟩
  simp [Builtin.clear_, run_underlying Tryz.underlying22, hz, hst]

set_option maxHeartbeats 1000000 in
theorem fitEq_any (x y : P.St) (w : World) : Calls Tryz.prog 99 #[.agg #[.string x.k, .string x.v], .agg #[.string y.k, .string y.v]] w fun e w' => e = .returned (.bool (decide (x.k = y.k))) ∧ Below w.heap.size w w' := by
  by_cases hx : x.k = y.k
  · rw [decide_eq_true hx]
    go_enter Tryz.func99, Tryz.ntmps99
    go_wp2_with fail
    go_ret
    exact ⟨by simp [hx], below2 _ _ _⟩
  · rw [decide_eq_false hx]
    have hne : (x.k.toList == y.k.toList) = false := by
      rw [beq_eq_false_iff_ne]; exact fun h => hx (toList_inj h)
    go_enter Tryz.func99, Tryz.ntmps99
    go_wp2_with fail
    go_ret
    exact ⟨by simp [], below2 _ _ _⟩

theorem c4_keep {W W' : World} {p1 p2 p3 p4 : Addr} {u1 u2 u3 u4 : Value} (h : W.cell? p1 = some u1 ∧ W.cell? p2 = some u2 ∧ W.cell? p3 = some u3 ∧ W.cell? p4 = some u4) (hb : Below W.heap.size W W') : W'.cell? p1 = some u1 ∧ W'.cell? p2 = some u2 ∧ W'.cell? p3 = some u3 ∧ W'.cell? p4 = some u4 :=
  ⟨cell_keep hb h.1, cell_keep hb h.2.1, cell_keep hb h.2.2.1, cell_keep hb h.2.2.2⟩
theorem take_set {N : List P.St} {k : Nat} (hk : k < N.length) (x : P.St) : (N.set k x).take (k + 1) = N.take k ++ [x] := by
  rw [List.take_succ_eq_append_getElem (by simpa using hk), List.getElem_set_self, List.take_set_of_le (Nat.le_refl _)]
theorem rising_short {M : List P.St} (h : M.length < 2) : P.Rising P.St.k M := by
  match M, h with
  | [], _ => exact List.Pairwise.nil
  | [x], _ => exact List.pairwise_singleton _ _
  | _ :: _ :: _, h => simp only [List.length_cons] at h; omega
theorem Row2.sts {W : World} {g cap : Nat} {N : List P.St} (h : Row2 W g N) (hcap : N.length ≤ cap) : StsAt W.heap.size W (some ⟨g, 0, none⟩) N cap :=
  ⟨hcap, fun _ => ⟨g, 0, rfl, h.lt, fun k hk => by rw [Nat.zero_add]; exact h.c k hk⟩⟩
theorem sts_prefix {W W' : World} {g cap kk : Nat} {N : List P.St} (h : Row2 W g N) (hk : kk ≤ N.length) (hcap : kk ≤ cap) (hc : ∀ j, j < kk * 2 → W'.cell? ⟨g, j, none⟩ = W.cell? ⟨g, j, none⟩) (hlt : g < W'.heap.size) : StsAt W'.heap.size W' (some ⟨g, 0, none⟩) (N.take kk) cap := by
  have hl : (N.take kk).length = kk := by simp; omega
  refine ⟨by omega, fun _ => ⟨g, 0, rfl, hlt, fun j hj => ?_⟩⟩
  have hj' : j < kk := by omega
  rw [Nat.zero_add, hc _ (by omega), hc _ (by omega), List.getElem_take]
  exact h.c j (by omega)
theorem grown_of_below' {w w' : World} (h : Below w.heap.size w w') (row : Option Nat) : w.grownBy w' row := ⟨h.os, h.tape, h.output, h.size, fun k hk _ => h.block k hk⟩
theorem grown_of_drew {w w' : World} (h : Below w.drew.heap.size w.drew w') (row : Option Nat) : w.grownBy w' row := ⟨h.os, h.tape, h.output, h.size, fun k hk _ => h.block k hk⟩
theorem Row2.isSome {W : World} {g : Nat} {N : List P.St} (h : Row2 W g N) (i : Nat) (hi : i < N.length * 2) : (W.cell? ⟨g, i, none⟩).isSome = true := by
  obtain ⟨h0, h1⟩ := h.c (i / 2) (by omega)
  rcases (show i = i / 2 * 2 ∨ i = i / 2 * 2 + 1 by omega) with e | e
  · rw [e, h0]; rfl
  · rw [e, h1]; rfl
/-- the state of the second loop -/
structure Comp2 (M : List P.St) (g : Nat) (w wr : World) (N : List P.St) (kk i : Nat) : Prop where
  row : Row2 wr g N
  len : N.length = M.length
  top : ∀ j (h1 : j < N.length) (h2 : j < M.length), i - 1 ≤ j → N[j] = M[j]
  comp : P.Comp M (N.take kk) i
  gr : w.grownBy wr (some g)
/-- what CompactFunc owes -/
def CompPost (base : Nat) (M : List P.St) (w : World) (v : Value) (e : Ending) (w' : World) : Prop :=
  ∃ (a : Option Addr) (A : List P.St) (cap : Nat), e = .returned (.slice a A.length cap) ∧ P.Rising P.St.k A ∧ A.length ≤ M.length ∧ (∀ x ∈ A, x ∈ M) ∧ StsAt w'.heap.size w' a A cap ∧ (∀ p, a = some p → base ≤ p.block) ∧ w.grownBy w' v.ownBlock

set_option maxRecDepth 100000 in
set_option maxHeartbeats 16000000 in
theorem compact_any (M : List P.St) (base : Nat) (v : Value) (hl : M.length ≤ 20) (hs : M.Pairwise (fun x y => ¬ P.ltB y.k x.k)) (w : World) (ho : w.ownsRow base 62 2 v M.length (flat cellsS M)) :
    Calls Tryz.prog 98 #[v, .func (.func 99) #[] #[]] w (CompPost base M w v) := by
  obtain ⟨a, cap, rfl, hst, hbl⟩ := ownAtS ho
  by_cases h2 : M.length < 2
  · have HP : Hid (CompPost base M w (.slice a M.length cap) (.returned (.slice a M.length cap)) w) := Lib.hid ⟨a, M, cap, rfl, rising_short h2, Nat.le_refl _, fun x h => h, hst, fun p e => (hbl p e).1, World.grownBy_refl' _ _⟩
    clear ho hst hbl hs
    go_enter Tryz.func98, Tryz.ntmps98
    go_wp2_with fail
    go_ret
    exact HP.out
  · obtain ⟨_, ⟨h0, h1⟩ | ⟨g, cap', cur, e1, hg, hh, hn, hcap, hsz, ht⟩⟩ := ho
    · omega
    · cases e1
      have hrow : Row2 w g M := ⟨fun j hj => by
        obtain ⟨b, off, e, _, hc⟩ := hst.at_ (ne_nil_of_lt hj)
        cases e
        have := hc j hj
        simpa using this, fun i => by simp [World.frozen?, hh], (Array.getElem?_eq_some_iff.1 hh).1⟩
      have HR := Lib.hid hrow
      have HS := Lib.hid hs
      have HC1 := Lib.hid (P.comp_start (M := M) (by omega))
      have hcl : M.length < 9223372036854775807 := by omega
      clear hrow hs hst hbl hh ht hsz
      go_enter Tryz.func98, Tryz.ntmps98
      go_wp2_with fail
      go_loopw [5] (fun i wr => ∃ k : Nat, 1 ≤ k ∧ k ≤ M.length ∧ i = .int .i64 k ∧ Hid (Below w.heap.size w wr) ∧ Hid (P.Comp M (M.take k) k)) (fun i _ => M.length - (intOf i).toNat)
      case atStart => exact ⟨1, Nat.le_refl _, by omega, rfl, Lib.hid (Below.refl _ _), HC1⟩
      case round =>
        obtain ⟨k, hk1, hk, rfl, HB, HC⟩ := hrel
        by_cases hlt : k < M.length
        · obtain ⟨m, hm⟩ : ∃ m, k = m + 1 := ⟨k - 1, by omega⟩
          have hml : m < M.length := by omega
          have hR2 := HR.out.below HB.out
          obtain ⟨c0, c1⟩ := hR2.c k hlt
          obtain ⟨d0, d1⟩ := hR2.c m hml
          have HE := Lib.hid (fun W => fitEq_any M[k] M[m] W)
          have HSk : Hid (M[k].k = M[m].k → P.Comp M (M.take k) (k + 1)) := Lib.hid (fun h => by subst hm; exact P.comp_skip HC.out (by omega) hlt h)
          have HTk : Hid (M[k].k ≠ M[m].k → P.Comp M (M.take (k + 1)) (k + 1)) := Lib.hid (fun h => by subst hm; exact P.comp_take1 HC.out (by omega) HS.out hlt h)
          have e3 : IntKind.i64.wrap ((k : Int) - 1) = (m : Int) := by rw [show (k : Int) - 1 = (m : Int) by omega, IntKind.wrap_i64]; omega
          have b0 : (0 : Int) ≤ (m : Int) := Int.natCast_nonneg m
          have b1 : (m : Int) < (M.length : Int) := by omega
          have H0 := Lib.hid (show wr.drew.cell? ⟨g, k * 2, none⟩ = some (.string M[k].k) ∧ wr.drew.cell? ⟨g, k * 2 + 1, none⟩ = some (.string M[k].v) ∧ wr.drew.cell? ⟨g, m * 2, none⟩ = some (.string M[m].k) ∧ wr.drew.cell? ⟨g, m * 2 + 1, none⟩ = some (.string M[m].v) from ⟨c0, c1, d0, d1⟩)
          clear hm hR2 c0 c1 d0 d1
          generalize M[k] = x at *
          generalize M[m] = y at *
          by_cases hd : x.k = y.k
          · have HSk2 := Lib.hid (HSk.out hd)
            rw [decide_eq_true hd] at HE
            clear HSk HTk hd
            go_wp2_with fail
            go_region_held3 (fun W => W.cell? ⟨g, k * 2, none⟩ = some (.string x.k) ∧ W.cell? ⟨g, k * 2 + 1, none⟩ = some (.string x.v) ∧ W.cell? ⟨g, m * 2, none⟩ = some (.string y.k) ∧ W.cell? ⟨g, m * 2 + 1, none⟩ = some (.string y.v))
              (first | exact H0.out | with_reducible assumption)
              ((refine (HE.out _).mono ?_; rintro e w5 ⟨rfl, hb5⟩; have hS5 := c4_keep H0.out hb5))
            have HB5 := Lib.hid (bstep HB.out.drew hb5)
            have HQ0 := Lib.hid (show Comp2 M g w w5 M k (k + 1) from ⟨HR.out.below HB5.out, rfl, fun j _ _ _ => rfl, HSk2.out, grown_of_below' HB5.out _⟩)
            have hkc : k < cap := by omega
            have hkc2 : ¬ cap = k := by omega
            have hkc3 : ¬ cap ≤ k := by omega
            clear hb5 hS5 H0 HB HC HE e3 b0 b1 HB5 HSk2
            go_wp2_with fail
            go_loopw [5, 7] (fun a5 a7 wr => ∃ (kk k2 : Nat) (N : List P.St), a5 = .int .i64 kk ∧ a7 = .int .i64 k2 ∧ 1 ≤ k2 ∧ k + k2 ≤ M.length ∧ 1 ≤ kk ∧ kk + 1 ≤ k + k2 ∧ Hid (Comp2 M g w wr N kk (k + k2))) (fun _ a7 _ => M.length - (k + (intOf a7).toNat))
            case atStart => exact ⟨k, 1, M, rfl, rfl, Nat.le_refl _, by omega, by omega, by omega, HQ0⟩
            case round =>
              obtain ⟨kk, k2, N, rfl, rfl, h21, h2n, hkk1, hkk, HQ⟩ := hrel
              have hNl := HQ.out.len
              by_cases hlt2 : k + k2 < M.length
              · have hR2 := HQ.out.row
                have hkN : kk < N.length := by omega
                obtain ⟨o0, o1⟩ := hR2.c kk hkN
                generalize N[kk] = old at o0 o1
                obtain ⟨m2, hm2⟩ : ∃ m2, k2 = m2 + 1 := ⟨k2 - 1, by omega⟩
                have hml2 : k + m2 < M.length := by omega
                obtain ⟨c0, c1⟩ := hR2.c (k + k2) (by omega)
                obtain ⟨d0, d1⟩ := hR2.c (k + m2) (by omega)
                have f0 := hR2.fr (kk * 2)
                have f1 := hR2.fr (kk * 2 + 1)
                rw [HQ.out.top (k + k2) (by omega) hlt2 (by omega)] at c0 c1
                rw [HQ.out.top (k + m2) (by omega) hml2 (by omega)] at d0 d1
                rw [show (k + k2) * 2 = k * 2 + k2 * 2 by omega] at c0 c1
                rw [show (k + m2) * 2 = k * 2 + m2 * 2 by omega] at d0 d1
                have HE := Lib.hid (fun W => fitEq_any M[k + k2] (M[k + m2]'hml2) W)
                have HSk : Hid (M[k + k2].k = (M[k + m2]'hml2).k → P.Comp M (N.take kk) (k + k2 + 1)) := Lib.hid (fun h => by subst hm2; exact P.comp_skip HQ.out.comp (by omega) hlt2 h)
                have HTk : Hid (M[k + k2].k ≠ (M[k + m2]'hml2).k → P.Comp M ((N.set kk M[k + k2]).take (kk + 1)) (k + k2 + 1)) := Lib.hid (fun h => by subst hm2; rw [take_set hkN]; exact P.comp_take HQ.out.comp (by omega) HS.out hlt2 h)
                have HTop : Hid (∀ j (h1 : j < (N.set kk M[k + k2]).length) (h2 : j < M.length), k + k2 + 1 - 1 ≤ j → (N.set kk M[k + k2])[j] = M[j]) := Lib.hid (fun j h1 h2 hj => by
                  rw [List.getElem_set_ne (by omega)]
                  exact HQ.out.top j (by simpa using h1) h2 (by omega))
                have e3 : IntKind.i64.wrap ((k2 : Int) - 1) = (m2 : Int) := by rw [show (k2 : Int) - 1 = (m2 : Int) by omega, IntKind.wrap_i64]; omega
                have b0 : (0 : Int) ≤ (m2 : Int) := Int.natCast_nonneg m2
                have b1 : (m2 : Int) < ((M.length - k : Nat) : Int) := by omega
                have b2 : (k2 : Int) < ((M.length - k : Nat) : Int) := by omega
                have H0 := Lib.hid (show wr.drew.cell? ⟨g, k * 2 + k2 * 2, none⟩ = some (.string M[k + k2].k) ∧ wr.drew.cell? ⟨g, k * 2 + k2 * 2 + 1, none⟩ = some (.string M[k + k2].v) ∧ wr.drew.cell? ⟨g, k * 2 + m2 * 2, none⟩ = some (.string (M[k + m2]'hml2).k) ∧ wr.drew.cell? ⟨g, k * 2 + m2 * 2 + 1, none⟩ = some (.string (M[k + m2]'hml2).v) from ⟨c0, c1, d0, d1⟩)
                clear hR2 c0 c1 d0 d1
                generalize M[k + k2] = x at *
                generalize M[k + m2] = y at *
                clear hm2 hml2
                by_cases hd : x.k = y.k
                · have HSk2 := Lib.hid (HSk.out hd)
                  rw [decide_eq_true hd] at HE
                  clear HSk HTk hd HTop
                  go_wp2_with fail
                  go_region_held3 (fun W => W.cell? ⟨g, k * 2 + k2 * 2, none⟩ = some (.string x.k) ∧ W.cell? ⟨g, k * 2 + k2 * 2 + 1, none⟩ = some (.string x.v) ∧ W.cell? ⟨g, k * 2 + m2 * 2, none⟩ = some (.string y.k) ∧ W.cell? ⟨g, k * 2 + m2 * 2 + 1, none⟩ = some (.string y.v))
                    (first | exact H0.out | with_reducible assumption)
                    ((refine (HE.out _).mono ?_; rintro e w5 ⟨rfl, hb5⟩; have hS5 := c4_keep H0.out hb5))
                  have HQ5 := Lib.hid (show Comp2 M g w w5 N kk (k + (k2 + 1)) from ⟨HQ.out.row.drew.below hb5, hNl, fun j h1 h2 hj => HQ.out.top j h1 h2 (by omega), HSk2.out, HQ.out.gr.trans (grown_of_drew hb5 _)⟩)
                  clear hb5 hS5 H0
                  go_wp2_with fail
                  go_roundw
                  case rel => exact ⟨kk, k2 + 1, N, rfl, by go_num, by omega, by omega, hkk1, by omega, HQ5⟩
                  case measure => simp [intOf]; omega
                · have HTk2 := Lib.hid (HTk.out hd)
                  rw [decide_eq_false hd] at HE
                  clear HSk HTk hd
                  go_wp2_with fail
                  go_region_held3 (fun W => W.cell? ⟨g, k * 2 + k2 * 2, none⟩ = some (.string x.k) ∧ W.cell? ⟨g, k * 2 + k2 * 2 + 1, none⟩ = some (.string x.v) ∧ W.cell? ⟨g, k * 2 + m2 * 2, none⟩ = some (.string y.k) ∧ W.cell? ⟨g, k * 2 + m2 * 2 + 1, none⟩ = some (.string y.v))
                    (first | exact H0.out | with_reducible assumption)
                    ((refine (HE.out _).mono ?_; rintro e w5 ⟨rfl, hb5⟩; have hS5 := c4_keep H0.out hb5))
                  have hR5 := HQ.out.row.drew.below hb5
                  have HQ5 := Lib.hid (show Comp2 M g w ((w5.setCell ⟨g, kk * 2, none⟩ (.string x.k)).setCell ⟨g, kk * 2 + 1, none⟩ (.string x.v)) (N.set kk x) (kk + 1) (k + (k2 + 1)) from ⟨hR5.set kk hkN x, by simpa using hNl, fun j h1 h2 hj => HTop.out j h1 h2 (by omega), HTk2.out, (HQ.out.gr.trans (grown_of_drew hb5 _)).trans (grown_set2 w5 g _ _ _ _)⟩)
                  have p0 : w5.cell? ⟨g, kk * 2, none⟩ = some (.string old.k) := cell_keep hb5 (show wr.drew.cell? ⟨g, kk * 2, none⟩ = _ from o0)
                  have p1 : w5.cell? ⟨g, kk * 2 + 1, none⟩ = some (.string old.v) := cell_keep hb5 (show wr.drew.cell? ⟨g, kk * 2 + 1, none⟩ = _ from o1)
                  have t0 := hR5.fr (kk * 2)
                  have t1 := hR5.fr (kk * 2 + 1)
                  obtain ⟨x0, x1, _, _⟩ := hS5
                  have hkM : kk < M.length := by omega
                  clear hb5 H0 hR5 o0 o1 f0 f1 e3 b0 b1
                  go_wp2_with fail
                  go_roundw
                  case rel => exact ⟨kk + 1, k2 + 1, N.set kk x, by go_num, by go_num, by omega, by omega, by omega, by omega, HQ5⟩
                  case measure => simp [intOf]; omega
              · have hend : k + k2 = M.length := by omega
                have hkM : kk < M.length := by omega
                have hkc4 : kk < cap := by omega
                have hkc5 : ¬ cap = kk := by omega
                have hkc6 : ¬ cap ≤ kk := by omega
                have hkc7 : kk ≤ M.length := by omega
                have hkc8 : kk ≤ cap := by omega
                obtain ⟨W', hclr, hlow, hgr⟩ := clear_run wr g kk (M.length - kk) (cap - kk) (by omega) (fun j hj => HQ.out.row.isSome _ (by omega)) HQ.out.row.fr
                have HP : Hid (CompPost base M w (.slice (some ⟨g, 0, none⟩) M.length cap) (.returned (.slice (some ⟨g, 0, none⟩) kk cap)) W') := Lib.hid ⟨some ⟨g, 0, none⟩, N.take kk, cap, by rw [show (N.take kk).length = kk by simp; omega], HQ.out.comp.rise, (by simp; omega), HQ.out.comp.mem, sts_prefix HQ.out.row (by omega) (by omega) hlow (Nat.lt_of_lt_of_le HQ.out.row.lt hgr.size), fun p e => by injection e with e; subst e; exact hg, HQ.out.gr.trans hgr⟩
                clear HQ hlow hgr
                go_wp2_with fail
                go_ret
                exact HP.out
          · have HTk2 := Lib.hid (HTk.out hd)
            rw [decide_eq_false hd] at HE
            clear HSk HTk hd
            go_wp2_with fail
            go_region_held3 (fun W => W.cell? ⟨g, k * 2, none⟩ = some (.string x.k) ∧ W.cell? ⟨g, k * 2 + 1, none⟩ = some (.string x.v) ∧ W.cell? ⟨g, m * 2, none⟩ = some (.string y.k) ∧ W.cell? ⟨g, m * 2 + 1, none⟩ = some (.string y.v))
              (first | exact H0.out | with_reducible assumption)
              ((refine (HE.out _).mono ?_; rintro e w5 ⟨rfl, hb5⟩; have hS5 := c4_keep H0.out hb5))
            have HB5 := Lib.hid (bstep HB.out.drew hb5)
            clear hb5 hS5 H0
            go_wp2_with fail
            go_roundw
            case rel => exact ⟨k + 1, by omega, by omega, by go_num, HB5, HTk2⟩
            case measure => simp [intOf]; omega
        · obtain rfl : k = M.length := by omega
          have HC2 := HC.out
          rw [List.take_length] at HC2
          have HP : Hid (CompPost base M w (.slice (some ⟨g, 0, none⟩) M.length cap) (.returned (.slice (some ⟨g, 0, none⟩) M.length cap)) wr) := Lib.hid ⟨some ⟨g, 0, none⟩, M, cap, rfl, HC2.rise, Nat.le_refl _, fun x hx => hx, (HR.out.below HB.out).sts hn, fun p e => by injection e with e; subst e; exact hg, grown_of_below' HB.out _⟩
          clear HC2
          go_wp2_with fail
          go_ret
          exact HP.out
end Go.Proofs.YtgdpbdgaldiggaaGreatDoor

namespace Go.Proofs.YtgdpbdgaldiggaaGreatDoor
open Go.RowKit Go.Shelf Go.Maps

theorem wpList_append_sl {P : Program} {w : World} {ops : Array Oper} {rest : List Oper} {o : Oper} {a : Act} {Q : Exit → Act → World → Prop} (hgd : o.guard = none) (s x : Operand) (t : TypeId)
    (ho : o.op = .call { callee := .builtin .append, args := #[s, x], argTypes := #[t, t] })
    (base : Nat) (e : TypeId) (i : TypeInfo) (z : Value) (size bytes : Nat) (ht : P.underlying t = some (.slice e)) (hi : P.info? e = some i) (hz : i.zero = some z)
    (hsize : i.size = size) (hby : i.bytes = bytes) (hzs : z.cells.size = size) (hsz : 0 < size)
    (v : Value) (n : Nat) (xs : List Value) (hs : a.eval s = v) (hown : w.ownsRow base e size v n xs)
    (ad : Addr) (m c : Nat) (news : List Value) (hx : a.eval x = .slice (some ad) m c) (hl : news.length = m * size) (hnews : ∀ j u, news[j]? = some u → w.cell? (ad.add j) = some u) (h1 : ∀ u ∈ news, u.oneCell' = true)
    (h63 : n + m ≤ maxLen) (hbytes : (n + m) * bytes ≤ 140737488355328) (hbase : base ≤ w.heap.size)
    (h : ∀ p' c' w', w'.ownsRow base e size (.slice p' (n + m) c') (n + m) (xs ++ news) → w.grownBy w' v.ownBlock → wpList P ops Q rest (a.put o.dst (.slice p' (n + m) c')) w') : wpList P ops Q (o :: rest) a w :=
  wpList_append_own w hgd s x t ho base e i z size bytes ht hi hz hsize hby hzs hsz v n xs hs hown ad m c news hx hl hnews h1 h63 hbytes hbase fun v' w' h2 h3 _ => by
    obtain ⟨p', c', rfl⟩ : ∃ p c, v' = .slice p (n + m) c := by
      obtain ⟨_, ⟨rfl, e0⟩ | ⟨g, cap, cur, rfl, _⟩⟩ := h2
      · exact ⟨none, 0, by rw [e0]⟩
      · exact ⟨_, _, rfl⟩
    exact h p' c' w' h2 h3
/-- what fit owes -/
def FitPost (A : Ad) (m : P.Mach) (w : World) (e : Ending) (w' : World) : Prop :=
  ∃ A' m', e = .returned (machV A' m') ∧ P.Right m' ∧ Lies w'.heap.size w' A' m' ∧ Below w.heap.size w w' ∧ ((A' = A ∧ m' = m) ∨ Up w.heap.size w' A' m')
/-- fit's boxes -/
structure FSt (w wr : World) (b : Nat) (r1 : Array Value) : Prop where
  m : HasRow wr w.heap.size r1
  z : HasRow wr (w.heap.size + 1) mz
  bel : Below w.heap.size w wr
  hb : w.heap.size + 1 < b
/-- the state of the first loop -/
structure F1 (w wr : World) (b : Nat) (r1 : Array Value) (p : Option Addr) (n c : Nat) (L : List P.St) : Prop where
  st : FSt w wr b r1
  x : HasRow wr b #[.slice p n c, .slice none 0 0, .slice none 0 0, .slice none 0 0]
  o : wr.ownsRow (b + 1) 62 2 (.slice p n c) n (flat cellsS L)
  ln : n = L.length
  l : n ≤ 20
  a : ∀ x ∈ L, P.factErr x = 0
section
variable {w wr W' w3 : World} {b n c n' c' : Nat} {r1 : Array Value} {p p' : Option Addr} {L : List P.St}
theorem FSt.below (h : FSt w wr b r1) (hb : Below wr.heap.size wr W') : FSt w W' b r1 := ⟨h.m.below hb, h.z.below hb, bstep h.bel hb, h.hb⟩
theorem FSt.grown {row : Option Nat} (h : FSt w wr b r1) (hg : wr.grownBy W' row) (hr : ∀ k, row = some k → b ≤ k) : FSt w W' b r1 :=
  ⟨h.m.grown hg (fun e => by have := hr _ e.symm; have := h.hb; omega), h.z.grown hg (fun e => by have := hr _ e.symm; have := h.hb; omega), h.bel.grown hg h.bel.size (fun j e => by have := hr _ e; have := h.hb; omega), h.hb⟩
theorem F1.below (h : F1 w wr b r1 p n c L) (hb : Below wr.heap.size wr W') : F1 w W' b r1 p n c L := ⟨h.st.below hb, h.x.below hb, own_below h.o hb, h.ln, h.l, h.a⟩
theorem F1.push (h : F1 w wr b r1 p n c L) (o : Obj) (hg : (wr.alloc o).grownBy w3 (Value.slice p n c).ownBlock) (x : P.St) (ho : w3.ownsRow (b + 1) 62 2 (.slice p' (n + 1) c') (n + 1) (flat cellsS L ++ cellsS x)) (hl : n < 20) (ha : P.factErr x = 0) :
    F1 w (w3.setCell ⟨b, 0, none⟩ (.slice p' (n + 1) c')) b r1 p' (n + 1) c' (L ++ [x]) := by
  have hge : ∀ k, (Value.slice p n c).ownBlock = some k → b ≤ k := fun k e => Nat.le_of_succ_le (own_ge h.o k e)
  have h1 := (h.st.below (below_alloc wr o)).grown hg hge
  have h2 := (h.x.alloc o).grown hg (fun e => by have := own_ge h.o _ e.symm; omega)
  have hs : w3.grownBy (w3.setCell ⟨b, 0, none⟩ (.slice p' (n + 1) c')) (some b) := grown_set _ _ _
  refine ⟨h1.grown hs (fun k e => by cases e; exact Nat.le_refl _), h2.set 0 _ (by simp), ?_, by simp [h.ln], by omega, fun y hy => ?_⟩
  · rw [flat_snoc]; exact own_store ho (Nat.lt_succ_self b)
  · rcases List.mem_append.1 hy with hy | hy
    · exact h.a y hy
    · simp at hy; subst hy; exact ha
end
theorem rnameB {s : ByteArray} (hs : s.size ≤ 4294967280) (w : World) : Calls Tryz.prog 35 #[.string s] w fun e w' => e = .returned (.bool (P.nameS s)) ∧ Below w.heap.size w w' := (rname_any s hs w).mono (fun _ _ ⟨h1, h2⟩ => ⟨h1, h2 ▸ Below.refl _ _⟩)
theorem rvalueB {s : ByteArray} (hs : s.size ≤ 4294967280) (w : World) : Calls Tryz.prog 61 #[.string s] w fun e w' => e = .returned (.bool (P.valueS s)) ∧ Below w.heap.size w w' := (rvalue_any s hs w).mono (fun _ _ ⟨h1, h2⟩ => ⟨h1, h2 ▸ Below.refl _ _⟩)

set_option maxRecDepth 100000 in
set_option maxHeartbeats 16000000 in
theorem fit_any (A : Ad) (m : P.Mach) (hf : m.fit) (w : World) (hw : Good w) (hl : Lies w.heap.size w A m) :
    Calls Tryz.prog 26 #[machV A m] w (FitPost A m w) := by
  have HE := Lib.hid (fun W hW hL => rcheck_any A m hf W hW hL)
  have HR := Lib.hid (P.right_iff m)
  obtain ⟨i0, hi, hz0, hz1, hz2⟩ := info_parts info62
  have HP : Hid (P.Right m → ∀ w', Below w.heap.size w w' → FitPost A m w (.returned (machV A m)) w') := Lib.hid (fun h w' hb => ⟨A, m, rfl, h, (hl.below hb).up hb.size, hb, .inl ⟨rfl, rfl⟩⟩)
  generalize P.machErr m = e0 at *
  have HW := Lib.hid hw
  have HL := Lib.hid hl
  have HF := Lib.hid hf
  clear hw hl hf
  obtain ⟨a1, a2, a3, a4, c1, c2, c3, c4⟩ := A
  obtain ⟨F, I, S, V⟩ := m
  unfold machV at HE HP ⊢
  simp only at HE HP ⊢
  have HM1 := Lib.hid ((HasRow.new w #[.slice a1 F.length c1, .slice a2 I.length c2, .slice a3 S.length c3, .slice a4 V.length c4] 26).alloc (.cells mz 26))
  have HZ1 := Lib.hid (HasRow.new (w.alloc (.cells #[.slice a1 F.length c1, .slice a2 I.length c2, .slice a3 S.length c3, .slice a4 V.length c4] 26)) mz 26)
  rw [World.size_alloc] at HZ1
  have HB1 := Lib.hid (below2 w (.cells #[.slice a1 F.length c1, .slice a2 I.length c2, .slice a3 S.length c3, .slice a4 V.length c4] 26) (.cells mz 26))
  go_enter Tryz.func26, Tryz.ntmps26
  go_wp2_with fail
  refine (HE.out _ (HW.out.mono HB1.out) ((HL.out.below HB1.out).up HB1.out.size)).mono ?_
  rintro e w2 ⟨rfl, hb2⟩
  have HM2 := Lib.hid (HM1.out.below hb2)
  have HZ2 := Lib.hid (HZ1.out.below hb2)
  have HB2 := Lib.hid (bstep HB1.out hb2)
  clear hb2 HM1 HZ1 HB1 HE
  obtain ⟨d0, d1, d2, d3, hml⟩ := hrow4 HM2.out
  by_cases h0 : e0 = 0
  · have HR2 := Lib.hid (HR.out.1 h0)
    have hR := HZ2.out
    obtain ⟨g0, g1, g2, g3, _⟩ := hrow4 hR
    have f0 := hR.free 0
    have f1 := hR.free 1
    have f2 := hR.free 2
    have f3 := hR.free 3
    have HS4 := Lib.hid (store4 hR HB2.out (Nat.le_succ _) (.slice a1 F.length c1) (.slice a2 I.length c2) (.slice a3 S.length c3) (.slice a4 V.length c4))
    clear hR HR
    subst h0
    go_wp2_with fail
    refine bodyPost_ret (v := .agg #[.slice a1 F.length c1, .slice a2 I.length c2, .slice a3 S.length c3, .slice a4 V.length c4]) ?_ rfl (HP.out HR2.out _ HS4.out.2)
    clear g0 g1 g2 g3 f0 f1 f2 f3
    obtain ⟨y0, y1, y2, y3, _⟩ := hrow4 HS4.out.1
    simp [results, Tryz.results26, go_sem, y0, y1, y2, y3]
  · have hz : (e0 == 0) = false := by simpa using h0
    have HST := Lib.hid (show F1 w (w2.alloc (.cells mz 26)) w2.heap.size #[.slice a1 F.length c1, .slice a2 I.length c2, .slice a3 S.length c3, .slice a4 V.length c4] none 0 0 [] from
      ⟨⟨HM2.out.alloc _, HZ2.out.alloc _, bstep HB2.out (below_alloc _ _), HZ2.out.lt⟩, HasRow.new w2 mz 26, World.ownsRow_nil _ _ _ _, rfl, by simp, by simp⟩)
    clear HP HR HM2 HZ2 h0
    go_wp2_with fail
    generalize w2.heap.size = b at *
    go_loopw [21] (fun i wr => ∃ (k : Nat) (p : Option Addr) (n c : Nat) (L : List P.St), k ≤ F.length ∧ i = .int .i64 k ∧ n ≤ 20 ∧ Hid (F1 w wr b #[.slice a1 F.length c1, .slice a2 I.length c2, .slice a3 S.length c3, .slice a4 V.length c4] p n c L)) (fun i _ => F.length - (intOf i).toNat)
    case atStart => exact ⟨0, none, 0, 0, [], Nat.zero_le _, rfl, by omega, HST⟩
    case round =>
      obtain ⟨k, p, n, c, L, hk, rfl, hn20, HQ⟩ := hrel
      clear HST HB2 d0 d1 d2 d3 hml
      have hLF : F.length ≤ 4294967280 := HF.out.l1
      by_cases hlt : k < F.length
      · obtain ⟨bb, off, rfl, hbm, hc⟩ := (HL.out.f.below HQ.out.st.bel).at_ (ne_nil_of_lt hlt)
        obtain ⟨d0, d1⟩ := hc k hlt
        obtain ⟨hs1, hs2⟩ := HF.out.f k hlt
        have HN := Lib.hid (fun W => rnameB hs1 W)
        have HVl := Lib.hid (fun W => rvalueB hs2 W)
        have HZe := Lib.hid (@P.factErr_zero F[k])
        clear hc hs1 hs2
        generalize F[k] = x at *
        generalize P.nameS x.k = q1 at *
        generalize P.valueS x.v = q2 at *
        go_wp2_with fail
        refine (HN.out _).mono ?_
        rintro e w4 ⟨rfl, hb4⟩
        have HQ4 := Lib.hid ((HQ.out.below (below_alloc _ _)).below hb4)
        have HX4 := Lib.hid ((HasRow.new wr #[.string x.k, .string x.v] 62).below hb4)
        clear hb4 HQ
        cases q1 with
        | false =>
          clear HZe
          go_wp2_with fail
          go_roundw
          case rel => exact ⟨k + 1, p, n, c, L, by omega, by go_num, hn20, HQ4⟩
          case measure => simp [intOf]; omega
        | true =>
          have x1 : w4.cell? ⟨wr.heap.size, 1, none⟩ = some (.string x.v) := HX4.out.cell 1
          go_wp2_with fail
          refine (HVl.out _).mono ?_
          rintro e w5 ⟨rfl, hb5⟩
          have HQ5 := Lib.hid (HQ4.out.below hb5)
          have HX5 := Lib.hid (HX4.out.below hb5)
          clear hb5 HQ4 HX4 x1
          cases q2 with
          | false =>
            clear HZe
            go_wp2_with fail
            go_roundw
            case rel => exact ⟨k + 1, p, n, c, L, by omega, by go_num, hn20, HQ5⟩
            case measure => simp [intOf]; omega
          | true =>
            have HZx := Lib.hid (HZe.out.2 (by simp))
            obtain ⟨y0, y1, y2, y3, ylt⟩ := hrow4 HQ5.out.x
            have f0 := HQ5.out.x.free 0
            clear HZe
            by_cases hn : n < 20
            · obtain ⟨x0, x1, xlt⟩ := hrow2 HX5.out
              have hwb : b + 1 ≤ (w5.alloc (.cells #[.string x.k, .string x.v] 62)).heap.size := by simp; omega
              go_wp2_with (at_builtin; refine wpList_append_sl rfl _ _ 22 rfl (b + 1) 62 i0 (.agg #[.string ⟨#[]⟩, .string ⟨#[]⟩]) 2 32 Tryz.underlying22 hi hz0 hz1 hz2 rfl (by decide) (.slice p n c) n (flat cellsS L) rfl (own_below HQ5.out.o (below_alloc w5 (.cells #[.string x.k, .string x.v] 62))) ⟨w5.heap.size, 0, none⟩ 1 1 (cellsS x) rfl rfl (cells_new w5 (cellsS x) 62) (by intro u hu; simp [cellsS] at hu; rcases hu with rfl | rfl <;> rfl) (by unfold maxLen; omega) (by omega) hwb ?_; intro p' c' w6 hown6 hgrow6; have hx6 := (HQ5.out.x.alloc (.cells #[.string x.k, .string x.v] 62)).grown hgrow6 (fun e => by have := own_ge HQ5.out.o _ e.symm; omega); have y6 := hx6.cell 0; have f6 := hx6.free 0; have HQ6 := Lib.hid (HQ5.out.push (.cells #[.string x.k, .string x.v] 62) hgrow6 x hown6 hn HZx.out); clear hx6 hown6 hgrow6)
              go_roundw
              case rel => exact ⟨k + 1, p', n + 1, c', L ++ [x], by omega, by go_num, by omega, HQ6⟩
              case measure => simp [intOf]; omega
            · have hn2 : decide ((n : Int) < 20) = false := decide_eq_false (by omega)
              go_wp2_with fail
              go_roundw
              case rel => exact ⟨k + 1, p, n, c, L, by omega, by go_num, hn20, HQ5⟩
              case measure => simp [intOf]; omega
      · obtain rfl : k = F.length := by omega
        obtain ⟨y0, y1, y2, y3, ylt⟩ := hrow4 HQ.out.x
        have HSo := Lib.hid (sortStable_any L (b + 1) (.slice p n c) (by rw [← HQ.out.ln]; omega) wr (by have h := HQ.out.o; have e := HQ.out.ln; rw [e] at h ⊢; exact h))
        clear hlt hk
        rename World => wI
        go_wp2_with fail
        refine HSo.out.mono ?_
        rintro e w6 ⟨rfl, M', hperm, hsort, hown6, hgrow6⟩
        have hge : ∀ k, (Value.slice p n c).ownBlock = some k → b + 1 ≤ k := own_ge HQ.out.o
        have hx6 := HQ.out.x.grown hgrow6 (fun e => by have := hge _ e.symm; omega)
        have HS6 := Lib.hid (HQ.out.st.grown hgrow6 (fun k e => Nat.le_of_succ_le (hge k e)))
        have hlen : M'.length = n := by rw [hperm.length_eq, ← HQ.out.ln]
        have HA6 : Hid (∀ x ∈ M', P.factErr x = 0) := Lib.hid (fun x hx => HQ.out.a x (hperm.mem_iff.1 hx))
        have HCo := Lib.hid (compact_any M' (b + 1) (.slice p n c) (by omega) hsort w6 hown6)
        have HX6 := Lib.hid hx6
        have HGe := Lib.hid hge
        have hn20' : M'.length ≤ 20 := by omega
        unfold CompPost at HCo
        obtain ⟨y0, y1, y2, y3, ylt⟩ := hrow4 hx6
        clear hx6 hge hperm hsort hown6 hgrow6 HQ HSo hlen
        go_wp2_with fail
        refine HCo.out.mono ?_
        rintro e w7 ⟨a7, A7, c7, rfl, hrise, hle7, hmem, hsts, hblk, hgr7⟩
        have hx7 := HX6.out.grown hgr7 (fun e => by have := HGe.out _ e.symm; omega)
        have HS7 := Lib.hid (HS6.out.grown hgr7 (fun k e => Nat.le_of_succ_le (HGe.out k e)))
        have hg8 : w7.grownBy (w7.setCell ⟨b, 0, none⟩ (.slice a7 A7.length c7)) (some b) := grown_set _ _ _
        have HBx : Hid (Box (w7.setCell ⟨b, 0, none⟩ (.slice a7 A7.length c7)) b) := Lib.hid ⟨⟨⟨a7, none, none, none, c7, 0, 0, 0⟩, ⟨A7, [], [], []⟩, hx7.set 0 _ (by simp), P.right_facts (by omega) (fun x hx => HA6.out x (hmem x hx)) hrise,
          Up.grown (W := w7) ⟨⟨hsts, ⟨Nat.le_refl _, fun h => absurd rfl h⟩, ⟨Nat.le_refl _, fun h => absurd rfl h⟩, ⟨Nat.le_refl _, fun h => absurd rfl h⟩⟩, fun p e => hblk p e, by simp, by simp, by simp⟩ hg8 (Nat.lt_succ_self b)⟩⟩
        have HS8 := Lib.hid (HS7.out.grown hg8 (fun k e => by cases e; exact Nat.le_refl _))
        have y7 := hx7.cell 0
        have f7 := hx7.free 0
        clear hx7 hg8 hrise hle7 hmem hsts hblk hgr7 HS6 HS7 HX6 HGe HA6 HCo y0 y1 y2 y3
        obtain ⟨m0, m1, m2, m3, mlt⟩ := hrow4 HS8.out.m
        obtain ⟨t2, e2, ht2, ht2b⟩ : ∃ t : Nat, min (I.length : Int) 40 = (t : Int) ∧ t ≤ I.length ∧ t ≤ 40 := ⟨min I.length 40, by omega, by omega, by omega⟩
        have hc2 : t2 ≤ c2 := Nat.le_trans ht2 HL.out.i.le
        go_wp2_with fail
        clear e2 m0 m1 m2 m3
        have HS2I := HS8
        clear HS8
        have HBy := HBx
        clear HBx
        go_loopw [62] (fun i wr => ∃ k : Nat, k ≤ t2 ∧ i = .int .i64 k ∧ Hid (FSt w wr b #[.slice a1 F.length c1, .slice a2 I.length c2, .slice a3 S.length c3, .slice a4 V.length c4]) ∧ Hid (Box wr b)) (fun i _ => t2 - (intOf i).toNat)
        case atStart => exact ⟨0, Nat.zero_le _, rfl, HS2I, HBy⟩
        case round =>
          obtain ⟨k, hk, rfl, HS, HB⟩ := hrel
          clear HS2I HBy
          by_cases hlt : k < t2
          · have hlt2 : k < I.length := by omega
            obtain ⟨bb, off, rfl, hbm, hc⟩ := (HL.out.i.below HS.out.bel).at_ (ne_nil_of_lt hlt2)
            obtain ⟨d0, d1, d2⟩ := hc k hlt2
            obtain ⟨hs1, hs2⟩ := HF.out.i k hlt2
            clear hc
            generalize I[k] = x at *
            obtain ⟨td, e3, htd⟩ : ∃ t : Nat, min (x.d.size : Int) 3000 = (t : Int) ∧ t ≤ x.d.size := ⟨min x.d.size 3000, by omega, by omega⟩
            have HPu := Lib.hid (putF_any ⟨x.p, x.d.extract 0 td, x.r⟩ hs1 (by rw [ByteArray.size_extract]; omega) b (wr.alloc (.cells #[.string x.p, .string (x.d.extract 0 td), .bool x.r] 42)) (HW.out.mono (bstep HS.out.bel (below_alloc wr _))) (HB.out.below (below_alloc wr _)))
            go_wp2_with fail
            refine HPu.out.mono ?_
            rintro e w9 ⟨rfl, hbx, hgr⟩
            have HS9 := Lib.hid ((HS.out.below (below_alloc wr (.cells #[.string x.p, .string (x.d.extract 0 td), .bool x.r] 42))).grown hgr (fun k e => by cases e; exact Nat.le_refl _))
            have HB9 := Lib.hid hbx
            clear hbx hgr HPu
            go_wp2_with fail
            go_roundw
            case rel => exact ⟨k + 1, by omega, by go_num, HS9, HB9⟩
            case measure => simp [intOf]; omega
          · obtain rfl : k = t2 := by omega
            have HS8 := HS
            have HBx := HB
            clear HS HB hlt hk
            rename World => wJ
            obtain ⟨m0, m1, m2, m3, mlt⟩ := hrow4 HS8.out.m
            obtain ⟨t3, e2, ht3, ht3b⟩ : ∃ t : Nat, min (S.length : Int) 40 = (t : Int) ∧ t ≤ S.length ∧ t ≤ 40 := ⟨min S.length 40, by omega, by omega, by omega⟩
            have hc3 : t3 ≤ c3 := Nat.le_trans ht3 HL.out.s.le
            go_wp2_with fail
            clear e2 m0 m1 m2 m3
            have HS2S := HS8
            clear HS8
            have HBy := HBx
            clear HBx
            go_loopw [87] (fun i wr => ∃ k : Nat, k ≤ t3 ∧ i = .int .i64 k ∧ Hid (FSt w wr b #[.slice a1 F.length c1, .slice a2 I.length c2, .slice a3 S.length c3, .slice a4 V.length c4]) ∧ Hid (Box wr b)) (fun i _ => t3 - (intOf i).toNat)
            case atStart => exact ⟨0, Nat.zero_le _, rfl, HS2S, HBy⟩
            case round =>
              obtain ⟨k, hk, rfl, HS, HB⟩ := hrel
              clear HS2S HBy
              by_cases hlt : k < t3
              · have hlt2 : k < S.length := by omega
                obtain ⟨bb, off, rfl, hbm, hc⟩ := (HL.out.s.below HS.out.bel).at_ (ne_nil_of_lt hlt2)
                obtain ⟨d0, d1⟩ := hc k hlt2
                obtain ⟨hs1, hs2⟩ := HF.out.s k hlt2
                clear hc
                generalize S[k] = x at *
                have HPu := Lib.hid (putS_any x hs1 hs2 b (wr.alloc (.cells #[.string x.k, .string x.v] 62)) (HW.out.mono (bstep HS.out.bel (below_alloc wr _))) (HB.out.below (below_alloc wr _)))
                go_wp2_with fail
                refine HPu.out.mono ?_
                rintro e w9 ⟨rfl, hbx, hgr⟩
                have HS9 := Lib.hid ((HS.out.below (below_alloc wr (.cells #[.string x.k, .string x.v] 62))).grown hgr (fun k e => by cases e; exact Nat.le_refl _))
                have HB9 := Lib.hid hbx
                clear hbx hgr HPu
                go_wp2_with fail
                go_roundw
                case rel => exact ⟨k + 1, by omega, by go_num, HS9, HB9⟩
                case measure => simp [intOf]; omega
              · obtain rfl : k = t3 := by omega
                have HS8 := HS
                have HBx := HB
                clear HS HB hlt hk
                rename World => wK
                obtain ⟨m0, m1, m2, m3, mlt⟩ := hrow4 HS8.out.m
                obtain ⟨t4, e2, ht4, ht4b⟩ : ∃ t : Nat, min (V.length : Int) 40 = (t : Int) ∧ t ≤ V.length ∧ t ≤ 40 := ⟨min V.length 40, by omega, by omega, by omega⟩
                have hc4 : t4 ≤ c4 := Nat.le_trans ht4 HL.out.v.le
                go_wp2_with fail
                clear e2 m0 m1 m2 m3
                have HS2V := HS8
                clear HS8
                have HBy := HBx
                clear HBx
                go_loopw [104] (fun i wr => ∃ k : Nat, k ≤ t4 ∧ i = .int .i64 k ∧ Hid (FSt w wr b #[.slice a1 F.length c1, .slice a2 I.length c2, .slice a3 S.length c3, .slice a4 V.length c4]) ∧ Hid (Box wr b)) (fun i _ => t4 - (intOf i).toNat)
                case atStart => exact ⟨0, Nat.zero_le _, rfl, HS2V, HBy⟩
                case round =>
                  obtain ⟨k, hk, rfl, HS, HB⟩ := hrel
                  clear HS2V HBy
                  by_cases hlt : k < t4
                  · have hlt2 : k < V.length := by omega
                    obtain ⟨bb, off, rfl, hbm, hc⟩ := (HL.out.v.below HS.out.bel).at_ (ne_nil_of_lt hlt2)
                    obtain ⟨d0, d1, d2, d3⟩ := hc k hlt2
                    obtain ⟨hs1, hs2⟩ := HF.out.v k hlt2
                    clear hc
                    generalize V[k] = x at *
                    have HPu := Lib.hid (putV_any x hs1 hs2 b (wr.alloc (.cells #[.string x.n, .string x.p, .bool x.a, .bool x.o] 46)) (HW.out.mono (bstep HS.out.bel (below_alloc wr _))) (HB.out.below (below_alloc wr _)))
                    go_wp2_with fail
                    refine HPu.out.mono ?_
                    rintro e w9 ⟨rfl, hbx, hgr⟩
                    have HS9 := Lib.hid ((HS.out.below (below_alloc wr (.cells #[.string x.n, .string x.p, .bool x.a, .bool x.o] 46))).grown hgr (fun k e => by cases e; exact Nat.le_refl _))
                    have HB9 := Lib.hid hbx
                    clear hbx hgr HPu
                    go_wp2_with fail
                    go_roundw
                    case rel => exact ⟨k + 1, by omega, by go_num, HS9, HB9⟩
                    case measure => simp [intOf]; omega
                  · obtain rfl : k = t4 := by omega
                    have HS8 := HS
                    have HBx := HB
                    clear HS HB hlt hk
                    obtain ⟨A9, M9, hrow, hright, hup⟩ := HBx.out.of
                    obtain ⟨b0, b1, b2, b3, _⟩ := hrow4 hrow
                    have hR := HS8.out.z
                    obtain ⟨g0, g1, g2, g3, _⟩ := hrow4 hR
                    have f0 := hR.free 0
                    have f1 := hR.free 1
                    have f2 := hR.free 2
                    have f3 := hR.free 3
                    have HS4 := Lib.hid (store4 hR HS8.out.bel (Nat.le_succ _) (.slice A9.a1 M9.facts.length A9.c1) (.slice A9.a2 M9.files.length A9.c2) (.slice A9.a3 M9.sets.length A9.c3) (.slice A9.a4 M9.svcs.length A9.c4))
                    have HFi : Hid (FitPost ⟨a1, a2, a3, a4, c1, c2, c3, c4⟩ ⟨F, I, S, V⟩ w (.returned (.agg #[.slice A9.a1 M9.facts.length A9.c1, .slice A9.a2 M9.files.length A9.c2, .slice A9.a3 M9.sets.length A9.c3, .slice A9.a4 M9.svcs.length A9.c4])) _) := Lib.hid ⟨A9, M9, rfl, hright, (hup.grown (grown_set4 _ (w.heap.size + 1) (.slice A9.a1 M9.facts.length A9.c1) (.slice A9.a2 M9.files.length A9.c2) (.slice A9.a3 M9.sets.length A9.c3) (.slice A9.a4 M9.svcs.length A9.c4)) (Nat.lt_succ_of_lt HS8.out.hb)).l, HS4.out.2, .inr ((hup.grown (grown_set4 _ (w.heap.size + 1) (.slice A9.a1 M9.facts.length A9.c1) (.slice A9.a2 M9.files.length A9.c2) (.slice A9.a3 M9.sets.length A9.c3) (.slice A9.a4 M9.svcs.length A9.c4)) (Nat.lt_succ_of_lt HS8.out.hb)).base (by have := HS8.out.hb; omega))⟩
                    clear hR hrow hright hup
                    go_wp2_with fail
                    refine bodyPost_ret (v := .agg #[.slice A9.a1 M9.facts.length A9.c1, .slice A9.a2 M9.files.length A9.c2, .slice A9.a3 M9.sets.length A9.c3, .slice A9.a4 M9.svcs.length A9.c4]) ?_ rfl HFi.out
                    clear g0 g1 g2 g3 f0 f1 f2 f3 b0 b1 b2 b3
                    obtain ⟨y0, y1, y2, y3, _⟩ := hrow4 HS4.out.1
                    simp [results, Tryz.results26, go_sem, y0, y1, y2, y3]
end Go.Proofs.YtgdpbdgaldiggaaGreatDoor
