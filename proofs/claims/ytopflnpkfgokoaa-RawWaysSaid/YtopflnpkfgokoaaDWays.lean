/- Walks: chapter 5's CheckWays and its reference. -/
import Derived.Test.YtopflnpkfgokoaaDNames
import Derived.Deep.RegionHeld3
namespace Go.Proofs.Ytopflnpkfgokoaa
open Go.RowKit Go.Shelf

theorem rwhen_any (b : Bool) (x : Int) (w : World) :
    Calls Try.prog 11 #[.bool b, .int .i64 x] w fun e w' => e = .returned (.int .i64 (if b then x else 0)) ∧ w = w' := by
  cases b
  all_goals
    go_enter Try.func11, Try.ntmps11
    go_wp2
    go_ret
    exact ⟨rfl, rfl⟩

namespace P
theorem orE_right (a : Int) : orE a 0 = a := by unfold orE; split <;> simp_all
def orL : List Int → Int
  | [] => 0
  | x :: l => orE x (orL l)
theorem orL_take {l : List Int} {k : Nat} (h : ∀ j (hj : j < l.length), j < k → l[j] = 0) (hk : k < l.length) (h0 : l[k] ≠ 0) : orL l = l[k] := by
  induction l generalizing k with
  | nil => simp at hk
  | cons x l ih =>
    cases k with
    | zero => simp only [List.getElem_cons_zero] at h0 ⊢; exact orE_ne h0 _
    | succ k =>
      have := h 0 (by simp) (by omega)
      simp only [List.getElem_cons_zero] at this
      subst this
      show orE 0 (orL l) = _
      rw [orE_zero]
      simp only [List.getElem_cons_succ] at h0 ⊢
      exact ih (fun j hj hjk => by have := h (j + 1) (by simpa using hj) (by omega); simpa using this) (by simpa using hk) h0
theorem orL_none {l : List Int} (h : ∀ j (hj : j < l.length), l[j] = 0) : orL l = 0 := by
  induction l with
  | nil => rfl
  | cons x l ih =>
    have h0 := h 0 (by simp)
    simp only [List.getElem_cons_zero] at h0
    subst h0
    exact ih (fun j hj => by have := h (j + 1) (by simpa using hj); simpa using this)
end P

theorem rfirst_any (b : Nat) (l : List Int) (hl : l.length ≤ 1000) (w : World) (hc : ∀ j (hj : j < l.length), w.cell? ⟨b, j, none⟩ = some (.int .i64 l[j])) :
    Calls Try.prog 10 #[.slice (some ⟨b, 0, none⟩) l.length l.length] w fun e w' => e = .returned (.int .i64 (P.orL l)) ∧ w = w' := by
  have HC := Lib.hid hc
  clear hc
  go_enter Try.func10, Try.ntmps10
  go_wp2
  go_loop [7] (fun i => ∃ k : Nat, k ≤ l.length ∧ i = .int .i64 k ∧ Aside (∀ j (hj : j < l.length), j < k → l[j] = 0)) (fun i => l.length - (intOf i).toNat)
  case atStart => exact ⟨0, Nat.zero_le _, rfl, aside (fun j _ h => absurd h (by omega))⟩
  case round =>
    obtain ⟨k, hk, rfl, A⟩ := hrel
    by_cases hlt : k < l.length
    · have hcell := HC.out k hlt
      by_cases hz : l[k] = 0
      · rw [hz] at hcell
        have Hz := Lib.hid hz
        clear hz
        go_wp2
        go_round
        case rel =>
          exact ⟨k + 1, by omega, by go_num, aside (fun j hj h => by
            by_cases e : j = k
            · subst e; exact Hz.out
            · exact A.out j hj (by omega))⟩
        case measure => simp [intOf]; omega
      · have hr := Lib.hid (P.orL_take A.out hlt hz)
        have hz' : (l[k] != 0) = true := by simpa using hz
        generalize l[k] = x at *
        clear A
        go_wp2
        go_ret
        exact ⟨by rw [hr.out]; rfl, rfl⟩
    · have hr := Lib.hid (P.orL_none (l := l) (fun j hj => A.out j hj (by omega)))
      clear A
      go_wp2
      go_ret
      exact ⟨by rw [hr.out]; rfl, rfl⟩

theorem rfirst3 (a b c r : Int) (hr : P.orE a (P.orE b c) = r) (t : TypeId) (nb : Nat) (W : World) (hn : nb = W.heap.size) :
    Calls Try.prog 10 #[.slice (some ⟨nb, 0, none⟩) 3 3] (W.alloc (.cells #[.int .i64 a, .int .i64 b, .int .i64 c] t)) fun e w' => e = .returned (.int .i64 r) ∧ W.alloc (.cells #[.int .i64 a, .int .i64 b, .int .i64 c] t) = w' := by
  subst hn
  have := rfirst_any W.heap.size [a, b, c] (by simp) (W.alloc (.cells #[.int .i64 a, .int .i64 b, .int .i64 c] t)) (fun j hj => by
    rw [World.cell?_alloc_at _ _ _ _ rfl]
    match j, hj with
    | 0, _ => rfl
    | 1, _ => rfl
    | 2, _ => rfl)
  rw [show P.orL [a, b, c] = r by rw [← hr]; show P.orE a (P.orE b (P.orE c 0)) = _; rw [P.orE_right]] at this
  exact this

/-! ### plain -/
namespace P
structure Wy where
  f : Int
  t : Int
  c : Int
def costOk (n : Int) : Bool := decide (0 ≤ n) && decide (n ≤ 1000000000)
def placeOk (n m : Int) : Bool := decide (0 ≤ n) && decide (n < m)
def wyErr (m : Int) (x : Wy) : Int := if !placeOk x.f m || !placeOk x.t m then 10 else if x.f == x.t then 2 else if !costOk x.c then 3 else 0
def cstErr (n : Int) : Int := if costOk n then 0 else 3
def cstAt (S : List Int) (j : Nat) : Int := if h : j < S.length then cstErr S[j] else 0
def wyAt (m : Int) (L : List Wy) (j : Nat) : Int := if h : j < L.length then wyErr m L[j] else 0
theorem cst_at {S : List Int} {j : Nat} (h : j < S.length) : cstAt S j = cstErr S[j] := dif_pos h
theorem wy_at {m : Int} {L : List Wy} {j : Nat} (h : j < L.length) : wyAt m L j = wyErr m L[j] := dif_pos h
def waysErr (L : List Wy) (S : List Int) : Int :=
  if 1000 < L.length ∨ 200 < S.length then 4 else orE (firstErr (cstAt S) S.length) (firstErr (wyAt S.length L) L.length)
theorem ways_large {L : List Wy} {S : List Int} (h : 1000 < L.length ∨ 200 < S.length) : waysErr L S = 4 := if_pos h
theorem ways_size {L : List Wy} {S : List Int} (h : ¬ (1000 < L.length ∨ 200 < S.length)) {k : Nat} (hk : k < S.length) (h0 : ∀ j, j < k → cstAt S j = 0) (he : cstErr S[k] ≠ 0) : waysErr L S = 3 := by
  have e : cstAt S k = cstErr S[k] := cst_at hk
  unfold waysErr
  rw [if_neg h, firstErr_at hk h0 (by rw [e]; exact he), e, orE_ne he]
  unfold cstErr at he ⊢
  split at he
  · exact absurd rfl he
  · rename_i h; rw [if_neg h]
theorem ways_way {L : List Wy} {S : List Int} (h : ¬ (1000 < L.length ∨ 200 < S.length)) (hs : ∀ j, j < S.length → cstAt S j = 0) {k : Nat} (hk : k < L.length) (h0 : ∀ j, j < k → wyAt S.length L j = 0) (he : wyErr S.length L[k] ≠ 0) :
    waysErr L S = wyErr S.length L[k] := by
  have e : wyAt S.length L k = wyErr S.length L[k] := wy_at hk
  unfold waysErr
  rw [if_neg h, firstErr_none hs, orE_zero, firstErr_at hk h0 (by rw [e]; exact he), e]
theorem ways_ok {L : List Wy} {S : List Int} (h : ¬ (1000 < L.length ∨ 200 < S.length)) (hs : ∀ j, j < S.length → cstAt S j = 0) (hl : ∀ j, j < L.length → wyAt S.length L j = 0) : waysErr L S = 0 := by
  unfold waysErr
  rw [if_neg h, firstErr_none hs, orE_zero, firstErr_none hl]
end P

/-! ### where they lie -/
structure WysAt (m : Nat) (w : World) (a : Option Addr) (L : List P.Wy) (cap : Nat) : Prop where
  le : L.length ≤ cap
  at_ : L ≠ [] → ∃ b off, a = some ⟨b, off, none⟩ ∧ b < m ∧ ∀ k (hk : k < L.length), w.cell? ⟨b, off + k * 3, none⟩ = some (.int .i64 L[k].f) ∧ w.cell? ⟨b, off + k * 3 + 1, none⟩ = some (.int .i64 L[k].t) ∧ w.cell? ⟨b, off + k * 3 + 1 + 1, none⟩ = some (.int .i64 L[k].c)
theorem WysAt.below {m : Nat} {w w' : World} {a : Option Addr} {L : List P.Wy} {cap : Nat} (h : WysAt m w a L cap) (hb : Below m w w') : WysAt m w' a L cap :=
  ⟨h.le, fun hn => let ⟨b, off, e, hbm, hc⟩ := h.at_ hn; ⟨b, off, e, hbm, fun k hk => ⟨(hb.cell (p := ⟨b, off + k * 3, none⟩) hbm).trans (hc k hk).1, (hb.cell (p := ⟨b, off + k * 3 + 1, none⟩) hbm).trans (hc k hk).2.1, (hb.cell (p := ⟨b, off + k * 3 + 1 + 1, none⟩) hbm).trans (hc k hk).2.2⟩⟩⟩
theorem WysAt.up {m n : Nat} {w : World} {a : Option Addr} {L : List P.Wy} {cap : Nat} (h : WysAt m w a L cap) (hn : m ≤ n) : WysAt n w a L cap :=
  ⟨h.le, fun he => let ⟨b, off, e, hbm, hc⟩ := h.at_ he; ⟨b, off, e, Nat.lt_of_lt_of_le hbm hn, hc⟩⟩
structure IntsAt (m : Nat) (w : World) (a : Option Addr) (L : List Int) (cap : Nat) : Prop where
  le : L.length ≤ cap
  at_ : L ≠ [] → ∃ b off, a = some ⟨b, off, none⟩ ∧ b < m ∧ ∀ k (hk : k < L.length), w.cell? ⟨b, off + k, none⟩ = some (.int .i64 L[k])
theorem IntsAt.below {m : Nat} {w w' : World} {a : Option Addr} {L : List Int} {cap : Nat} (h : IntsAt m w a L cap) (hb : Below m w w') : IntsAt m w' a L cap :=
  ⟨h.le, fun hn => let ⟨b, off, e, hbm, hc⟩ := h.at_ hn; ⟨b, off, e, hbm, fun k hk => (hb.cell (p := ⟨b, off + k, none⟩) hbm).trans (hc k hk)⟩⟩
theorem IntsAt.up {m n : Nat} {w : World} {a : Option Addr} {L : List Int} {cap : Nat} (h : IntsAt m w a L cap) (hn : m ≤ n) : IntsAt n w a L cap :=
  ⟨h.le, fun he => let ⟨b, off, e, hbm, hc⟩ := h.at_ he; ⟨b, off, e, Nat.lt_of_lt_of_le hbm hn, hc⟩⟩
theorem ne_nil_of_lt {α : Type} {L : List α} {k : Nat} (h : k < L.length) : L ≠ [] := fun e => by subst e; simp at h

theorem isCost_any (n : Int) (w : World) : Calls Try.prog 8 #[.int .i64 n] w fun e w' => e = .returned (.bool (P.costOk n)) ∧ w = w' := by
  by_cases h : 0 ≤ n
  · go_enter Try.func8, Try.ntmps8
    go_wp2
    go_ret
    exact ⟨by rw [P.costOk, decide_eq_true h]; rfl, rfl⟩
  · go_enter Try.func8, Try.ntmps8
    go_wp2
    go_ret
    exact ⟨by rw [P.costOk, dF (by omega)]; rfl, rfl⟩
theorem isPlace_any (n m : Int) (w : World) : Calls Try.prog 9 #[.int .i64 n, .int .i64 m] w fun e w' => e = .returned (.bool (P.placeOk n m)) ∧ w = w' := by
  by_cases h : 0 ≤ n
  · go_enter Try.func9, Try.ntmps9
    go_wp2
    go_ret
    exact ⟨by rw [P.placeOk, decide_eq_true h]; rfl, rfl⟩
  · go_enter Try.func9, Try.ntmps9
    go_wp2
    go_ret
    exact ⟨by rw [P.placeOk, dF (by omega)]; rfl, rfl⟩
end Go.Proofs.Ytopflnpkfgokoaa
