/- Walks: package outref1: Check: what its walk wants. -/
import Derived.Test.YtkibmoekadmjnaaGreatDoorZMRefE
import Derived.Test.YtkibmoekadmjnaaGreatDoorZMCheck

namespace Go.Proofs.YtkibmoekadmjnaaGreatDoor
open Go.RowKit Go.Shelf

namespace P
theorem behind_order {α : Type} (key : α → ByteArray) (L : List α) {k : Nat} (hk : k < L.length) {t : ByteArray} (ht : ∀ m (hm : m < L.length), k = m + 1 → t = key L[m]) : behindV k (key L[k]) t = orderE key L k := by
  cases k with
  | zero => rfl
  | succ m =>
    rw [orderE_succ key L hk, ht m (by omega) rfl]
    unfold behindV
    rw [if_neg (by omega)]
    rfl
theorem fact_parts (x : St) : factErr x = orE (whenV (!nameS x.k) 5) (whenV (!valueS x.v) 2) := by
  unfold factErr orE whenV; cases nameS x.k <;> cases valueS x.v <;> rfl
theorem step_fact (L : List St) {k : Nat} (hk : k < L.length) {t : ByteArray} (ht : ∀ m (hm : m < L.length), k = m + 1 → t = L[m].k) :
    orE (whenV (!nameS L[k].k) 5) (orE (whenV (!valueS L[k].v) 2) (behindV k L[k].k t)) = stepE factErr St.k noMore L k := by
  rw [stepE_at _ _ _ _ hk, behind_order St.k L hk ht, fact_parts, show noMore k = 0 from rfl, orE_right, orE_assoc]
theorem step_two {α : Type} (alone : α → Int) (key : α → ByteArray) (L : List α) {k : Nat} (hk : k < L.length) {t : ByteArray} (ht : ∀ m (hm : m < L.length), k = m + 1 → t = key L[m]) :
    orE (alone L[k]) (behindV k (key L[k]) t) = stepE alone key noMore L k := by
  rw [stepE_at _ _ _ _ hk, behind_order key L hk ht, show noMore k = 0 from rfl, orE_right]
theorem step_file (L : List Fi) {k : Nat} (hk : k < L.length) {t : ByteArray} (ht : ∀ m (hm : m < L.length), k = m + 1 → t = L[m].p) :
    stepE fileErr Fi.p (clash L) L k = orE (orE (fileErr L[k]) (behindV k L[k].p t)) (clash L k) := by
  rw [stepE_at _ _ _ _ hk, behind_order Fi.p L hk ht, orE_assoc]
theorem seen_succ' {L : List Fi} {k : Nat} (hk : k < L.length) (s : ByteArray) : (seen (L.take k) s || decide (s = L[k].p)) = seen (L.take (k + 1)) s := by
  unfold seen
  rw [List.take_succ_eq_append_getElem hk, List.any_append]
  simp only [List.any_cons, List.any_nil, Bool.or_false]
  congr 1
  exact decide_eq_decide.2 ⟨Eq.symm, Eq.symm⟩
/-- the error when k bytes of the path have been looked at -/
def dirK (p : ByteArray) (q : ByteArray → Bool) (k : Nat) : Int := if (dirsTo p k).any q then 11 else 0
theorem dirK_zero (p : ByteArray) (q : ByteArray → Bool) : dirK p q 0 = 0 := rfl
theorem dirK_end (L : List Fi) {k : Nat} (hk : k < L.length) : dirK L[k].p (seen (L.take k)) L[k].p.size = clash L k := (clash_at L hk).symm
theorem dirK_no {p : ByteArray} {q : ByteArray → Bool} {k : Nat} (h : p.data.toList[k]? ≠ some 47) : dirK p q (k + 1) = dirK p q k := by
  unfold dirK; rw [dirsTo, if_neg h, List.append_nil]
theorem dirK_miss {p : ByteArray} {q : ByteArray → Bool} {k : Nat} (h : q (p.extract 0 k) = false) : dirK p q (k + 1) = dirK p q k := by
  unfold dirK; rw [dirsTo]; split
  · rw [List.any_append]; simp [h]
  · simp
theorem dirK_hit {p : ByteArray} {q : ByteArray → Bool} {k : Nat} (h : p.data.toList[k]? = some 47) (hq : q (p.extract 0 k) = true) : dirK p q (k + 1) = 11 := by
  unfold dirK; rw [dirsTo, if_pos h, List.any_append]; simp [hq]
end P
theorem s3_start (w : World) (a b c : Value) (t : TypeId) : ((w.alloc (.cells #[a, b, c] t)).drew).cell? ⟨w.heap.size, 0, none⟩ = some a ∧ ((w.alloc (.cells #[a, b, c] t)).drew).cell? ⟨w.heap.size, 1, none⟩ = some b ∧ ((w.alloc (.cells #[a, b, c] t)).drew).cell? ⟨w.heap.size, 2, none⟩ = some c :=
  ⟨(HasRow.new w #[a, b, c] t).cell 0, (HasRow.new w #[a, b, c] t).cell 1, (HasRow.new w #[a, b, c] t).cell 2⟩
theorem s3_keep {nb : Nat} {W W' : World} {a b c : Value} (h : W.cell? ⟨nb, 0, none⟩ = some a ∧ W.cell? ⟨nb, 1, none⟩ = some b ∧ W.cell? ⟨nb, 2, none⟩ = some c) (hb : Below W.heap.size W W') : W'.cell? ⟨nb, 0, none⟩ = some a ∧ W'.cell? ⟨nb, 1, none⟩ = some b ∧ W'.cell? ⟨nb, 2, none⟩ = some c :=
  ⟨cell_keep hb h.1, cell_keep hb h.2.1, cell_keep hb h.2.2⟩
theorem s4_start (w : World) (a b c d : Value) (t : TypeId) : ((w.alloc (.cells #[a, b, c, d] t)).drew).cell? ⟨w.heap.size, 0, none⟩ = some a ∧ ((w.alloc (.cells #[a, b, c, d] t)).drew).cell? ⟨w.heap.size, 1, none⟩ = some b ∧ ((w.alloc (.cells #[a, b, c, d] t)).drew).cell? ⟨w.heap.size, 2, none⟩ = some c ∧ ((w.alloc (.cells #[a, b, c, d] t)).drew).cell? ⟨w.heap.size, 3, none⟩ = some d :=
  ⟨(HasRow.new w #[a, b, c, d] t).cell 0, (HasRow.new w #[a, b, c, d] t).cell 1, (HasRow.new w #[a, b, c, d] t).cell 2, (HasRow.new w #[a, b, c, d] t).cell 3⟩
theorem s4_keep {nb : Nat} {W W' : World} {a b c d : Value} (h : W.cell? ⟨nb, 0, none⟩ = some a ∧ W.cell? ⟨nb, 1, none⟩ = some b ∧ W.cell? ⟨nb, 2, none⟩ = some c ∧ W.cell? ⟨nb, 3, none⟩ = some d) (hb : Below W.heap.size W W') : W'.cell? ⟨nb, 0, none⟩ = some a ∧ W'.cell? ⟨nb, 1, none⟩ = some b ∧ W'.cell? ⟨nb, 2, none⟩ = some c ∧ W'.cell? ⟨nb, 3, none⟩ = some d :=
  ⟨cell_keep hb h.1, cell_keep hb h.2.1, cell_keep hb h.2.2.1, cell_keep hb h.2.2.2⟩
theorem cell_turn {B : Nat} {s : ByteArray} {W W' : World} {p : Addr} {v : Value} (hT : Turn B s W W') (h : W.cell? p = some v) (hne : p.block ≠ B) : W'.cell? p = some v := by
  have hlt : p.block < W.heap.size := by
    unfold World.cell? at h
    split at h
    · rename_i hh; exact (Array.getElem?_eq_some_iff.1 hh).1
    · cases h
  rw [World.cell?_of_block (w := W) (a := p) (hT.g.block _ hlt (fun e => hne (by injection e)))]; exact h
theorem Turn.below {B m : Nat} {s : ByteArray} {w W W' : World} (hT : Turn B s W W') (h : Below m w W) (hm : m ≤ W.heap.size) (hB : m ≤ B) : Below m w W' := h.grown hT.g hm (fun k e => by cases e; exact hB)
theorem Turn.row {B k : Nat} {s : ByteArray} {W W' : World} {vs : Array Value} (hT : Turn B s W W') (h : HasRow W k vs) (hne : k ≠ B) : HasRow W' k vs := h.grown hT.g (fun e => hne (by injection e))
theorem s2_start (w : World) (a b : Value) (t : TypeId) : ((w.alloc (.cells #[a, b] t)).drew).cell? ⟨w.heap.size, 0, none⟩ = some a ∧ ((w.alloc (.cells #[a, b] t)).drew).cell? ⟨w.heap.size, 1, none⟩ = some b :=
  ⟨(HasRow.new w #[a, b] t).cell 0, (HasRow.new w #[a, b] t).cell 1⟩
theorem s2_turn {B nb : Nat} {s : ByteArray} {W W' : World} {a b : Value} (hne : nb ≠ B) (h : W.cell? ⟨nb, 0, none⟩ = some a ∧ W.cell? ⟨nb, 1, none⟩ = some b) (hT : Turn B s W W') : W'.cell? ⟨nb, 0, none⟩ = some a ∧ W'.cell? ⟨nb, 1, none⟩ = some b :=
  ⟨cell_turn hT h.1 hne, cell_turn hT h.2 hne⟩
theorem s2_keep {nb : Nat} {W W' : World} {a b : Value} (h : W.cell? ⟨nb, 0, none⟩ = some a ∧ W.cell? ⟨nb, 1, none⟩ = some b) (hb : Below W.heap.size W W') : W'.cell? ⟨nb, 0, none⟩ = some a ∧ W'.cell? ⟨nb, 1, none⟩ = some b :=
  ⟨cell_keep hb h.1, cell_keep hb h.2⟩
theorem s3_turn {B nb : Nat} {s : ByteArray} {W W' : World} {a b c : Value} (hne : nb ≠ B) (h : W.cell? ⟨nb, 0, none⟩ = some a ∧ W.cell? ⟨nb, 1, none⟩ = some b ∧ W.cell? ⟨nb, 2, none⟩ = some c) (hT : Turn B s W W') : W'.cell? ⟨nb, 0, none⟩ = some a ∧ W'.cell? ⟨nb, 1, none⟩ = some b ∧ W'.cell? ⟨nb, 2, none⟩ = some c :=
  ⟨cell_turn hT h.1 hne, cell_turn hT h.2.1 hne, cell_turn hT h.2.2 hne⟩
theorem s4_turn {B nb : Nat} {s : ByteArray} {W W' : World} {a b c d : Value} (hne : nb ≠ B) (h : W.cell? ⟨nb, 0, none⟩ = some a ∧ W.cell? ⟨nb, 1, none⟩ = some b ∧ W.cell? ⟨nb, 2, none⟩ = some c ∧ W.cell? ⟨nb, 3, none⟩ = some d) (hT : Turn B s W W') : W'.cell? ⟨nb, 0, none⟩ = some a ∧ W'.cell? ⟨nb, 1, none⟩ = some b ∧ W'.cell? ⟨nb, 2, none⟩ = some c ∧ W'.cell? ⟨nb, 3, none⟩ = some d :=
  ⟨cell_turn hT h.1 hne, cell_turn hT h.2.1 hne, cell_turn hT h.2.2.1 hne, cell_turn hT h.2.2.2 hne⟩
theorem behind_at (k : Nat) (s t : ByteArray) (B : Nat) (o : Int) (ho : P.behindV k s t = o) (w : World) (hB : HasRow w B #[.string t]) :
    Calls Tryz.prog 80 #[.int .i64 (k : Int), .string s, .pointer (some ⟨B, 0, none⟩)] w fun e w' => e = .returned (.int .i64 o) ∧ Turn B s w w' := by
  rw [← ho]; exact behind_any k s t B w hB

set_option maxRecDepth 100000 in
set_option maxHeartbeats 8000000 in
theorem rcheck_large (A : Ad) (m : P.Mach) (h : 100 < m.facts.length ∨ 2000 < m.files.length ∨ 2000 < m.sets.length ∨ 100 < m.svcs.length) (w : World) :
    Calls Tryz.prog 13 #[machV A m] w fun e w' => e = .returned (.int .i64 4) ∧ Below w.heap.size w w' := by
  obtain ⟨a1, a2, a3, a4, c1, c2, c3, c4⟩ := A
  obtain ⟨F, I, S, V⟩ := m
  simp only at h
  unfold machV
  simp only
  have HB := Lib.hid (below_alloc w (.cells #[.slice a1 F.length c1, .slice a2 I.length c2, .slice a3 S.length c3, .slice a4 V.length c4] 26))
  have hN : ∀ {a b : Nat}, ¬ a < b → decide ((a : Int) < (b : Int)) = false := fun h => decide_eq_false (by omega)
  have hY : ∀ {a b : Nat}, a < b → ((a : Int) < (b : Int)) := fun h => by omega
  by_cases h1 : 100 < F.length
  · have g1 := hY h1
    clear hN hY h
    go_enter Tryz.func13, Tryz.ntmps13
    go_wp2_with fail
    go_ret
    exact ⟨rfl, HB.out⟩
  · have g1 := hN h1
    by_cases h2 : 2000 < I.length
    · have g2 := hY h2
      clear hN hY h
      go_enter Tryz.func13, Tryz.ntmps13
      go_wp2_with fail
      go_ret
      exact ⟨rfl, HB.out⟩
    · have g2 := hN h2
      by_cases h3 : 2000 < S.length
      · have g3 := hY h3
        clear hN hY h
        go_enter Tryz.func13, Tryz.ntmps13
        go_wp2_with fail
        go_ret
        exact ⟨rfl, HB.out⟩
      · have g3 := hN h3
        have g4 := hY (show 100 < V.length by omega)
        clear hN hY h
        go_enter Tryz.func13, Tryz.ntmps13
        go_wp2_with fail
        go_ret
        exact ⟨rfl, HB.out⟩
end Go.Proofs.YtkibmoekadmjnaaGreatDoor
