/- Walks: outref1.WaysError. -/
import Derived.Test.YtopflnpkfgokoaaDCheck
import Derived.StillTail
import Derived.BigQuiet
namespace Go.Proofs.Ytopflnpkfgokoaa
open Go.RowKit Go.Shelf

namespace P
theorem orE3 (m : Int) (x : Wy) : orE (if !placeOk x.f m || !placeOk x.t m then 10 else 0) (orE (if x.f == x.t then 2 else 0) (if !costOk x.c then 3 else 0)) = wyErr m x := by
  unfold wyErr orE
  cases placeOk x.f m <;> cases placeOk x.t m <;> cases x.f == x.t <;> cases costOk x.c <;> rfl
end P

namespace P
def whenV (b : Bool) (x : Int) : Int := if b then x else 0
theorem orE3V (m : Int) (x : Wy) : orE (whenV (!placeOk x.f m || !placeOk x.t m) 10) (orE (whenV (x.f == x.t) 2) (whenV (!costOk x.c) 3)) = wyErr m x := orE3 m x
end P
theorem A_of1 {f t m : Int} (h : decide (f < 0) = true) : (!(decide (0 ≤ f) && decide (f < m)) || !(decide (0 ≤ t) && decide (t < m))) = true := by
  rw [dF (show f < 0 by simpa using h)]; rfl
theorem A_of2 {f t m : Int} (h : decide (f < 0) = false) (h2 : decide (m ≤ f) = true) : (!(decide (0 ≤ f) && decide (f < m)) || !(decide (0 ≤ t) && decide (t < m))) = true := by
  have e : decide (f < m) = false := decide_eq_false (by have := of_decide_eq_true h2; omega)
  rw [e, Bool.and_false]; rfl
theorem A_of3 {f t m : Int} (h : decide (f < 0) = false) (h2 : decide (m ≤ f) = false) (h3 : decide (t < 0) = true) : (!(decide (0 ≤ f) && decide (f < m)) || !(decide (0 ≤ t) && decide (t < m))) = true := by
  rw [dF (show t < 0 by simpa using h3)]; simp
theorem A_of4 {f t m : Int} (h : decide (f < 0) = false) (h2 : decide (m ≤ f) = false) (h3 : decide (t < 0) = false) : (!(decide (0 ≤ f) && decide (f < m)) || !(decide (0 ≤ t) && decide (t < m))) = decide (m ≤ t) := by
  have a1 := of_decide_eq_false h
  have a2 := of_decide_eq_false h2
  have a3 := of_decide_eq_false h3
  rw [decide_eq_true (show 0 ≤ f by omega), decide_eq_true (show f < m by omega), decide_eq_true (show 0 ≤ t by omega)]
  by_cases h4 : t < m
  · rw [decide_eq_true h4, decide_eq_false (show ¬ m ≤ t by omega)]; rfl
  · rw [decide_eq_false h4, decide_eq_true (show m ≤ t by omega)]; rfl
theorem C_of1 {c n : Int} (h : decide (c < 0) = true) : (!(decide (0 ≤ c) && decide (c ≤ n))) = true := by
  rw [dF (show c < 0 by simpa using h)]; rfl
theorem C_of2 {c n : Int} (h : decide (c < 0) = false) : (!(decide (0 ≤ c) && decide (c ≤ n))) = decide (n < c) := by
  have a1 := of_decide_eq_false h
  rw [decide_eq_true (show 0 ≤ c by omega)]
  by_cases h4 : c ≤ n
  · rw [decide_eq_true h4, decide_eq_false (show ¬ n < c by omega)]; rfl
  · rw [decide_eq_false h4, decide_eq_true (show n < c by omega)]; rfl
theorem rwhenV (b : Bool) (x : Int) (w : World) : Calls Try.prog 11 #[.bool b, .int .i64 x] w fun e w' => e = .returned (.int .i64 (P.whenV b x)) ∧ w' = w := (rwhen_any b x w).mono fun _ _ h => ⟨h.1, h.2.symm⟩

theorem rfirst3d (a b c r : Int) (hr : P.orE a (P.orE b c) = r) (t : TypeId) (nb : Nat) (W : World) (hn : nb = W.heap.size) :
    Calls Try.prog 10 #[.slice (some ⟨nb, 0, none⟩) 3 3] (W.alloc (.cells #[.int .i64 a, .int .i64 b, .int .i64 c] t)).drew fun e w' => e = .returned (.int .i64 r) ∧ (W.alloc (.cells #[.int .i64 a, .int .i64 b, .int .i64 c] t)).drew = w' := by
  subst hn
  have := rfirst_any W.heap.size [a, b, c] (by simp) (W.alloc (.cells #[.int .i64 a, .int .i64 b, .int .i64 c] t)).drew (fun j hj => by
    show (W.alloc (.cells #[.int .i64 a, .int .i64 b, .int .i64 c] t)).cell? _ = _
    rw [World.cell?_alloc_at _ _ _ _ rfl]
    match j, hj with
    | 0, _ => rfl
    | 1, _ => rfl
    | 2, _ => rfl)
  rw [show P.orL [a, b, c] = r by rw [← hr]; show P.orE a (P.orE b (P.orE c 0)) = _; rw [P.orE_right]] at this
  exact this
theorem still_of_quiet {P : Program} {ops : Array Oper} {W : World} {Q : Act → Prop} : ∀ {l : List Oper} {a : Act}, wpQuiet P ops (fun w' => w' = W) Q l a → wpStill P ops W Q l a
  | [], _, h => h
  | o :: l, a, h => by
    unfold wpQuiet at h
    unfold wpStill
    split at h
    · rename_i hw
      rw [if_pos hw]
      obtain ⟨v, h1, h2⟩ := h
      have h3 := h1 W rfl
      unfold Oper.still
      unfold Oper.quietAt at h3
      generalize (execOp a.eval o).run P W = r at *
      cases r with
      | ok n w' =>
        cases n with
        | value u =>
          obtain ⟨e1, e2⟩ := h3
          subst e1 e2
          exact ⟨rfl, still_of_quiet h2⟩
        | skip =>
          obtain ⟨e1, e2⟩ := h3
          subst e1 e2
          exact ⟨rfl, still_of_quiet h2⟩
        | enter f args =>
          obtain ⟨e1, e2⟩ := h3
          subst e1
          exact ⟨rfl, v, e2, still_of_quiet h2⟩
        | _ => exact h3.elim
      | _ => exact h3.elim
    · rename_i hw
      rw [if_neg hw]
      exact still_of_quiet h
theorem region_quiet_tail {P : Program} {id : Nat} {Q : Exit → Act → World → Prop} {a : Act} {w : World} {l : List Oper} (n : Nat) (hm : P.follows .mixedOrders = true) (hB : Region.lexTailB .any l.toArray n = true)
    (h : wpQuiet P l.toArray (fun w' => w' = w.drew) (fun a' => wpList P l.toArray Q (l.drop n) a' w.drew) (l.take n) a) : (Code.region id l.toArray true).wp P Q a w := wp_region_still_tail n hm hB (still_of_quiet h)
theorem waysError_large (L : List P.Wy) (S : List Int) (a s : Option Addr) (c d : Nat) (h : 1000 < L.length ∨ 200 < S.length) (w : World) :
    Calls Try.prog 6 #[.slice a L.length c, .slice s S.length d] w fun e w' => e = .returned (.int .i64 (P.waysErr L S)) ∧ Below w.heap.size w w' := by
  have hr := Lib.hid (P.ways_large h)
  by_cases h1 : 1000 < L.length
  · have g1 : decide ((1000 : Int) < (L.length : Int)) = true := decide_eq_true (by omega)
    clear h h1
    go_enter Try.func6, Try.ntmps6
    go_wp2
    go_ret
    exact ⟨by rw [hr.out]; rfl, Below.refl _ _⟩
  · have g1 : decide ((1000 : Int) < (L.length : Int)) = false := decide_eq_false (by omega)
    have g2 : decide ((200 : Int) < (S.length : Int)) = true := decide_eq_true (by omega)
    clear h h1
    go_enter Try.func6, Try.ntmps6
    go_wp2
    go_ret
    exact ⟨by rw [hr.out]; rfl, Below.refl _ _⟩

theorem b3_new (w : World) (a b c : Value) (t : TypeId) :
    ((w.alloc (.cells #[a, b, c] t)).drew).cell? ⟨w.heap.size, 0, none⟩ = some a ∧ ((w.alloc (.cells #[a, b, c] t)).drew).cell? ⟨w.heap.size, 1, none⟩ = some b ∧ ((w.alloc (.cells #[a, b, c] t)).drew).cell? ⟨w.heap.size, 2, none⟩ = some c :=
  ⟨(HasRow.new w #[a, b, c] t).cell 0, (HasRow.new w #[a, b, c] t).cell 1, (HasRow.new w #[a, b, c] t).cell 2⟩
theorem b3_keep {k : Nat} {W W' : World} {a b c : Value} (h : W.cell? ⟨k, 0, none⟩ = some a ∧ W.cell? ⟨k, 1, none⟩ = some b ∧ W.cell? ⟨k, 2, none⟩ = some c) (hb : Below W.heap.size W W') :
    W'.cell? ⟨k, 0, none⟩ = some a ∧ W'.cell? ⟨k, 1, none⟩ = some b ∧ W'.cell? ⟨k, 2, none⟩ = some c := ⟨cell_keep hb h.1, cell_keep hb h.2.1, cell_keep hb h.2.2⟩

set_option maxRecDepth 100000 in
set_option maxHeartbeats 1000000 in
theorem waysError_fits (L : List P.Wy) (S : List Int) (a s : Option Addr) (c d : Nat) (h1 : L.length ≤ 1000) (h2 : S.length ≤ 200) (w : World) (hL : WysAt w.heap.size w a L c) (hS : IntsAt w.heap.size w s S d) :
    Calls Try.prog 6 #[.slice a L.length c, .slice s S.length d] w fun e w' => e = .returned (.int .i64 (P.waysErr L S)) ∧ Below w.heap.size w w' := by
  have hn : ¬ (1000 < L.length ∨ 200 < S.length) := by omega
  have HR1 := Lib.hid (fun k (hk : k < S.length) h0 he => P.ways_size (L := L) hn (k := k) hk h0 he)
  have HR2 := Lib.hid (fun hs k (hk : k < L.length) h0 he => P.ways_way (S := S) hn hs (k := k) hk h0 he)
  have HR3 := Lib.hid (fun hs hl => P.ways_ok (L := L) (S := S) hn hs hl)
  generalize P.waysErr L S = res at *
  have g1 : decide ((1000 : Int) < (L.length : Int)) = false := decide_eq_false (by omega)
  have g2 : decide ((200 : Int) < (S.length : Int)) = false := decide_eq_false (by omega)
  have HL := Lib.hid hL
  have mixed : Try.prog.follows .mixedOrders = true := by kernel_rfl
  have HS := Lib.hid hS
  clear hL hS hn
  go_enter Try.func6, Try.ntmps6
  go_wp2_with fail
  go_loop [20] (fun i => ∃ k : Nat, k ≤ S.length ∧ i = .int .i64 k ∧ Aside (∀ j, j < k → P.cstAt S j = 0)) (fun i => S.length - (intOf i).toNat)
  case atStart => exact ⟨0, Nat.zero_le _, rfl, aside (fun j h => absurd h (by omega))⟩
  case round =>
    obtain ⟨k, hk, rfl, A⟩ := hrel
    by_cases hlt : k < S.length
    · obtain ⟨b, off, rfl, hbm, hc⟩ := HS.out.at_ (ne_nil_of_lt hlt)
      have c0 := hc k hlt
      have HZ := Lib.hid (show P.costOk S[k] = true → ∀ j, j < k + 1 → P.cstAt S j = 0 from fun hz j hj => by
        by_cases e : j = k
        · subst e; rw [P.cst_at hlt, P.cstErr, if_pos hz]
        · exact A.out j (by omega))
      have HE := Lib.hid (show P.costOk S[k] = false → res = 3 from fun hz => HR1.out k hlt A.out (by rw [P.cstErr, hz]; decide))
      clear hc A
      generalize S[k] = n at *
      unfold P.costOk at HZ HE
      by_cases q1 : n < 0
      · have hr := Lib.hid (HE.out (by rw [dF q1]; rfl))
        have q1' : decide (n < 0) = true := decide_eq_true q1
        clear q1 HE HZ
        go_wp2_with fail
        go_ret
        exact ⟨by rw [hr.out]; rfl, Below.refl _ _⟩
      · by_cases q2 : n ≤ 1000000000
        · replace HZ := Lib.hid (HZ.out (by rw [decide_eq_true (show 0 ≤ n by omega), decide_eq_true q2]; rfl))
          have q1' : decide (n < 0) = false := decide_eq_false q1
          have q2' : decide ((1000000000 : Int) < n) = false := decide_eq_false (by omega)
          clear q1 q2 HE
          go_wp2_with fail
          go_round
          case rel => exact ⟨k + 1, by omega, by go_num, aside HZ.out⟩
          case measure => simp [intOf]; omega
        · have hr := Lib.hid (HE.out (by rw [decide_eq_false q2, Bool.and_false]))
          have q1' : decide (n < 0) = false := decide_eq_false q1
          have q2' : decide ((1000000000 : Int) < n) = true := decide_eq_true (by omega)
          clear q1 q2 HE HZ
          go_wp2_with fail
          go_ret
          exact ⟨by rw [hr.out]; rfl, Below.refl _ _⟩
    · have HA := Lib.hid (show ∀ j, j < S.length → P.cstAt S j = 0 from fun j hj => A.out j (by omega))
      clear A
      go_wp2_with fail
      go_loopw [33] (fun i wr => ∃ k : Nat, k ≤ L.length ∧ i = .int .i64 k ∧ Aside (∀ j, j < k → P.wyAt S.length L j = 0) ∧ Hid (Below w.heap.size w wr)) (fun i _ => L.length - (intOf i).toNat)
      case atStart => exact ⟨0, Nat.zero_le _, rfl, aside (fun j h => absurd h (by omega)), Lib.hid (Below.refl _ _)⟩
      case round =>
        obtain ⟨k, hk, rfl, A, HB⟩ := hrel
        by_cases hlt : k < L.length
        · obtain ⟨b, off, rfl, hbm, hc⟩ := (HL.out.below HB.out).at_ (ne_nil_of_lt hlt)
          obtain ⟨c0, c1, c2⟩ := hc k hlt
          have HZ := Lib.hid (show P.wyErr S.length L[k] = 0 → ∀ j, j < k + 1 → P.wyAt S.length L j = 0 from fun h j hj => by
            by_cases e : j = k
            · subst e; rw [P.wy_at hlt, h]
            · exact A.out j (by omega))
          have HE := Lib.hid (show P.wyErr S.length L[k] ≠ 0 → res = P.wyErr S.length L[k] from fun h => HR2.out HA.out k hlt A.out h)
          have h3 := P.orE3V S.length L[k]
          generalize P.wyErr S.length L[k] = r at *
          clear A hc
          generalize L[k] = x at *
          obtain ⟨f, t, cst⟩ := x
          simp only at c0 c1 c2 h3
          unfold P.placeOk P.costOk at h3
          have HW := Lib.hid rwhenV
          have hF : (decide (f < 0) = true) ∨ (decide (f < 0) = false ∧ decide ((S.length : Int) ≤ f) = true) ∨ (decide (f < 0) = false ∧ decide ((S.length : Int) ≤ f) = false ∧ decide (t < 0) = true) ∨ (decide (f < 0) = false ∧ decide ((S.length : Int) ≤ f) = false ∧ decide (t < 0) = false) := by
            cases decide (f < 0) <;> cases decide ((S.length : Int) ≤ f) <;> cases decide (t < 0) <;> simp
          have hC : decide (cst < 0) = true ∨ decide (cst < 0) = false := by cases decide (cst < 0) <;> simp
          rcases hF with q1 | ⟨q1, q2⟩ | ⟨q1, q2, q3⟩ | ⟨q1, q2, q3⟩ <;> rcases hC with q4 | q4
          all_goals first | rw [A_of1 q1] at h3 | rw [A_of2 q1 q2] at h3 | rw [A_of3 q1 q2 q3] at h3 | rw [A_of4 q1 q2 q3] at h3
          all_goals first | rw [C_of1 q4] at h3 | rw [C_of2 q4] at h3
          all_goals
            have HO := Lib.hid (fun nb W hn => rfirst3d _ _ _ r h3 25 nb W hn)
            clear h3
            go_wp2_with fail
          all_goals focus
            refine region_quiet_tail 38 mixed (by kernel_rfl) ?_
            simp only [List.take_succ_cons, List.take_zero, List.drop_succ_cons, List.drop_zero]
            repeat (first
              | go_big_quiet_step (first | (go_at_call 11; exact HW.out _ _ _))
              | (refine wpQuiet_step (fun K hK => ?_); go_simp; refine ⟨_, HW.out _ _ _, hK _ ?_⟩; clear hK K))
            refine wpQuiet_nil ?_
            have HB3 := fun a b c => Lib.hid ((bstep (bstep HB.out (below_alloc wr (.cells #[.int .i64 f, .int .i64 t, .int .i64 cst] 31))) (below_alloc _ (.cells #[.int .i64 a, .int .i64 b, .int .i64 c] 25))).drew)
            by_cases hz : r = 0
            · subst hz
              replace HZ := Lib.hid (HZ.out rfl)
              clear HE
              go_wp2_with (go_at_call 10; refine (HO.out _ _ (by simp)).mono ?_; rintro e w' ⟨rfl, rfl⟩)
              go_roundw
              case rel => exact ⟨k + 1, by omega, by go_num, aside HZ.out, HB3 _ _ _⟩
              case measure => simp [intOf]; omega
            · replace HE := Lib.hid (HE.out hz)
              have g5 : (r != 0) = true := by simpa using hz
              clear HZ hz
              go_wp2_with (go_at_call 10; refine (HO.out _ _ (by simp)).mono ?_; rintro e w' ⟨rfl, rfl⟩)
              go_ret
              exact ⟨by rw [HE.out]; rfl, (HB3 _ _ _).out⟩
        · have hr := Lib.hid (HR3.out HA.out fun j hj => A.out j (by omega))
          have HB' := HB
          clear A
          go_wp2_with fail
          go_ret
          exact ⟨by rw [hr.out]; rfl, HB'.out⟩
theorem waysError_any (L : List P.Wy) (S : List Int) (a s : Option Addr) (c d : Nat) (w : World) (hL : WysAt w.heap.size w a L c) (hS : IntsAt w.heap.size w s S d) :
    Calls Try.prog 6 #[.slice a L.length c, .slice s S.length d] w fun e w' => e = .returned (.int .i64 (P.waysErr L S)) ∧ Below w.heap.size w w' := by
  by_cases h : 1000 < L.length ∨ 200 < S.length
  · exact waysError_large L S a s c d h w
  · exact waysError_fits L S a s c d (by omega) (by omega) w hL hS
end Go.Proofs.Ytopflnpkfgokoaa
