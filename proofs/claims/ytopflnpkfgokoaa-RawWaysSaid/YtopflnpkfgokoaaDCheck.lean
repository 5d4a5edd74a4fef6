/- Walks: delta.CheckWays. -/
import Derived.Test.YtopflnpkfgokoaaDWays
namespace Go.Proofs.Ytopflnpkfgokoaa
open Go.RowKit Go.Shelf

theorem checkWays_large (L : List P.Wy) (S : List Int) (a s : Option Addr) (c d : Nat) (h : 1000 < L.length ∨ 200 < S.length) (w : World) :
    Calls Try.prog 5 #[.slice a L.length c, .slice s S.length d] w fun e w' => e = .returned (.int .i64 (P.waysErr L S)) ∧ Below w.heap.size w w' := by
  have hr := Lib.hid (P.ways_large h)
  by_cases h1 : 1000 < L.length
  · have g1 : decide ((1000 : Int) < (L.length : Int)) = true := decide_eq_true (by omega)
    clear h h1
    go_enter Try.func5, Try.ntmps5
    go_wp2
    go_ret
    exact ⟨by rw [hr.out]; rfl, Below.refl _ _⟩
  · have g1 : decide ((1000 : Int) < (L.length : Int)) = false := decide_eq_false (by omega)
    have g2 : decide ((200 : Int) < (S.length : Int)) = true := decide_eq_true (by omega)
    clear h h1
    go_enter Try.func5, Try.ntmps5
    go_wp2
    go_ret
    exact ⟨by rw [hr.out]; rfl, Below.refl _ _⟩

set_option maxRecDepth 100000 in
set_option maxHeartbeats 400000 in
theorem checkWays_fits (L : List P.Wy) (S : List Int) (a s : Option Addr) (c d : Nat) (h1 : L.length ≤ 1000) (h2 : S.length ≤ 200) (w : World) (hL : WysAt w.heap.size w a L c) (hS : IntsAt w.heap.size w s S d) :
    Calls Try.prog 5 #[.slice a L.length c, .slice s S.length d] w fun e w' => e = .returned (.int .i64 (P.waysErr L S)) ∧ Below w.heap.size w w' := by
  have hn : ¬ (1000 < L.length ∨ 200 < S.length) := by omega
  have HR1 := Lib.hid (fun k (hk : k < S.length) h0 he => P.ways_size (L := L) hn (k := k) hk h0 he)
  have HR2 := Lib.hid (fun hs k (hk : k < L.length) h0 he => P.ways_way (S := S) hn hs (k := k) hk h0 he)
  have HR3 := Lib.hid (fun hs hl => P.ways_ok (L := L) (S := S) hn hs hl)
  generalize P.waysErr L S = res at *
  have g1 : decide ((1000 : Int) < (L.length : Int)) = false := decide_eq_false (by omega)
  have g2 : decide ((200 : Int) < (S.length : Int)) = false := decide_eq_false (by omega)
  have HL := Lib.hid hL
  have HS := Lib.hid hS
  have HC := Lib.hid isCost_any
  have HP := Lib.hid isPlace_any
  clear hL hS hn
  go_enter Try.func5, Try.ntmps5
  go_wp2_with fail
  go_loop [19] (fun i => ∃ k : Nat, k ≤ S.length ∧ i = .int .i64 k ∧ Aside (∀ j, j < k → P.cstAt S j = 0)) (fun i => S.length - (intOf i).toNat)
  case atStart => exact ⟨0, Nat.zero_le _, rfl, aside (fun j h => absurd h (by omega))⟩
  case round =>
    obtain ⟨k, hk, rfl, A⟩ := hrel
    by_cases hlt : k < S.length
    · obtain ⟨b, off, rfl, hbm, hc⟩ := HS.out.at_ (ne_nil_of_lt hlt)
      have c0 := hc k hlt
      have hcost := fun W => isCost_any S[k] W
      have hat := P.cst_at hlt
      by_cases hz : P.costOk S[k] = true
      · rw [hz] at hcost
        have HZ := Lib.hid (show ∀ j, j < k + 1 → P.cstAt S j = 0 from fun j hj => by
          by_cases e : j = k
          · subst e; rw [hat, P.cstErr, if_pos hz]
          · exact A.out j (by omega))
        replace hcost := Lib.hid hcost
        clear hz hat hc A
        go_wp2_with (go_at_call 8; refine (hcost.out _).mono ?_; rintro e w' ⟨rfl, rfl⟩)
        go_round
        case rel => exact ⟨k + 1, by omega, by go_num, aside HZ.out⟩
        case measure => simp [intOf]; omega
      · have hz' : P.costOk S[k] = false := by simpa using hz
        rw [hz'] at hcost
        have hr := Lib.hid (HR1.out k hlt A.out (by rw [P.cstErr, hz']; decide))
        replace hcost := Lib.hid hcost
        clear hz hz' hat hc A
        go_wp2_with (go_at_call 8; refine (hcost.out _).mono ?_; rintro e w' ⟨rfl, rfl⟩)
        go_ret
        exact ⟨by rw [hr.out]; rfl, Below.refl _ _⟩
    · have HA := Lib.hid (show ∀ j, j < S.length → P.cstAt S j = 0 from fun j hj => A.out j (by omega))
      clear A
      go_wp2_with fail
      go_loopw [29] (fun i wr => ∃ k : Nat, k ≤ L.length ∧ i = .int .i64 k ∧ Aside (∀ j, j < k → P.wyAt S.length L j = 0) ∧ Hid (Below w.heap.size w wr)) (fun i _ => L.length - (intOf i).toNat)
      case atStart => exact ⟨0, Nat.zero_le _, rfl, aside (fun j h => absurd h (by omega)), Lib.hid (Below.refl _ _)⟩
      case round =>
        obtain ⟨k, hk, rfl, A, HB⟩ := hrel
        by_cases hlt : k < L.length
        · obtain ⟨b, off, rfl, hbm, hc⟩ := (HL.out.below HB.out).at_ (ne_nil_of_lt hlt)
          obtain ⟨c0, c1, c2⟩ := hc k hlt
          have HZ := Lib.hid (show P.wyErr S.length L[k] = 0 → ∀ j, j < k + 1 → P.wyAt S.length L j = 0 from fun h j hj => by
            by_cases e : j = k
            · subst e; rw [P.wy_at hlt, h]
            · exact A.out j (by omega))
          have HE := Lib.hid (show P.wyErr S.length L[k] ≠ 0 → res = P.wyErr S.length L[k] from fun h => HR2.out HA.out k hlt A.out h)
          have HB2 := fun o => Lib.hid (bstep HB.out (below_alloc wr o))
          clear A hc
          generalize L[k] = x at *
          obtain ⟨f, t, cst⟩ := x
          simp only [P.wyErr] at HZ HE
          simp only at c0 c1 c2
          have p1 := fun W => isPlace_any f S.length W
          have p2 := fun W => isPlace_any t S.length W
          have p3 := fun W => isCost_any cst W
          cases q1 : P.placeOk f S.length <;> cases q2 : P.placeOk t S.length <;> cases q4 : (f == t) <;> cases q3 : P.costOk cst
          all_goals
            rw [q1] at p1
            rw [q2] at p2
            rw [q3] at p3
            simp only [q1, q2, q4, q3, Bool.not_true, Bool.not_false, Bool.or_true, Bool.or_false, Bool.or_self, Bool.true_or, Bool.false_or, if_true, if_false, Bool.false_eq_true, ne_eq, not_true_eq_false, not_false_eq_true, forall_const, true_implies, false_implies, reduceCtorEq, Nat.reduceEqDiff] at HZ HE
            replace p1 := Lib.hid p1
            replace p2 := Lib.hid p2
            replace p3 := Lib.hid p3
            clear q1 q2 q3
            go_wp2_with (first | (go_at_call_of 9 (Value.int .i64 f); refine (p1.out _).mono ?_; rintro e w' ⟨rfl, rfl⟩) | (go_at_call_of 9 (Value.int .i64 t); refine (p2.out _).mono ?_; rintro e w' ⟨rfl, rfl⟩) | (go_at_call 8; refine (p3.out _).mono ?_; rintro e w' ⟨rfl, rfl⟩))
          all_goals first
            | (go_ret; exact ⟨by rw [HE.out (by decide)]; rfl, (HB2 _).out⟩)
            | (go_roundw
               case rel => exact ⟨k + 1, by omega, by go_num, aside HZ.out, HB2 _⟩
               case measure => simp [intOf]; omega)
        · have hr := Lib.hid (HR3.out HA.out fun j hj => A.out j (by omega))
          have HB' := HB
          clear A
          go_wp2_with fail
          go_ret
          exact ⟨by rw [hr.out]; rfl, HB'.out⟩
theorem checkWays_any (L : List P.Wy) (S : List Int) (a s : Option Addr) (c d : Nat) (w : World) (hL : WysAt w.heap.size w a L c) (hS : IntsAt w.heap.size w s S d) :
    Calls Try.prog 5 #[.slice a L.length c, .slice s S.length d] w fun e w' => e = .returned (.int .i64 (P.waysErr L S)) ∧ Below w.heap.size w w' := by
  by_cases h : 1000 < L.length ∨ 200 < S.length
  · exact checkWays_large L S a s c d h w
  · exact checkWays_fits L S a s c d (by omega) (by omega) w hL hS
end Go.Proofs.Ytopflnpkfgokoaa
