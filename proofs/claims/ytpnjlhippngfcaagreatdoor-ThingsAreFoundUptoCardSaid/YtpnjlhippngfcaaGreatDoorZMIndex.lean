/- Walks: outlaw1's ThingsAreFound: slices.IndexFunc and its functions. -/
import Derived.Test.YtpnjlhippngfcaaGreatDoorZMWRow
import Derived.Test.YtpnjlhippngfcaaGreatDoorZMEqual

namespace Go.Proofs.YtpnjlhippngfcaaGreatDoor
open Go.RowKit Go.Shelf

def Placed {α : Type} (key : α → ByteArray) (L : List α) (s : ByteArray) (w : World) (e : Ending) (w' : World) : Prop :=
  ∃ r : Int, e = .returned (.int .i64 r) ∧ P.idxK key L s r ∧ Below w.heap.size w w'

set_option maxHeartbeats 4000000 in
theorem indexS_any (L : List P.St) (a : Option Addr) (cap : Nat) (hl : L.length ≤ 4294967280) (hr : P.Rising P.St.k L) (s : ByteArray) (gc : Nat) (eg : ∀ args w, (callFunc gc args).run Tryz.prog w = .ok (.enter gc args) w) (c1 : Value) (w : World) (hm : StsAt w.heap.size w a L cap)
    (hC : ∀ k (hk : k < L.length) W', Below w.heap.size w W' → Calls Tryz.prog gc #[.agg #[.string L[k].k, .string L[k].v], c1] W' fun e w' => e = .returned (.bool (decide (L[k].k = s))) ∧ Below W'.heap.size W' w') :
    Calls Tryz.prog 28 #[.slice a L.length cap, .func (.func gc) #[] #[c1]] w (Placed P.St.k L s w) := by
  have HM := Lib.hid hm
  have HC := Lib.hid hC
  have HR := Lib.hid hr
  clear hm hC hr
  go_enter Tryz.func28, Tryz.ntmps28
  go_wp2_with fail
  go_loopw [8] (fun x wr => ∃ k : Nat, x = .int .i64 k ∧ k ≤ L.length ∧ Hid (Below w.heap.size w wr) ∧ Hid (∀ t (_ : t < L.length), t < k → L[t].k ≠ s)) (fun x _ => L.length - (intOf x).toNat)
  case atStart => exact ⟨0, rfl, Nat.zero_le _, Lib.hid (Below.refl _ _), Lib.hid (fun t _ h => absurd h (by omega))⟩
  case round =>
    obtain ⟨k, rfl, hk, HB, H1⟩ := hrel
    by_cases hlt : k < L.length
    · obtain ⟨b, off, rfl, hbm, hc⟩ := (HM.out.below HB.out).at_ (ne_nil_of_lt hlt)
      obtain ⟨d0, d1⟩ := hc _ hlt
      have HK := Lib.hid (fun W' hb => HC.out _ hlt W' hb)
      have HY := Lib.hid (fun h => P.idx_hit (s := s) HR.out hlt h)
      have HZ : Hid (L[k].k ≠ s → ∀ t (_ : t < L.length), t < k + 1 → L[t].k ≠ s) := Lib.hid (fun h t ht htk => by
        by_cases e : t = k
        · subst e; exact h
        · exact H1.out t ht (by omega))
      clear hc
      generalize L[k] = x at *
      by_cases hx : x.k = s
      · have HF := Lib.hid (HY.out hx)
        rw [decide_eq_true hx] at HK
        clear HY HZ hx
        go_wp2_with (refine (HK.out _ HB.out).mono ?_; rintro e w2 ⟨rfl, hb2⟩)
        go_ret
        exact ⟨_, rfl, HF.out, bstep HB.out hb2⟩
      · have HF := Lib.hid (HZ.out hx)
        rw [decide_eq_false hx] at HK
        clear HY HZ hx
        go_wp2_with (refine (HK.out _ HB.out).mono ?_; rintro e w2 ⟨rfl, hb2⟩)
        have HB2 := Lib.hid (bstep HB.out hb2)
        clear hb2
        go_roundw
        case rel => exact ⟨k + 1, by go_num, by omega, HB2, HF⟩
        case measure => simp [intOf]; omega
    · obtain rfl : k = L.length := by omega
      go_wp2_with fail
      go_ret
      exact ⟨_, rfl, P.idx_miss (fun t ht => H1.out t ht ht), HB.out⟩

set_option maxHeartbeats 4000000 in
theorem indexF_any (L : List P.Fi) (a : Option Addr) (cap : Nat) (hl : L.length ≤ 4294967280) (hr : P.Rising P.Fi.p L) (s : ByteArray) (gc : Nat) (eg : ∀ args w, (callFunc gc args).run Tryz.prog w = .ok (.enter gc args) w) (c1 : Value) (w : World) (hm : FisAt w.heap.size w a L cap)
    (hC : ∀ k (hk : k < L.length) W', Below w.heap.size w W' → Calls Tryz.prog gc #[.agg #[.string L[k].p, .string L[k].d, .bool L[k].r], c1] W' fun e w' => e = .returned (.bool (decide (L[k].p = s))) ∧ Below W'.heap.size W' w') :
    Calls Tryz.prog 30 #[.slice a L.length cap, .func (.func gc) #[] #[c1]] w (Placed P.Fi.p L s w) := by
  have HM := Lib.hid hm
  have HC := Lib.hid hC
  have HR := Lib.hid hr
  clear hm hC hr
  go_enter Tryz.func30, Tryz.ntmps30
  go_wp2_with fail
  go_loopw [8] (fun x wr => ∃ k : Nat, x = .int .i64 k ∧ k ≤ L.length ∧ Hid (Below w.heap.size w wr) ∧ Hid (∀ t (_ : t < L.length), t < k → L[t].p ≠ s)) (fun x _ => L.length - (intOf x).toNat)
  case atStart => exact ⟨0, rfl, Nat.zero_le _, Lib.hid (Below.refl _ _), Lib.hid (fun t _ h => absurd h (by omega))⟩
  case round =>
    obtain ⟨k, rfl, hk, HB, H1⟩ := hrel
    by_cases hlt : k < L.length
    · obtain ⟨b, off, rfl, hbm, hc⟩ := (HM.out.below HB.out).at_ (ne_nil_of_lt hlt)
      obtain ⟨d0, d1, d2⟩ := hc _ hlt
      have HK := Lib.hid (fun W' hb => HC.out _ hlt W' hb)
      have HY := Lib.hid (fun h => P.idx_hit (s := s) HR.out hlt h)
      have HZ : Hid (L[k].p ≠ s → ∀ t (_ : t < L.length), t < k + 1 → L[t].p ≠ s) := Lib.hid (fun h t ht htk => by
        by_cases e : t = k
        · subst e; exact h
        · exact H1.out t ht (by omega))
      clear hc
      generalize L[k] = x at *
      by_cases hx : x.p = s
      · have HF := Lib.hid (HY.out hx)
        rw [decide_eq_true hx] at HK
        clear HY HZ hx
        go_wp2_with (refine (HK.out _ HB.out).mono ?_; rintro e w2 ⟨rfl, hb2⟩)
        go_ret
        exact ⟨_, rfl, HF.out, bstep HB.out hb2⟩
      · have HF := Lib.hid (HZ.out hx)
        rw [decide_eq_false hx] at HK
        clear HY HZ hx
        go_wp2_with (refine (HK.out _ HB.out).mono ?_; rintro e w2 ⟨rfl, hb2⟩)
        have HB2 := Lib.hid (bstep HB.out hb2)
        clear hb2
        go_roundw
        case rel => exact ⟨k + 1, by go_num, by omega, HB2, HF⟩
        case measure => simp [intOf]; omega
    · obtain rfl : k = L.length := by omega
      go_wp2_with fail
      go_ret
      exact ⟨_, rfl, P.idx_miss (fun t ht => H1.out t ht ht), HB.out⟩

set_option maxHeartbeats 4000000 in
theorem indexV_any (L : List P.Sv) (a : Option Addr) (cap : Nat) (hl : L.length ≤ 4294967280) (hr : P.Rising P.Sv.n L) (s : ByteArray) (gc : Nat) (eg : ∀ args w, (callFunc gc args).run Tryz.prog w = .ok (.enter gc args) w) (c1 : Value) (w : World) (hm : SvsAt w.heap.size w a L cap)
    (hC : ∀ k (hk : k < L.length) W', Below w.heap.size w W' → Calls Tryz.prog gc #[.agg #[.string L[k].n, .string L[k].p, .bool L[k].a, .bool L[k].o], c1] W' fun e w' => e = .returned (.bool (decide (L[k].n = s))) ∧ Below W'.heap.size W' w') :
    Calls Tryz.prog 33 #[.slice a L.length cap, .func (.func gc) #[] #[c1]] w (Placed P.Sv.n L s w) := by
  have HM := Lib.hid hm
  have HC := Lib.hid hC
  have HR := Lib.hid hr
  clear hm hC hr
  go_enter Tryz.func33, Tryz.ntmps33
  go_wp2_with fail
  go_loopw [8] (fun x wr => ∃ k : Nat, x = .int .i64 k ∧ k ≤ L.length ∧ Hid (Below w.heap.size w wr) ∧ Hid (∀ t (_ : t < L.length), t < k → L[t].n ≠ s)) (fun x _ => L.length - (intOf x).toNat)
  case atStart => exact ⟨0, rfl, Nat.zero_le _, Lib.hid (Below.refl _ _), Lib.hid (fun t _ h => absurd h (by omega))⟩
  case round =>
    obtain ⟨k, rfl, hk, HB, H1⟩ := hrel
    by_cases hlt : k < L.length
    · obtain ⟨b, off, rfl, hbm, hc⟩ := (HM.out.below HB.out).at_ (ne_nil_of_lt hlt)
      obtain ⟨d0, d1, d2, d3⟩ := hc _ hlt
      have HK := Lib.hid (fun W' hb => HC.out _ hlt W' hb)
      have HY := Lib.hid (fun h => P.idx_hit (s := s) HR.out hlt h)
      have HZ : Hid (L[k].n ≠ s → ∀ t (_ : t < L.length), t < k + 1 → L[t].n ≠ s) := Lib.hid (fun h t ht htk => by
        by_cases e : t = k
        · subst e; exact h
        · exact H1.out t ht (by omega))
      clear hc
      generalize L[k] = x at *
      by_cases hx : x.n = s
      · have HF := Lib.hid (HY.out hx)
        rw [decide_eq_true hx] at HK
        clear HY HZ hx
        go_wp2_with (refine (HK.out _ HB.out).mono ?_; rintro e w2 ⟨rfl, hb2⟩)
        go_ret
        exact ⟨_, rfl, HF.out, bstep HB.out hb2⟩
      · have HF := Lib.hid (HZ.out hx)
        rw [decide_eq_false hx] at HK
        clear HY HZ hx
        go_wp2_with (refine (HK.out _ HB.out).mono ?_; rintro e w2 ⟨rfl, hb2⟩)
        have HB2 := Lib.hid (bstep HB.out hb2)
        clear hb2
        go_roundw
        case rel => exact ⟨k + 1, by go_num, by omega, HB2, HF⟩
        case measure => simp [intOf]; omega
    · obtain rfl : k = L.length := by omega
      go_wp2_with fail
      go_ret
      exact ⟨_, rfl, P.idx_miss (fun t ht => H1.out t ht ht), HB.out⟩

set_option maxHeartbeats 1000000 in
theorem pick2_any (x : P.St) (s : ByteArray) (Bn : Nat) (w : World) (hN : w.cell? ⟨Bn, 0, none⟩ = some (.string s)) :
    Calls Tryz.prog 29 #[.agg #[.string x.k, .string x.v], .pointer (some ⟨Bn, 0, none⟩)] w fun e w' => e = .returned (.bool (decide (x.k = s))) ∧ Below w.heap.size w w' := by
  have hN2 := cell_keep (below_alloc w (.cells #[.string x.k, .string x.v] 62)) hN
  clear hN
  by_cases hx : x.k = s
  · rw [decide_eq_true hx]
    subst hx
    go_enter Tryz.func29, Tryz.ntmps29
    go_wp2_with fail
    go_ret
    exact ⟨by simp, below_alloc _ _⟩
  · rw [decide_eq_false hx]
    have hne : (x.k.toList == s.toList) = false := by
      rw [beq_eq_false_iff_ne]; exact fun h => hx (toList_inj h)
    go_enter Tryz.func29, Tryz.ntmps29
    go_wp2_with fail
    go_ret
    exact ⟨by simp [], below_alloc _ _⟩

set_option maxHeartbeats 1000000 in
theorem pick3_any (x : P.Fi) (s : ByteArray) (Bn : Nat) (w : World) (hN : w.cell? ⟨Bn, 0, none⟩ = some (.string s)) :
    Calls Tryz.prog 31 #[.agg #[.string x.p, .string x.d, .bool x.r], .pointer (some ⟨Bn, 0, none⟩)] w fun e w' => e = .returned (.bool (decide (x.p = s))) ∧ Below w.heap.size w w' := by
  have hN2 := cell_keep (below_alloc w (.cells #[.string x.p, .string x.d, .bool x.r] 42)) hN
  clear hN
  by_cases hx : x.p = s
  · rw [decide_eq_true hx]
    subst hx
    go_enter Tryz.func31, Tryz.ntmps31
    go_wp2_with fail
    go_ret
    exact ⟨by simp, below_alloc _ _⟩
  · rw [decide_eq_false hx]
    have hne : (x.p.toList == s.toList) = false := by
      rw [beq_eq_false_iff_ne]; exact fun h => hx (toList_inj h)
    go_enter Tryz.func31, Tryz.ntmps31
    go_wp2_with fail
    go_ret
    exact ⟨by simp [], below_alloc _ _⟩

set_option maxHeartbeats 1000000 in
theorem pick4_any (x : P.St) (s : ByteArray) (Bn : Nat) (w : World) (hN : w.cell? ⟨Bn, 0, none⟩ = some (.string s)) :
    Calls Tryz.prog 32 #[.agg #[.string x.k, .string x.v], .pointer (some ⟨Bn, 0, none⟩)] w fun e w' => e = .returned (.bool (decide (x.k = s))) ∧ Below w.heap.size w w' := by
  have hN2 := cell_keep (below_alloc w (.cells #[.string x.k, .string x.v] 62)) hN
  clear hN
  by_cases hx : x.k = s
  · rw [decide_eq_true hx]
    subst hx
    go_enter Tryz.func32, Tryz.ntmps32
    go_wp2_with fail
    go_ret
    exact ⟨by simp, below_alloc _ _⟩
  · rw [decide_eq_false hx]
    have hne : (x.k.toList == s.toList) = false := by
      rw [beq_eq_false_iff_ne]; exact fun h => hx (toList_inj h)
    go_enter Tryz.func32, Tryz.ntmps32
    go_wp2_with fail
    go_ret
    exact ⟨by simp [], below_alloc _ _⟩

set_option maxHeartbeats 1000000 in
theorem pick5_any (x : P.Sv) (s : ByteArray) (Bn : Nat) (w : World) (hN : w.cell? ⟨Bn, 0, none⟩ = some (.string s)) :
    Calls Tryz.prog 34 #[.agg #[.string x.n, .string x.p, .bool x.a, .bool x.o], .pointer (some ⟨Bn, 0, none⟩)] w fun e w' => e = .returned (.bool (decide (x.n = s))) ∧ Below w.heap.size w w' := by
  have hN2 := cell_keep (below_alloc w (.cells #[.string x.n, .string x.p, .bool x.a, .bool x.o] 46)) hN
  clear hN
  by_cases hx : x.n = s
  · rw [decide_eq_true hx]
    subst hx
    go_enter Tryz.func34, Tryz.ntmps34
    go_wp2_with fail
    go_ret
    exact ⟨by simp, below_alloc _ _⟩
  · rw [decide_eq_false hx]
    have hne : (x.n.toList == s.toList) = false := by
      rw [beq_eq_false_iff_ne]; exact fun h => hx (toList_inj h)
    go_enter Tryz.func34, Tryz.ntmps34
    go_wp2_with fail
    go_ret
    exact ⟨by simp [], below_alloc _ _⟩
end Go.Proofs.YtpnjlhippngfcaaGreatDoor
