/- Walks: package outref1: the errors of settings and services; the closure that looks at the order. -/
import Derived.Test.YtemnhihpoabefaaGreatDoorMRefF
namespace Go.Proofs.YtemnhihpoabefaaGreatDoor
open Go.RowKit Go.Shelf

set_option maxRecDepth 100000 in
set_option maxHeartbeats 8000000 in
theorem rsettingError_any (x : P.St) (hk : x.k.size ≤ 4294967280) (hv : x.v.size ≤ 4294967280) (w : World) (hw : Good w) :
    Calls Tryz.prog 63 #[.agg #[.string x.k, .string x.v]] w fun e w' => e = .returned (.int .i64 (P.setErr x)) ∧ Below w.heap.size w w' := by
  have H := fun W hW => rpath_any x.k hk W hW
  have H2 := fun W => rvalue_any x.v hv W
  have HY := Lib.hid rwhen_yes
  have HN := Lib.hid rwhen_no
  unfold P.setErr
  cases h1 : P.pathS x.k <;> rw [h1] at H <;> cases h2 : P.valueS x.v <;> rw [h2] at H2
  all_goals
    have HO := Lib.hid (fun a b nb W hn => rfirst2 a b nb W hn)
    replace H := Lib.hid H
    replace H2 := Lib.hid H2
    have Hw := Lib.hid hw
    clear hw h1 h2
    go_enter Tryz.func63, Tryz.ntmps63
    go_wp2_with fail
    go_region_held3 (fun W => W.cell? ⟨w.heap.size, 0, none⟩ = some (.string x.k) ∧ W.cell? ⟨w.heap.size, 1, none⟩ = some (.string x.v) ∧ Frm w W)
      (first | exact b2_start _ _ _ _ | with_reducible assumption | exact b2_step (by with_reducible assumption) (by with_reducible assumption) | exact b2_step (by with_reducible assumption) (below_alloc _ _))
      (first
        | (go_at_call 36; refine (H.out _ (Hw.out.mono (by with_reducible assumption : _ ∧ _ ∧ Frm w _).2.2.1)).mono ?_; rintro e w' ⟨rfl, hb1⟩)
        | (go_at_call 61; refine (H2.out _).mono ?_; rintro e w' ⟨rfl, rfl⟩)
        | (go_at_call_of 59 (Value.bool true); refine (HY.out _ _).mono ?_; rintro e w' ⟨rfl, rfl⟩)
        | (go_at_call_of 59 (Value.bool false); refine (HN.out _ _).mono ?_; rintro e w' ⟨rfl, rfl⟩)
        | (go_at_call 60; refine (HO.out _ _ _ _ (by simp)).mono ?_; rintro e w' ⟨rfl, rfl⟩))
    go_wp2
    go_ret
    exact ⟨by simp [P.orE], (by with_reducible assumption : _ ∧ _ ∧ Frm w _).2.2.1⟩

theorem rserviceError_any (x : P.Sv) (hk : x.n.size ≤ 4294967280) (hv : x.p.size ≤ 4294967280) (w : World) (hw : Good w) :
    Calls Tryz.prog 64 #[.agg #[.string x.n, .string x.p, .bool x.a, .bool x.o]] w fun e w' => e = .returned (.int .i64 (P.svcErr x)) ∧ Below w.heap.size w w' := by
  have H := fun W => rname_any x.n hk W
  have H2 := fun W hW => rpath_any x.p hv W hW
  have HY := Lib.hid rwhen_yes
  have HN := Lib.hid rwhen_no
  unfold P.svcErr
  cases h1 : P.nameS x.n <;> rw [h1] at H <;> cases h2 : P.pathS x.p <;> rw [h2] at H2
  all_goals
    replace H := Lib.hid H
    replace H2 := Lib.hid H2
    have Hw := Lib.hid hw
    have HA := Lib.hid (below_alloc w (.cells #[.string x.n, .string x.p, .bool x.a, .bool x.o] 46))
    clear hw h1 h2
    go_enter Tryz.func64, Tryz.ntmps64
    go_wp2_with (first
      | (go_at_call 35; refine (H.out _).mono ?_; rintro e w' ⟨rfl, rfl⟩)
      | (go_at_call 36; refine (H2.out _ (Hw.out.mono HA.out)).mono ?_; rintro e w1 ⟨rfl, hb⟩)
      | (go_at_call_of 59 (Value.bool true); refine (HY.out _ _).mono ?_; rintro e w' ⟨rfl, rfl⟩)
      | (go_at_call_of 59 (Value.bool false); refine (HN.out _ _).mono ?_; rintro e w' ⟨rfl, rfl⟩))
    go_ret
    exact ⟨rfl, by first | exact bstep HA.out hb | exact HA.out⟩

namespace P
def whenV (b : Bool) (x : Int) : Int := if b then x else 0
def behindV (k : Nat) (s t : ByteArray) : Int := if k = 0 then 0 else whenV (leS s t) 7
end P
theorem rwhenV (b : Bool) (x : Int) (w : World) : Calls Tryz.prog 59 #[.bool b, .int .i64 x] w fun e w' => e = .returned (.int .i64 (P.whenV b x)) ∧ w = w' := rwhen_any b x w
/-- only block B has turned, which holds s -/
structure Turn (B : Nat) (s : ByteArray) (W W' : World) : Prop where
  g : W.grownBy W' (some B)
  r : HasRow W' B #[.string s]
theorem Turn.set {B : Nat} {W : World} {t : ByteArray} (s : ByteArray) (h : HasRow W B #[.string t]) : Turn B s W (W.setCell ⟨B, 0, none⟩ (.string s)) := ⟨grown_set W B _, h.set 0 _ (by simp)⟩
/-- the box that the closure has captured: the key before -/
theorem behind_zero (s t : ByteArray) (B : Nat) (w : World) (hB : HasRow w B #[.string t]) :
    Calls Tryz.prog 58 #[.int .i64 0, .string s, .pointer (some ⟨B, 0, none⟩)] w fun e w' => e = .returned (.int .i64 0) ∧ w' = w.setCell ⟨B, 0, none⟩ (.string s) := by
  obtain ⟨c0, f0, hlt⟩ := hrow1 hB
  have HN := Lib.hid rwhen_no
  clear hB
  go_enter Tryz.func58, Tryz.ntmps58
  go_wp2_with (go_at_call 59; refine (HN.out _ _).mono ?_; rintro e w' ⟨rfl, rfl⟩)
  go_ret
  exact ⟨rfl, rfl⟩
theorem behind_pos (i : Int) (hi : 0 < i) (s t : ByteArray) (B : Nat) (w : World) (hB : HasRow w B #[.string t]) :
    Calls Tryz.prog 58 #[.int .i64 i, .string s, .pointer (some ⟨B, 0, none⟩)] w fun e w' => e = .returned (.int .i64 (P.whenV (P.leS s t) 7)) ∧ w' = w.setCell ⟨B, 0, none⟩ (.string s) := by
  obtain ⟨c0, f0, hlt⟩ := hrow1 hB
  have HW := Lib.hid rwhenV
  clear hB
  unfold P.leS
  go_enter Tryz.func58, Tryz.ntmps58
  go_wp2_with (go_at_call 59; refine (HW.out _ _ _).mono ?_; rintro e w' ⟨rfl, rfl⟩)
  go_ret
  exact ⟨rfl, rfl⟩
theorem behind_any (k : Nat) (s t : ByteArray) (B : Nat) (w : World) (hB : HasRow w B #[.string t]) :
    Calls Tryz.prog 58 #[.int .i64 (k : Int), .string s, .pointer (some ⟨B, 0, none⟩)] w fun e w' => e = .returned (.int .i64 (P.behindV k s t)) ∧ Turn B s w w' := by
  unfold P.behindV
  by_cases hk : k = 0
  · subst hk
    exact (behind_zero s t B w hB).mono fun e w' ⟨h1, h2⟩ => ⟨h1, by rw [h2]; exact Turn.set s hB⟩
  · rw [if_neg hk]
    exact (behind_pos k (by omega) s t B w hB).mono fun e w' ⟨h1, h2⟩ => ⟨h1, by rw [h2]; exact Turn.set s hB⟩
theorem rfirst3 (a b c r : Int) (hr : P.orE a (P.orE b c) = r) (nb : Nat) (W : World) (hn : nb = W.heap.size) :
    Calls Tryz.prog 60 #[.slice (some ⟨nb, 0, none⟩) 3 3] (W.alloc (.cells #[.int .i64 a, .int .i64 b, .int .i64 c] 29)) fun e w' => e = .returned (.int .i64 r) ∧ W.alloc (.cells #[.int .i64 a, .int .i64 b, .int .i64 c] 29) = w' := by
  subst hn
  have := rfirst_any W.heap.size [a, b, c] (by simp) (W.alloc (.cells #[.int .i64 a, .int .i64 b, .int .i64 c] 29)) (fun j hj => by
    rw [World.cell?_alloc_at _ _ _ _ rfl]
    match j, hj with
    | 0, _ => rfl
    | 1, _ => rfl
    | 2, _ => rfl)
  rw [show P.orL [a, b, c] = r by rw [← hr]; show P.orE a (P.orE b (P.orE c 0)) = _; rw [P.orE_right]] at this
  exact this
theorem rfirst2r (a b r : Int) (hr : P.orE a b = r) (nb : Nat) (W : World) (hn : nb = W.heap.size) :
    Calls Tryz.prog 60 #[.slice (some ⟨nb, 0, none⟩) 2 2] (W.alloc (.cells #[.int .i64 a, .int .i64 b] 29)) fun e w' => e = .returned (.int .i64 r) ∧ W.alloc (.cells #[.int .i64 a, .int .i64 b] 29) = w' := by
  rw [← hr]; exact rfirst2 a b nb W hn
end Go.Proofs.YtemnhihpoabefaaGreatDoor
