/- Walks: package outref1: the errors of single things. -/
import Derived.Test.YtemnhihpoabefaaGreatDoorMRefE
import Derived.Deep.RegionHeld3
namespace Go.Proofs.YtemnhihpoabefaaGreatDoor
open Go.RowKit Go.Shelf

namespace P
theorem orE_right (a : Int) : orE a 0 = a := by unfold orE; split <;> simp_all
end P
theorem rfirst2 (a b : Int) (nb : Nat) (W : World) (hn : nb = W.heap.size) :
    Calls Tryz.prog 60 #[.slice (some ⟨nb, 0, none⟩) 2 2] (W.alloc (.cells #[.int .i64 a, .int .i64 b] 29)) fun e w' => e = .returned (.int .i64 (P.orE a b)) ∧ W.alloc (.cells #[.int .i64 a, .int .i64 b] 29) = w' := by
  subst hn
  have := rfirst_any W.heap.size [a, b] (by simp) (W.alloc (.cells #[.int .i64 a, .int .i64 b] 29)) (fun j hj => by
    rw [World.cell?_alloc_at _ _ _ _ rfl]
    match j, hj with
    | 0, _ => rfl
    | 1, _ => rfl)
  rw [show P.orL [a, b] = P.orE a b by show P.orE a (P.orE b 0) = _; rw [P.orE_right]] at this
  exact this
theorem rwhen_yes (x : Int) (w : World) : Calls Tryz.prog 59 #[.bool true, .int .i64 x] w fun e w' => e = .returned (.int .i64 x) ∧ w = w' := rwhen_any true x w
theorem rwhen_no (x : Int) (w : World) : Calls Tryz.prog 59 #[.bool false, .int .i64 x] w fun e w' => e = .returned (.int .i64 0) ∧ w = w' := rwhen_any false x w

/-- What was there when the call began is there, and the box that it has laid. -/
def Frm (w W : World) : Prop := Below w.heap.size w W ∧ w.heap.size < W.heap.size
theorem Frm.step {w W W' : World} (h : Frm w W) (hb : Below W.heap.size W W') : Frm w W' := ⟨h.1.trans (hb.mono h.1.size), Nat.lt_of_lt_of_le h.2 hb.size⟩
theorem Frm.start (w : World) (o : Obj) : Frm w (w.alloc o).drew := ⟨((Below.refl _ _).alloc (Nat.le_refl _) o).drew, by simp⟩
theorem b3_start (w : World) (a b c : Value) (t : TypeId) :
    ((w.alloc (.cells #[a, b, c] t)).drew).cell? ⟨w.heap.size, 0, none⟩ = some a ∧ ((w.alloc (.cells #[a, b, c] t)).drew).cell? ⟨w.heap.size, 1, none⟩ = some b ∧ ((w.alloc (.cells #[a, b, c] t)).drew).cell? ⟨w.heap.size, 2, none⟩ = some c ∧ Frm w (w.alloc (.cells #[a, b, c] t)).drew :=
  ⟨(HasRow.new w #[a, b, c] t).cell 0, (HasRow.new w #[a, b, c] t).cell 1, (HasRow.new w #[a, b, c] t).cell 2, Frm.start _ _⟩
theorem b3_step {w W W' : World} {a b c : Value} (h : W.cell? ⟨w.heap.size, 0, none⟩ = some a ∧ W.cell? ⟨w.heap.size, 1, none⟩ = some b ∧ W.cell? ⟨w.heap.size, 2, none⟩ = some c ∧ Frm w W) (hb : Below W.heap.size W W') :
    W'.cell? ⟨w.heap.size, 0, none⟩ = some a ∧ W'.cell? ⟨w.heap.size, 1, none⟩ = some b ∧ W'.cell? ⟨w.heap.size, 2, none⟩ = some c ∧ Frm w W' := ⟨cell_keep hb h.1, cell_keep hb h.2.1, cell_keep hb h.2.2.1, h.2.2.2.step hb⟩
theorem b2_start (w : World) (a b : Value) (t : TypeId) :
    ((w.alloc (.cells #[a, b] t)).drew).cell? ⟨w.heap.size, 0, none⟩ = some a ∧ ((w.alloc (.cells #[a, b] t)).drew).cell? ⟨w.heap.size, 1, none⟩ = some b ∧ Frm w (w.alloc (.cells #[a, b] t)).drew :=
  ⟨(HasRow.new w #[a, b] t).cell 0, (HasRow.new w #[a, b] t).cell 1, Frm.start _ _⟩
theorem b2_step {w W W' : World} {a b : Value} (h : W.cell? ⟨w.heap.size, 0, none⟩ = some a ∧ W.cell? ⟨w.heap.size, 1, none⟩ = some b ∧ Frm w W) (hb : Below W.heap.size W W') :
    W'.cell? ⟨w.heap.size, 0, none⟩ = some a ∧ W'.cell? ⟨w.heap.size, 1, none⟩ = some b ∧ Frm w W' := ⟨cell_keep hb h.1, cell_keep hb h.2.1, h.2.2.step hb⟩

set_option maxRecDepth 100000 in
set_option maxHeartbeats 8000000 in
theorem rfileError_any (x : P.Fi) (hk : x.p.size ≤ 4294967280) (hv : x.d.size ≤ 4294967280) (w : World) (hw : Good w) :
    Calls Tryz.prog 62 #[.agg #[.string x.p, .string x.d, .bool x.r]] w fun e w' => e = .returned (.int .i64 (P.fileErr x)) ∧ Below w.heap.size w w' := by
  have H := fun W hW => rpath_any x.p hk W hW
  have HY := Lib.hid rwhen_yes
  have HN := Lib.hid rwhen_no
  unfold P.fileErr
  cases h1 : P.pathS x.p <;> rw [h1] at H <;> by_cases h2 : x.d.size ≤ 65536
  all_goals
    have HO := Lib.hid (fun a b nb W hn => rfirst2 a b nb W hn)
    replace H := Lib.hid H
    have HV := Lib.hid h2
    have Hw := Lib.hid hw
    clear hw h1
    first | (have h3 : decide ((65536 : Int) < (x.d.size : Int)) = false := decide_eq_false (by omega))
          | (have h3 : decide ((65536 : Int) < (x.d.size : Int)) = true := decide_eq_true (by omega))
    clear h2
    go_enter Tryz.func62, Tryz.ntmps62
    go_wp2_with fail
    go_region_held3 (fun W => W.cell? ⟨w.heap.size, 0, none⟩ = some (.string x.p) ∧ W.cell? ⟨w.heap.size, 1, none⟩ = some (.string x.d) ∧ W.cell? ⟨w.heap.size, 2, none⟩ = some (.bool x.r) ∧ Frm w W)
      (first | exact b3_start _ _ _ _ _ | with_reducible assumption | exact b3_step (by with_reducible assumption) (by with_reducible assumption) | exact b3_step (by with_reducible assumption) (below_alloc _ _))
      (first
        | (go_at_call 36; refine (H.out _ (Hw.out.mono (by with_reducible assumption : _ ∧ _ ∧ _ ∧ Frm w _).2.2.2.1)).mono ?_; rintro e w' ⟨rfl, hb1⟩)
        | (go_at_call_of 59 (Value.bool true); refine (HY.out _ _).mono ?_; rintro e w' ⟨rfl, rfl⟩)
        | (go_at_call_of 59 (Value.bool false); refine (HN.out _ _).mono ?_; rintro e w' ⟨rfl, rfl⟩)
        | (go_at_call 60; refine (HO.out _ _ _ _ (by simp)).mono ?_; rintro e w' ⟨rfl, rfl⟩))
    go_wp2
    go_ret
    exact ⟨by simp [HV.out, P.orE], (by with_reducible assumption : _ ∧ _ ∧ _ ∧ Frm w _).2.2.2.1⟩
end Go.Proofs.YtemnhihpoabefaaGreatDoor
