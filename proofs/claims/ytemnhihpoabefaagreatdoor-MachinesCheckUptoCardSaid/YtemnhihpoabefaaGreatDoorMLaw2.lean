/- Walks: the law MachinesCheck where the first machine is right. -/
import Derived.Test.YtemnhihpoabefaaGreatDoorMLaw1
import Derived.Deep.RegionHeld3
namespace Go.Proofs.YtemnhihpoabefaaGreatDoor
open Go.RowKit Go.Shelf

/-- what a call owes from w on: it answers x -/
def Says (f : Nat) (args : Array Value) (x : Value) (w : World) : Prop := ∀ W, Below w.heap.size w W → Calls Tryz.prog f args W fun e w' => e = .returned x ∧ Below W.heap.size W w'

set_option maxRecDepth 100000 in
set_option maxHeartbeats 4000000 in
theorem law_good (s1 s2 s3 s4 t1 t2 t3 t4 : Value) (n : ByteArray) (l : Value) (f : Int) (w : World)
    (hE : Says 10 #[.agg #[s1, s2, s3, s4]] (.int .i64 0) w) (hF : Says 10 #[.agg #[t1, t2, t3, t4]] (.int .i64 f) w)
    (hC : Says 11 #[.agg #[s1, s2, s3, s4]] (.int .i64 0) w)
    (hD : ∀ W, Below w.heap.size w W → Calls Tryz.prog 12 #[.agg #[s1, s2, s3, s4], .agg #[t1, t2, t3, t4]] W fun e w' => ∃ p n c x, e = .returned (.tuple #[.slice p n c, .int .i64 x]) ∧ (f ≠ 0 → n = 0 ∧ x = f) ∧ Below W.heap.size W w') :
    Calls Tryz.prog 3 #[.agg #[s1, s2, s3, s4], .agg #[t1, t2, t3, t4], .string n, l] w fun e w' => e = .returned (.bool true) ∧ Below w.heap.size w w' := by
  have HL := Lib.hid landed_any
  have HE := Lib.hid hE
  have HF := Lib.hid hF
  have HC := Lib.hid hC
  have HD := Lib.hid hD
  clear hE hF hC hD
  have HA0 := Lib.hid ((HasRow.new w #[s1, s2, s3, s4] 26).alloc (.cells #[t1, t2, t3, t4] 26))
  have HB0 := Lib.hid (HasRow.new (w.alloc (.cells #[s1, s2, s3, s4] 26)) #[t1, t2, t3, t4] 26)
  have HX0 := Lib.hid (below2 w (.cells #[s1, s2, s3, s4] 26) (.cells #[t1, t2, t3, t4] 26))
  go_enter Tryz.func3, Tryz.ntmps3
  go_wp2_with fail
  refine (HL.out _).mono ?_
  rintro x w0 ⟨rfl, hw0⟩
  rw [hw0] at HA0 HB0 HX0
  rw [World.size_alloc] at HB0
  have hS := k9_start HA0.out HB0.out HX0.out
  clear hw0
  go_wp2_with fail
  go_region_held3 (fun W => W.cell? ⟨w.heap.size, 0, none⟩ = some s1 ∧ W.cell? ⟨w.heap.size, 1, none⟩ = some s2 ∧ W.cell? ⟨w.heap.size, 2, none⟩ = some s3 ∧ W.cell? ⟨w.heap.size, 3, none⟩ = some s4 ∧ W.cell? ⟨w.heap.size + 1, 0, none⟩ = some t1 ∧ W.cell? ⟨w.heap.size + 1, 1, none⟩ = some t2 ∧ W.cell? ⟨w.heap.size + 1, 2, none⟩ = some t3 ∧ W.cell? ⟨w.heap.size + 1, 3, none⟩ = some t4 ∧ Below w.heap.size w W)
    (first | with_reducible assumption)
    (first
      | (go_at_call 10; refine (HF.out _ hB4).mono ?_; rintro x w5 ⟨rfl, hb2⟩; have hS5 := k9_keep hS4 hb2)
      | (go_at_call 10; refine (HE.out _ HX0.out.drew).mono ?_; rintro x w4 ⟨rfl, hb1⟩; have hS4 := k9_keep hS hb1; have hB4 := bstep HX0.out.drew hb1))
  obtain ⟨r1, r2, r3, r4, q1, q2, q3, q4, hB5⟩ := hS5
  have HB5 := Lib.hid hB5
  clear hS hS4 hB4 hb1 hb2 hB5 HA0 HB0 HX0
  go_wp2_with fail
  refine (HC.out _ HB5.out).mono ?_
  rintro x w6 ⟨rfl, hb⟩
  replace r1 := cell_keep hb r1
  replace r2 := cell_keep hb r2
  replace r3 := cell_keep hb r3
  replace r4 := cell_keep hb r4
  replace q1 := cell_keep hb q1
  replace q2 := cell_keep hb q2
  replace q3 := cell_keep hb q3
  replace q4 := cell_keep hb q4
  have HB6 := Lib.hid (bstep HB5.out hb)
  clear hb HB5
  go_wp2_with fail
  refine (HD.out _ HB6.out).mono ?_
  rintro x w7 ⟨p, k, c, y, rfl, hy, hb⟩
  have HB7 := Lib.hid (bstep HB6.out hb)
  have HY := Lib.hid hy
  clear hb HB6 hy r1 r2 r3 r4 q1 q2 q3 q4
  by_cases hf : f = 0
  · subst hf
    go_wp2_with fail
    go_ret
    exact ⟨rfl, HB7.out⟩
  · obtain ⟨rfl, rfl⟩ := HY.out hf
    have g : (y == 0) = false := by simpa using hf
    clear HY
    go_wp2_with fail
    go_ret
    exact ⟨rfl, HB7.out⟩
end Go.Proofs.YtemnhihpoabefaaGreatDoor
