/- Walks: ReadVersion of package outref2 where there are three words. -/
import Derived.Test.YtffblkkhjphcfaaGreatDoorRefF
namespace Go.Proofs.YtffblkkhjphcfaaGreatDoor
open Go.RowKit Go.Shelf

set_option maxHeartbeats 4000000 in
theorem readVersion_first (s : ByteArray) (hs : s.size ≤ 4294967280) (w : World) (hw : Good w) (h : (P.hasTail s && (P.tailS s).toList.isEmpty) = false) (x y z : ByteArray) (h3 : P.splitS (P.headS s) 46 = [x, y, z]) (hx : P.numW x = false) :
    Calls Tryz.prog 26 #[.string s] w fun e w' => e = .returned (parseR (P.readV s)) ∧ Below w.heap.size w w' := by
  have hr : P.readV s = none := by rw [readV_go h, h3, words3_three, hx]; simp
  rw [hr]
  unfold parseR
  have HC := Lib.hid (fun W hW => cut_any s hs W hW)
  have hsz := P.headS_size s
  obtain ⟨zx, zy, zz⟩ := three_sizes h3
  have HN := Lib.hid (fun W hW => split_at (P.headS s) 46 (by omega) W hW)
  rw [h3] at HN
  have Nx := fun W => number_any x 9 (by decide) (by omega) W
  rw [show numM x 9 = P.numW x from rfl, hx] at Nx
  have HNx := Lib.hid Nx
  clear Nx hx
  clear h3 hsz hr
  generalize P.headS s = hd at *
  generalize P.tailS s = tl at *
  have Hw := Lib.hid hw
  clear hw
  cases ht : P.hasTail s <;> rw [ht] at HC h <;> simp only [Bool.true_and, Bool.false_and] at h <;> clear ht
  all_goals
    go_enter Tryz.func26, Tryz.ntmps26
    go_wp2_with fail
    refine (HC.out _ (Hw.out.mono (below_alloc _ _))).mono ?_
    rintro e w1 ⟨rfl, hb1⟩
    have R1 := (HasRow.new w _ _).below hb1
    have HB1 := Lib.hid (below_step (below_alloc _ _) hb1)
    clear hb1
    go_wp2_with fail
    refine (HN.out _ (Hw.out.mono HB1.out)).mono ?_
    rintro e w2 ⟨b, rfl, hb, hbs, hcap, hcell, hb2⟩
    have R2 := R1.below hb2
    obtain ⟨d0, d1, d2, d3, f0, f1, f2, f3, hlt⟩ := row4 R2
    have c0 : w2.cell? ⟨b, 0, none⟩ = some (.string x) := hcell 0 (by simp)
    have c1 : w2.cell? ⟨b, 1, none⟩ = some (.string y) := hcell 1 (by simp)
    have c2 : w2.cell? ⟨b, 2, none⟩ = some (.string z) := hcell 2 (by simp)
    have HB2 := Lib.hid (below_step HB1.out hb2)
    have HR2 := Lib.hid R2
    clear hb2 R1 R2 hcell hb
    go_wp2
    refine wp_loop_rounds 4 ?_
    rw [rounds_succ]
    go_wp2_with fail
    refine (HNx.out _).mono ?_
    rintro e u0 ⟨rfl, hb⟩
    have RR := (HR2.out.alloc _).below hb
    have RN := (HasRow.new w2 _ _).below hb
    have e0 := (hb.cell (p := ⟨b, 0, none⟩) (by simp; omega)).trans ((World.cell?_alloc_past _ _ _ hbs).trans c0)
    have e1 := (hb.cell (p := ⟨b, 1, none⟩) (by simp; omega)).trans ((World.cell?_alloc_past _ _ _ hbs).trans c1)
    have e2 := (hb.cell (p := ⟨b, 2, none⟩) (by simp; omega)).trans ((World.cell?_alloc_past _ _ _ hbs).trans c2)
    have HB3 := Lib.hid (below_step (below_step HB2.out (below_alloc _ _)) hb)
    have hbs3 : b < u0.heap.size := Nat.lt_of_lt_of_le hbs (by have := hb.size; simp at this; omega)
    have hw2 := Lib.hid (show w.heap.size ≤ w2.heap.size from HB2.out.size)
    have hne : Hid (w.heap.size ≠ w2.heap.size) := Lib.hid (by omega)
    have hne2 : Hid (b ≠ w2.heap.size) := Lib.hid (by omega)
    clear c0 c1 c2 hlt
    have q1 : ¬ w.heap.size = w2.heap.size := hne.out
    have q2 : ¬ w2.heap.size = w.heap.size := fun h => hne.out h.symm
    have q3 : ¬ b = w2.heap.size := hne2.out
    have q4 : ¬ w2.heap.size = b := fun h => hne2.out h.symm
    clear d0 d1 d2 d3 f0 f1 f2 f3
    try clear n0 n1 n2 g0 g1 g2
    obtain ⟨d0, d1, d2, d3, f0, f1, f2, f3, hlt⟩ := row4 RR
    obtain ⟨n0, n1, n2, g0, g1, g2, hln⟩ := row3 RN
    skip
    have HRR := Lib.hid RR
    have HRN := Lib.hid RN
    clear RR RN hb
    go_wp2
    refine bodyPost_ret (v := .tuple #[.agg #[.int .i64 0, .int .i64 0, .int .i64 0, .string ⟨#[]⟩], .int .i64 8]) ?_ rfl ⟨rfl, ?_⟩
    · clear HB2 HC Hw HN HB3
      simp [results, Tryz.results26, go_sem, d0, d1, d2, d3, q1, q2, hlt]
    · exact below_set4' HB3.out (Nat.le_refl _) _ _ _ _

set_option maxHeartbeats 4000000 in
theorem readVersion_second (s : ByteArray) (hs : s.size ≤ 4294967280) (w : World) (hw : Good w) (h : (P.hasTail s && (P.tailS s).toList.isEmpty) = false) (x y z : ByteArray) (h3 : P.splitS (P.headS s) 46 = [x, y, z]) (hx : P.numW x = true) (hy : P.numW y = false) :
    Calls Tryz.prog 26 #[.string s] w fun e w' => e = .returned (parseR (P.readV s)) ∧ Below w.heap.size w w' := by
  have hr : P.readV s = none := by rw [readV_go h, h3, words3_three, hx, hy]; simp
  rw [hr]
  unfold parseR
  have HC := Lib.hid (fun W hW => cut_any s hs W hW)
  have hsz := P.headS_size s
  obtain ⟨zx, zy, zz⟩ := three_sizes h3
  have HN := Lib.hid (fun W hW => split_at (P.headS s) 46 (by omega) W hW)
  rw [h3] at HN
  have Nx := fun W => number_any x 9 (by decide) (by omega) W
  rw [show numM x 9 = P.numW x from rfl, hx] at Nx
  have HNx := Lib.hid Nx
  clear Nx hx
  generalize P.atoiV x = vx at *
  have Ny := fun W => number_any y 9 (by decide) (by omega) W
  rw [show numM y 9 = P.numW y from rfl, hy] at Ny
  have HNy := Lib.hid Ny
  clear Ny hy
  clear h3 hsz hr
  generalize P.headS s = hd at *
  generalize P.tailS s = tl at *
  have Hw := Lib.hid hw
  clear hw
  cases ht : P.hasTail s <;> rw [ht] at HC h <;> simp only [Bool.true_and, Bool.false_and] at h <;> clear ht
  all_goals
    go_enter Tryz.func26, Tryz.ntmps26
    go_wp2_with fail
    refine (HC.out _ (Hw.out.mono (below_alloc _ _))).mono ?_
    rintro e w1 ⟨rfl, hb1⟩
    have R1 := (HasRow.new w _ _).below hb1
    have HB1 := Lib.hid (below_step (below_alloc _ _) hb1)
    clear hb1
    go_wp2_with fail
    refine (HN.out _ (Hw.out.mono HB1.out)).mono ?_
    rintro e w2 ⟨b, rfl, hb, hbs, hcap, hcell, hb2⟩
    have R2 := R1.below hb2
    obtain ⟨d0, d1, d2, d3, f0, f1, f2, f3, hlt⟩ := row4 R2
    have c0 : w2.cell? ⟨b, 0, none⟩ = some (.string x) := hcell 0 (by simp)
    have c1 : w2.cell? ⟨b, 1, none⟩ = some (.string y) := hcell 1 (by simp)
    have c2 : w2.cell? ⟨b, 2, none⟩ = some (.string z) := hcell 2 (by simp)
    have HB2 := Lib.hid (below_step HB1.out hb2)
    have HR2 := Lib.hid R2
    clear hb2 R1 R2 hcell hb
    go_wp2
    refine wp_loop_rounds 4 ?_
    rw [rounds_succ]
    go_wp2_with fail
    refine (HNx.out _).mono ?_
    rintro e u0 ⟨rfl, hb⟩
    have RR := (HR2.out.alloc _).below hb
    have RN := (HasRow.new w2 _ _).below hb
    have e0 := (hb.cell (p := ⟨b, 0, none⟩) (by simp; omega)).trans ((World.cell?_alloc_past _ _ _ hbs).trans c0)
    have e1 := (hb.cell (p := ⟨b, 1, none⟩) (by simp; omega)).trans ((World.cell?_alloc_past _ _ _ hbs).trans c1)
    have e2 := (hb.cell (p := ⟨b, 2, none⟩) (by simp; omega)).trans ((World.cell?_alloc_past _ _ _ hbs).trans c2)
    have HB3 := Lib.hid (below_step (below_step HB2.out (below_alloc _ _)) hb)
    have hbs3 : b < u0.heap.size := Nat.lt_of_lt_of_le hbs (by have := hb.size; simp at this; omega)
    have hw2 := Lib.hid (show w.heap.size ≤ w2.heap.size from HB2.out.size)
    have hne : Hid (w.heap.size ≠ w2.heap.size) := Lib.hid (by omega)
    have hne2 : Hid (b ≠ w2.heap.size) := Lib.hid (by omega)
    clear c0 c1 c2 hlt
    have q1 : ¬ w.heap.size = w2.heap.size := hne.out
    have q2 : ¬ w2.heap.size = w.heap.size := fun h => hne.out h.symm
    have q3 : ¬ b = w2.heap.size := hne2.out
    have q4 : ¬ w2.heap.size = b := fun h => hne2.out h.symm
    clear d0 d1 d2 d3 f0 f1 f2 f3
    try clear n0 n1 n2 g0 g1 g2
    obtain ⟨d0, d1, d2, d3, f0, f1, f2, f3, hlt⟩ := row4 RR
    obtain ⟨n0, n1, n2, g0, g1, g2, hln⟩ := row3 RN
    skip
    have HRR := Lib.hid RR
    have HRN := Lib.hid RN
    clear RR RN hb
    go_wp2
    rw [rounds_succ]
    go_wp2_with fail
    refine (HNy.out _).mono ?_
    rintro e u1 ⟨rfl, hb⟩
    have RR := (HRR.out.other 0 (.int .i64 vx) hne.out).below hb
    have RN := (HRN.out.set 0 (.int .i64 vx) (by simp)).below hb
    have e0' := (hb.cell (p := ⟨b, 0, none⟩) (by simpa [World.setCell] using hbs3)).trans ((setCell_far q4).trans e0)
    have e1' := (hb.cell (p := ⟨b, 1, none⟩) (by simpa [World.setCell] using hbs3)).trans ((setCell_far q4).trans e1)
    have e2' := (hb.cell (p := ⟨b, 2, none⟩) (by simpa [World.setCell] using hbs3)).trans ((setCell_far q4).trans e2)
    clear e0 e1 e2
    have e0 := e0'
    have e1 := e1'
    have e2 := e2'
    have HB3' := Lib.hid (below_step (HB3.out.setCell (p := ⟨w2.heap.size, 0, none⟩) hw2.out (.int .i64 vx)) hb)
    clear HB3
    have HB3 := HB3'
    have hbs3' : b < u1.heap.size := Nat.lt_of_lt_of_le hbs3 (by have := hb.size; simpa [World.setCell] using this)
    clear hbs3 HB3' e0' e1' e2'
    have hbs3 := hbs3'
    clear hbs3'
    simp at RN
    clear d0 d1 d2 d3 f0 f1 f2 f3
    try clear n0 n1 n2 g0 g1 g2
    obtain ⟨d0, d1, d2, d3, f0, f1, f2, f3, hlt⟩ := row4 RR
    obtain ⟨n0, n1, n2, g0, g1, g2, hln⟩ := row3 RN
    clear HRR HRN
    have HRR := Lib.hid RR
    have HRN := Lib.hid RN
    clear RR RN hb
    go_wp2
    refine bodyPost_ret (v := .tuple #[.agg #[.int .i64 0, .int .i64 0, .int .i64 0, .string ⟨#[]⟩], .int .i64 8]) ?_ rfl ⟨rfl, ?_⟩
    · clear HB2 HC Hw HN HB3
      simp [results, Tryz.results26, go_sem, d0, d1, d2, d3, q1, q2, hlt]
    · exact below_set4' HB3.out (Nat.le_refl _) _ _ _ _

set_option maxHeartbeats 4000000 in
theorem readVersion_third (s : ByteArray) (hs : s.size ≤ 4294967280) (w : World) (hw : Good w) (h : (P.hasTail s && (P.tailS s).toList.isEmpty) = false) (x y z : ByteArray) (h3 : P.splitS (P.headS s) 46 = [x, y, z]) (hx : P.numW x = true) (hy : P.numW y = true) (hz : P.numW z = false) :
    Calls Tryz.prog 26 #[.string s] w fun e w' => e = .returned (parseR (P.readV s)) ∧ Below w.heap.size w w' := by
  have hr : P.readV s = none := by rw [readV_go h, h3, words3_three, hx, hy, hz]; simp
  rw [hr]
  unfold parseR
  have HC := Lib.hid (fun W hW => cut_any s hs W hW)
  have hsz := P.headS_size s
  obtain ⟨zx, zy, zz⟩ := three_sizes h3
  have HN := Lib.hid (fun W hW => split_at (P.headS s) 46 (by omega) W hW)
  rw [h3] at HN
  have Nx := fun W => number_any x 9 (by decide) (by omega) W
  rw [show numM x 9 = P.numW x from rfl, hx] at Nx
  have HNx := Lib.hid Nx
  clear Nx hx
  generalize P.atoiV x = vx at *
  have Ny := fun W => number_any y 9 (by decide) (by omega) W
  rw [show numM y 9 = P.numW y from rfl, hy] at Ny
  have HNy := Lib.hid Ny
  clear Ny hy
  generalize P.atoiV y = vy at *
  have Nz := fun W => number_any z 9 (by decide) (by omega) W
  rw [show numM z 9 = P.numW z from rfl, hz] at Nz
  have HNz := Lib.hid Nz
  clear Nz hz
  clear h3 hsz hr
  generalize P.headS s = hd at *
  generalize P.tailS s = tl at *
  have Hw := Lib.hid hw
  clear hw
  cases ht : P.hasTail s <;> rw [ht] at HC h <;> simp only [Bool.true_and, Bool.false_and] at h <;> clear ht
  all_goals
    go_enter Tryz.func26, Tryz.ntmps26
    go_wp2_with fail
    refine (HC.out _ (Hw.out.mono (below_alloc _ _))).mono ?_
    rintro e w1 ⟨rfl, hb1⟩
    have R1 := (HasRow.new w _ _).below hb1
    have HB1 := Lib.hid (below_step (below_alloc _ _) hb1)
    clear hb1
    go_wp2_with fail
    refine (HN.out _ (Hw.out.mono HB1.out)).mono ?_
    rintro e w2 ⟨b, rfl, hb, hbs, hcap, hcell, hb2⟩
    have R2 := R1.below hb2
    obtain ⟨d0, d1, d2, d3, f0, f1, f2, f3, hlt⟩ := row4 R2
    have c0 : w2.cell? ⟨b, 0, none⟩ = some (.string x) := hcell 0 (by simp)
    have c1 : w2.cell? ⟨b, 1, none⟩ = some (.string y) := hcell 1 (by simp)
    have c2 : w2.cell? ⟨b, 2, none⟩ = some (.string z) := hcell 2 (by simp)
    have HB2 := Lib.hid (below_step HB1.out hb2)
    have HR2 := Lib.hid R2
    clear hb2 R1 R2 hcell hb
    go_wp2
    refine wp_loop_rounds 4 ?_
    rw [rounds_succ]
    go_wp2_with fail
    refine (HNx.out _).mono ?_
    rintro e u0 ⟨rfl, hb⟩
    have RR := (HR2.out.alloc _).below hb
    have RN := (HasRow.new w2 _ _).below hb
    have e0 := (hb.cell (p := ⟨b, 0, none⟩) (by simp; omega)).trans ((World.cell?_alloc_past _ _ _ hbs).trans c0)
    have e1 := (hb.cell (p := ⟨b, 1, none⟩) (by simp; omega)).trans ((World.cell?_alloc_past _ _ _ hbs).trans c1)
    have e2 := (hb.cell (p := ⟨b, 2, none⟩) (by simp; omega)).trans ((World.cell?_alloc_past _ _ _ hbs).trans c2)
    have HB3 := Lib.hid (below_step (below_step HB2.out (below_alloc _ _)) hb)
    have hbs3 : b < u0.heap.size := Nat.lt_of_lt_of_le hbs (by have := hb.size; simp at this; omega)
    have hw2 := Lib.hid (show w.heap.size ≤ w2.heap.size from HB2.out.size)
    have hne : Hid (w.heap.size ≠ w2.heap.size) := Lib.hid (by omega)
    have hne2 : Hid (b ≠ w2.heap.size) := Lib.hid (by omega)
    clear c0 c1 c2 hlt
    have q1 : ¬ w.heap.size = w2.heap.size := hne.out
    have q2 : ¬ w2.heap.size = w.heap.size := fun h => hne.out h.symm
    have q3 : ¬ b = w2.heap.size := hne2.out
    have q4 : ¬ w2.heap.size = b := fun h => hne2.out h.symm
    clear d0 d1 d2 d3 f0 f1 f2 f3
    try clear n0 n1 n2 g0 g1 g2
    obtain ⟨d0, d1, d2, d3, f0, f1, f2, f3, hlt⟩ := row4 RR
    obtain ⟨n0, n1, n2, g0, g1, g2, hln⟩ := row3 RN
    skip
    have HRR := Lib.hid RR
    have HRN := Lib.hid RN
    clear RR RN hb
    go_wp2
    rw [rounds_succ]
    go_wp2_with fail
    refine (HNy.out _).mono ?_
    rintro e u1 ⟨rfl, hb⟩
    have RR := (HRR.out.other 0 (.int .i64 vx) hne.out).below hb
    have RN := (HRN.out.set 0 (.int .i64 vx) (by simp)).below hb
    have e0' := (hb.cell (p := ⟨b, 0, none⟩) (by simpa [World.setCell] using hbs3)).trans ((setCell_far q4).trans e0)
    have e1' := (hb.cell (p := ⟨b, 1, none⟩) (by simpa [World.setCell] using hbs3)).trans ((setCell_far q4).trans e1)
    have e2' := (hb.cell (p := ⟨b, 2, none⟩) (by simpa [World.setCell] using hbs3)).trans ((setCell_far q4).trans e2)
    clear e0 e1 e2
    have e0 := e0'
    have e1 := e1'
    have e2 := e2'
    have HB3' := Lib.hid (below_step (HB3.out.setCell (p := ⟨w2.heap.size, 0, none⟩) hw2.out (.int .i64 vx)) hb)
    clear HB3
    have HB3 := HB3'
    have hbs3' : b < u1.heap.size := Nat.lt_of_lt_of_le hbs3 (by have := hb.size; simpa [World.setCell] using this)
    clear hbs3 HB3' e0' e1' e2'
    have hbs3 := hbs3'
    clear hbs3'
    simp at RN
    clear d0 d1 d2 d3 f0 f1 f2 f3
    try clear n0 n1 n2 g0 g1 g2
    obtain ⟨d0, d1, d2, d3, f0, f1, f2, f3, hlt⟩ := row4 RR
    obtain ⟨n0, n1, n2, g0, g1, g2, hln⟩ := row3 RN
    clear HRR HRN
    have HRR := Lib.hid RR
    have HRN := Lib.hid RN
    clear RR RN hb
    go_wp2
    rw [rounds_succ]
    go_wp2_with fail
    refine (HNz.out _).mono ?_
    rintro e u2 ⟨rfl, hb⟩
    have RR := (HRR.out.other 1 (.int .i64 vy) hne.out).below hb
    have RN := (HRN.out.set 1 (.int .i64 vy) (by simp)).below hb
    have e0' := (hb.cell (p := ⟨b, 0, none⟩) (by simpa [World.setCell] using hbs3)).trans ((setCell_far q4).trans e0)
    have e1' := (hb.cell (p := ⟨b, 1, none⟩) (by simpa [World.setCell] using hbs3)).trans ((setCell_far q4).trans e1)
    have e2' := (hb.cell (p := ⟨b, 2, none⟩) (by simpa [World.setCell] using hbs3)).trans ((setCell_far q4).trans e2)
    clear e0 e1 e2
    have e0 := e0'
    have e1 := e1'
    have e2 := e2'
    have HB3' := Lib.hid (below_step (HB3.out.setCell (p := ⟨w2.heap.size, 1, none⟩) hw2.out (.int .i64 vy)) hb)
    clear HB3
    have HB3 := HB3'
    have hbs3' : b < u2.heap.size := Nat.lt_of_lt_of_le hbs3 (by have := hb.size; simpa [World.setCell] using this)
    clear hbs3 HB3' e0' e1' e2'
    have hbs3 := hbs3'
    clear hbs3'
    simp at RN
    clear d0 d1 d2 d3 f0 f1 f2 f3
    try clear n0 n1 n2 g0 g1 g2
    obtain ⟨d0, d1, d2, d3, f0, f1, f2, f3, hlt⟩ := row4 RR
    obtain ⟨n0, n1, n2, g0, g1, g2, hln⟩ := row3 RN
    clear HRR HRN
    have HRR := Lib.hid RR
    have HRN := Lib.hid RN
    clear RR RN hb
    go_wp2
    refine bodyPost_ret (v := .tuple #[.agg #[.int .i64 0, .int .i64 0, .int .i64 0, .string ⟨#[]⟩], .int .i64 8]) ?_ rfl ⟨rfl, ?_⟩
    · clear HB2 HC Hw HN HB3
      simp [results, Tryz.results26, go_sem, d0, d1, d2, d3, q1, q2, hlt]
    · exact below_set4' HB3.out (Nat.le_refl _) _ _ _ _
end Go.Proofs.YtffblkkhjphcfaaGreatDoor
