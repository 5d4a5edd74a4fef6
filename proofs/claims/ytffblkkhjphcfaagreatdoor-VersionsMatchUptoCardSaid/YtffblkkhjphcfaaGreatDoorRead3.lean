/- Walks: read of package ver where there are three words. -/
import Derived.Test.YtffblkkhjphcfaaGreatDoorRead2
namespace Go.Proofs.YtffblkkhjphcfaaGreatDoor
open Go.RowKit Go.Shelf

theorem setCell_far {W : World} {k k' i j : Nat} {v : Value} (h : ¬ k' = k) : (W.setCell ⟨k', j, none⟩ v).cell? ⟨k, i, none⟩ = W.cell? ⟨k, i, none⟩ :=
  World.cell?_setCell_other (h := fun (h' : (⟨k', j, none⟩ : Addr) = ⟨k, i, none⟩) => h (by injection h')) ..

theorem words3_three (x y z : ByteArray) : P.words3 [x, y, z] = if P.numW x && P.numW y && P.numW z then some (P.atoiV x, P.atoiV y, P.atoiV z) else none := rfl
theorem three_sizes {s : ByteArray} {x y z : ByteArray} (h3 : P.splitS (P.headS s) 46 = [x, y, z]) : x.size ≤ s.size ∧ y.size ≤ s.size ∧ z.size ≤ s.size := by
  have hsz := P.headS_size s
  have k := fun j hj => P.splitS_size (P.headS s) 46 j hj
  simp only [h3] at k
  have k0 := k 0 (by simp)
  have k1 := k 1 (by simp)
  have k2 := k 2 (by simp)
  simp only [List.getElem_cons_zero, List.getElem_cons_succ] at k0 k1 k2
  omega
theorem numW_false {s : ByteArray} (h : P.numW s = false) : P.numberS s = false ∨ (P.numberS s = true ∧ ¬ s.size ≤ 9) := by
  unfold P.numW at h
  cases hn : P.numberS s with
  | false => exact .inl rfl
  | true => rw [hn] at h; exact .inr ⟨rfl, by simpa using h⟩
theorem numW_true {s : ByteArray} (h : P.numW s = true) : P.numberS s = true ∧ s.size ≤ 9 := by
  unfold P.numW at h; rwa [Bool.and_eq_true, decide_eq_true_eq] at h


set_option maxHeartbeats 4000000 in
theorem read_first (s : ByteArray) (hs : s.size ≤ 4294967280) (w : World) (hw : Good w) (h : (P.hasTail s && (P.tailS s).toList.isEmpty) = false) (x y z : ByteArray) (h3 : P.splitS (P.headS s) 46 = [x, y, z]) (hx : P.numW x = false) :
    Calls Tryz.prog 76 #[.string s] w fun e w' => e = .returned (readR (P.readV s)) ∧ Below w.heap.size w w' := by
  have hr : P.readV s = none := by rw [readV_go h, h3, words3_three, hx]; simp
  rw [hr]
  have HC := Lib.hid (fun W hW => cut_any s hs W hW)
  have hsz := P.headS_size s
  obtain ⟨zx, zy, zz⟩ := three_sizes h3
  have HN := Lib.hid (fun W hW => splitN_any (P.headS s) (by omega) W hW)
  rw [P.split4_three (by rw [h3]; rfl), h3] at HN
  clear h3 hsz hr
  have Ix := isNumber_any x (by omega)
  generalize P.headS s = hd at *
  generalize P.tailS s = tl at *
  have Hw := Lib.hid hw
  clear hw
  cases ht : P.hasTail s <;> rw [ht] at HC h <;> simp only [Bool.true_and, Bool.false_and] at h <;> clear ht <;> rcases numW_false hx with hq | ⟨hq, hq'⟩ <;> rw [hq] at Ix <;> clear hx hq
  all_goals
    have HIx := Lib.hid Ix
    clear Ix
    go_enter Tryz.func76, Tryz.ntmps76
    go_wp2_with fail
    refine (HC.out _ (Hw.out.mono (below_alloc _ _))).mono ?_
    rintro e w1 ⟨rfl, hb1⟩
    have R1 := (HasRow.new w _ _).below hb1
    have HB1 := Lib.hid (below_step (below_alloc _ _) hb1)
    clear hb1
    go_wp2_with fail
    refine (HN.out _ (Hw.out.mono HB1.out)).mono ?_
    rintro e w2 ⟨b, cap, rfl, hb, hbs, hcap, hcell, hb2⟩
    have R2 := R1.below hb2
    obtain ⟨d0, d1, d2, d3, f0, f1, f2, f3, hlt⟩ := row4 R2
    have c0 : w2.cell? ⟨b, 0, none⟩ = some (.string x) := hcell 0 (by simp)
    have c1 : w2.cell? ⟨b, 1, none⟩ = some (.string y) := hcell 1 (by simp)
    have c2 : w2.cell? ⟨b, 2, none⟩ = some (.string z) := hcell 2 (by simp)
    have HB2 := Lib.hid (below_step HB1.out hb2)
    have HR2 := Lib.hid R2
    clear hb2 R1 R2 hcell hb
    go_wp2
    refine wp_loop_rounds 4 ?_
    rw [rounds_succ]
    go_wp2_with (go_at_call 140; refine (HIx.out _).mono ?_; rintro e w' ⟨rfl, rfl⟩)
    refine bodyPost_ret (v := readR none) ?_ rfl ⟨rfl, ?_⟩
    · clear HB2 HC Hw HN
      simp [results, readR, Tryz.results76, go_sem, d0, d1, d2, d3, hlt]
    · exact (below_set4' HB2.out (Nat.le_refl _) _ _ _ _).alloc (by have := HB2.out.size; simpa [World.setCell] using this) _

set_option maxHeartbeats 4000000 in
theorem read_second (s : ByteArray) (hs : s.size ≤ 4294967280) (w : World) (hw : Good w) (h : (P.hasTail s && (P.tailS s).toList.isEmpty) = false) (x y z : ByteArray) (h3 : P.splitS (P.headS s) 46 = [x, y, z]) (hx : P.numW x = true) (hy : P.numW y = false) :
    Calls Tryz.prog 76 #[.string s] w fun e w' => e = .returned (readR (P.readV s)) ∧ Below w.heap.size w w' := by
  have hr : P.readV s = none := by rw [readV_go h, h3, words3_three, hx, hy]; simp
  rw [hr]
  have HC := Lib.hid (fun W hW => cut_any s hs W hW)
  have hsz := P.headS_size s
  obtain ⟨zx, zy, zz⟩ := three_sizes h3
  have HN := Lib.hid (fun W hW => splitN_any (P.headS s) (by omega) W hW)
  rw [P.split4_three (by rw [h3]; rfl), h3] at HN
  obtain ⟨nx, lx⟩ := numW_true hx
  have Ix := isNumber_any x (by omega)
  rw [nx] at Ix
  have HIx := Lib.hid Ix
  have HAx := Lib.hid (atoi_num x hx)
  clear nx Ix hx
  generalize P.atoiV x = vx at *
  clear h3 hsz hr
  have Iy := isNumber_any y (by omega)
  generalize P.headS s = hd at *
  generalize P.tailS s = tl at *
  have Hw := Lib.hid hw
  clear hw
  cases ht : P.hasTail s <;> rw [ht] at HC h <;> simp only [Bool.true_and, Bool.false_and] at h <;> clear ht <;> rcases numW_false hy with hq | ⟨hq, hq'⟩ <;> rw [hq] at Iy <;> clear hy hq
  all_goals
    have HIy := Lib.hid Iy
    clear Iy
    go_enter Tryz.func76, Tryz.ntmps76
    go_wp2_with fail
    refine (HC.out _ (Hw.out.mono (below_alloc _ _))).mono ?_
    rintro e w1 ⟨rfl, hb1⟩
    have R1 := (HasRow.new w _ _).below hb1
    have HB1 := Lib.hid (below_step (below_alloc _ _) hb1)
    clear hb1
    go_wp2_with fail
    refine (HN.out _ (Hw.out.mono HB1.out)).mono ?_
    rintro e w2 ⟨b, cap, rfl, hb, hbs, hcap, hcell, hb2⟩
    have R2 := R1.below hb2
    obtain ⟨d0, d1, d2, d3, f0, f1, f2, f3, hlt⟩ := row4 R2
    have c0 : w2.cell? ⟨b, 0, none⟩ = some (.string x) := hcell 0 (by simp)
    have c1 : w2.cell? ⟨b, 1, none⟩ = some (.string y) := hcell 1 (by simp)
    have c2 : w2.cell? ⟨b, 2, none⟩ = some (.string z) := hcell 2 (by simp)
    have HB2 := Lib.hid (below_step HB1.out hb2)
    have HR2 := Lib.hid R2
    clear hb2 R1 R2 hcell hb
    go_wp2
    refine wp_loop_rounds 4 ?_
    rw [rounds_succ]
    go_wp2_with (go_at_call 140; refine (HIx.out _).mono ?_; rintro e w' ⟨rfl, rfl⟩)
    refine (HAx.out _).mono ?_
    rintro e u0 ⟨rfl, hb⟩
    have RR := (HR2.out.alloc _).below hb
    have RN := (HasRow.new w2 _ _).below hb
    have e0 := (hb.cell (p := ⟨b, 0, none⟩) (by simp; omega)).trans ((World.cell?_alloc_past _ _ _ hbs).trans c0)
    have e1 := (hb.cell (p := ⟨b, 1, none⟩) (by simp; omega)).trans ((World.cell?_alloc_past _ _ _ hbs).trans c1)
    have e2 := (hb.cell (p := ⟨b, 2, none⟩) (by simp; omega)).trans ((World.cell?_alloc_past _ _ _ hbs).trans c2)
    have HB3 := Lib.hid (below_step (below_step HB2.out (below_alloc _ _)) hb)
    have hbs3 : b < u0.heap.size := Nat.lt_of_lt_of_le hbs (by have := hb.size; simp at this; omega)
    have hw2 := Lib.hid (show w.heap.size ≤ w2.heap.size from HB2.out.size)
    have hne : Hid (w.heap.size ≠ w2.heap.size) := Lib.hid (by omega)
    have hne2 : Hid (b ≠ w2.heap.size) := Lib.hid (by omega)
    clear c0 c1 c2 hlt
    have q1 : ¬ w.heap.size = w2.heap.size := hne.out
    have q2 : ¬ w2.heap.size = w.heap.size := fun h => hne.out h.symm
    have q3 : ¬ b = w2.heap.size := hne2.out
    have q4 : ¬ w2.heap.size = b := fun h => hne2.out h.symm
    clear d0 d1 d2 d3 f0 f1 f2 f3
    try clear n0 n1 n2 g0 g1 g2
    obtain ⟨d0, d1, d2, d3, f0, f1, f2, f3, hlt⟩ := row4 RR
    obtain ⟨n0, n1, n2, g0, g1, g2, hln⟩ := row3 RN
    skip
    have HRR := Lib.hid RR
    have HRN := Lib.hid RN
    clear RR RN hb
    go_wp2
    rw [rounds_succ]
    go_wp2_with (go_at_call 140; refine (HIy.out _).mono ?_; rintro e w' ⟨rfl, rfl⟩)
    refine bodyPost_ret (v := readR none) ?_ rfl ⟨rfl, ?_⟩
    · clear HB2 HC Hw HN HB3
      simp [results, readR, Tryz.results76, go_sem, d0, d1, d2, d3, q1, q2]
    · exact below_set4' (Below.setCell HB3.out (p := ⟨w2.heap.size, 0, none⟩) hw2.out _) (Nat.le_refl _) _ _ _ _

set_option maxHeartbeats 4000000 in
theorem read_third (s : ByteArray) (hs : s.size ≤ 4294967280) (w : World) (hw : Good w) (h : (P.hasTail s && (P.tailS s).toList.isEmpty) = false) (x y z : ByteArray) (h3 : P.splitS (P.headS s) 46 = [x, y, z]) (hx : P.numW x = true) (hy : P.numW y = true) (hz : P.numW z = false) :
    Calls Tryz.prog 76 #[.string s] w fun e w' => e = .returned (readR (P.readV s)) ∧ Below w.heap.size w w' := by
  have hr : P.readV s = none := by rw [readV_go h, h3, words3_three, hx, hy, hz]; simp
  rw [hr]
  have HC := Lib.hid (fun W hW => cut_any s hs W hW)
  have hsz := P.headS_size s
  obtain ⟨zx, zy, zz⟩ := three_sizes h3
  have HN := Lib.hid (fun W hW => splitN_any (P.headS s) (by omega) W hW)
  rw [P.split4_three (by rw [h3]; rfl), h3] at HN
  obtain ⟨nx, lx⟩ := numW_true hx
  have Ix := isNumber_any x (by omega)
  rw [nx] at Ix
  have HIx := Lib.hid Ix
  have HAx := Lib.hid (atoi_num x hx)
  clear nx Ix hx
  generalize P.atoiV x = vx at *
  obtain ⟨ny, ly⟩ := numW_true hy
  have Iy := isNumber_any y (by omega)
  rw [ny] at Iy
  have HIy := Lib.hid Iy
  have HAy := Lib.hid (atoi_num y hy)
  clear ny Iy hy
  generalize P.atoiV y = vy at *
  clear h3 hsz hr
  have Iz := isNumber_any z (by omega)
  generalize P.headS s = hd at *
  generalize P.tailS s = tl at *
  have Hw := Lib.hid hw
  clear hw
  cases ht : P.hasTail s <;> rw [ht] at HC h <;> simp only [Bool.true_and, Bool.false_and] at h <;> clear ht <;> rcases numW_false hz with hq | ⟨hq, hq'⟩ <;> rw [hq] at Iz <;> clear hz hq
  all_goals
    have HIz := Lib.hid Iz
    clear Iz
    go_enter Tryz.func76, Tryz.ntmps76
    go_wp2_with fail
    refine (HC.out _ (Hw.out.mono (below_alloc _ _))).mono ?_
    rintro e w1 ⟨rfl, hb1⟩
    have R1 := (HasRow.new w _ _).below hb1
    have HB1 := Lib.hid (below_step (below_alloc _ _) hb1)
    clear hb1
    go_wp2_with fail
    refine (HN.out _ (Hw.out.mono HB1.out)).mono ?_
    rintro e w2 ⟨b, cap, rfl, hb, hbs, hcap, hcell, hb2⟩
    have R2 := R1.below hb2
    obtain ⟨d0, d1, d2, d3, f0, f1, f2, f3, hlt⟩ := row4 R2
    have c0 : w2.cell? ⟨b, 0, none⟩ = some (.string x) := hcell 0 (by simp)
    have c1 : w2.cell? ⟨b, 1, none⟩ = some (.string y) := hcell 1 (by simp)
    have c2 : w2.cell? ⟨b, 2, none⟩ = some (.string z) := hcell 2 (by simp)
    have HB2 := Lib.hid (below_step HB1.out hb2)
    have HR2 := Lib.hid R2
    clear hb2 R1 R2 hcell hb
    go_wp2
    refine wp_loop_rounds 4 ?_
    rw [rounds_succ]
    go_wp2_with (go_at_call 140; refine (HIx.out _).mono ?_; rintro e w' ⟨rfl, rfl⟩)
    refine (HAx.out _).mono ?_
    rintro e u0 ⟨rfl, hb⟩
    have RR := (HR2.out.alloc _).below hb
    have RN := (HasRow.new w2 _ _).below hb
    have e0 := (hb.cell (p := ⟨b, 0, none⟩) (by simp; omega)).trans ((World.cell?_alloc_past _ _ _ hbs).trans c0)
    have e1 := (hb.cell (p := ⟨b, 1, none⟩) (by simp; omega)).trans ((World.cell?_alloc_past _ _ _ hbs).trans c1)
    have e2 := (hb.cell (p := ⟨b, 2, none⟩) (by simp; omega)).trans ((World.cell?_alloc_past _ _ _ hbs).trans c2)
    have HB3 := Lib.hid (below_step (below_step HB2.out (below_alloc _ _)) hb)
    have hbs3 : b < u0.heap.size := Nat.lt_of_lt_of_le hbs (by have := hb.size; simp at this; omega)
    have hw2 := Lib.hid (show w.heap.size ≤ w2.heap.size from HB2.out.size)
    have hne : Hid (w.heap.size ≠ w2.heap.size) := Lib.hid (by omega)
    have hne2 : Hid (b ≠ w2.heap.size) := Lib.hid (by omega)
    clear c0 c1 c2 hlt
    have q1 : ¬ w.heap.size = w2.heap.size := hne.out
    have q2 : ¬ w2.heap.size = w.heap.size := fun h => hne.out h.symm
    have q3 : ¬ b = w2.heap.size := hne2.out
    have q4 : ¬ w2.heap.size = b := fun h => hne2.out h.symm
    clear d0 d1 d2 d3 f0 f1 f2 f3
    try clear n0 n1 n2 g0 g1 g2
    obtain ⟨d0, d1, d2, d3, f0, f1, f2, f3, hlt⟩ := row4 RR
    obtain ⟨n0, n1, n2, g0, g1, g2, hln⟩ := row3 RN
    skip
    have HRR := Lib.hid RR
    have HRN := Lib.hid RN
    clear RR RN hb
    go_wp2
    rw [rounds_succ]
    go_wp2_with (go_at_call 140; refine (HIy.out _).mono ?_; rintro e w' ⟨rfl, rfl⟩)
    refine (HAy.out _).mono ?_
    rintro e u1 ⟨rfl, hb⟩
    have RR := (HRR.out.other 0 (.int .i64 vx) hne.out).below hb
    have RN := (HRN.out.set 0 (.int .i64 vx) (by simp)).below hb
    have e0' := (hb.cell (p := ⟨b, 0, none⟩) (by simpa [World.setCell] using hbs3)).trans ((setCell_far q4).trans e0)
    have e1' := (hb.cell (p := ⟨b, 1, none⟩) (by simpa [World.setCell] using hbs3)).trans ((setCell_far q4).trans e1)
    have e2' := (hb.cell (p := ⟨b, 2, none⟩) (by simpa [World.setCell] using hbs3)).trans ((setCell_far q4).trans e2)
    clear e0 e1 e2
    have e0 := e0'
    have e1 := e1'
    have e2 := e2'
    have HB3' := Lib.hid (below_step (HB3.out.setCell (p := ⟨w2.heap.size, 0, none⟩) hw2.out (.int .i64 vx)) hb)
    clear HB3
    have HB3 := HB3'
    have hbs3' : b < u1.heap.size := Nat.lt_of_lt_of_le hbs3 (by have := hb.size; simpa [World.setCell] using this)
    clear hbs3 HB3' e0' e1' e2'
    have hbs3 := hbs3'
    clear hbs3'
    simp at RN
    clear d0 d1 d2 d3 f0 f1 f2 f3
    try clear n0 n1 n2 g0 g1 g2
    obtain ⟨d0, d1, d2, d3, f0, f1, f2, f3, hlt⟩ := row4 RR
    obtain ⟨n0, n1, n2, g0, g1, g2, hln⟩ := row3 RN
    clear HRR HRN
    have HRR := Lib.hid RR
    have HRN := Lib.hid RN
    clear RR RN hb
    go_wp2
    rw [rounds_succ]
    go_wp2_with (go_at_call 140; refine (HIz.out _).mono ?_; rintro e w' ⟨rfl, rfl⟩)
    refine bodyPost_ret (v := readR none) ?_ rfl ⟨rfl, ?_⟩
    · clear HB2 HC Hw HN HB3
      simp [results, readR, Tryz.results76, go_sem, d0, d1, d2, d3, q1, q2]
    · exact below_set4' (Below.setCell HB3.out (p := ⟨w2.heap.size, 1, none⟩) hw2.out _) (Nat.le_refl _) _ _ _ _

set_option maxHeartbeats 4000000 in
theorem read_all (s : ByteArray) (hs : s.size ≤ 4294967280) (w : World) (hw : Good w) (h : (P.hasTail s && (P.tailS s).toList.isEmpty) = false) (x y z : ByteArray) (h3 : P.splitS (P.headS s) 46 = [x, y, z]) (hx : P.numW x = true) (hy : P.numW y = true) (hz : P.numW z = true) :
    Calls Tryz.prog 76 #[.string s] w fun e w' => e = .returned (readR (P.readV s)) ∧ Below w.heap.size w w' := by
  have hr : P.readV s = some (P.atoiV x, P.atoiV y, P.atoiV z, P.tailS s) := by rw [readV_go h, h3, words3_three, hx, hy, hz]; rfl
  rw [hr]
  have HC := Lib.hid (fun W hW => cut_any s hs W hW)
  have hsz := P.headS_size s
  obtain ⟨zx, zy, zz⟩ := three_sizes h3
  have HN := Lib.hid (fun W hW => splitN_any (P.headS s) (by omega) W hW)
  rw [P.split4_three (by rw [h3]; rfl), h3] at HN
  obtain ⟨nx, lx⟩ := numW_true hx
  have Ix := isNumber_any x (by omega)
  rw [nx] at Ix
  have HIx := Lib.hid Ix
  have HAx := Lib.hid (atoi_num x hx)
  clear nx Ix hx
  generalize P.atoiV x = vx at *
  obtain ⟨ny, ly⟩ := numW_true hy
  have Iy := isNumber_any y (by omega)
  rw [ny] at Iy
  have HIy := Lib.hid Iy
  have HAy := Lib.hid (atoi_num y hy)
  clear ny Iy hy
  generalize P.atoiV y = vy at *
  obtain ⟨nz, lz⟩ := numW_true hz
  have Iz := isNumber_any z (by omega)
  rw [nz] at Iz
  have HIz := Lib.hid Iz
  have HAz := Lib.hid (atoi_num z hz)
  clear nz Iz hz
  generalize P.atoiV z = vz at *
  clear h3 hsz hr
  generalize P.headS s = hd at *
  generalize P.tailS s = tl at *
  have Hw := Lib.hid hw
  clear hw
  cases ht : P.hasTail s <;> rw [ht] at HC h <;> simp only [Bool.true_and, Bool.false_and] at h <;> clear ht
  all_goals
    go_enter Tryz.func76, Tryz.ntmps76
    go_wp2_with fail
    refine (HC.out _ (Hw.out.mono (below_alloc _ _))).mono ?_
    rintro e w1 ⟨rfl, hb1⟩
    have R1 := (HasRow.new w _ _).below hb1
    have HB1 := Lib.hid (below_step (below_alloc _ _) hb1)
    clear hb1
    go_wp2_with fail
    refine (HN.out _ (Hw.out.mono HB1.out)).mono ?_
    rintro e w2 ⟨b, cap, rfl, hb, hbs, hcap, hcell, hb2⟩
    have R2 := R1.below hb2
    obtain ⟨d0, d1, d2, d3, f0, f1, f2, f3, hlt⟩ := row4 R2
    have c0 : w2.cell? ⟨b, 0, none⟩ = some (.string x) := hcell 0 (by simp)
    have c1 : w2.cell? ⟨b, 1, none⟩ = some (.string y) := hcell 1 (by simp)
    have c2 : w2.cell? ⟨b, 2, none⟩ = some (.string z) := hcell 2 (by simp)
    have HB2 := Lib.hid (below_step HB1.out hb2)
    have HR2 := Lib.hid R2
    clear hb2 R1 R2 hcell hb
    go_wp2
    refine wp_loop_rounds 4 ?_
    rw [rounds_succ]
    go_wp2_with (go_at_call 140; refine (HIx.out _).mono ?_; rintro e w' ⟨rfl, rfl⟩)
    refine (HAx.out _).mono ?_
    rintro e u0 ⟨rfl, hb⟩
    have RR := (HR2.out.alloc _).below hb
    have RN := (HasRow.new w2 _ _).below hb
    have e0 := (hb.cell (p := ⟨b, 0, none⟩) (by simp; omega)).trans ((World.cell?_alloc_past _ _ _ hbs).trans c0)
    have e1 := (hb.cell (p := ⟨b, 1, none⟩) (by simp; omega)).trans ((World.cell?_alloc_past _ _ _ hbs).trans c1)
    have e2 := (hb.cell (p := ⟨b, 2, none⟩) (by simp; omega)).trans ((World.cell?_alloc_past _ _ _ hbs).trans c2)
    have HB3 := Lib.hid (below_step (below_step HB2.out (below_alloc _ _)) hb)
    have hbs3 : b < u0.heap.size := Nat.lt_of_lt_of_le hbs (by have := hb.size; simp at this; omega)
    have hw2 := Lib.hid (show w.heap.size ≤ w2.heap.size from HB2.out.size)
    have hne : Hid (w.heap.size ≠ w2.heap.size) := Lib.hid (by omega)
    have hne2 : Hid (b ≠ w2.heap.size) := Lib.hid (by omega)
    clear c0 c1 c2 hlt
    have q1 : ¬ w.heap.size = w2.heap.size := hne.out
    have q2 : ¬ w2.heap.size = w.heap.size := fun h => hne.out h.symm
    have q3 : ¬ b = w2.heap.size := hne2.out
    have q4 : ¬ w2.heap.size = b := fun h => hne2.out h.symm
    clear d0 d1 d2 d3 f0 f1 f2 f3
    try clear n0 n1 n2 g0 g1 g2
    obtain ⟨d0, d1, d2, d3, f0, f1, f2, f3, hlt⟩ := row4 RR
    obtain ⟨n0, n1, n2, g0, g1, g2, hln⟩ := row3 RN
    skip
    have HRR := Lib.hid RR
    have HRN := Lib.hid RN
    clear RR RN hb
    go_wp2
    rw [rounds_succ]
    go_wp2_with (go_at_call 140; refine (HIy.out _).mono ?_; rintro e w' ⟨rfl, rfl⟩)
    refine (HAy.out _).mono ?_
    rintro e u1 ⟨rfl, hb⟩
    have RR := (HRR.out.other 0 (.int .i64 vx) hne.out).below hb
    have RN := (HRN.out.set 0 (.int .i64 vx) (by simp)).below hb
    have e0' := (hb.cell (p := ⟨b, 0, none⟩) (by simpa [World.setCell] using hbs3)).trans ((setCell_far q4).trans e0)
    have e1' := (hb.cell (p := ⟨b, 1, none⟩) (by simpa [World.setCell] using hbs3)).trans ((setCell_far q4).trans e1)
    have e2' := (hb.cell (p := ⟨b, 2, none⟩) (by simpa [World.setCell] using hbs3)).trans ((setCell_far q4).trans e2)
    clear e0 e1 e2
    have e0 := e0'
    have e1 := e1'
    have e2 := e2'
    have HB3' := Lib.hid (below_step (HB3.out.setCell (p := ⟨w2.heap.size, 0, none⟩) hw2.out (.int .i64 vx)) hb)
    clear HB3
    have HB3 := HB3'
    have hbs3' : b < u1.heap.size := Nat.lt_of_lt_of_le hbs3 (by have := hb.size; simpa [World.setCell] using this)
    clear hbs3 HB3' e0' e1' e2'
    have hbs3 := hbs3'
    clear hbs3'
    simp at RN
    clear d0 d1 d2 d3 f0 f1 f2 f3
    try clear n0 n1 n2 g0 g1 g2
    obtain ⟨d0, d1, d2, d3, f0, f1, f2, f3, hlt⟩ := row4 RR
    obtain ⟨n0, n1, n2, g0, g1, g2, hln⟩ := row3 RN
    clear HRR HRN
    have HRR := Lib.hid RR
    have HRN := Lib.hid RN
    clear RR RN hb
    go_wp2
    rw [rounds_succ]
    go_wp2_with (go_at_call 140; refine (HIz.out _).mono ?_; rintro e w' ⟨rfl, rfl⟩)
    refine (HAz.out _).mono ?_
    rintro e u2 ⟨rfl, hb⟩
    have RR := (HRR.out.other 1 (.int .i64 vy) hne.out).below hb
    have RN := (HRN.out.set 1 (.int .i64 vy) (by simp)).below hb
    have e0' := (hb.cell (p := ⟨b, 0, none⟩) (by simpa [World.setCell] using hbs3)).trans ((setCell_far q4).trans e0)
    have e1' := (hb.cell (p := ⟨b, 1, none⟩) (by simpa [World.setCell] using hbs3)).trans ((setCell_far q4).trans e1)
    have e2' := (hb.cell (p := ⟨b, 2, none⟩) (by simpa [World.setCell] using hbs3)).trans ((setCell_far q4).trans e2)
    clear e0 e1 e2
    have e0 := e0'
    have e1 := e1'
    have e2 := e2'
    have HB3' := Lib.hid (below_step (HB3.out.setCell (p := ⟨w2.heap.size, 1, none⟩) hw2.out (.int .i64 vy)) hb)
    clear HB3
    have HB3 := HB3'
    have hbs3' : b < u2.heap.size := Nat.lt_of_lt_of_le hbs3 (by have := hb.size; simpa [World.setCell] using this)
    clear hbs3 HB3' e0' e1' e2'
    have hbs3 := hbs3'
    clear hbs3'
    simp at RN
    clear d0 d1 d2 d3 f0 f1 f2 f3
    try clear n0 n1 n2 g0 g1 g2
    obtain ⟨d0, d1, d2, d3, f0, f1, f2, f3, hlt⟩ := row4 RR
    obtain ⟨n0, n1, n2, g0, g1, g2, hln⟩ := row3 RN
    clear HRR HRN
    have HRR := Lib.hid RR
    have HRN := Lib.hid RN
    clear RR RN hb
    go_wp2
    rw [rounds_succ]
    go_wp2
    refine bodyPost_ret (v := readR (some (vx, vy, vz, tl))) ?_ rfl ⟨rfl, ?_⟩
    · clear HB2 HC Hw HN HB3
      simp [results, readR, Tryz.results76, go_sem, d0, d1, d2, d3, q1, q2]
    · exact below_set4' (Below.setCell HB3.out (p := ⟨w2.heap.size, 2, none⟩) hw2.out _) (Nat.le_refl _) _ _ _ _

theorem read_any (s : ByteArray) (hs : s.size ≤ 4294967280) (w : World) (hw : Good w) :
    Calls Tryz.prog 76 #[.string s] w fun e w' => e = .returned (readR (P.readV s)) ∧ Below w.heap.size w w' := by
  cases h : (P.hasTail s && (P.tailS s).toList.isEmpty) with
  | true => rw [Bool.and_eq_true] at h; exact read_tail s hs w hw h.1 h.2
  | false =>
    by_cases h3 : (P.splitS (P.headS s) 46).length = 3
    · match hl : P.splitS (P.headS s) 46, h3 with
      | [x, y, z], _ =>
        cases hx : P.numW x with
        | false => exact read_first s hs w hw h x y z hl hx
        | true =>
          cases hy : P.numW y with
          | false => exact read_second s hs w hw h x y z hl hx hy
          | true =>
            cases hz : P.numW z with
            | false => exact read_third s hs w hw h x y z hl hx hy hz
            | true => exact read_all s hs w hw h x y z hl hx hy hz
    · exact read_words s hs w hw h h3
end Go.Proofs.YtffblkkhjphcfaaGreatDoor
