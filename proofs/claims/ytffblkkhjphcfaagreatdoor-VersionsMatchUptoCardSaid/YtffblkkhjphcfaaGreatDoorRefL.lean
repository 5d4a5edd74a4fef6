/- Walks: Next of package outref2: the three parts. -/
import Derived.Test.YtffblkkhjphcfaaGreatDoorRefK
namespace Go.Proofs.YtffblkkhjphcfaaGreatDoor
open Go.RowKit Go.Shelf

set_option maxHeartbeats 4000000 in
theorem nextOf_zero (a b c : Int) (s : ByteArray) (hs : s.size ≤ 4294967280) (w : World) (hw : Good w) (h : P.verr a b c s = 0) :
    Calls Tryz.prog 14 #[.agg #[.int .i64 a, .int .i64 b, .int .i64 c, .string s], .int .i64 0] w fun e w' => e = .returned (nextV a b c s 0) ∧ Below w.heap.size w w' := by
  have hraw : P.nextRaw a b c s.toList.isEmpty 0 = (a + 1, 0, 0) := by rfl
  have hE := nextErr_ok (p := 0) h (by decide)
  rw [hraw] at hE
  obtain ⟨hn1, hn2, hn3⟩ := verr_zero h
  obtain ⟨l1, g1⟩ := numOk_true hn1
  obtain ⟨l2, g2⟩ := numOk_true hn2
  obtain ⟨l3, g3⟩ := numOk_true hn3
  have HE := fun nb W hn hW => verr1_at a b c s hs nb W hn hW
  rw [h] at HE
  have HE := Lib.hid HE
  have HI := in_any 0 0 2
  rw [show (decide ((0 : Int) ≤ 0) && decide ((0 : Int) ≤ 2)) = true from rfl] at HI
  have HI := Lib.hid HI
  have HWh := Lib.hid (when_any false 3)
  have HF := fun nb W t hn => first2_at 0 0 nb W t hn
  rw [show P.orI [0, 0] = 0 from rfl] at HF
  have HF := Lib.hid HF
  clear h hn1 hn2 hn3
  have HD := fun nb W hn hW => verr1_at (a + 1) (0) (0) P.empty (by decide) nb W hn hW
  unfold P.empty at HD
  rw [← show P.nextErr a b c s 0 = P.verr (a + 1) (0) (0) ⟨#[]⟩ from hE] at HD
  clear hE
  by_cases hz : P.nextErr a b c s 0 = 0
  · have HV := Lib.hid (nextV_ok hz hraw)
    rw [hz] at HD
    have HD := Lib.hid HD
    clear hz hraw
    have Hw := Lib.hid hw
    clear hw
    go_enter Tryz.func14, Tryz.ntmps14
    go_wp2_with fail
    refine (HE.out _ _ (by simp) (Hw.out.mono (below_start2 _ _ _))).mono ?_
    rintro e w1 ⟨rfl, hb1⟩
    have R0 := (((HasRow.new w _ _).alloc _).alloc _).below hb1
    have R1 := ((HasRow.new (w.alloc _) _ _).alloc _).below hb1
    simp only [World.size_alloc] at R1
    have HB1 := Lib.hid (below_step (below_step (below_start2 _ _ _) (below_alloc _ _)) hb1)
    obtain ⟨c0, c1, c2, c3, k0, k1, k2, k3, hlt0⟩ := row4 R0
    obtain ⟨d0, d1, d2, d3, f0, f1, f2, f3, hlt⟩ := row4 R1
    have HR0 := Lib.hid R0
    have HR1 := Lib.hid R1
    clear hb1 R0 R1
    go_wp2_with (first | (go_at_call 59; refine (HI.out _).mono ?_; rintro e w' ⟨rfl, rfl⟩) | (go_at_call 37; refine (HWh.out _).mono ?_; rintro e w' ⟨rfl, rfl⟩) | (go_at_call 10; refine (HF.out _ _ _ (by simp)).mono ?_; rintro e w' ⟨rfl, rfl⟩))
    have HRA := (((((HR0.out.set 3 (.string ⟨#[]⟩) (by simp)).set 0 (.int .i64 (a + 1)) (by simp)).set 1 (.int .i64 0) (by simp)).set 2 (.int .i64 0) (by simp)).set 3 (.string ⟨#[]⟩) (by simp))
    simp at HRA
    have HRA := Lib.hid HRA
    have HRB := Lib.hid (((((HR1.out.other (k' := w.heap.size) 3 (.string ⟨#[]⟩) (by omega)).other (k' := w.heap.size) 0 (.int .i64 (a + 1)) (by omega)).other (k' := w.heap.size) 1 (.int .i64 0) (by omega)).other (k' := w.heap.size) 2 (.int .i64 0) (by omega)).other (k' := w.heap.size) 3 (.string ⟨#[]⟩) (by omega))
    have HBA := Lib.hid (((((HB1.out.setCell (p := ⟨w.heap.size, 3, none⟩) (Nat.le_refl _) (.string ⟨#[]⟩)).setCell (p := ⟨w.heap.size, 0, none⟩) (Nat.le_refl _) (.int .i64 (a + 1))).setCell (p := ⟨w.heap.size, 1, none⟩) (Nat.le_refl _) (.int .i64 0)).setCell (p := ⟨w.heap.size, 2, none⟩) (Nat.le_refl _) (.int .i64 0)).setCell (p := ⟨w.heap.size, 3, none⟩) (Nat.le_refl _) (.string ⟨#[]⟩))
    refine (HD.out _ _ (by simp [World.setCell]) ((Hw.out.mono HBA.out).mono (below_alloc _ _))).mono ?_
    rintro e w2 ⟨rfl, hb2⟩
    clear c0 c1 c2 c3 k0 k1 k2 k3 hlt0 d0 d1 d2 d3 f0 f1 f2 f3 hlt
    obtain ⟨c0, c1, c2, c3, k0, k1, k2, k3, hlt0⟩ := row4 (((HRA.out.alloc _).alloc _).below hb2)
    obtain ⟨d0, d1, d2, d3, f0, f1, f2, f3, hlt⟩ := row4 (((HRB.out.alloc _).alloc _).below hb2)
    have HB2 := Lib.hid (below_step (below_step (below_step HBA.out (below_alloc _ _)) (below_alloc _ _)) hb2)
    clear hb2
    go_wp2_with fail
    refine bodyPost_ret (v := .tuple #[.agg #[.int .i64 (a + 1), .int .i64 (0), .int .i64 (0), .string ⟨#[]⟩], .int .i64 0]) ?_ rfl ⟨by rw [HV.out], ?_⟩
    · clear HB1 HE HI HWh HF HV Hw HR0 HR1 HRA HRB HBA HD HB2
      simp [results, Tryz.results14, go_sem, d0, d1, d2, d3]
    · exact below_set4' HB2.out (Nat.le_succ _) _ _ _ _
  · have HV := Lib.hid (nextV_bad (a := a) (b := b) (c := c) (s := s) (p := 0) rfl hz)
    have hz' : (P.nextErr a b c s 0 != 0) = true := by simpa using hz
    generalize P.nextErr a b c s 0 = ee at *
    have HD := Lib.hid HD
    clear hz hraw
    have Hw := Lib.hid hw
    clear hw
    go_enter Tryz.func14, Tryz.ntmps14
    go_wp2_with fail
    refine (HE.out _ _ (by simp) (Hw.out.mono (below_start2 _ _ _))).mono ?_
    rintro e w1 ⟨rfl, hb1⟩
    have R0 := (((HasRow.new w _ _).alloc _).alloc _).below hb1
    have R1 := ((HasRow.new (w.alloc _) _ _).alloc _).below hb1
    simp only [World.size_alloc] at R1
    have HB1 := Lib.hid (below_step (below_step (below_start2 _ _ _) (below_alloc _ _)) hb1)
    obtain ⟨c0, c1, c2, c3, k0, k1, k2, k3, hlt0⟩ := row4 R0
    obtain ⟨d0, d1, d2, d3, f0, f1, f2, f3, hlt⟩ := row4 R1
    have HR0 := Lib.hid R0
    have HR1 := Lib.hid R1
    clear hb1 R0 R1
    go_wp2_with (first | (go_at_call 59; refine (HI.out _).mono ?_; rintro e w' ⟨rfl, rfl⟩) | (go_at_call 37; refine (HWh.out _).mono ?_; rintro e w' ⟨rfl, rfl⟩) | (go_at_call 10; refine (HF.out _ _ _ (by simp)).mono ?_; rintro e w' ⟨rfl, rfl⟩))
    have HRA := (((((HR0.out.set 3 (.string ⟨#[]⟩) (by simp)).set 0 (.int .i64 (a + 1)) (by simp)).set 1 (.int .i64 0) (by simp)).set 2 (.int .i64 0) (by simp)).set 3 (.string ⟨#[]⟩) (by simp))
    simp at HRA
    have HRA := Lib.hid HRA
    have HRB := Lib.hid (((((HR1.out.other (k' := w.heap.size) 3 (.string ⟨#[]⟩) (by omega)).other (k' := w.heap.size) 0 (.int .i64 (a + 1)) (by omega)).other (k' := w.heap.size) 1 (.int .i64 0) (by omega)).other (k' := w.heap.size) 2 (.int .i64 0) (by omega)).other (k' := w.heap.size) 3 (.string ⟨#[]⟩) (by omega))
    have HBA := Lib.hid (((((HB1.out.setCell (p := ⟨w.heap.size, 3, none⟩) (Nat.le_refl _) (.string ⟨#[]⟩)).setCell (p := ⟨w.heap.size, 0, none⟩) (Nat.le_refl _) (.int .i64 (a + 1))).setCell (p := ⟨w.heap.size, 1, none⟩) (Nat.le_refl _) (.int .i64 0)).setCell (p := ⟨w.heap.size, 2, none⟩) (Nat.le_refl _) (.int .i64 0)).setCell (p := ⟨w.heap.size, 3, none⟩) (Nat.le_refl _) (.string ⟨#[]⟩))
    refine (HD.out _ _ (by simp [World.setCell]) ((Hw.out.mono HBA.out).mono (below_alloc _ _))).mono ?_
    rintro e w2 ⟨rfl, hb2⟩
    clear c0 c1 c2 c3 k0 k1 k2 k3 hlt0 d0 d1 d2 d3 f0 f1 f2 f3 hlt
    obtain ⟨c0, c1, c2, c3, k0, k1, k2, k3, hlt0⟩ := row4 (((HRA.out.alloc _).alloc _).below hb2)
    obtain ⟨d0, d1, d2, d3, f0, f1, f2, f3, hlt⟩ := row4 (((HRB.out.alloc _).alloc _).below hb2)
    have HB2 := Lib.hid (below_step (below_step (below_step HBA.out (below_alloc _ _)) (below_alloc _ _)) hb2)
    clear hb2
    go_wp2_with fail
    refine bodyPost_ret (v := .tuple #[.agg #[.int .i64 0, .int .i64 0, .int .i64 0, .string ⟨#[]⟩], .int .i64 ee]) ?_ rfl ⟨by rw [HV.out], ?_⟩
    · clear HB1 HE HI HWh HF HV Hw HR0 HR1 HRA HRB HBA HD HB2
      simp [results, Tryz.results14, go_sem, d0, d1, d2, d3]
    · exact below_set4' HB2.out (Nat.le_succ _) _ _ _ _

set_option maxHeartbeats 4000000 in
theorem nextOf_one (a b c : Int) (s : ByteArray) (hs : s.size ≤ 4294967280) (w : World) (hw : Good w) (h : P.verr a b c s = 0) :
    Calls Tryz.prog 14 #[.agg #[.int .i64 a, .int .i64 b, .int .i64 c, .string s], .int .i64 1] w fun e w' => e = .returned (nextV a b c s 1) ∧ Below w.heap.size w w' := by
  have hraw : P.nextRaw a b c s.toList.isEmpty 1 = (a, b + 1, 0) := by rfl
  have hE := nextErr_ok (p := 1) h (by decide)
  rw [hraw] at hE
  obtain ⟨hn1, hn2, hn3⟩ := verr_zero h
  obtain ⟨l1, g1⟩ := numOk_true hn1
  obtain ⟨l2, g2⟩ := numOk_true hn2
  obtain ⟨l3, g3⟩ := numOk_true hn3
  have HE := fun nb W hn hW => verr1_at a b c s hs nb W hn hW
  rw [h] at HE
  have HE := Lib.hid HE
  have HI := in_any 1 0 2
  rw [show (decide ((0 : Int) ≤ 1) && decide ((1 : Int) ≤ 2)) = true from rfl] at HI
  have HI := Lib.hid HI
  have HWh := Lib.hid (when_any false 3)
  have HF := fun nb W t hn => first2_at 0 0 nb W t hn
  rw [show P.orI [0, 0] = 0 from rfl] at HF
  have HF := Lib.hid HF
  clear h hn1 hn2 hn3
  have HD := fun nb W hn hW => verr1_at (a) (b + 1) (0) P.empty (by decide) nb W hn hW
  unfold P.empty at HD
  rw [← show P.nextErr a b c s 1 = P.verr (a) (b + 1) (0) ⟨#[]⟩ from hE] at HD
  clear hE
  by_cases hz : P.nextErr a b c s 1 = 0
  · have HV := Lib.hid (nextV_ok hz hraw)
    rw [hz] at HD
    have HD := Lib.hid HD
    clear hz hraw
    have Hw := Lib.hid hw
    clear hw
    go_enter Tryz.func14, Tryz.ntmps14
    go_wp2_with fail
    refine (HE.out _ _ (by simp) (Hw.out.mono (below_start2 _ _ _))).mono ?_
    rintro e w1 ⟨rfl, hb1⟩
    have R0 := (((HasRow.new w _ _).alloc _).alloc _).below hb1
    have R1 := ((HasRow.new (w.alloc _) _ _).alloc _).below hb1
    simp only [World.size_alloc] at R1
    have HB1 := Lib.hid (below_step (below_step (below_start2 _ _ _) (below_alloc _ _)) hb1)
    obtain ⟨c0, c1, c2, c3, k0, k1, k2, k3, hlt0⟩ := row4 R0
    obtain ⟨d0, d1, d2, d3, f0, f1, f2, f3, hlt⟩ := row4 R1
    have HR0 := Lib.hid R0
    have HR1 := Lib.hid R1
    clear hb1 R0 R1
    go_wp2_with (first | (go_at_call 59; refine (HI.out _).mono ?_; rintro e w' ⟨rfl, rfl⟩) | (go_at_call 37; refine (HWh.out _).mono ?_; rintro e w' ⟨rfl, rfl⟩) | (go_at_call 10; refine (HF.out _ _ _ (by simp)).mono ?_; rintro e w' ⟨rfl, rfl⟩))
    have HRA := (((((HR0.out.set 3 (.string ⟨#[]⟩) (by simp)).set 0 (.int .i64 a) (by simp)).set 1 (.int .i64 (b + 1)) (by simp)).set 2 (.int .i64 0) (by simp)).set 3 (.string ⟨#[]⟩) (by simp))
    simp at HRA
    have HRA := Lib.hid HRA
    have HRB := Lib.hid (((((HR1.out.other (k' := w.heap.size) 3 (.string ⟨#[]⟩) (by omega)).other (k' := w.heap.size) 0 (.int .i64 a) (by omega)).other (k' := w.heap.size) 1 (.int .i64 (b + 1)) (by omega)).other (k' := w.heap.size) 2 (.int .i64 0) (by omega)).other (k' := w.heap.size) 3 (.string ⟨#[]⟩) (by omega))
    have HBA := Lib.hid (((((HB1.out.setCell (p := ⟨w.heap.size, 3, none⟩) (Nat.le_refl _) (.string ⟨#[]⟩)).setCell (p := ⟨w.heap.size, 0, none⟩) (Nat.le_refl _) (.int .i64 a)).setCell (p := ⟨w.heap.size, 1, none⟩) (Nat.le_refl _) (.int .i64 (b + 1))).setCell (p := ⟨w.heap.size, 2, none⟩) (Nat.le_refl _) (.int .i64 0)).setCell (p := ⟨w.heap.size, 3, none⟩) (Nat.le_refl _) (.string ⟨#[]⟩))
    refine (HD.out _ _ (by simp [World.setCell]) ((Hw.out.mono HBA.out).mono (below_alloc _ _))).mono ?_
    rintro e w2 ⟨rfl, hb2⟩
    clear c0 c1 c2 c3 k0 k1 k2 k3 hlt0 d0 d1 d2 d3 f0 f1 f2 f3 hlt
    obtain ⟨c0, c1, c2, c3, k0, k1, k2, k3, hlt0⟩ := row4 (((HRA.out.alloc _).alloc _).below hb2)
    obtain ⟨d0, d1, d2, d3, f0, f1, f2, f3, hlt⟩ := row4 (((HRB.out.alloc _).alloc _).below hb2)
    have HB2 := Lib.hid (below_step (below_step (below_step HBA.out (below_alloc _ _)) (below_alloc _ _)) hb2)
    clear hb2
    go_wp2_with fail
    refine bodyPost_ret (v := .tuple #[.agg #[.int .i64 (a), .int .i64 (b + 1), .int .i64 (0), .string ⟨#[]⟩], .int .i64 0]) ?_ rfl ⟨by rw [HV.out], ?_⟩
    · clear HB1 HE HI HWh HF HV Hw HR0 HR1 HRA HRB HBA HD HB2
      simp [results, Tryz.results14, go_sem, d0, d1, d2, d3]
    · exact below_set4' HB2.out (Nat.le_succ _) _ _ _ _
  · have HV := Lib.hid (nextV_bad (a := a) (b := b) (c := c) (s := s) (p := 1) rfl hz)
    have hz' : (P.nextErr a b c s 1 != 0) = true := by simpa using hz
    generalize P.nextErr a b c s 1 = ee at *
    have HD := Lib.hid HD
    clear hz hraw
    have Hw := Lib.hid hw
    clear hw
    go_enter Tryz.func14, Tryz.ntmps14
    go_wp2_with fail
    refine (HE.out _ _ (by simp) (Hw.out.mono (below_start2 _ _ _))).mono ?_
    rintro e w1 ⟨rfl, hb1⟩
    have R0 := (((HasRow.new w _ _).alloc _).alloc _).below hb1
    have R1 := ((HasRow.new (w.alloc _) _ _).alloc _).below hb1
    simp only [World.size_alloc] at R1
    have HB1 := Lib.hid (below_step (below_step (below_start2 _ _ _) (below_alloc _ _)) hb1)
    obtain ⟨c0, c1, c2, c3, k0, k1, k2, k3, hlt0⟩ := row4 R0
    obtain ⟨d0, d1, d2, d3, f0, f1, f2, f3, hlt⟩ := row4 R1
    have HR0 := Lib.hid R0
    have HR1 := Lib.hid R1
    clear hb1 R0 R1
    go_wp2_with (first | (go_at_call 59; refine (HI.out _).mono ?_; rintro e w' ⟨rfl, rfl⟩) | (go_at_call 37; refine (HWh.out _).mono ?_; rintro e w' ⟨rfl, rfl⟩) | (go_at_call 10; refine (HF.out _ _ _ (by simp)).mono ?_; rintro e w' ⟨rfl, rfl⟩))
    have HRA := (((((HR0.out.set 3 (.string ⟨#[]⟩) (by simp)).set 0 (.int .i64 a) (by simp)).set 1 (.int .i64 (b + 1)) (by simp)).set 2 (.int .i64 0) (by simp)).set 3 (.string ⟨#[]⟩) (by simp))
    simp at HRA
    have HRA := Lib.hid HRA
    have HRB := Lib.hid (((((HR1.out.other (k' := w.heap.size) 3 (.string ⟨#[]⟩) (by omega)).other (k' := w.heap.size) 0 (.int .i64 a) (by omega)).other (k' := w.heap.size) 1 (.int .i64 (b + 1)) (by omega)).other (k' := w.heap.size) 2 (.int .i64 0) (by omega)).other (k' := w.heap.size) 3 (.string ⟨#[]⟩) (by omega))
    have HBA := Lib.hid (((((HB1.out.setCell (p := ⟨w.heap.size, 3, none⟩) (Nat.le_refl _) (.string ⟨#[]⟩)).setCell (p := ⟨w.heap.size, 0, none⟩) (Nat.le_refl _) (.int .i64 a)).setCell (p := ⟨w.heap.size, 1, none⟩) (Nat.le_refl _) (.int .i64 (b + 1))).setCell (p := ⟨w.heap.size, 2, none⟩) (Nat.le_refl _) (.int .i64 0)).setCell (p := ⟨w.heap.size, 3, none⟩) (Nat.le_refl _) (.string ⟨#[]⟩))
    refine (HD.out _ _ (by simp [World.setCell]) ((Hw.out.mono HBA.out).mono (below_alloc _ _))).mono ?_
    rintro e w2 ⟨rfl, hb2⟩
    clear c0 c1 c2 c3 k0 k1 k2 k3 hlt0 d0 d1 d2 d3 f0 f1 f2 f3 hlt
    obtain ⟨c0, c1, c2, c3, k0, k1, k2, k3, hlt0⟩ := row4 (((HRA.out.alloc _).alloc _).below hb2)
    obtain ⟨d0, d1, d2, d3, f0, f1, f2, f3, hlt⟩ := row4 (((HRB.out.alloc _).alloc _).below hb2)
    have HB2 := Lib.hid (below_step (below_step (below_step HBA.out (below_alloc _ _)) (below_alloc _ _)) hb2)
    clear hb2
    go_wp2_with fail
    refine bodyPost_ret (v := .tuple #[.agg #[.int .i64 0, .int .i64 0, .int .i64 0, .string ⟨#[]⟩], .int .i64 ee]) ?_ rfl ⟨by rw [HV.out], ?_⟩
    · clear HB1 HE HI HWh HF HV Hw HR0 HR1 HRA HRB HBA HD HB2
      simp [results, Tryz.results14, go_sem, d0, d1, d2, d3]
    · exact below_set4' HB2.out (Nat.le_succ _) _ _ _ _

set_option maxHeartbeats 4000000 in
theorem nextOf_new (a b c : Int) (s : ByteArray) (hs : s.size ≤ 4294967280) (w : World) (hw : Good w) (h : P.verr a b c s = 0) (he : s.toList.isEmpty = true) :
    Calls Tryz.prog 14 #[.agg #[.int .i64 a, .int .i64 b, .int .i64 c, .string s], .int .i64 2] w fun e w' => e = .returned (nextV a b c s 2) ∧ Below w.heap.size w w' := by
  have hraw : P.nextRaw a b c s.toList.isEmpty 2 = (a, b, c + 1) := by unfold P.nextRaw; rw [he]; rfl
  have hE := nextErr_ok (p := 2) h (by decide)
  rw [hraw] at hE
  obtain ⟨hn1, hn2, hn3⟩ := verr_zero h
  obtain ⟨l1, g1⟩ := numOk_true hn1
  obtain ⟨l2, g2⟩ := numOk_true hn2
  obtain ⟨l3, g3⟩ := numOk_true hn3
  have HE := fun nb W hn hW => verr1_at a b c s hs nb W hn hW
  rw [h] at HE
  have HE := Lib.hid HE
  have HI := in_any 2 0 2
  rw [show (decide ((0 : Int) ≤ 2) && decide ((2 : Int) ≤ 2)) = true from rfl] at HI
  have HI := Lib.hid HI
  have HWh := Lib.hid (when_any false 3)
  have HF := fun nb W t hn => first2_at 0 0 nb W t hn
  rw [show P.orI [0, 0] = 0 from rfl] at HF
  have HF := Lib.hid HF
  clear h hn1 hn2 hn3
  have HD := fun nb W hn hW => verr1_at (a) (b) (c + 1) P.empty (by decide) nb W hn hW
  unfold P.empty at HD
  rw [← show P.nextErr a b c s 2 = P.verr (a) (b) (c + 1) ⟨#[]⟩ from hE] at HD
  clear hE
  by_cases hz : P.nextErr a b c s 2 = 0
  · have HV := Lib.hid (nextV_ok hz hraw)
    rw [hz] at HD
    have HD := Lib.hid HD
    clear hz hraw
    have Hw := Lib.hid hw
    clear hw
    go_enter Tryz.func14, Tryz.ntmps14
    go_wp2_with fail
    refine (HE.out _ _ (by simp) (Hw.out.mono (below_start2 _ _ _))).mono ?_
    rintro e w1 ⟨rfl, hb1⟩
    have R0 := (((HasRow.new w _ _).alloc _).alloc _).below hb1
    have R1 := ((HasRow.new (w.alloc _) _ _).alloc _).below hb1
    simp only [World.size_alloc] at R1
    have HB1 := Lib.hid (below_step (below_step (below_start2 _ _ _) (below_alloc _ _)) hb1)
    obtain ⟨c0, c1, c2, c3, k0, k1, k2, k3, hlt0⟩ := row4 R0
    obtain ⟨d0, d1, d2, d3, f0, f1, f2, f3, hlt⟩ := row4 R1
    have HR0 := Lib.hid R0
    have HR1 := Lib.hid R1
    clear hb1 R0 R1
    go_wp2_with (first | (go_at_call 59; refine (HI.out _).mono ?_; rintro e w' ⟨rfl, rfl⟩) | (go_at_call 37; refine (HWh.out _).mono ?_; rintro e w' ⟨rfl, rfl⟩) | (go_at_call 10; refine (HF.out _ _ _ (by simp)).mono ?_; rintro e w' ⟨rfl, rfl⟩))
    have HRA := ((HR0.out.set 3 (.string ⟨#[]⟩) (by simp)).set 2 (.int .i64 (c + 1)) (by simp))
    simp at HRA
    have HRA := Lib.hid HRA
    have HRB := Lib.hid ((HR1.out.other (k' := w.heap.size) 3 (.string ⟨#[]⟩) (by omega)).other (k' := w.heap.size) 2 (.int .i64 (c + 1)) (by omega))
    have HBA := Lib.hid ((HB1.out.setCell (p := ⟨w.heap.size, 3, none⟩) (Nat.le_refl _) (.string ⟨#[]⟩)).setCell (p := ⟨w.heap.size, 2, none⟩) (Nat.le_refl _) (.int .i64 (c + 1)))
    refine (HD.out _ _ (by simp [World.setCell]) ((Hw.out.mono HBA.out).mono (below_alloc _ _))).mono ?_
    rintro e w2 ⟨rfl, hb2⟩
    clear c0 c1 c2 c3 k0 k1 k2 k3 hlt0 d0 d1 d2 d3 f0 f1 f2 f3 hlt
    obtain ⟨c0, c1, c2, c3, k0, k1, k2, k3, hlt0⟩ := row4 (((HRA.out.alloc _).alloc _).below hb2)
    obtain ⟨d0, d1, d2, d3, f0, f1, f2, f3, hlt⟩ := row4 (((HRB.out.alloc _).alloc _).below hb2)
    have HB2 := Lib.hid (below_step (below_step (below_step HBA.out (below_alloc _ _)) (below_alloc _ _)) hb2)
    clear hb2
    go_wp2_with fail
    refine bodyPost_ret (v := .tuple #[.agg #[.int .i64 (a), .int .i64 (b), .int .i64 (c + 1), .string ⟨#[]⟩], .int .i64 0]) ?_ rfl ⟨by rw [HV.out], ?_⟩
    · clear HB1 HE HI HWh HF HV Hw HR0 HR1 HRA HRB HBA HD HB2
      simp [results, Tryz.results14, go_sem, d0, d1, d2, d3]
    · exact below_set4' HB2.out (Nat.le_succ _) _ _ _ _
  · have HV := Lib.hid (nextV_bad (a := a) (b := b) (c := c) (s := s) (p := 2) rfl hz)
    have hz' : (P.nextErr a b c s 2 != 0) = true := by simpa using hz
    generalize P.nextErr a b c s 2 = ee at *
    have HD := Lib.hid HD
    clear hz hraw
    have Hw := Lib.hid hw
    clear hw
    go_enter Tryz.func14, Tryz.ntmps14
    go_wp2_with fail
    refine (HE.out _ _ (by simp) (Hw.out.mono (below_start2 _ _ _))).mono ?_
    rintro e w1 ⟨rfl, hb1⟩
    have R0 := (((HasRow.new w _ _).alloc _).alloc _).below hb1
    have R1 := ((HasRow.new (w.alloc _) _ _).alloc _).below hb1
    simp only [World.size_alloc] at R1
    have HB1 := Lib.hid (below_step (below_step (below_start2 _ _ _) (below_alloc _ _)) hb1)
    obtain ⟨c0, c1, c2, c3, k0, k1, k2, k3, hlt0⟩ := row4 R0
    obtain ⟨d0, d1, d2, d3, f0, f1, f2, f3, hlt⟩ := row4 R1
    have HR0 := Lib.hid R0
    have HR1 := Lib.hid R1
    clear hb1 R0 R1
    go_wp2_with (first | (go_at_call 59; refine (HI.out _).mono ?_; rintro e w' ⟨rfl, rfl⟩) | (go_at_call 37; refine (HWh.out _).mono ?_; rintro e w' ⟨rfl, rfl⟩) | (go_at_call 10; refine (HF.out _ _ _ (by simp)).mono ?_; rintro e w' ⟨rfl, rfl⟩))
    have HRA := ((HR0.out.set 3 (.string ⟨#[]⟩) (by simp)).set 2 (.int .i64 (c + 1)) (by simp))
    simp at HRA
    have HRA := Lib.hid HRA
    have HRB := Lib.hid ((HR1.out.other (k' := w.heap.size) 3 (.string ⟨#[]⟩) (by omega)).other (k' := w.heap.size) 2 (.int .i64 (c + 1)) (by omega))
    have HBA := Lib.hid ((HB1.out.setCell (p := ⟨w.heap.size, 3, none⟩) (Nat.le_refl _) (.string ⟨#[]⟩)).setCell (p := ⟨w.heap.size, 2, none⟩) (Nat.le_refl _) (.int .i64 (c + 1)))
    refine (HD.out _ _ (by simp [World.setCell]) ((Hw.out.mono HBA.out).mono (below_alloc _ _))).mono ?_
    rintro e w2 ⟨rfl, hb2⟩
    clear c0 c1 c2 c3 k0 k1 k2 k3 hlt0 d0 d1 d2 d3 f0 f1 f2 f3 hlt
    obtain ⟨c0, c1, c2, c3, k0, k1, k2, k3, hlt0⟩ := row4 (((HRA.out.alloc _).alloc _).below hb2)
    obtain ⟨d0, d1, d2, d3, f0, f1, f2, f3, hlt⟩ := row4 (((HRB.out.alloc _).alloc _).below hb2)
    have HB2 := Lib.hid (below_step (below_step (below_step HBA.out (below_alloc _ _)) (below_alloc _ _)) hb2)
    clear hb2
    go_wp2_with fail
    refine bodyPost_ret (v := .tuple #[.agg #[.int .i64 0, .int .i64 0, .int .i64 0, .string ⟨#[]⟩], .int .i64 ee]) ?_ rfl ⟨by rw [HV.out], ?_⟩
    · clear HB1 HE HI HWh HF HV Hw HR0 HR1 HRA HRB HBA HD HB2
      simp [results, Tryz.results14, go_sem, d0, d1, d2, d3]
    · exact below_set4' HB2.out (Nat.le_succ _) _ _ _ _

set_option maxHeartbeats 4000000 in
theorem nextOf_same (a b c : Int) (s : ByteArray) (hs : s.size ≤ 4294967280) (w : World) (hw : Good w) (h : P.verr a b c s = 0) (he : s.toList.isEmpty = false) :
    Calls Tryz.prog 14 #[.agg #[.int .i64 a, .int .i64 b, .int .i64 c, .string s], .int .i64 2] w fun e w' => e = .returned (nextV a b c s 2) ∧ Below w.heap.size w w' := by
  have hraw : P.nextRaw a b c s.toList.isEmpty 2 = (a, b, c) := by unfold P.nextRaw; rw [he]; rfl
  have hE := nextErr_ok (p := 2) h (by decide)
  rw [hraw] at hE
  obtain ⟨hn1, hn2, hn3⟩ := verr_zero h
  obtain ⟨l1, g1⟩ := numOk_true hn1
  obtain ⟨l2, g2⟩ := numOk_true hn2
  obtain ⟨l3, g3⟩ := numOk_true hn3
  have HE := fun nb W hn hW => verr1_at a b c s hs nb W hn hW
  rw [h] at HE
  have HE := Lib.hid HE
  have HI := in_any 2 0 2
  rw [show (decide ((0 : Int) ≤ 2) && decide ((2 : Int) ≤ 2)) = true from rfl] at HI
  have HI := Lib.hid HI
  have HWh := Lib.hid (when_any false 3)
  have HF := fun nb W t hn => first2_at 0 0 nb W t hn
  rw [show P.orI [0, 0] = 0 from rfl] at HF
  have HF := Lib.hid HF
  clear h hn1 hn2 hn3
  have HD := fun nb W hn hW => verr1_at (a) (b) (c) P.empty (by decide) nb W hn hW
  unfold P.empty at HD
  rw [← show P.nextErr a b c s 2 = P.verr (a) (b) (c) ⟨#[]⟩ from hE] at HD
  clear hE
  have ne' := ne_of he
  by_cases hz : P.nextErr a b c s 2 = 0
  · have HV := Lib.hid (nextV_ok hz hraw)
    rw [hz] at HD
    have HD := Lib.hid HD
    clear hz hraw
    have Hw := Lib.hid hw
    clear hw
    go_enter Tryz.func14, Tryz.ntmps14
    go_wp2_with fail
    refine (HE.out _ _ (by simp) (Hw.out.mono (below_start2 _ _ _))).mono ?_
    rintro e w1 ⟨rfl, hb1⟩
    have R0 := (((HasRow.new w _ _).alloc _).alloc _).below hb1
    have R1 := ((HasRow.new (w.alloc _) _ _).alloc _).below hb1
    simp only [World.size_alloc] at R1
    have HB1 := Lib.hid (below_step (below_step (below_start2 _ _ _) (below_alloc _ _)) hb1)
    obtain ⟨c0, c1, c2, c3, k0, k1, k2, k3, hlt0⟩ := row4 R0
    obtain ⟨d0, d1, d2, d3, f0, f1, f2, f3, hlt⟩ := row4 R1
    have HR0 := Lib.hid R0
    have HR1 := Lib.hid R1
    clear hb1 R0 R1
    go_wp2_with (first | (go_at_call 59; refine (HI.out _).mono ?_; rintro e w' ⟨rfl, rfl⟩) | (go_at_call 37; refine (HWh.out _).mono ?_; rintro e w' ⟨rfl, rfl⟩) | (go_at_call 10; refine (HF.out _ _ _ (by simp)).mono ?_; rintro e w' ⟨rfl, rfl⟩))
    have HRA := (HR0.out.set 3 (.string ⟨#[]⟩) (by simp))
    simp at HRA
    have HRA := Lib.hid HRA
    have HRB := Lib.hid (HR1.out.other (k' := w.heap.size) 3 (.string ⟨#[]⟩) (by omega))
    have HBA := Lib.hid (HB1.out.setCell (p := ⟨w.heap.size, 3, none⟩) (Nat.le_refl _) (.string ⟨#[]⟩))
    refine (HD.out _ _ (by simp [World.setCell]) ((Hw.out.mono HBA.out).mono (below_alloc _ _))).mono ?_
    rintro e w2 ⟨rfl, hb2⟩
    clear c0 c1 c2 c3 k0 k1 k2 k3 hlt0 d0 d1 d2 d3 f0 f1 f2 f3 hlt
    obtain ⟨c0, c1, c2, c3, k0, k1, k2, k3, hlt0⟩ := row4 (((HRA.out.alloc _).alloc _).below hb2)
    obtain ⟨d0, d1, d2, d3, f0, f1, f2, f3, hlt⟩ := row4 (((HRB.out.alloc _).alloc _).below hb2)
    have HB2 := Lib.hid (below_step (below_step (below_step HBA.out (below_alloc _ _)) (below_alloc _ _)) hb2)
    clear hb2
    go_wp2_with fail
    refine bodyPost_ret (v := .tuple #[.agg #[.int .i64 (a), .int .i64 (b), .int .i64 (c), .string ⟨#[]⟩], .int .i64 0]) ?_ rfl ⟨by rw [HV.out], ?_⟩
    · clear HB1 HE HI HWh HF HV Hw HR0 HR1 HRA HRB HBA HD HB2
      simp [results, Tryz.results14, go_sem, d0, d1, d2, d3]
    · exact below_set4' HB2.out (Nat.le_succ _) _ _ _ _
  · have HV := Lib.hid (nextV_bad (a := a) (b := b) (c := c) (s := s) (p := 2) rfl hz)
    have hz' : (P.nextErr a b c s 2 != 0) = true := by simpa using hz
    generalize P.nextErr a b c s 2 = ee at *
    have HD := Lib.hid HD
    clear hz hraw
    have Hw := Lib.hid hw
    clear hw
    go_enter Tryz.func14, Tryz.ntmps14
    go_wp2_with fail
    refine (HE.out _ _ (by simp) (Hw.out.mono (below_start2 _ _ _))).mono ?_
    rintro e w1 ⟨rfl, hb1⟩
    have R0 := (((HasRow.new w _ _).alloc _).alloc _).below hb1
    have R1 := ((HasRow.new (w.alloc _) _ _).alloc _).below hb1
    simp only [World.size_alloc] at R1
    have HB1 := Lib.hid (below_step (below_step (below_start2 _ _ _) (below_alloc _ _)) hb1)
    obtain ⟨c0, c1, c2, c3, k0, k1, k2, k3, hlt0⟩ := row4 R0
    obtain ⟨d0, d1, d2, d3, f0, f1, f2, f3, hlt⟩ := row4 R1
    have HR0 := Lib.hid R0
    have HR1 := Lib.hid R1
    clear hb1 R0 R1
    go_wp2_with (first | (go_at_call 59; refine (HI.out _).mono ?_; rintro e w' ⟨rfl, rfl⟩) | (go_at_call 37; refine (HWh.out _).mono ?_; rintro e w' ⟨rfl, rfl⟩) | (go_at_call 10; refine (HF.out _ _ _ (by simp)).mono ?_; rintro e w' ⟨rfl, rfl⟩))
    have HRA := (HR0.out.set 3 (.string ⟨#[]⟩) (by simp))
    simp at HRA
    have HRA := Lib.hid HRA
    have HRB := Lib.hid (HR1.out.other (k' := w.heap.size) 3 (.string ⟨#[]⟩) (by omega))
    have HBA := Lib.hid (HB1.out.setCell (p := ⟨w.heap.size, 3, none⟩) (Nat.le_refl _) (.string ⟨#[]⟩))
    refine (HD.out _ _ (by simp [World.setCell]) ((Hw.out.mono HBA.out).mono (below_alloc _ _))).mono ?_
    rintro e w2 ⟨rfl, hb2⟩
    clear c0 c1 c2 c3 k0 k1 k2 k3 hlt0 d0 d1 d2 d3 f0 f1 f2 f3 hlt
    obtain ⟨c0, c1, c2, c3, k0, k1, k2, k3, hlt0⟩ := row4 (((HRA.out.alloc _).alloc _).below hb2)
    obtain ⟨d0, d1, d2, d3, f0, f1, f2, f3, hlt⟩ := row4 (((HRB.out.alloc _).alloc _).below hb2)
    have HB2 := Lib.hid (below_step (below_step (below_step HBA.out (below_alloc _ _)) (below_alloc _ _)) hb2)
    clear hb2
    go_wp2_with fail
    refine bodyPost_ret (v := .tuple #[.agg #[.int .i64 0, .int .i64 0, .int .i64 0, .string ⟨#[]⟩], .int .i64 ee]) ?_ rfl ⟨by rw [HV.out], ?_⟩
    · clear HB1 HE HI HWh HF HV Hw HR0 HR1 HRA HRB HBA HD HB2
      simp [results, Tryz.results14, go_sem, d0, d1, d2, d3]
    · exact below_set4' HB2.out (Nat.le_succ _) _ _ _ _

theorem nextOf_any (a b c : Int) (s : ByteArray) (p : Int) (hs : s.size ≤ 4294967280) (w : World) (hw : Good w) :
    Calls Tryz.prog 14 #[.agg #[.int .i64 a, .int .i64 b, .int .i64 c, .string s], .int .i64 p] w fun e w' => e = .returned (nextV a b c s p) ∧ Below w.heap.size w w' := by
  by_cases h : P.verr a b c s = 0
  · by_cases hp : p < 0 ∨ 2 < p
    · exact nextOf_part a b c s p hs w hw h hp
    · by_cases p0 : p = 0
      · subst p0; exact nextOf_zero a b c s hs w hw h
      · by_cases p1 : p = 1
        · subst p1; exact nextOf_one a b c s hs w hw h
        · obtain rfl : p = 2 := by omega
          cases he : s.toList.isEmpty
          · exact nextOf_same a b c s hs w hw h he
          · exact nextOf_new a b c s hs w hw h he
  · exact nextOf_bad a b c s p hs w hw h
end Go.Proofs.YtffblkkhjphcfaaGreatDoor
