/- Walks: VersionsMatch where the first version alone is right. -/
import Derived.Test.YtffblkkhjphcfaaGreatDoorLawB
namespace Go.Proofs.YtffblkkhjphcfaaGreatDoor
open Go.RowKit Go.Shelf

set_option maxRecDepth 100000 in
set_option maxHeartbeats 16000000 in
theorem law_half (a1 a2 a3 b1 b2 b3 p : Int) (a4 b4 t : ByteArray) (ha : a4.size ≤ 1048576) (hb : b4.size ≤ 1048576) (ht : t.size ≤ 1048576) (w : World) (hw : Good w)
    (h1 : P.verr a1 a2 a3 a4 = 0) (h2 : P.verr b1 b2 b3 b4 ≠ 0) :
    Calls Tryz.prog 3 #[.agg #[.int .i64 a1, .int .i64 a2, .int .i64 a3, .string a4], .agg #[.int .i64 b1, .int .i64 b2, .int .i64 b3, .string b4], .int .i64 p, .string t] w fun e w' =>
      e = .returned (.bool true) ∧ Below w.heap.size w w' := by
  have HE := fun nb W hn hW => verr1_at a1 a2 a3 a4 (by omega) nb W hn hW
  have HEb := fun nb W hn hW => verr1_at b1 b2 b3 b4 (by omega) nb W hn hW
  have HP := fun W hW => print_any a1 a2 a3 a4 (by omega) W hW
  have HC := fun W hW => compare_any a1 a2 a3 b1 b2 b3 a4 b4 (by omega) (by omega) W hW
  have HN := fun W hW => next_any a1 a2 a3 a4 p (by omega) W hW
  have HO := fun W hW => nextOf_any a1 a2 a3 a4 p (by omega) W hW
  have HK := fun W hW => check_any a1 a2 a3 a4 (by omega) W hW
  have HT := fun W hW => versionText_any a1 a2 a3 a4 (verr_zero h1) (by omega) W hW
  have HR := fun W hW => parse_any t (by omega) W hW
  have HW := fun W hW => readVersion_any t (by omega) W hW
  have HS := fun W hW => parse_any (printS a1 a2 a3 a4) (print_size ha) W hW
  rw [print_read h1] at HS
  rw [h1] at HE HP HK
  rw [h1] at HC
  rw [if_neg (fun h => h2 h.2), if_pos rfl] at HC
  rw [← show printS a1 a2 a3 a4 = ⟨(P.vtextL a1 a2 a3 a4.data.toList).toArray⟩ from if_pos h1] at HT
  obtain ⟨n1, n2, n3, n4, ne, hn⟩ := nextV_form a1 a2 a3 a4 p
  rw [hn] at HN HO
  obtain ⟨v1, v2, v3, v4, ve, hv⟩ := parseR_form (P.readV t)
  rw [hv] at HR HW
  have HF := fun nb W t hn => first2_at 0 (P.verr b1 b2 b3 b4) nb W t hn
  rw [show P.orI [0, P.verr b1 b2 b3 b4] = P.verr b1 b2 b3 b4 from orI_right _] at HF
  have g1 : (P.verr b1 b2 b3 b4 != 0) = true := by simpa using h2
  generalize P.verr b1 b2 b3 b4 = eb at *
  generalize printS a1 a2 a3 a4 = ps at *
  have HI1 := fun W => isName_any t (by omega) W
  have HI2 := fun W => nameOf_any t (by omega) W
  have HI3 := fun W hW => isPath_any t (by omega) W hW
  have HI4 := fun W hW => pathOf_any t (by omega) W hW
  have HI5 := fun W => isValue_any t (by omega) W
  have HI6 := fun W => valueOf_any t (by omega) W
  generalize P.nameS t = x1 at *
  generalize P.pathS t = x2 at *
  generalize P.valueS t = x3 at *
  replace HE := Lib.hid HE
  replace HEb := Lib.hid HEb
  replace HP := Lib.hid HP
  replace HC := Lib.hid HC
  replace HN := Lib.hid HN
  replace HO := Lib.hid HO
  replace HK := Lib.hid HK
  replace HT := Lib.hid HT
  replace HR := Lib.hid HR
  replace HW := Lib.hid HW
  replace HS := Lib.hid HS
  replace HF := Lib.hid HF
  replace HI1 := Lib.hid HI1
  replace HI2 := Lib.hid HI2
  replace HI3 := Lib.hid HI3
  replace HI4 := Lib.hid HI4
  replace HI5 := Lib.hid HI5
  replace HI6 := Lib.hid HI6
  have HV := Lib.hid (fun W hW => versions_any W hW)
  have Hw := Lib.hid hw
  clear hw h1 hn hv ha hb ht
  go_enter Tryz.func3, Tryz.ntmps3
  go_wp2_with fail
  refine (HE.out _ _ (by simp) (Hw.out.mono (below_start2 _ _ _))).mono ?_
  rintro e w1 ⟨rfl, hb1⟩
  have R0 := (((HasRow.new w _ _).alloc _).alloc _).below hb1
  have R1 := ((HasRow.new (w.alloc _) _ _).alloc _).below hb1
  simp only [World.size_alloc] at R1
  have HB := Lib.hid (below_step (below_step (below_start2 _ _ _) (below_alloc _ _)) hb1)
  obtain ⟨c0, c1, c2, c3, k0, k1, k2, k3, hlt0⟩ := row4 R0
  obtain ⟨d0, d1, d2, d3, f0, f1, f2, f3, hlt⟩ := row4 R1
  have HRA := Lib.hid R0
  have HRB := Lib.hid R1
  clear hb1 R0 R1
  go_wp2_with fail
  refine (HEb.out _ _ (by simp) (Hw.out.mono HB.out)).mono ?_
  rintro e w2 ⟨rfl, hb2⟩
  replace HRA := Lib.hid ((HRA.out.alloc _).below hb2)
  replace HRB := Lib.hid ((HRB.out.alloc _).below hb2)
  replace HB := Lib.hid (below_step (below_step HB.out (below_alloc _ _)) hb2)
  clear c0 c1 c2 c3 k0 k1 k2 k3 hlt0 d0 d1 d2 d3 f0 f1 f2 f3 hlt hb2
  obtain ⟨c0, c1, c2, c3, k0, k1, k2, k3, hlt0⟩ := row4 HRA.out
  obtain ⟨d0, d1, d2, d3, f0, f1, f2, f3, hlt⟩ := row4 HRB.out
  go_wp2_with (go_at_call 10; refine (HF.out _ _ _ (by simp)).mono ?_; rintro e w' ⟨rfl, rfl⟩)
  refine (HP.out _ ((Hw.out.mono HB.out).mono (below_alloc _ _))).mono ?_
  rintro e w3 ⟨rfl, hb3⟩
  replace HRA := Lib.hid ((HRA.out.alloc _).below hb3)
  replace HRB := Lib.hid ((HRB.out.alloc _).below hb3)
  replace HB := Lib.hid (below_step (below_step HB.out (below_alloc _ _)) hb3)
  clear c0 c1 c2 c3 k0 k1 k2 k3 hlt0 d0 d1 d2 d3 f0 f1 f2 f3 hlt hb3
  obtain ⟨c0, c1, c2, c3, k0, k1, k2, k3, hlt0⟩ := row4 HRA.out
  obtain ⟨d0, d1, d2, d3, f0, f1, f2, f3, hlt⟩ := row4 HRB.out
  go_wp2_with fail
  refine (HC.out _ (Hw.out.mono HB.out)).mono ?_
  rintro e w4 ⟨rfl, hb4⟩
  replace HRA := Lib.hid (HRA.out.below hb4)
  replace HRB := Lib.hid (HRB.out.below hb4)
  replace HB := Lib.hid (below_step HB.out hb4)
  clear c0 c1 c2 c3 k0 k1 k2 k3 hlt0 d0 d1 d2 d3 f0 f1 f2 f3 hlt hb4
  obtain ⟨c0, c1, c2, c3, k0, k1, k2, k3, hlt0⟩ := row4 HRA.out
  go_wp2_with fail
  refine (HN.out _ (Hw.out.mono HB.out)).mono ?_
  rintro e w5 ⟨rfl, hb5⟩
  replace HRA := Lib.hid (HRA.out.below hb5)
  replace HRB := Lib.hid (HRB.out.below hb5)
  replace HB := Lib.hid (below_step HB.out hb5)
  clear c0 c1 c2 c3 k0 k1 k2 k3 hlt0 hb5
  obtain ⟨c0, c1, c2, c3, k0, k1, k2, k3, hlt0⟩ := row4 HRA.out
  go_wp2_with fail
  refine (HO.out _ ((Hw.out.mono HB.out).mono (below_alloc _ _))).mono ?_
  rintro e w6 ⟨rfl, hb6⟩
  have HRN := Lib.hid ((HasRow.new w5 _ _).below hb6)
  replace HRA := Lib.hid ((HRA.out.alloc _).below hb6)
  replace HRB := Lib.hid ((HRB.out.alloc _).below hb6)
  replace HB := Lib.hid (below_step (below_step HB.out (below_alloc _ _)) hb6)
  clear c0 c1 c2 c3 k0 k1 k2 k3 hlt0 hb6
  go_wp2_with fail
  refine (HV.out _ ((Hw.out.mono HB.out).mono (below_alloc _ _))).mono ?_
  rintro e w7 ⟨rfl, hb7⟩
  have HRM := Lib.hid ((HasRow.new w6 _ _).below hb7)
  replace HRN := Lib.hid ((HRN.out.alloc _).below hb7)
  replace HRA := Lib.hid ((HRA.out.alloc _).below hb7)
  replace HRB := Lib.hid ((HRB.out.alloc _).below hb7)
  replace HB := Lib.hid (below_step (below_step HB.out (below_alloc _ _)) hb7)
  clear hb7
  obtain ⟨c0, c1, c2, c3, k0, k1, k2, k3, hlt0⟩ := row4 HRA.out
  go_wp2_with fail
  refine (HK.out _ (Hw.out.mono HB.out)).mono ?_
  rintro e w8 ⟨rfl, hb8⟩
  replace HRM := Lib.hid (HRM.out.below hb8)
  replace HRN := Lib.hid (HRN.out.below hb8)
  replace HRA := Lib.hid (HRA.out.below hb8)
  replace HRB := Lib.hid (HRB.out.below hb8)
  replace HB := Lib.hid (below_step HB.out hb8)
  clear c0 c1 c2 c3 k0 k1 k2 k3 hlt0 hb8
  obtain ⟨c0, c1, c2, c3, k0, k1, k2, k3, hlt0⟩ := row4 HRN.out
  obtain ⟨d0, d1, d2, d3, f0, f1, f2, f3, hlt⟩ := row4 HRM.out
  go_wp2_with (go_at_call 17; refine (HI1.out _).mono ?_; rintro e w' ⟨rfl, rfl⟩)
  clear HRN HRM
  clear c0 c1 c2 c3 k0 k1 k2 k3 hlt0
  clear d0 d1 d2 d3 f0 f1 f2 f3 hlt
  refine (HI2.out _).mono ?_
  rintro e w9 ⟨rfl, hb9⟩
  replace HRA := Lib.hid ((HRA.out).below hb9)
  replace HRB := Lib.hid ((HRB.out).below hb9)
  replace HB := Lib.hid (below_step HB.out hb9)
  clear hb9
  go_wp2_with fail
  refine (HI3.out _ (Hw.out.mono HB.out)).mono ?_
  rintro e w10 ⟨rfl, hb10⟩
  replace HRA := Lib.hid ((HRA.out).below hb10)
  replace HRB := Lib.hid ((HRB.out).below hb10)
  replace HB := Lib.hid (below_step HB.out hb10)
  clear hb10
  go_wp2_with fail
  refine (HI4.out _ (Hw.out.mono HB.out)).mono ?_
  rintro e w11 ⟨rfl, hb11⟩
  replace HRA := Lib.hid ((HRA.out).below hb11)
  replace HRB := Lib.hid ((HRB.out).below hb11)
  replace HB := Lib.hid (below_step HB.out hb11)
  clear hb11
  obtain ⟨c0, c1, c2, c3, k0, k1, k2, k3, hlt0⟩ := row4 HRA.out
  obtain ⟨d0, d1, d2, d3, f0, f1, f2, f3, hlt⟩ := row4 HRB.out
  go_wp2_with (first | (go_at_call 21; refine (HI5.out _).mono ?_; rintro e w' ⟨rfl, rfl⟩) | (go_at_call 22; refine (HI6.out _).mono ?_; rintro e w' ⟨rfl, rfl⟩))
  clear c0 c1 c2 c3 k0 k1 k2 k3 hlt0
  clear d0 d1 d2 d3 f0 f1 f2 f3 hlt
  refine (HT.out _ (Hw.out.mono HB.out)).mono ?_
  rintro e w12 ⟨rfl, hb12⟩
  replace HRA := Lib.hid ((HRA.out).below hb12)
  replace HRB := Lib.hid ((HRB.out).below hb12)
  replace HB := Lib.hid (below_step HB.out hb12)
  clear hb12
  clear HRB
  go_wp2_with fail
  refine (HR.out _ (Hw.out.mono HB.out)).mono ?_
  rintro e w14 ⟨rfl, hb14⟩
  replace HRA := Lib.hid ((HRA.out).below hb14)
  replace HB := Lib.hid (below_step HB.out hb14)
  clear hb14
  go_wp2_with fail
  refine (HW.out _ ((Hw.out.mono HB.out).mono (below_alloc _ _))).mono ?_
  rintro e w15 ⟨rfl, hb15⟩
  have hAV : w.heap.size < w14.heap.size := HRA.out.lt
  have HRV := Lib.hid ((HasRow.new w14 _ _).below hb15)
  replace HRA := Lib.hid ((HRA.out.alloc _).below hb15)
  replace HB := Lib.hid (below_step (below_step HB.out (below_alloc _ _)) hb15)
  clear hb15
  obtain ⟨d0, d1, d2, d3, f0, f1, f2, f3, hlt⟩ := row4 HRV.out
  go_wp2_with fail
  clear d0 d1 d2 d3 f0 f1 f2 f3 hlt
  refine (HS.out _ ((Hw.out.mono HB.out).mono (below_alloc _ _))).mono ?_
  rintro e w16 ⟨rfl, hb16⟩
  replace HRV := Lib.hid ((HRV.out.alloc _).below hb16)
  replace HRA := Lib.hid ((HRA.out.alloc _).below hb16)
  replace HB := Lib.hid (below_step (below_step HB.out (below_alloc _ _)) hb16)
  clear hb16
  have HRA2 := Lib.hid (over_row HRA.out (Nat.ne_of_lt hAV) (.int .i64 a1) (.int .i64 a2) (.int .i64 a3) (.string a4))
  obtain ⟨c0, c1, c2, c3, _, _, _, _, hlt0⟩ := row4 HRA2.out
  unfold over at c0 c1 c2 c3 hlt0
  simp at hlt0
  have HB2 := Lib.hid (over_below HB.out (Nat.le_of_lt hAV) (.int .i64 a1) (.int .i64 a2) (.int .i64 a3) (.string a4))
  obtain ⟨d0, d1, d2, d3, f0, f1, f2, f3, hlt⟩ := row4 HRV.out
  go_wp2
  go_ret
  exact ⟨rfl, HB2.out⟩
end Go.Proofs.YtffblkkhjphcfaaGreatDoor
