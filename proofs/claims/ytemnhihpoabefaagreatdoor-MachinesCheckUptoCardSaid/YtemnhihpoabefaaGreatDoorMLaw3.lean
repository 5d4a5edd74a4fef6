/- Walks: the law MachinesCheck where the first machine is wrong. -/
import Derived.Test.YtemnhihpoabefaaGreatDoorMLaw2
import Derived.Deep.RegionHeld3
namespace Go.Proofs.YtemnhihpoabefaaGreatDoor
open Go.RowKit Go.Shelf

theorem keep_lo {W W' : World} {n : Nat} {k j : Nat} {v : Value} (hq : Below n W W') (hk : k < n) (h : W.cell? ⟨k, j, none⟩ = some v) : W'.cell? ⟨k, j, none⟩ = some v := by
  rw [hq.cell (p := ⟨k, j, none⟩) hk]; exact h
theorem store_lo {W : World} {n k : Nat} (hk : n ≤ k) (x y z u : Value) : Below n W ((((W.setCell ⟨k, 0, none⟩ x).setCell ⟨k, 1, none⟩ y).setCell ⟨k, 2, none⟩ z).setCell ⟨k, 3, none⟩ u) :=
  ((((Below.refl _ _).setCell (p := ⟨k, 0, none⟩) hk x).setCell (p := ⟨k, 1, none⟩) hk y).setCell (p := ⟨k, 2, none⟩) hk z).setCell (p := ⟨k, 3, none⟩) hk u
abbrev es : Value := .string ⟨#[]⟩
set_option maxRecDepth 100000 in
set_option maxHeartbeats 4000000 in
theorem law_bad (s1 s2 s3 s4 t1 t2 t3 t4 : Value) (n : ByteArray) (l : Value) (e f : Int) (he : e ≠ 0) (w : World)
    (hE : Says 10 #[.agg #[s1, s2, s3, s4]] (.int .i64 e) w) (hF : Says 10 #[.agg #[t1, t2, t3, t4]] (.int .i64 f) w)
    (h : ChecksTo (.agg #[s1, s2, s3, s4]) e w) :
    Calls Tryz.prog 3 #[.agg #[s1, s2, s3, s4], .agg #[t1, t2, t3, t4], .string n, l] w fun e w' => e = .returned (.bool true) ∧ Below w.heap.size w w' := by
  have HL := Lib.hid landed_any
  have HZ := Lib.hid zero_any
  have HE := Lib.hid hE
  have HF := Lib.hid hF
  have HC := Lib.hid h.2
  have HSize := Lib.hid (fun W hW => size_bad s1 s2 s3 s4 e he W (h.later hW))
  have HSum := Lib.hid (fun W hW => sum_bad s1 s2 s3 s4 e he W (h.later hW))
  have HPrint := Lib.hid (fun W hW => print_bad s1 s2 s3 s4 e he W (h.later hW))
  have HBoot := Lib.hid (fun W hW => boot_bad s1 s2 s3 s4 e he W (h.later hW))
  have HFact := Lib.hid (fun W hW => fact_bad s1 s2 s3 s4 e he n W (h.later hW))
  have HFile := Lib.hid (fun W hW => file_bad s1 s2 s3 s4 e he n W (h.later hW))
  have HSet := Lib.hid (fun W hW => setting_bad s1 s2 s3 s4 e he n W (h.later hW))
  have HSvc := Lib.hid (fun W hW => service_bad s1 s2 s3 s4 e he n W (h.later hW))
  have HBelow := Lib.hid (fun W hW => below_bad s1 s2 s3 s4 e he n W (h.later hW))
  have HApply := Lib.hid (fun W hW => apply_bad s1 s2 s3 s4 e he l W (h.later hW))
  have HUndo := Lib.hid (fun W hW => undo_bad s1 s2 s3 s4 e he l W (h.later hW))
  have HDiff := Lib.hid (fun W hW => diff_bad s1 s2 s3 s4 e he (.agg #[t1, t2, t3, t4]) ⟨_, _, _, _, rfl⟩ W (h.later hW))
  have HNew := Lib.hid (fun W hW => newDisk_bad s1 s2 s3 s4 e he W (h.later hW))
  have g : (e == 0) = false := by simpa using he
  clear hE hF h he
  have HA0 := Lib.hid ((HasRow.new w #[s1, s2, s3, s4] 26).alloc (.cells #[t1, t2, t3, t4] 26))
  have HB0 := Lib.hid (HasRow.new (w.alloc (.cells #[s1, s2, s3, s4] 26)) #[t1, t2, t3, t4] 26)
  have HX0 := Lib.hid (below2 w (.cells #[s1, s2, s3, s4] 26) (.cells #[t1, t2, t3, t4] 26))
  go_enter Tryz.func3, Tryz.ntmps3
  go_wp2_with fail
  refine (HL.out _).mono ?_
  rintro x w0 ⟨rfl, hw0⟩
  rw [hw0] at HA0 HB0 HX0
  rw [World.size_alloc] at HB0
  have hS := k9_start HA0.out HB0.out HX0.out
  have HM := Lib.hid HB0.out.lt
  clear hw0
  go_wp2_with fail
  go_region_held3 (fun W => W.cell? ⟨w.heap.size, 0, none⟩ = some s1 ∧ W.cell? ⟨w.heap.size, 1, none⟩ = some s2 ∧ W.cell? ⟨w.heap.size, 2, none⟩ = some s3 ∧ W.cell? ⟨w.heap.size, 3, none⟩ = some s4 ∧ W.cell? ⟨w.heap.size + 1, 0, none⟩ = some t1 ∧ W.cell? ⟨w.heap.size + 1, 1, none⟩ = some t2 ∧ W.cell? ⟨w.heap.size + 1, 2, none⟩ = some t3 ∧ W.cell? ⟨w.heap.size + 1, 3, none⟩ = some t4 ∧ Below w.heap.size w W)
    (first | with_reducible assumption)
    (first
      | (go_at_call 10; refine (HF.out _ hB4).mono ?_; rintro x w5 ⟨rfl, hb2⟩; have hS5 := k9_keep hS4 hb2; have hM5 := Nat.le_trans hM4 hb2.size)
      | (go_at_call 10; refine (HE.out _ HX0.out.drew).mono ?_; rintro x w4 ⟨rfl, hb1⟩; have hS4 := k9_keep hS hb1; have hB4 := bstep HX0.out.drew hb1; have hM4 := Nat.le_trans (Nat.succ_le_of_lt HM.out) hb1.size))
  obtain ⟨r1, r2, r3, r4, q1, q2, q3, q4, hB5⟩ := hS5
  have HB5 := Lib.hid hB5
  have HM5 := Lib.hid hM5
  clear hS hS4 hB4 hb1 hb2 hB5 HA0 HB0 HX0 hM4 hM5 HM HE HF
  go_wp2_with fail
  refine (HC.out _ HB5.out).mono ?_
  rintro x w6 ⟨rfl, hb⟩
  replace r1 := cell_keep hb r1
  replace r2 := cell_keep hb r2
  replace r3 := cell_keep hb r3
  replace r4 := cell_keep hb r4
  replace q1 := cell_keep hb q1
  replace q2 := cell_keep hb q2
  replace q3 := cell_keep hb q3
  replace q4 := cell_keep hb q4
  have HB6 := Lib.hid (bstep HB5.out hb)
  have HM6 := Lib.hid (Nat.le_trans HM5.out hb.size)
  clear hb HB5 HM5 HC
  go_wp2_with fail
  refine (HSize.out _ HB6.out).mono ?_
  rintro x w7 ⟨rfl, hb⟩
  replace r1 := cell_keep hb r1
  replace r2 := cell_keep hb r2
  replace r3 := cell_keep hb r3
  replace r4 := cell_keep hb r4
  replace q1 := cell_keep hb q1
  replace q2 := cell_keep hb q2
  replace q3 := cell_keep hb q3
  replace q4 := cell_keep hb q4
  have HB7 := Lib.hid (bstep HB6.out hb)
  have HM7 := Lib.hid (Nat.le_trans HM6.out hb.size)
  clear hb HB6 HM6 HSize
  go_wp2_with fail
  refine (HSum.out _ HB7.out).mono ?_
  rintro x w8 ⟨rfl, hb⟩
  replace r1 := cell_keep hb r1
  replace r2 := cell_keep hb r2
  replace r3 := cell_keep hb r3
  replace r4 := cell_keep hb r4
  replace q1 := cell_keep hb q1
  replace q2 := cell_keep hb q2
  replace q3 := cell_keep hb q3
  replace q4 := cell_keep hb q4
  have HB8 := Lib.hid (bstep HB7.out hb)
  have HM8 := Lib.hid (Nat.le_trans HM7.out hb.size)
  clear hb HB7 HM7 HSum
  go_wp2_with fail
  refine (HPrint.out _ HB8.out).mono ?_
  rintro x w9 ⟨rfl, hb⟩
  replace r1 := cell_keep hb r1
  replace r2 := cell_keep hb r2
  replace r3 := cell_keep hb r3
  replace r4 := cell_keep hb r4
  replace q1 := cell_keep hb q1
  replace q2 := cell_keep hb q2
  replace q3 := cell_keep hb q3
  replace q4 := cell_keep hb q4
  have HB9 := Lib.hid (bstep HB8.out hb)
  have HM9 := Lib.hid (Nat.le_trans HM8.out hb.size)
  clear hb HB8 HM8 HPrint
  go_wp2_with fail
  refine (HBoot.out _ HB9.out).mono ?_
  rintro x w10 ⟨rfl, hb⟩
  replace r1 := cell_keep hb r1
  replace r2 := cell_keep hb r2
  replace r3 := cell_keep hb r3
  replace r4 := cell_keep hb r4
  replace q1 := cell_keep hb q1
  replace q2 := cell_keep hb q2
  replace q3 := cell_keep hb q3
  replace q4 := cell_keep hb q4
  have HB10 := Lib.hid (bstep HB9.out hb)
  have HM10 := Lib.hid (Nat.le_trans HM9.out hb.size)
  clear hb HB9 HM9 HBoot
  go_wp2_with fail
  refine (HZ.out _).mono ?_
  rintro x w11 ⟨rfl, hz⟩
  have hb := bstep (below_alloc w10 (.cells mz 26)) hz
  have RN := Lib.hid ((HasRow.new w10 mz 26).below hz)
  clear hz
  replace r1 := cell_keep hb r1
  replace r2 := cell_keep hb r2
  replace r3 := cell_keep hb r3
  replace r4 := cell_keep hb r4
  replace q1 := cell_keep hb q1
  replace q2 := cell_keep hb q2
  replace q3 := cell_keep hb q3
  replace q4 := cell_keep hb q4
  have HB11 := Lib.hid (bstep HB10.out hb)
  have HM11 := Lib.hid (Nat.le_trans HM10.out hb.size)
  clear hb HB10
  go_wp2_with fail
  refine (HFact.out _ HB11.out).mono ?_
  rintro x w12 ⟨rfl, hb⟩
  replace r1 := cell_keep hb r1
  replace r2 := cell_keep hb r2
  replace r3 := cell_keep hb r3
  replace r4 := cell_keep hb r4
  replace q1 := cell_keep hb q1
  replace q2 := cell_keep hb q2
  replace q3 := cell_keep hb q3
  replace q4 := cell_keep hb q4
  have HB12 := Lib.hid (bstep HB11.out hb)
  have HM12 := Lib.hid (Nat.le_trans HM11.out hb.size)
  replace RN := Lib.hid (RN.out.below hb)
  clear hb HB11 HM11 HFact
  go_wp2_with fail
  refine (HFile.out _ HB12.out).mono ?_
  rintro x w13 ⟨rfl, hb⟩
  replace r1 := cell_keep hb r1
  replace r2 := cell_keep hb r2
  replace r3 := cell_keep hb r3
  replace r4 := cell_keep hb r4
  replace q1 := cell_keep hb q1
  replace q2 := cell_keep hb q2
  replace q3 := cell_keep hb q3
  replace q4 := cell_keep hb q4
  have HB13 := Lib.hid (bstep HB12.out hb)
  have HM13 := Lib.hid (Nat.le_trans HM12.out hb.size)
  replace RN := Lib.hid (RN.out.below hb)
  clear hb HB12 HM12 HFile
  have hl1 : w.heap.size < w13.heap.size := Nat.lt_of_succ_lt HM13.out
  have hl2 : w.heap.size + 1 < w13.heap.size := HM13.out
  go_wp2_with fail
  refine (HSet.out _ (bstep HB13.out (below_alloc _ _))).mono ?_
  rintro x w14 ⟨rfl, hz⟩
  have hb := bstep (below_alloc w13 (.cells #[es, es, .bool false] 42)) hz
  have RF := Lib.hid ((HasRow.new w13 #[es, es, .bool false] 42).below hz)
  clear hz hl1 hl2
  replace r1 := cell_keep hb r1
  replace r2 := cell_keep hb r2
  replace r3 := cell_keep hb r3
  replace r4 := cell_keep hb r4
  replace q1 := cell_keep hb q1
  replace q2 := cell_keep hb q2
  replace q3 := cell_keep hb q3
  replace q4 := cell_keep hb q4
  have HB14 := Lib.hid (bstep HB13.out hb)
  have HM14 := Lib.hid (Nat.le_trans HM13.out hb.size)
  replace RN := Lib.hid (RN.out.below hb)
  clear hb HB13 HM13 HSet
  go_wp2_with fail
  refine (HSvc.out _ HB14.out).mono ?_
  rintro x w15 ⟨rfl, hb⟩
  replace r1 := cell_keep hb r1
  replace r2 := cell_keep hb r2
  replace r3 := cell_keep hb r3
  replace r4 := cell_keep hb r4
  replace q1 := cell_keep hb q1
  replace q2 := cell_keep hb q2
  replace q3 := cell_keep hb q3
  replace q4 := cell_keep hb q4
  have HB15 := Lib.hid (bstep HB14.out hb)
  have HM15 := Lib.hid (Nat.le_trans HM14.out hb.size)
  replace RN := Lib.hid (RN.out.below hb)
  replace RF := Lib.hid (RF.out.below hb)
  clear hb HB14 HM14 HSvc
  have hl1 : w.heap.size < w15.heap.size := Nat.lt_of_succ_lt HM15.out
  have hl2 : w.heap.size + 1 < w15.heap.size := HM15.out
  go_wp2_with fail
  refine (HBelow.out _ (bstep HB15.out (below_alloc _ _))).mono ?_
  rintro x w16 ⟨rfl, hz⟩
  have hb := bstep (below_alloc w15 (.cells #[es, es, .bool false, .bool false] 46)) hz
  have RS := Lib.hid ((HasRow.new w15 #[es, es, .bool false, .bool false] 46).below hz)
  clear hz hl1 hl2
  replace r1 := cell_keep hb r1
  replace r2 := cell_keep hb r2
  replace r3 := cell_keep hb r3
  replace r4 := cell_keep hb r4
  replace q1 := cell_keep hb q1
  replace q2 := cell_keep hb q2
  replace q3 := cell_keep hb q3
  replace q4 := cell_keep hb q4
  have HB16 := Lib.hid (bstep HB15.out hb)
  have HM16 := Lib.hid (Nat.le_trans HM15.out hb.size)
  replace RN := Lib.hid (RN.out.below hb)
  replace RF := Lib.hid (RF.out.below hb)
  clear hb HB15 HM15 HBelow
  obtain ⟨a0, a1, a2, _⟩ := hrow3 RF.out
  obtain ⟨b0, b1, b2, b3, _⟩ := hrow4 RS.out
  go_wp2_with fail
  refine (HApply.out _ HB16.out).mono ?_
  rintro x w17 ⟨rfl, hb⟩
  clear a0 a1 a2 b0 b1 b2 b3 RF RS
  replace r1 := cell_keep hb r1
  replace r2 := cell_keep hb r2
  replace r3 := cell_keep hb r3
  replace r4 := cell_keep hb r4
  replace q1 := cell_keep hb q1
  replace q2 := cell_keep hb q2
  replace q3 := cell_keep hb q3
  replace q4 := cell_keep hb q4
  have HB17 := Lib.hid (bstep HB16.out hb)
  have HM17 := Lib.hid (Nat.le_trans HM16.out hb.size)
  replace RN := Lib.hid (RN.out.below hb)
  clear hb HB16 HM16 HApply
  obtain ⟨c0, c1, c2, c3, hlt⟩ := hrow4 RN.out
  have f0 := RN.out.free 0
  have f1 := RN.out.free 1
  have f2 := RN.out.free 2
  have f3 := RN.out.free 3
  have hge : w.heap.size + 2 ≤ w10.heap.size := HM10.out
  have hn1 : w.heap.size ≠ w10.heap.size := by omega
  have hn2 : w.heap.size + 1 ≠ w10.heap.size := by omega
  have ST := Lib.hid (store4 RN.out HB17.out (by omega) (.slice none 0 0) (.slice none 0 0) (.slice none 0 0) (.slice none 0 0))
  go_wp2_with fail
  have BL := store_lo (W := w17) hge (.slice none 0 0) (.slice none 0 0) (.slice none 0 0) (.slice none 0 0)
  replace r1 := keep_lo BL (by omega) r1
  replace r2 := keep_lo BL (by omega) r2
  replace r3 := keep_lo BL (by omega) r3
  replace r4 := keep_lo BL (by omega) r4
  replace q1 := keep_lo BL (by omega) q1
  replace q2 := keep_lo BL (by omega) q2
  replace q3 := keep_lo BL (by omega) q3
  replace q4 := keep_lo BL (by omega) q4
  refine (HUndo.out _ ST.out.2).mono ?_
  rintro x w18 ⟨rfl, hb⟩
  replace r1 := cell_keep hb r1
  replace r2 := cell_keep hb r2
  replace r3 := cell_keep hb r3
  replace r4 := cell_keep hb r4
  replace q1 := cell_keep hb q1
  replace q2 := cell_keep hb q2
  replace q3 := cell_keep hb q3
  replace q4 := cell_keep hb q4
  have HB18 := Lib.hid (bstep ST.out.2 hb)
  replace RN := Lib.hid (ST.out.1.below hb)
  clear hb HB17 HM17 HUndo ST BL c0 c1 c2 c3 hlt f0 f1 f2 f3 hge hn1 hn2
  go_wp2_with fail
  refine (HDiff.out _ HB18.out).mono ?_
  rintro x w19 ⟨rfl, hb⟩
  replace r1 := cell_keep hb r1
  replace r2 := cell_keep hb r2
  replace r3 := cell_keep hb r3
  replace r4 := cell_keep hb r4
  replace q1 := cell_keep hb q1
  replace q2 := cell_keep hb q2
  replace q3 := cell_keep hb q3
  replace q4 := cell_keep hb q4
  have HB19 := Lib.hid (bstep HB18.out hb)
  replace RN := Lib.hid (RN.out.below hb)
  clear hb HB18 HDiff
  go_wp2_with fail
  refine (HNew.out _ HB19.out).mono ?_
  rintro x w20 ⟨rfl, hb⟩
  have HB20 := Lib.hid (bstep HB19.out hb)
  replace RN := Lib.hid (RN.out.below hb)
  clear hb HB19 HNew r1 r2 r3 r4 q1 q2 q3 q4
  obtain ⟨c0, c1, c2, c3, hlt⟩ := hrow4 RN.out
  go_wp2_with fail
  refine (HZ.out _).mono ?_
  rintro x w21 ⟨rfl, hb⟩
  have HB21 := Lib.hid (bstep HB20.out hb)
  clear hb HB20 c0 c1 c2 c3 hlt
  go_wp2_with fail
  go_ret
  exact ⟨rfl, HB21.out⟩
theorem says_of {A : Ad} {m : P.Mach} (hf : m.fit) {w : World} (hw : Good w) (hl : Lies w.heap.size w A m) : Says 10 #[machV A m] (.int .i64 (P.machErr m)) w :=
  fun W hb => rcheck_any A m hf W (hw.mono hb) ((hl.below hb).up hb.size)
theorem law_any (A B : Ad) (a b : P.Mach) (hfa : a.fit) (hfb : b.fit) (n : ByteArray) (l : Value) (w : World) (hw : Good w) (hla : Lies w.heap.size w A a) (hlb : Lies w.heap.size w B b) :
    Calls Tryz.prog 3 #[machV A a, machV B b, .string n, l] w fun e w' => e = .returned (.bool true) ∧ Below w.heap.size w w' := by
  have CA := ChecksTo.of A a hfa w hw hla
  have CB := ChecksTo.of B b hfb w hw hlb
  by_cases he : P.machErr a = 0
  · have SA := says_of hfa hw hla
    have SB := says_of hfb hw hlb
    rw [he] at SA
    refine law_good _ _ _ _ _ _ _ _ n l (P.machErr b) w SA SB (fun W hW => ?_) (fun W hW => ?_)
    · have := CA.2 W hW
      rwa [he] at this
    · by_cases hf : P.machErr b = 0
      · refine (diff_runs A B a b hfa hfb W (hw.mono hW) ((hla.below hW).up hW.size) ((hlb.below hW).up hW.size) he hf).mono ?_
        rintro e w' ⟨p, k, c, x, h1, h2⟩
        exact ⟨p, k, c, x, h1, fun h => absurd hf h, h2⟩
      · have CA' := CA.later hW
        rw [he] at CA'
        refine (diff_bad2 _ _ _ _ _ _ _ _ (P.machErr b) hf W CA' (CB.later hW)).mono ?_
        rintro e w' ⟨h1, h2⟩
        exact ⟨_, _, _, _, h1, fun _ => ⟨rfl, rfl⟩, h2⟩
  · exact law_bad _ _ _ _ _ _ _ _ n l (P.machErr a) (P.machErr b) he w (says_of hfa hw hla) (says_of hfb hw hlb) CA
end Go.Proofs.YtemnhihpoabefaaGreatDoor
