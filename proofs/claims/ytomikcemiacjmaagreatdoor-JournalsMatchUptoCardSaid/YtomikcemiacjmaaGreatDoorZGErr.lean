/- Walks: outref1's ChangeError, kinds 1 to 3. -/
import Derived.Test.YtomikcemiacjmaaGreatDoorZGPure

namespace Go.Proofs.YtomikcemiacjmaaGreatDoor
open Go.RowKit Go.Lib Go.Shelf

set_option maxRecDepth 100000 in
set_option maxHeartbeats 40000000 in
theorem changeError1 (fp fd sk sv vn vp : ByteArray) (fr va vo : Bool) (hs : P.CSm 4294967280 ⟨1, ⟨fp, fd, fr⟩, ⟨sk, sv⟩, ⟨vn, vp, va, vo⟩⟩) (w : World) (hw : Good w) :
    Calls Tryz.prog 44 #[.agg #[.int .i64 1, .string fp, .string fd, .bool fr, .string sk, .string sv, .string vn, .string vp, .bool va, .bool vo]] w fun e w' => e = .returned (.int .i64 (P.chE ⟨1, ⟨fp, fd, fr⟩, ⟨sk, sv⟩, ⟨vn, vp, va, vo⟩⟩)) ∧ Below w.heap.size w w' := by
    have HO := Lib.hid (fun a b nb W hn => rfirst2 a b nb W hn)
    have HN := Lib.hid rwhen_any
    have HW := Lib.hid hw
    rcases empty_cases sk with rfl | ⟨hd, hd2⟩
    · rcases empty_cases sv with rfl | ⟨hd, hd2⟩
      · rcases empty_cases vn with rfl | ⟨hd, hd2⟩
        · rcases empty_cases vp with rfl | ⟨hd, hd2⟩
          · cases va
            · cases vo
              · have hr : P.chE ⟨1, ⟨fp, fd, fr⟩, ⟨⟨#[]⟩, ⟨#[]⟩⟩, ⟨⟨#[]⟩, ⟨#[]⟩, false, false⟩⟩ = P.orE (P.thE ⟨1, ⟨fp, fd, fr⟩, ⟨⟨#[]⟩, ⟨#[]⟩⟩, ⟨⟨#[]⟩, ⟨#[]⟩, false, false⟩⟩) 0 := by unfold P.chE; rw [show P.eqC ⟨1, ⟨fp, fd, fr⟩, ⟨⟨#[]⟩, ⟨#[]⟩⟩, ⟨⟨#[]⟩, ⟨#[]⟩, false, false⟩⟩ (P.needed ⟨1, ⟨fp, fd, fr⟩, ⟨⟨#[]⟩, ⟨#[]⟩⟩, ⟨⟨#[]⟩, ⟨#[]⟩, false, false⟩⟩) = true from by simp [P.eqC, P.needed, P.st0, P.sv0]]; rfl
                have HE := Lib.hid (fun W hW => rfileError_any ⟨fp, fd, fr⟩ hs.fp hs.fd W hW)
                rw [show P.thE ⟨1, ⟨fp, fd, fr⟩, ⟨⟨#[]⟩, ⟨#[]⟩⟩, ⟨⟨#[]⟩, ⟨#[]⟩, false, false⟩⟩ = P.fileErr ⟨fp, fd, fr⟩ from rfl] at hr
                rw [hr]
                clear hr hs
                generalize P.fileErr ⟨fp, fd, fr⟩ = a at *
                have HB0 := Lib.hid (below2 w (.cells #[.int .i64 1, .string fp, .string fd, .bool fr, .string ⟨#[]⟩, .string ⟨#[]⟩, .string ⟨#[]⟩, .string ⟨#[]⟩, .bool false, .bool false] 73) (.cells #[.int .i64 0, .string fp, .string fd, .bool fr, .string ⟨#[]⟩, .string ⟨#[]⟩, .string ⟨#[]⟩, .string ⟨#[]⟩, .bool false, .bool false] 73))
                have HR0 := Lib.hid (HasRow.new (w.alloc (.cells #[.int .i64 1, .string fp, .string fd, .bool fr, .string ⟨#[]⟩, .string ⟨#[]⟩, .string ⟨#[]⟩, .string ⟨#[]⟩, .bool false, .bool false] 73)) #[.int .i64 0, .string fp, .string fd, .bool fr, .string ⟨#[]⟩, .string ⟨#[]⟩, .string ⟨#[]⟩, .string ⟨#[]⟩, .bool false, .bool false] 73)
                rw [World.size_alloc] at HR0
                have HX0 := Lib.hid ((HasRow.new w #[.int .i64 1, .string fp, .string fd, .bool fr, .string ⟨#[]⟩, .string ⟨#[]⟩, .string ⟨#[]⟩, .string ⟨#[]⟩, .bool false, .bool false] 73).alloc (.cells #[.int .i64 0, .string fp, .string fd, .bool fr, .string ⟨#[]⟩, .string ⟨#[]⟩, .string ⟨#[]⟩, .string ⟨#[]⟩, .bool false, .bool false] 73))
                clear hw
                go_enter Tryz.func44, Tryz.ntmps44
                go_wp2_with (first
                  | (go_at_call 90; refine (HE.out _ (HW.out.mono HB0.out)).mono ?_; rintro e w2 ⟨rfl, hb2⟩; have HB2 := Lib.hid (bstep HB0.out hb2); have HR2 := Lib.hid (HR0.out.below hb2); obtain ⟨d0, d1, d2, d3, d4, d5, d6, d7, d8, d9⟩ := hrow10 HR2.out; have f1 := HR2.out.free 1; have f2 := HR2.out.free 2; have f3 := HR2.out.free 3; have HR3 : Hid (HasRow _ (w.heap.size + 1) #[.int .i64 0, .string ⟨#[]⟩, .string ⟨#[]⟩, .bool false, .string ⟨#[]⟩, .string ⟨#[]⟩, .string ⟨#[]⟩, .string ⟨#[]⟩, .bool false, .bool false]) := Lib.hid (((HR2.out.set 1 (.string ⟨#[]⟩) (by simp)).set 2 (.string ⟨#[]⟩) (by simp)).set 3 (.bool false) (by simp)); have HB3 := Lib.hid (((HB2.out.setCell (p := ⟨w.heap.size + 1, 1, none⟩) (Nat.le_succ _) (.string ⟨#[]⟩)).setCell (p := ⟨w.heap.size + 1, 2, none⟩) (Nat.le_succ _) (.string ⟨#[]⟩)).setCell (p := ⟨w.heap.size + 1, 3, none⟩) (Nat.le_succ _) (.bool false)); obtain ⟨g0, g1, g2, g3, g4, g5, g6, g7, g8, g9⟩ := hrow10 HR3.out)
                  | (go_at_call 87; refine (HN.out _ _ _).mono ?_; rintro e w3 ⟨rfl, rfl⟩)
                  | (go_at_call 88; refine (HO.out _ _ _ _ (by simp)).mono ?_; rintro e w4 ⟨rfl, rfl⟩))
                go_ret
                exact ⟨rfl, by first | exact bstep HB3.out (below_alloc _ _) | exact HB3.out⟩
              · have hr : P.chE ⟨1, ⟨fp, fd, fr⟩, ⟨⟨#[]⟩, ⟨#[]⟩⟩, ⟨⟨#[]⟩, ⟨#[]⟩, false, true⟩⟩ = P.orE (P.thE ⟨1, ⟨fp, fd, fr⟩, ⟨⟨#[]⟩, ⟨#[]⟩⟩, ⟨⟨#[]⟩, ⟨#[]⟩, false, true⟩⟩) 2 := by unfold P.chE; rw [show P.eqC ⟨1, ⟨fp, fd, fr⟩, ⟨⟨#[]⟩, ⟨#[]⟩⟩, ⟨⟨#[]⟩, ⟨#[]⟩, false, true⟩⟩ (P.needed ⟨1, ⟨fp, fd, fr⟩, ⟨⟨#[]⟩, ⟨#[]⟩⟩, ⟨⟨#[]⟩, ⟨#[]⟩, false, true⟩⟩) = false from by simp [P.eqC, P.needed, P.st0, P.sv0]]; rfl
                have HE := Lib.hid (fun W hW => rfileError_any ⟨fp, fd, fr⟩ hs.fp hs.fd W hW)
                rw [show P.thE ⟨1, ⟨fp, fd, fr⟩, ⟨⟨#[]⟩, ⟨#[]⟩⟩, ⟨⟨#[]⟩, ⟨#[]⟩, false, true⟩⟩ = P.fileErr ⟨fp, fd, fr⟩ from rfl] at hr
                rw [hr]
                clear hr hs
                generalize P.fileErr ⟨fp, fd, fr⟩ = a at *
                have HB0 := Lib.hid (below2 w (.cells #[.int .i64 1, .string fp, .string fd, .bool fr, .string ⟨#[]⟩, .string ⟨#[]⟩, .string ⟨#[]⟩, .string ⟨#[]⟩, .bool false, .bool true] 73) (.cells #[.int .i64 0, .string fp, .string fd, .bool fr, .string ⟨#[]⟩, .string ⟨#[]⟩, .string ⟨#[]⟩, .string ⟨#[]⟩, .bool false, .bool true] 73))
                have HR0 := Lib.hid (HasRow.new (w.alloc (.cells #[.int .i64 1, .string fp, .string fd, .bool fr, .string ⟨#[]⟩, .string ⟨#[]⟩, .string ⟨#[]⟩, .string ⟨#[]⟩, .bool false, .bool true] 73)) #[.int .i64 0, .string fp, .string fd, .bool fr, .string ⟨#[]⟩, .string ⟨#[]⟩, .string ⟨#[]⟩, .string ⟨#[]⟩, .bool false, .bool true] 73)
                rw [World.size_alloc] at HR0
                have HX0 := Lib.hid ((HasRow.new w #[.int .i64 1, .string fp, .string fd, .bool fr, .string ⟨#[]⟩, .string ⟨#[]⟩, .string ⟨#[]⟩, .string ⟨#[]⟩, .bool false, .bool true] 73).alloc (.cells #[.int .i64 0, .string fp, .string fd, .bool fr, .string ⟨#[]⟩, .string ⟨#[]⟩, .string ⟨#[]⟩, .string ⟨#[]⟩, .bool false, .bool true] 73))
                clear hw
                go_enter Tryz.func44, Tryz.ntmps44
                go_wp2_with (first
                  | (go_at_call 90; refine (HE.out _ (HW.out.mono HB0.out)).mono ?_; rintro e w2 ⟨rfl, hb2⟩; have HB2 := Lib.hid (bstep HB0.out hb2); have HR2 := Lib.hid (HR0.out.below hb2); obtain ⟨d0, d1, d2, d3, d4, d5, d6, d7, d8, d9⟩ := hrow10 HR2.out; have f1 := HR2.out.free 1; have f2 := HR2.out.free 2; have f3 := HR2.out.free 3; have HR3 : Hid (HasRow _ (w.heap.size + 1) #[.int .i64 0, .string ⟨#[]⟩, .string ⟨#[]⟩, .bool false, .string ⟨#[]⟩, .string ⟨#[]⟩, .string ⟨#[]⟩, .string ⟨#[]⟩, .bool false, .bool true]) := Lib.hid (((HR2.out.set 1 (.string ⟨#[]⟩) (by simp)).set 2 (.string ⟨#[]⟩) (by simp)).set 3 (.bool false) (by simp)); have HB3 := Lib.hid (((HB2.out.setCell (p := ⟨w.heap.size + 1, 1, none⟩) (Nat.le_succ _) (.string ⟨#[]⟩)).setCell (p := ⟨w.heap.size + 1, 2, none⟩) (Nat.le_succ _) (.string ⟨#[]⟩)).setCell (p := ⟨w.heap.size + 1, 3, none⟩) (Nat.le_succ _) (.bool false)); obtain ⟨g0, g1, g2, g3, g4, g5, g6, g7, g8, g9⟩ := hrow10 HR3.out)
                  | (go_at_call 87; refine (HN.out _ _ _).mono ?_; rintro e w3 ⟨rfl, rfl⟩)
                  | (go_at_call 88; refine (HO.out _ _ _ _ (by simp)).mono ?_; rintro e w4 ⟨rfl, rfl⟩))
                go_ret
                exact ⟨rfl, by first | exact bstep HB3.out (below_alloc _ _) | exact HB3.out⟩
            · have hr : P.chE ⟨1, ⟨fp, fd, fr⟩, ⟨⟨#[]⟩, ⟨#[]⟩⟩, ⟨⟨#[]⟩, ⟨#[]⟩, true, vo⟩⟩ = P.orE (P.thE ⟨1, ⟨fp, fd, fr⟩, ⟨⟨#[]⟩, ⟨#[]⟩⟩, ⟨⟨#[]⟩, ⟨#[]⟩, true, vo⟩⟩) 2 := by unfold P.chE; rw [show P.eqC ⟨1, ⟨fp, fd, fr⟩, ⟨⟨#[]⟩, ⟨#[]⟩⟩, ⟨⟨#[]⟩, ⟨#[]⟩, true, vo⟩⟩ (P.needed ⟨1, ⟨fp, fd, fr⟩, ⟨⟨#[]⟩, ⟨#[]⟩⟩, ⟨⟨#[]⟩, ⟨#[]⟩, true, vo⟩⟩) = false from by simp [P.eqC, P.needed, P.st0, P.sv0]]; rfl
              have HE := Lib.hid (fun W hW => rfileError_any ⟨fp, fd, fr⟩ hs.fp hs.fd W hW)
              rw [show P.thE ⟨1, ⟨fp, fd, fr⟩, ⟨⟨#[]⟩, ⟨#[]⟩⟩, ⟨⟨#[]⟩, ⟨#[]⟩, true, vo⟩⟩ = P.fileErr ⟨fp, fd, fr⟩ from rfl] at hr
              rw [hr]
              clear hr hs
              generalize P.fileErr ⟨fp, fd, fr⟩ = a at *
              have HB0 := Lib.hid (below2 w (.cells #[.int .i64 1, .string fp, .string fd, .bool fr, .string ⟨#[]⟩, .string ⟨#[]⟩, .string ⟨#[]⟩, .string ⟨#[]⟩, .bool true, .bool vo] 73) (.cells #[.int .i64 0, .string fp, .string fd, .bool fr, .string ⟨#[]⟩, .string ⟨#[]⟩, .string ⟨#[]⟩, .string ⟨#[]⟩, .bool true, .bool vo] 73))
              have HR0 := Lib.hid (HasRow.new (w.alloc (.cells #[.int .i64 1, .string fp, .string fd, .bool fr, .string ⟨#[]⟩, .string ⟨#[]⟩, .string ⟨#[]⟩, .string ⟨#[]⟩, .bool true, .bool vo] 73)) #[.int .i64 0, .string fp, .string fd, .bool fr, .string ⟨#[]⟩, .string ⟨#[]⟩, .string ⟨#[]⟩, .string ⟨#[]⟩, .bool true, .bool vo] 73)
              rw [World.size_alloc] at HR0
              have HX0 := Lib.hid ((HasRow.new w #[.int .i64 1, .string fp, .string fd, .bool fr, .string ⟨#[]⟩, .string ⟨#[]⟩, .string ⟨#[]⟩, .string ⟨#[]⟩, .bool true, .bool vo] 73).alloc (.cells #[.int .i64 0, .string fp, .string fd, .bool fr, .string ⟨#[]⟩, .string ⟨#[]⟩, .string ⟨#[]⟩, .string ⟨#[]⟩, .bool true, .bool vo] 73))
              clear hw
              go_enter Tryz.func44, Tryz.ntmps44
              go_wp2_with (first
                | (go_at_call 90; refine (HE.out _ (HW.out.mono HB0.out)).mono ?_; rintro e w2 ⟨rfl, hb2⟩; have HB2 := Lib.hid (bstep HB0.out hb2); have HR2 := Lib.hid (HR0.out.below hb2); obtain ⟨d0, d1, d2, d3, d4, d5, d6, d7, d8, d9⟩ := hrow10 HR2.out; have f1 := HR2.out.free 1; have f2 := HR2.out.free 2; have f3 := HR2.out.free 3; have HR3 : Hid (HasRow _ (w.heap.size + 1) #[.int .i64 0, .string ⟨#[]⟩, .string ⟨#[]⟩, .bool false, .string ⟨#[]⟩, .string ⟨#[]⟩, .string ⟨#[]⟩, .string ⟨#[]⟩, .bool true, .bool vo]) := Lib.hid (((HR2.out.set 1 (.string ⟨#[]⟩) (by simp)).set 2 (.string ⟨#[]⟩) (by simp)).set 3 (.bool false) (by simp)); have HB3 := Lib.hid (((HB2.out.setCell (p := ⟨w.heap.size + 1, 1, none⟩) (Nat.le_succ _) (.string ⟨#[]⟩)).setCell (p := ⟨w.heap.size + 1, 2, none⟩) (Nat.le_succ _) (.string ⟨#[]⟩)).setCell (p := ⟨w.heap.size + 1, 3, none⟩) (Nat.le_succ _) (.bool false)); obtain ⟨g0, g1, g2, g3, g4, g5, g6, g7, g8, g9⟩ := hrow10 HR3.out)
                | (go_at_call 87; refine (HN.out _ _ _).mono ?_; rintro e w3 ⟨rfl, rfl⟩)
                | (go_at_call 88; refine (HO.out _ _ _ _ (by simp)).mono ?_; rintro e w4 ⟨rfl, rfl⟩))
              go_ret
              exact ⟨rfl, by first | exact bstep HB3.out (below_alloc _ _) | exact HB3.out⟩
          · have hr : P.chE ⟨1, ⟨fp, fd, fr⟩, ⟨⟨#[]⟩, ⟨#[]⟩⟩, ⟨⟨#[]⟩, vp, va, vo⟩⟩ = P.orE (P.thE ⟨1, ⟨fp, fd, fr⟩, ⟨⟨#[]⟩, ⟨#[]⟩⟩, ⟨⟨#[]⟩, vp, va, vo⟩⟩) 2 := by unfold P.chE; rw [show P.eqC ⟨1, ⟨fp, fd, fr⟩, ⟨⟨#[]⟩, ⟨#[]⟩⟩, ⟨⟨#[]⟩, vp, va, vo⟩⟩ (P.needed ⟨1, ⟨fp, fd, fr⟩, ⟨⟨#[]⟩, ⟨#[]⟩⟩, ⟨⟨#[]⟩, vp, va, vo⟩⟩) = false from by simp [P.eqC, P.needed, P.st0, P.sv0, hd]]; rfl
            have HE := Lib.hid (fun W hW => rfileError_any ⟨fp, fd, fr⟩ hs.fp hs.fd W hW)
            rw [show P.thE ⟨1, ⟨fp, fd, fr⟩, ⟨⟨#[]⟩, ⟨#[]⟩⟩, ⟨⟨#[]⟩, vp, va, vo⟩⟩ = P.fileErr ⟨fp, fd, fr⟩ from rfl] at hr
            rw [hr]
            clear hr hs
            generalize P.fileErr ⟨fp, fd, fr⟩ = a at *
            have HB0 := Lib.hid (below2 w (.cells #[.int .i64 1, .string fp, .string fd, .bool fr, .string ⟨#[]⟩, .string ⟨#[]⟩, .string ⟨#[]⟩, .string vp, .bool va, .bool vo] 73) (.cells #[.int .i64 0, .string fp, .string fd, .bool fr, .string ⟨#[]⟩, .string ⟨#[]⟩, .string ⟨#[]⟩, .string vp, .bool va, .bool vo] 73))
            have HR0 := Lib.hid (HasRow.new (w.alloc (.cells #[.int .i64 1, .string fp, .string fd, .bool fr, .string ⟨#[]⟩, .string ⟨#[]⟩, .string ⟨#[]⟩, .string vp, .bool va, .bool vo] 73)) #[.int .i64 0, .string fp, .string fd, .bool fr, .string ⟨#[]⟩, .string ⟨#[]⟩, .string ⟨#[]⟩, .string vp, .bool va, .bool vo] 73)
            rw [World.size_alloc] at HR0
            have HX0 := Lib.hid ((HasRow.new w #[.int .i64 1, .string fp, .string fd, .bool fr, .string ⟨#[]⟩, .string ⟨#[]⟩, .string ⟨#[]⟩, .string vp, .bool va, .bool vo] 73).alloc (.cells #[.int .i64 0, .string fp, .string fd, .bool fr, .string ⟨#[]⟩, .string ⟨#[]⟩, .string ⟨#[]⟩, .string vp, .bool va, .bool vo] 73))
            clear hw
            go_enter Tryz.func44, Tryz.ntmps44
            go_wp2_with (first
              | (go_at_call 90; refine (HE.out _ (HW.out.mono HB0.out)).mono ?_; rintro e w2 ⟨rfl, hb2⟩; have HB2 := Lib.hid (bstep HB0.out hb2); have HR2 := Lib.hid (HR0.out.below hb2); obtain ⟨d0, d1, d2, d3, d4, d5, d6, d7, d8, d9⟩ := hrow10 HR2.out; have f1 := HR2.out.free 1; have f2 := HR2.out.free 2; have f3 := HR2.out.free 3; have HR3 : Hid (HasRow _ (w.heap.size + 1) #[.int .i64 0, .string ⟨#[]⟩, .string ⟨#[]⟩, .bool false, .string ⟨#[]⟩, .string ⟨#[]⟩, .string ⟨#[]⟩, .string vp, .bool va, .bool vo]) := Lib.hid (((HR2.out.set 1 (.string ⟨#[]⟩) (by simp)).set 2 (.string ⟨#[]⟩) (by simp)).set 3 (.bool false) (by simp)); have HB3 := Lib.hid (((HB2.out.setCell (p := ⟨w.heap.size + 1, 1, none⟩) (Nat.le_succ _) (.string ⟨#[]⟩)).setCell (p := ⟨w.heap.size + 1, 2, none⟩) (Nat.le_succ _) (.string ⟨#[]⟩)).setCell (p := ⟨w.heap.size + 1, 3, none⟩) (Nat.le_succ _) (.bool false)); obtain ⟨g0, g1, g2, g3, g4, g5, g6, g7, g8, g9⟩ := hrow10 HR3.out)
              | (go_at_call 87; refine (HN.out _ _ _).mono ?_; rintro e w3 ⟨rfl, rfl⟩)
              | (go_at_call 88; refine (HO.out _ _ _ _ (by simp)).mono ?_; rintro e w4 ⟨rfl, rfl⟩))
            go_ret
            exact ⟨rfl, by first | exact bstep HB3.out (below_alloc _ _) | exact HB3.out⟩
        · have hr : P.chE ⟨1, ⟨fp, fd, fr⟩, ⟨⟨#[]⟩, ⟨#[]⟩⟩, ⟨vn, vp, va, vo⟩⟩ = P.orE (P.thE ⟨1, ⟨fp, fd, fr⟩, ⟨⟨#[]⟩, ⟨#[]⟩⟩, ⟨vn, vp, va, vo⟩⟩) 2 := by unfold P.chE; rw [show P.eqC ⟨1, ⟨fp, fd, fr⟩, ⟨⟨#[]⟩, ⟨#[]⟩⟩, ⟨vn, vp, va, vo⟩⟩ (P.needed ⟨1, ⟨fp, fd, fr⟩, ⟨⟨#[]⟩, ⟨#[]⟩⟩, ⟨vn, vp, va, vo⟩⟩) = false from by simp [P.eqC, P.needed, P.st0, P.sv0, hd]]; rfl
          have HE := Lib.hid (fun W hW => rfileError_any ⟨fp, fd, fr⟩ hs.fp hs.fd W hW)
          rw [show P.thE ⟨1, ⟨fp, fd, fr⟩, ⟨⟨#[]⟩, ⟨#[]⟩⟩, ⟨vn, vp, va, vo⟩⟩ = P.fileErr ⟨fp, fd, fr⟩ from rfl] at hr
          rw [hr]
          clear hr hs
          generalize P.fileErr ⟨fp, fd, fr⟩ = a at *
          have HB0 := Lib.hid (below2 w (.cells #[.int .i64 1, .string fp, .string fd, .bool fr, .string ⟨#[]⟩, .string ⟨#[]⟩, .string vn, .string vp, .bool va, .bool vo] 73) (.cells #[.int .i64 0, .string fp, .string fd, .bool fr, .string ⟨#[]⟩, .string ⟨#[]⟩, .string vn, .string vp, .bool va, .bool vo] 73))
          have HR0 := Lib.hid (HasRow.new (w.alloc (.cells #[.int .i64 1, .string fp, .string fd, .bool fr, .string ⟨#[]⟩, .string ⟨#[]⟩, .string vn, .string vp, .bool va, .bool vo] 73)) #[.int .i64 0, .string fp, .string fd, .bool fr, .string ⟨#[]⟩, .string ⟨#[]⟩, .string vn, .string vp, .bool va, .bool vo] 73)
          rw [World.size_alloc] at HR0
          have HX0 := Lib.hid ((HasRow.new w #[.int .i64 1, .string fp, .string fd, .bool fr, .string ⟨#[]⟩, .string ⟨#[]⟩, .string vn, .string vp, .bool va, .bool vo] 73).alloc (.cells #[.int .i64 0, .string fp, .string fd, .bool fr, .string ⟨#[]⟩, .string ⟨#[]⟩, .string vn, .string vp, .bool va, .bool vo] 73))
          clear hw
          go_enter Tryz.func44, Tryz.ntmps44
          go_wp2_with (first
            | (go_at_call 90; refine (HE.out _ (HW.out.mono HB0.out)).mono ?_; rintro e w2 ⟨rfl, hb2⟩; have HB2 := Lib.hid (bstep HB0.out hb2); have HR2 := Lib.hid (HR0.out.below hb2); obtain ⟨d0, d1, d2, d3, d4, d5, d6, d7, d8, d9⟩ := hrow10 HR2.out; have f1 := HR2.out.free 1; have f2 := HR2.out.free 2; have f3 := HR2.out.free 3; have HR3 : Hid (HasRow _ (w.heap.size + 1) #[.int .i64 0, .string ⟨#[]⟩, .string ⟨#[]⟩, .bool false, .string ⟨#[]⟩, .string ⟨#[]⟩, .string vn, .string vp, .bool va, .bool vo]) := Lib.hid (((HR2.out.set 1 (.string ⟨#[]⟩) (by simp)).set 2 (.string ⟨#[]⟩) (by simp)).set 3 (.bool false) (by simp)); have HB3 := Lib.hid (((HB2.out.setCell (p := ⟨w.heap.size + 1, 1, none⟩) (Nat.le_succ _) (.string ⟨#[]⟩)).setCell (p := ⟨w.heap.size + 1, 2, none⟩) (Nat.le_succ _) (.string ⟨#[]⟩)).setCell (p := ⟨w.heap.size + 1, 3, none⟩) (Nat.le_succ _) (.bool false)); obtain ⟨g0, g1, g2, g3, g4, g5, g6, g7, g8, g9⟩ := hrow10 HR3.out)
            | (go_at_call 87; refine (HN.out _ _ _).mono ?_; rintro e w3 ⟨rfl, rfl⟩)
            | (go_at_call 88; refine (HO.out _ _ _ _ (by simp)).mono ?_; rintro e w4 ⟨rfl, rfl⟩))
          go_ret
          exact ⟨rfl, by first | exact bstep HB3.out (below_alloc _ _) | exact HB3.out⟩
      · have hr : P.chE ⟨1, ⟨fp, fd, fr⟩, ⟨⟨#[]⟩, sv⟩, ⟨vn, vp, va, vo⟩⟩ = P.orE (P.thE ⟨1, ⟨fp, fd, fr⟩, ⟨⟨#[]⟩, sv⟩, ⟨vn, vp, va, vo⟩⟩) 2 := by unfold P.chE; rw [show P.eqC ⟨1, ⟨fp, fd, fr⟩, ⟨⟨#[]⟩, sv⟩, ⟨vn, vp, va, vo⟩⟩ (P.needed ⟨1, ⟨fp, fd, fr⟩, ⟨⟨#[]⟩, sv⟩, ⟨vn, vp, va, vo⟩⟩) = false from by simp [P.eqC, P.needed, P.st0, P.sv0, hd]]; rfl
        have HE := Lib.hid (fun W hW => rfileError_any ⟨fp, fd, fr⟩ hs.fp hs.fd W hW)
        rw [show P.thE ⟨1, ⟨fp, fd, fr⟩, ⟨⟨#[]⟩, sv⟩, ⟨vn, vp, va, vo⟩⟩ = P.fileErr ⟨fp, fd, fr⟩ from rfl] at hr
        rw [hr]
        clear hr hs
        generalize P.fileErr ⟨fp, fd, fr⟩ = a at *
        have HB0 := Lib.hid (below2 w (.cells #[.int .i64 1, .string fp, .string fd, .bool fr, .string ⟨#[]⟩, .string sv, .string vn, .string vp, .bool va, .bool vo] 73) (.cells #[.int .i64 0, .string fp, .string fd, .bool fr, .string ⟨#[]⟩, .string sv, .string vn, .string vp, .bool va, .bool vo] 73))
        have HR0 := Lib.hid (HasRow.new (w.alloc (.cells #[.int .i64 1, .string fp, .string fd, .bool fr, .string ⟨#[]⟩, .string sv, .string vn, .string vp, .bool va, .bool vo] 73)) #[.int .i64 0, .string fp, .string fd, .bool fr, .string ⟨#[]⟩, .string sv, .string vn, .string vp, .bool va, .bool vo] 73)
        rw [World.size_alloc] at HR0
        have HX0 := Lib.hid ((HasRow.new w #[.int .i64 1, .string fp, .string fd, .bool fr, .string ⟨#[]⟩, .string sv, .string vn, .string vp, .bool va, .bool vo] 73).alloc (.cells #[.int .i64 0, .string fp, .string fd, .bool fr, .string ⟨#[]⟩, .string sv, .string vn, .string vp, .bool va, .bool vo] 73))
        clear hw
        go_enter Tryz.func44, Tryz.ntmps44
        go_wp2_with (first
          | (go_at_call 90; refine (HE.out _ (HW.out.mono HB0.out)).mono ?_; rintro e w2 ⟨rfl, hb2⟩; have HB2 := Lib.hid (bstep HB0.out hb2); have HR2 := Lib.hid (HR0.out.below hb2); obtain ⟨d0, d1, d2, d3, d4, d5, d6, d7, d8, d9⟩ := hrow10 HR2.out; have f1 := HR2.out.free 1; have f2 := HR2.out.free 2; have f3 := HR2.out.free 3; have HR3 : Hid (HasRow _ (w.heap.size + 1) #[.int .i64 0, .string ⟨#[]⟩, .string ⟨#[]⟩, .bool false, .string ⟨#[]⟩, .string sv, .string vn, .string vp, .bool va, .bool vo]) := Lib.hid (((HR2.out.set 1 (.string ⟨#[]⟩) (by simp)).set 2 (.string ⟨#[]⟩) (by simp)).set 3 (.bool false) (by simp)); have HB3 := Lib.hid (((HB2.out.setCell (p := ⟨w.heap.size + 1, 1, none⟩) (Nat.le_succ _) (.string ⟨#[]⟩)).setCell (p := ⟨w.heap.size + 1, 2, none⟩) (Nat.le_succ _) (.string ⟨#[]⟩)).setCell (p := ⟨w.heap.size + 1, 3, none⟩) (Nat.le_succ _) (.bool false)); obtain ⟨g0, g1, g2, g3, g4, g5, g6, g7, g8, g9⟩ := hrow10 HR3.out)
          | (go_at_call 87; refine (HN.out _ _ _).mono ?_; rintro e w3 ⟨rfl, rfl⟩)
          | (go_at_call 88; refine (HO.out _ _ _ _ (by simp)).mono ?_; rintro e w4 ⟨rfl, rfl⟩))
        go_ret
        exact ⟨rfl, by first | exact bstep HB3.out (below_alloc _ _) | exact HB3.out⟩
    · have hr : P.chE ⟨1, ⟨fp, fd, fr⟩, ⟨sk, sv⟩, ⟨vn, vp, va, vo⟩⟩ = P.orE (P.thE ⟨1, ⟨fp, fd, fr⟩, ⟨sk, sv⟩, ⟨vn, vp, va, vo⟩⟩) 2 := by unfold P.chE; rw [show P.eqC ⟨1, ⟨fp, fd, fr⟩, ⟨sk, sv⟩, ⟨vn, vp, va, vo⟩⟩ (P.needed ⟨1, ⟨fp, fd, fr⟩, ⟨sk, sv⟩, ⟨vn, vp, va, vo⟩⟩) = false from by simp [P.eqC, P.needed, P.st0, P.sv0, hd]]; rfl
      have HE := Lib.hid (fun W hW => rfileError_any ⟨fp, fd, fr⟩ hs.fp hs.fd W hW)
      rw [show P.thE ⟨1, ⟨fp, fd, fr⟩, ⟨sk, sv⟩, ⟨vn, vp, va, vo⟩⟩ = P.fileErr ⟨fp, fd, fr⟩ from rfl] at hr
      rw [hr]
      clear hr hs
      generalize P.fileErr ⟨fp, fd, fr⟩ = a at *
      have HB0 := Lib.hid (below2 w (.cells #[.int .i64 1, .string fp, .string fd, .bool fr, .string sk, .string sv, .string vn, .string vp, .bool va, .bool vo] 73) (.cells #[.int .i64 0, .string fp, .string fd, .bool fr, .string sk, .string sv, .string vn, .string vp, .bool va, .bool vo] 73))
      have HR0 := Lib.hid (HasRow.new (w.alloc (.cells #[.int .i64 1, .string fp, .string fd, .bool fr, .string sk, .string sv, .string vn, .string vp, .bool va, .bool vo] 73)) #[.int .i64 0, .string fp, .string fd, .bool fr, .string sk, .string sv, .string vn, .string vp, .bool va, .bool vo] 73)
      rw [World.size_alloc] at HR0
      have HX0 := Lib.hid ((HasRow.new w #[.int .i64 1, .string fp, .string fd, .bool fr, .string sk, .string sv, .string vn, .string vp, .bool va, .bool vo] 73).alloc (.cells #[.int .i64 0, .string fp, .string fd, .bool fr, .string sk, .string sv, .string vn, .string vp, .bool va, .bool vo] 73))
      clear hw
      go_enter Tryz.func44, Tryz.ntmps44
      go_wp2_with (first
        | (go_at_call 90; refine (HE.out _ (HW.out.mono HB0.out)).mono ?_; rintro e w2 ⟨rfl, hb2⟩; have HB2 := Lib.hid (bstep HB0.out hb2); have HR2 := Lib.hid (HR0.out.below hb2); obtain ⟨d0, d1, d2, d3, d4, d5, d6, d7, d8, d9⟩ := hrow10 HR2.out; have f1 := HR2.out.free 1; have f2 := HR2.out.free 2; have f3 := HR2.out.free 3; have HR3 : Hid (HasRow _ (w.heap.size + 1) #[.int .i64 0, .string ⟨#[]⟩, .string ⟨#[]⟩, .bool false, .string sk, .string sv, .string vn, .string vp, .bool va, .bool vo]) := Lib.hid (((HR2.out.set 1 (.string ⟨#[]⟩) (by simp)).set 2 (.string ⟨#[]⟩) (by simp)).set 3 (.bool false) (by simp)); have HB3 := Lib.hid (((HB2.out.setCell (p := ⟨w.heap.size + 1, 1, none⟩) (Nat.le_succ _) (.string ⟨#[]⟩)).setCell (p := ⟨w.heap.size + 1, 2, none⟩) (Nat.le_succ _) (.string ⟨#[]⟩)).setCell (p := ⟨w.heap.size + 1, 3, none⟩) (Nat.le_succ _) (.bool false)); obtain ⟨g0, g1, g2, g3, g4, g5, g6, g7, g8, g9⟩ := hrow10 HR3.out)
        | (go_at_call 87; refine (HN.out _ _ _).mono ?_; rintro e w3 ⟨rfl, rfl⟩)
        | (go_at_call 88; refine (HO.out _ _ _ _ (by simp)).mono ?_; rintro e w4 ⟨rfl, rfl⟩))
      go_ret
      exact ⟨rfl, by first | exact bstep HB3.out (below_alloc _ _) | exact HB3.out⟩
set_option maxRecDepth 100000 in
set_option maxHeartbeats 40000000 in
theorem changeError2 (fp fd sk sv vn vp : ByteArray) (fr va vo : Bool) (hs : P.CSm 4294967280 ⟨2, ⟨fp, fd, fr⟩, ⟨sk, sv⟩, ⟨vn, vp, va, vo⟩⟩) (w : World) (hw : Good w) :
    Calls Tryz.prog 44 #[.agg #[.int .i64 2, .string fp, .string fd, .bool fr, .string sk, .string sv, .string vn, .string vp, .bool va, .bool vo]] w fun e w' => e = .returned (.int .i64 (P.chE ⟨2, ⟨fp, fd, fr⟩, ⟨sk, sv⟩, ⟨vn, vp, va, vo⟩⟩)) ∧ Below w.heap.size w w' := by
    have HO := Lib.hid (fun a b nb W hn => rfirst2 a b nb W hn)
    have HN := Lib.hid rwhen_any
    have HW := Lib.hid hw
    rcases empty_cases fd with rfl | ⟨hd, hd2⟩
    · cases fr
      · rcases empty_cases sk with rfl | ⟨hd, hd2⟩
        · rcases empty_cases sv with rfl | ⟨hd, hd2⟩
          · rcases empty_cases vn with rfl | ⟨hd, hd2⟩
            · rcases empty_cases vp with rfl | ⟨hd, hd2⟩
              · cases va
                · cases vo
                  · have hr : P.chE ⟨2, ⟨fp, ⟨#[]⟩, false⟩, ⟨⟨#[]⟩, ⟨#[]⟩⟩, ⟨⟨#[]⟩, ⟨#[]⟩, false, false⟩⟩ = P.orE (P.thE ⟨2, ⟨fp, ⟨#[]⟩, false⟩, ⟨⟨#[]⟩, ⟨#[]⟩⟩, ⟨⟨#[]⟩, ⟨#[]⟩, false, false⟩⟩) 0 := by unfold P.chE; rw [show P.eqC ⟨2, ⟨fp, ⟨#[]⟩, false⟩, ⟨⟨#[]⟩, ⟨#[]⟩⟩, ⟨⟨#[]⟩, ⟨#[]⟩, false, false⟩⟩ (P.needed ⟨2, ⟨fp, ⟨#[]⟩, false⟩, ⟨⟨#[]⟩, ⟨#[]⟩⟩, ⟨⟨#[]⟩, ⟨#[]⟩, false, false⟩⟩) = true from by simp [P.eqC, P.needed, P.st0, P.sv0]]; rfl
                    have HE := Lib.hid (fun W hW => rpath_any fp hs.fp W hW)
                    rw [show P.thE ⟨2, ⟨fp, ⟨#[]⟩, false⟩, ⟨⟨#[]⟩, ⟨#[]⟩⟩, ⟨⟨#[]⟩, ⟨#[]⟩, false, false⟩⟩ = if P.pathS fp then 0 else 5 from thE_two _ _ _ _ _ _ _ _ _] at hr
                    rw [hr]
                    clear hr hs
                    generalize P.pathS fp = p at *
                    have HB0 := Lib.hid (below2 w (.cells #[.int .i64 2, .string fp, .string ⟨#[]⟩, .bool false, .string ⟨#[]⟩, .string ⟨#[]⟩, .string ⟨#[]⟩, .string ⟨#[]⟩, .bool false, .bool false] 73) (.cells #[.int .i64 0, .string fp, .string ⟨#[]⟩, .bool false, .string ⟨#[]⟩, .string ⟨#[]⟩, .string ⟨#[]⟩, .string ⟨#[]⟩, .bool false, .bool false] 73))
                    have HR0 := Lib.hid (HasRow.new (w.alloc (.cells #[.int .i64 2, .string fp, .string ⟨#[]⟩, .bool false, .string ⟨#[]⟩, .string ⟨#[]⟩, .string ⟨#[]⟩, .string ⟨#[]⟩, .bool false, .bool false] 73)) #[.int .i64 0, .string fp, .string ⟨#[]⟩, .bool false, .string ⟨#[]⟩, .string ⟨#[]⟩, .string ⟨#[]⟩, .string ⟨#[]⟩, .bool false, .bool false] 73)
                    rw [World.size_alloc] at HR0
                    have HX0 := Lib.hid ((HasRow.new w #[.int .i64 2, .string fp, .string ⟨#[]⟩, .bool false, .string ⟨#[]⟩, .string ⟨#[]⟩, .string ⟨#[]⟩, .string ⟨#[]⟩, .bool false, .bool false] 73).alloc (.cells #[.int .i64 0, .string fp, .string ⟨#[]⟩, .bool false, .string ⟨#[]⟩, .string ⟨#[]⟩, .string ⟨#[]⟩, .string ⟨#[]⟩, .bool false, .bool false] 73))
                    clear hw
                    cases p
                    all_goals
                      go_enter Tryz.func44, Tryz.ntmps44
                      go_wp2_with (first
                        | (go_at_call 40; refine (HE.out _ (HW.out.mono HB0.out)).mono ?_; rintro e w2 ⟨rfl, hb2⟩; have HB2 := Lib.hid (bstep HB0.out hb2); have HR2 := Lib.hid (HR0.out.below hb2); obtain ⟨d0, d1, d2, d3, d4, d5, d6, d7, d8, d9⟩ := hrow10 HR2.out; have f1 := HR2.out.free 1; have HR3 : Hid (HasRow _ (w.heap.size + 1) #[.int .i64 0, .string ⟨#[]⟩, .string ⟨#[]⟩, .bool false, .string ⟨#[]⟩, .string ⟨#[]⟩, .string ⟨#[]⟩, .string ⟨#[]⟩, .bool false, .bool false]) := Lib.hid (HR2.out.set 1 (.string ⟨#[]⟩) (by simp)); have HB3 := Lib.hid (HB2.out.setCell (p := ⟨w.heap.size + 1, 1, none⟩) (Nat.le_succ _) (.string ⟨#[]⟩)); obtain ⟨g0, g1, g2, g3, g4, g5, g6, g7, g8, g9⟩ := hrow10 HR3.out)
                        | (go_at_call 87; refine (HN.out _ _ _).mono ?_; rintro e w3 ⟨rfl, rfl⟩)
                        | (go_at_call 88; refine (HO.out _ _ _ _ (by simp)).mono ?_; rintro e w4 ⟨rfl, rfl⟩))
                      go_ret
                      exact ⟨rfl, by first | exact bstep HB3.out (below_alloc _ _) | exact HB3.out⟩
                  · have hr : P.chE ⟨2, ⟨fp, ⟨#[]⟩, false⟩, ⟨⟨#[]⟩, ⟨#[]⟩⟩, ⟨⟨#[]⟩, ⟨#[]⟩, false, true⟩⟩ = P.orE (P.thE ⟨2, ⟨fp, ⟨#[]⟩, false⟩, ⟨⟨#[]⟩, ⟨#[]⟩⟩, ⟨⟨#[]⟩, ⟨#[]⟩, false, true⟩⟩) 2 := by unfold P.chE; rw [show P.eqC ⟨2, ⟨fp, ⟨#[]⟩, false⟩, ⟨⟨#[]⟩, ⟨#[]⟩⟩, ⟨⟨#[]⟩, ⟨#[]⟩, false, true⟩⟩ (P.needed ⟨2, ⟨fp, ⟨#[]⟩, false⟩, ⟨⟨#[]⟩, ⟨#[]⟩⟩, ⟨⟨#[]⟩, ⟨#[]⟩, false, true⟩⟩) = false from by simp [P.eqC, P.needed, P.st0, P.sv0]]; rfl
                    have HE := Lib.hid (fun W hW => rpath_any fp hs.fp W hW)
                    rw [show P.thE ⟨2, ⟨fp, ⟨#[]⟩, false⟩, ⟨⟨#[]⟩, ⟨#[]⟩⟩, ⟨⟨#[]⟩, ⟨#[]⟩, false, true⟩⟩ = if P.pathS fp then 0 else 5 from thE_two _ _ _ _ _ _ _ _ _] at hr
                    rw [hr]
                    clear hr hs
                    generalize P.pathS fp = p at *
                    have HB0 := Lib.hid (below2 w (.cells #[.int .i64 2, .string fp, .string ⟨#[]⟩, .bool false, .string ⟨#[]⟩, .string ⟨#[]⟩, .string ⟨#[]⟩, .string ⟨#[]⟩, .bool false, .bool true] 73) (.cells #[.int .i64 0, .string fp, .string ⟨#[]⟩, .bool false, .string ⟨#[]⟩, .string ⟨#[]⟩, .string ⟨#[]⟩, .string ⟨#[]⟩, .bool false, .bool true] 73))
                    have HR0 := Lib.hid (HasRow.new (w.alloc (.cells #[.int .i64 2, .string fp, .string ⟨#[]⟩, .bool false, .string ⟨#[]⟩, .string ⟨#[]⟩, .string ⟨#[]⟩, .string ⟨#[]⟩, .bool false, .bool true] 73)) #[.int .i64 0, .string fp, .string ⟨#[]⟩, .bool false, .string ⟨#[]⟩, .string ⟨#[]⟩, .string ⟨#[]⟩, .string ⟨#[]⟩, .bool false, .bool true] 73)
                    rw [World.size_alloc] at HR0
                    have HX0 := Lib.hid ((HasRow.new w #[.int .i64 2, .string fp, .string ⟨#[]⟩, .bool false, .string ⟨#[]⟩, .string ⟨#[]⟩, .string ⟨#[]⟩, .string ⟨#[]⟩, .bool false, .bool true] 73).alloc (.cells #[.int .i64 0, .string fp, .string ⟨#[]⟩, .bool false, .string ⟨#[]⟩, .string ⟨#[]⟩, .string ⟨#[]⟩, .string ⟨#[]⟩, .bool false, .bool true] 73))
                    clear hw
                    cases p
                    all_goals
                      go_enter Tryz.func44, Tryz.ntmps44
                      go_wp2_with (first
                        | (go_at_call 40; refine (HE.out _ (HW.out.mono HB0.out)).mono ?_; rintro e w2 ⟨rfl, hb2⟩; have HB2 := Lib.hid (bstep HB0.out hb2); have HR2 := Lib.hid (HR0.out.below hb2); obtain ⟨d0, d1, d2, d3, d4, d5, d6, d7, d8, d9⟩ := hrow10 HR2.out; have f1 := HR2.out.free 1; have HR3 : Hid (HasRow _ (w.heap.size + 1) #[.int .i64 0, .string ⟨#[]⟩, .string ⟨#[]⟩, .bool false, .string ⟨#[]⟩, .string ⟨#[]⟩, .string ⟨#[]⟩, .string ⟨#[]⟩, .bool false, .bool true]) := Lib.hid (HR2.out.set 1 (.string ⟨#[]⟩) (by simp)); have HB3 := Lib.hid (HB2.out.setCell (p := ⟨w.heap.size + 1, 1, none⟩) (Nat.le_succ _) (.string ⟨#[]⟩)); obtain ⟨g0, g1, g2, g3, g4, g5, g6, g7, g8, g9⟩ := hrow10 HR3.out)
                        | (go_at_call 87; refine (HN.out _ _ _).mono ?_; rintro e w3 ⟨rfl, rfl⟩)
                        | (go_at_call 88; refine (HO.out _ _ _ _ (by simp)).mono ?_; rintro e w4 ⟨rfl, rfl⟩))
                      go_ret
                      exact ⟨rfl, by first | exact bstep HB3.out (below_alloc _ _) | exact HB3.out⟩
                · have hr : P.chE ⟨2, ⟨fp, ⟨#[]⟩, false⟩, ⟨⟨#[]⟩, ⟨#[]⟩⟩, ⟨⟨#[]⟩, ⟨#[]⟩, true, vo⟩⟩ = P.orE (P.thE ⟨2, ⟨fp, ⟨#[]⟩, false⟩, ⟨⟨#[]⟩, ⟨#[]⟩⟩, ⟨⟨#[]⟩, ⟨#[]⟩, true, vo⟩⟩) 2 := by unfold P.chE; rw [show P.eqC ⟨2, ⟨fp, ⟨#[]⟩, false⟩, ⟨⟨#[]⟩, ⟨#[]⟩⟩, ⟨⟨#[]⟩, ⟨#[]⟩, true, vo⟩⟩ (P.needed ⟨2, ⟨fp, ⟨#[]⟩, false⟩, ⟨⟨#[]⟩, ⟨#[]⟩⟩, ⟨⟨#[]⟩, ⟨#[]⟩, true, vo⟩⟩) = false from by simp [P.eqC, P.needed, P.st0, P.sv0]]; rfl
                  have HE := Lib.hid (fun W hW => rpath_any fp hs.fp W hW)
                  rw [show P.thE ⟨2, ⟨fp, ⟨#[]⟩, false⟩, ⟨⟨#[]⟩, ⟨#[]⟩⟩, ⟨⟨#[]⟩, ⟨#[]⟩, true, vo⟩⟩ = if P.pathS fp then 0 else 5 from thE_two _ _ _ _ _ _ _ _ _] at hr
                  rw [hr]
                  clear hr hs
                  generalize P.pathS fp = p at *
                  have HB0 := Lib.hid (below2 w (.cells #[.int .i64 2, .string fp, .string ⟨#[]⟩, .bool false, .string ⟨#[]⟩, .string ⟨#[]⟩, .string ⟨#[]⟩, .string ⟨#[]⟩, .bool true, .bool vo] 73) (.cells #[.int .i64 0, .string fp, .string ⟨#[]⟩, .bool false, .string ⟨#[]⟩, .string ⟨#[]⟩, .string ⟨#[]⟩, .string ⟨#[]⟩, .bool true, .bool vo] 73))
                  have HR0 := Lib.hid (HasRow.new (w.alloc (.cells #[.int .i64 2, .string fp, .string ⟨#[]⟩, .bool false, .string ⟨#[]⟩, .string ⟨#[]⟩, .string ⟨#[]⟩, .string ⟨#[]⟩, .bool true, .bool vo] 73)) #[.int .i64 0, .string fp, .string ⟨#[]⟩, .bool false, .string ⟨#[]⟩, .string ⟨#[]⟩, .string ⟨#[]⟩, .string ⟨#[]⟩, .bool true, .bool vo] 73)
                  rw [World.size_alloc] at HR0
                  have HX0 := Lib.hid ((HasRow.new w #[.int .i64 2, .string fp, .string ⟨#[]⟩, .bool false, .string ⟨#[]⟩, .string ⟨#[]⟩, .string ⟨#[]⟩, .string ⟨#[]⟩, .bool true, .bool vo] 73).alloc (.cells #[.int .i64 0, .string fp, .string ⟨#[]⟩, .bool false, .string ⟨#[]⟩, .string ⟨#[]⟩, .string ⟨#[]⟩, .string ⟨#[]⟩, .bool true, .bool vo] 73))
                  clear hw
                  cases p
                  all_goals
                    go_enter Tryz.func44, Tryz.ntmps44
                    go_wp2_with (first
                      | (go_at_call 40; refine (HE.out _ (HW.out.mono HB0.out)).mono ?_; rintro e w2 ⟨rfl, hb2⟩; have HB2 := Lib.hid (bstep HB0.out hb2); have HR2 := Lib.hid (HR0.out.below hb2); obtain ⟨d0, d1, d2, d3, d4, d5, d6, d7, d8, d9⟩ := hrow10 HR2.out; have f1 := HR2.out.free 1; have HR3 : Hid (HasRow _ (w.heap.size + 1) #[.int .i64 0, .string ⟨#[]⟩, .string ⟨#[]⟩, .bool false, .string ⟨#[]⟩, .string ⟨#[]⟩, .string ⟨#[]⟩, .string ⟨#[]⟩, .bool true, .bool vo]) := Lib.hid (HR2.out.set 1 (.string ⟨#[]⟩) (by simp)); have HB3 := Lib.hid (HB2.out.setCell (p := ⟨w.heap.size + 1, 1, none⟩) (Nat.le_succ _) (.string ⟨#[]⟩)); obtain ⟨g0, g1, g2, g3, g4, g5, g6, g7, g8, g9⟩ := hrow10 HR3.out)
                      | (go_at_call 87; refine (HN.out _ _ _).mono ?_; rintro e w3 ⟨rfl, rfl⟩)
                      | (go_at_call 88; refine (HO.out _ _ _ _ (by simp)).mono ?_; rintro e w4 ⟨rfl, rfl⟩))
                    go_ret
                    exact ⟨rfl, by first | exact bstep HB3.out (below_alloc _ _) | exact HB3.out⟩
              · have hr : P.chE ⟨2, ⟨fp, ⟨#[]⟩, false⟩, ⟨⟨#[]⟩, ⟨#[]⟩⟩, ⟨⟨#[]⟩, vp, va, vo⟩⟩ = P.orE (P.thE ⟨2, ⟨fp, ⟨#[]⟩, false⟩, ⟨⟨#[]⟩, ⟨#[]⟩⟩, ⟨⟨#[]⟩, vp, va, vo⟩⟩) 2 := by unfold P.chE; rw [show P.eqC ⟨2, ⟨fp, ⟨#[]⟩, false⟩, ⟨⟨#[]⟩, ⟨#[]⟩⟩, ⟨⟨#[]⟩, vp, va, vo⟩⟩ (P.needed ⟨2, ⟨fp, ⟨#[]⟩, false⟩, ⟨⟨#[]⟩, ⟨#[]⟩⟩, ⟨⟨#[]⟩, vp, va, vo⟩⟩) = false from by simp [P.eqC, P.needed, P.st0, P.sv0, hd]]; rfl
                have HE := Lib.hid (fun W hW => rpath_any fp hs.fp W hW)
                rw [show P.thE ⟨2, ⟨fp, ⟨#[]⟩, false⟩, ⟨⟨#[]⟩, ⟨#[]⟩⟩, ⟨⟨#[]⟩, vp, va, vo⟩⟩ = if P.pathS fp then 0 else 5 from thE_two _ _ _ _ _ _ _ _ _] at hr
                rw [hr]
                clear hr hs
                generalize P.pathS fp = p at *
                have HB0 := Lib.hid (below2 w (.cells #[.int .i64 2, .string fp, .string ⟨#[]⟩, .bool false, .string ⟨#[]⟩, .string ⟨#[]⟩, .string ⟨#[]⟩, .string vp, .bool va, .bool vo] 73) (.cells #[.int .i64 0, .string fp, .string ⟨#[]⟩, .bool false, .string ⟨#[]⟩, .string ⟨#[]⟩, .string ⟨#[]⟩, .string vp, .bool va, .bool vo] 73))
                have HR0 := Lib.hid (HasRow.new (w.alloc (.cells #[.int .i64 2, .string fp, .string ⟨#[]⟩, .bool false, .string ⟨#[]⟩, .string ⟨#[]⟩, .string ⟨#[]⟩, .string vp, .bool va, .bool vo] 73)) #[.int .i64 0, .string fp, .string ⟨#[]⟩, .bool false, .string ⟨#[]⟩, .string ⟨#[]⟩, .string ⟨#[]⟩, .string vp, .bool va, .bool vo] 73)
                rw [World.size_alloc] at HR0
                have HX0 := Lib.hid ((HasRow.new w #[.int .i64 2, .string fp, .string ⟨#[]⟩, .bool false, .string ⟨#[]⟩, .string ⟨#[]⟩, .string ⟨#[]⟩, .string vp, .bool va, .bool vo] 73).alloc (.cells #[.int .i64 0, .string fp, .string ⟨#[]⟩, .bool false, .string ⟨#[]⟩, .string ⟨#[]⟩, .string ⟨#[]⟩, .string vp, .bool va, .bool vo] 73))
                clear hw
                cases p
                all_goals
                  go_enter Tryz.func44, Tryz.ntmps44
                  go_wp2_with (first
                    | (go_at_call 40; refine (HE.out _ (HW.out.mono HB0.out)).mono ?_; rintro e w2 ⟨rfl, hb2⟩; have HB2 := Lib.hid (bstep HB0.out hb2); have HR2 := Lib.hid (HR0.out.below hb2); obtain ⟨d0, d1, d2, d3, d4, d5, d6, d7, d8, d9⟩ := hrow10 HR2.out; have f1 := HR2.out.free 1; have HR3 : Hid (HasRow _ (w.heap.size + 1) #[.int .i64 0, .string ⟨#[]⟩, .string ⟨#[]⟩, .bool false, .string ⟨#[]⟩, .string ⟨#[]⟩, .string ⟨#[]⟩, .string vp, .bool va, .bool vo]) := Lib.hid (HR2.out.set 1 (.string ⟨#[]⟩) (by simp)); have HB3 := Lib.hid (HB2.out.setCell (p := ⟨w.heap.size + 1, 1, none⟩) (Nat.le_succ _) (.string ⟨#[]⟩)); obtain ⟨g0, g1, g2, g3, g4, g5, g6, g7, g8, g9⟩ := hrow10 HR3.out)
                    | (go_at_call 87; refine (HN.out _ _ _).mono ?_; rintro e w3 ⟨rfl, rfl⟩)
                    | (go_at_call 88; refine (HO.out _ _ _ _ (by simp)).mono ?_; rintro e w4 ⟨rfl, rfl⟩))
                  go_ret
                  exact ⟨rfl, by first | exact bstep HB3.out (below_alloc _ _) | exact HB3.out⟩
            · have hr : P.chE ⟨2, ⟨fp, ⟨#[]⟩, false⟩, ⟨⟨#[]⟩, ⟨#[]⟩⟩, ⟨vn, vp, va, vo⟩⟩ = P.orE (P.thE ⟨2, ⟨fp, ⟨#[]⟩, false⟩, ⟨⟨#[]⟩, ⟨#[]⟩⟩, ⟨vn, vp, va, vo⟩⟩) 2 := by unfold P.chE; rw [show P.eqC ⟨2, ⟨fp, ⟨#[]⟩, false⟩, ⟨⟨#[]⟩, ⟨#[]⟩⟩, ⟨vn, vp, va, vo⟩⟩ (P.needed ⟨2, ⟨fp, ⟨#[]⟩, false⟩, ⟨⟨#[]⟩, ⟨#[]⟩⟩, ⟨vn, vp, va, vo⟩⟩) = false from by simp [P.eqC, P.needed, P.st0, P.sv0, hd]]; rfl
              have HE := Lib.hid (fun W hW => rpath_any fp hs.fp W hW)
              rw [show P.thE ⟨2, ⟨fp, ⟨#[]⟩, false⟩, ⟨⟨#[]⟩, ⟨#[]⟩⟩, ⟨vn, vp, va, vo⟩⟩ = if P.pathS fp then 0 else 5 from thE_two _ _ _ _ _ _ _ _ _] at hr
              rw [hr]
              clear hr hs
              generalize P.pathS fp = p at *
              have HB0 := Lib.hid (below2 w (.cells #[.int .i64 2, .string fp, .string ⟨#[]⟩, .bool false, .string ⟨#[]⟩, .string ⟨#[]⟩, .string vn, .string vp, .bool va, .bool vo] 73) (.cells #[.int .i64 0, .string fp, .string ⟨#[]⟩, .bool false, .string ⟨#[]⟩, .string ⟨#[]⟩, .string vn, .string vp, .bool va, .bool vo] 73))
              have HR0 := Lib.hid (HasRow.new (w.alloc (.cells #[.int .i64 2, .string fp, .string ⟨#[]⟩, .bool false, .string ⟨#[]⟩, .string ⟨#[]⟩, .string vn, .string vp, .bool va, .bool vo] 73)) #[.int .i64 0, .string fp, .string ⟨#[]⟩, .bool false, .string ⟨#[]⟩, .string ⟨#[]⟩, .string vn, .string vp, .bool va, .bool vo] 73)
              rw [World.size_alloc] at HR0
              have HX0 := Lib.hid ((HasRow.new w #[.int .i64 2, .string fp, .string ⟨#[]⟩, .bool false, .string ⟨#[]⟩, .string ⟨#[]⟩, .string vn, .string vp, .bool va, .bool vo] 73).alloc (.cells #[.int .i64 0, .string fp, .string ⟨#[]⟩, .bool false, .string ⟨#[]⟩, .string ⟨#[]⟩, .string vn, .string vp, .bool va, .bool vo] 73))
              clear hw
              cases p
              all_goals
                go_enter Tryz.func44, Tryz.ntmps44
                go_wp2_with (first
                  | (go_at_call 40; refine (HE.out _ (HW.out.mono HB0.out)).mono ?_; rintro e w2 ⟨rfl, hb2⟩; have HB2 := Lib.hid (bstep HB0.out hb2); have HR2 := Lib.hid (HR0.out.below hb2); obtain ⟨d0, d1, d2, d3, d4, d5, d6, d7, d8, d9⟩ := hrow10 HR2.out; have f1 := HR2.out.free 1; have HR3 : Hid (HasRow _ (w.heap.size + 1) #[.int .i64 0, .string ⟨#[]⟩, .string ⟨#[]⟩, .bool false, .string ⟨#[]⟩, .string ⟨#[]⟩, .string vn, .string vp, .bool va, .bool vo]) := Lib.hid (HR2.out.set 1 (.string ⟨#[]⟩) (by simp)); have HB3 := Lib.hid (HB2.out.setCell (p := ⟨w.heap.size + 1, 1, none⟩) (Nat.le_succ _) (.string ⟨#[]⟩)); obtain ⟨g0, g1, g2, g3, g4, g5, g6, g7, g8, g9⟩ := hrow10 HR3.out)
                  | (go_at_call 87; refine (HN.out _ _ _).mono ?_; rintro e w3 ⟨rfl, rfl⟩)
                  | (go_at_call 88; refine (HO.out _ _ _ _ (by simp)).mono ?_; rintro e w4 ⟨rfl, rfl⟩))
                go_ret
                exact ⟨rfl, by first | exact bstep HB3.out (below_alloc _ _) | exact HB3.out⟩
          · have hr : P.chE ⟨2, ⟨fp, ⟨#[]⟩, false⟩, ⟨⟨#[]⟩, sv⟩, ⟨vn, vp, va, vo⟩⟩ = P.orE (P.thE ⟨2, ⟨fp, ⟨#[]⟩, false⟩, ⟨⟨#[]⟩, sv⟩, ⟨vn, vp, va, vo⟩⟩) 2 := by unfold P.chE; rw [show P.eqC ⟨2, ⟨fp, ⟨#[]⟩, false⟩, ⟨⟨#[]⟩, sv⟩, ⟨vn, vp, va, vo⟩⟩ (P.needed ⟨2, ⟨fp, ⟨#[]⟩, false⟩, ⟨⟨#[]⟩, sv⟩, ⟨vn, vp, va, vo⟩⟩) = false from by simp [P.eqC, P.needed, P.st0, P.sv0, hd]]; rfl
            have HE := Lib.hid (fun W hW => rpath_any fp hs.fp W hW)
            rw [show P.thE ⟨2, ⟨fp, ⟨#[]⟩, false⟩, ⟨⟨#[]⟩, sv⟩, ⟨vn, vp, va, vo⟩⟩ = if P.pathS fp then 0 else 5 from thE_two _ _ _ _ _ _ _ _ _] at hr
            rw [hr]
            clear hr hs
            generalize P.pathS fp = p at *
            have HB0 := Lib.hid (below2 w (.cells #[.int .i64 2, .string fp, .string ⟨#[]⟩, .bool false, .string ⟨#[]⟩, .string sv, .string vn, .string vp, .bool va, .bool vo] 73) (.cells #[.int .i64 0, .string fp, .string ⟨#[]⟩, .bool false, .string ⟨#[]⟩, .string sv, .string vn, .string vp, .bool va, .bool vo] 73))
            have HR0 := Lib.hid (HasRow.new (w.alloc (.cells #[.int .i64 2, .string fp, .string ⟨#[]⟩, .bool false, .string ⟨#[]⟩, .string sv, .string vn, .string vp, .bool va, .bool vo] 73)) #[.int .i64 0, .string fp, .string ⟨#[]⟩, .bool false, .string ⟨#[]⟩, .string sv, .string vn, .string vp, .bool va, .bool vo] 73)
            rw [World.size_alloc] at HR0
            have HX0 := Lib.hid ((HasRow.new w #[.int .i64 2, .string fp, .string ⟨#[]⟩, .bool false, .string ⟨#[]⟩, .string sv, .string vn, .string vp, .bool va, .bool vo] 73).alloc (.cells #[.int .i64 0, .string fp, .string ⟨#[]⟩, .bool false, .string ⟨#[]⟩, .string sv, .string vn, .string vp, .bool va, .bool vo] 73))
            clear hw
            cases p
            all_goals
              go_enter Tryz.func44, Tryz.ntmps44
              go_wp2_with (first
                | (go_at_call 40; refine (HE.out _ (HW.out.mono HB0.out)).mono ?_; rintro e w2 ⟨rfl, hb2⟩; have HB2 := Lib.hid (bstep HB0.out hb2); have HR2 := Lib.hid (HR0.out.below hb2); obtain ⟨d0, d1, d2, d3, d4, d5, d6, d7, d8, d9⟩ := hrow10 HR2.out; have f1 := HR2.out.free 1; have HR3 : Hid (HasRow _ (w.heap.size + 1) #[.int .i64 0, .string ⟨#[]⟩, .string ⟨#[]⟩, .bool false, .string ⟨#[]⟩, .string sv, .string vn, .string vp, .bool va, .bool vo]) := Lib.hid (HR2.out.set 1 (.string ⟨#[]⟩) (by simp)); have HB3 := Lib.hid (HB2.out.setCell (p := ⟨w.heap.size + 1, 1, none⟩) (Nat.le_succ _) (.string ⟨#[]⟩)); obtain ⟨g0, g1, g2, g3, g4, g5, g6, g7, g8, g9⟩ := hrow10 HR3.out)
                | (go_at_call 87; refine (HN.out _ _ _).mono ?_; rintro e w3 ⟨rfl, rfl⟩)
                | (go_at_call 88; refine (HO.out _ _ _ _ (by simp)).mono ?_; rintro e w4 ⟨rfl, rfl⟩))
              go_ret
              exact ⟨rfl, by first | exact bstep HB3.out (below_alloc _ _) | exact HB3.out⟩
        · have hr : P.chE ⟨2, ⟨fp, ⟨#[]⟩, false⟩, ⟨sk, sv⟩, ⟨vn, vp, va, vo⟩⟩ = P.orE (P.thE ⟨2, ⟨fp, ⟨#[]⟩, false⟩, ⟨sk, sv⟩, ⟨vn, vp, va, vo⟩⟩) 2 := by unfold P.chE; rw [show P.eqC ⟨2, ⟨fp, ⟨#[]⟩, false⟩, ⟨sk, sv⟩, ⟨vn, vp, va, vo⟩⟩ (P.needed ⟨2, ⟨fp, ⟨#[]⟩, false⟩, ⟨sk, sv⟩, ⟨vn, vp, va, vo⟩⟩) = false from by simp [P.eqC, P.needed, P.st0, P.sv0, hd]]; rfl
          have HE := Lib.hid (fun W hW => rpath_any fp hs.fp W hW)
          rw [show P.thE ⟨2, ⟨fp, ⟨#[]⟩, false⟩, ⟨sk, sv⟩, ⟨vn, vp, va, vo⟩⟩ = if P.pathS fp then 0 else 5 from thE_two _ _ _ _ _ _ _ _ _] at hr
          rw [hr]
          clear hr hs
          generalize P.pathS fp = p at *
          have HB0 := Lib.hid (below2 w (.cells #[.int .i64 2, .string fp, .string ⟨#[]⟩, .bool false, .string sk, .string sv, .string vn, .string vp, .bool va, .bool vo] 73) (.cells #[.int .i64 0, .string fp, .string ⟨#[]⟩, .bool false, .string sk, .string sv, .string vn, .string vp, .bool va, .bool vo] 73))
          have HR0 := Lib.hid (HasRow.new (w.alloc (.cells #[.int .i64 2, .string fp, .string ⟨#[]⟩, .bool false, .string sk, .string sv, .string vn, .string vp, .bool va, .bool vo] 73)) #[.int .i64 0, .string fp, .string ⟨#[]⟩, .bool false, .string sk, .string sv, .string vn, .string vp, .bool va, .bool vo] 73)
          rw [World.size_alloc] at HR0
          have HX0 := Lib.hid ((HasRow.new w #[.int .i64 2, .string fp, .string ⟨#[]⟩, .bool false, .string sk, .string sv, .string vn, .string vp, .bool va, .bool vo] 73).alloc (.cells #[.int .i64 0, .string fp, .string ⟨#[]⟩, .bool false, .string sk, .string sv, .string vn, .string vp, .bool va, .bool vo] 73))
          clear hw
          cases p
          all_goals
            go_enter Tryz.func44, Tryz.ntmps44
            go_wp2_with (first
              | (go_at_call 40; refine (HE.out _ (HW.out.mono HB0.out)).mono ?_; rintro e w2 ⟨rfl, hb2⟩; have HB2 := Lib.hid (bstep HB0.out hb2); have HR2 := Lib.hid (HR0.out.below hb2); obtain ⟨d0, d1, d2, d3, d4, d5, d6, d7, d8, d9⟩ := hrow10 HR2.out; have f1 := HR2.out.free 1; have HR3 : Hid (HasRow _ (w.heap.size + 1) #[.int .i64 0, .string ⟨#[]⟩, .string ⟨#[]⟩, .bool false, .string sk, .string sv, .string vn, .string vp, .bool va, .bool vo]) := Lib.hid (HR2.out.set 1 (.string ⟨#[]⟩) (by simp)); have HB3 := Lib.hid (HB2.out.setCell (p := ⟨w.heap.size + 1, 1, none⟩) (Nat.le_succ _) (.string ⟨#[]⟩)); obtain ⟨g0, g1, g2, g3, g4, g5, g6, g7, g8, g9⟩ := hrow10 HR3.out)
              | (go_at_call 87; refine (HN.out _ _ _).mono ?_; rintro e w3 ⟨rfl, rfl⟩)
              | (go_at_call 88; refine (HO.out _ _ _ _ (by simp)).mono ?_; rintro e w4 ⟨rfl, rfl⟩))
            go_ret
            exact ⟨rfl, by first | exact bstep HB3.out (below_alloc _ _) | exact HB3.out⟩
      · have hr : P.chE ⟨2, ⟨fp, ⟨#[]⟩, true⟩, ⟨sk, sv⟩, ⟨vn, vp, va, vo⟩⟩ = P.orE (P.thE ⟨2, ⟨fp, ⟨#[]⟩, true⟩, ⟨sk, sv⟩, ⟨vn, vp, va, vo⟩⟩) 2 := by unfold P.chE; rw [show P.eqC ⟨2, ⟨fp, ⟨#[]⟩, true⟩, ⟨sk, sv⟩, ⟨vn, vp, va, vo⟩⟩ (P.needed ⟨2, ⟨fp, ⟨#[]⟩, true⟩, ⟨sk, sv⟩, ⟨vn, vp, va, vo⟩⟩) = false from by simp [P.eqC, P.needed, P.st0, P.sv0]]; rfl
        have HE := Lib.hid (fun W hW => rpath_any fp hs.fp W hW)
        rw [show P.thE ⟨2, ⟨fp, ⟨#[]⟩, true⟩, ⟨sk, sv⟩, ⟨vn, vp, va, vo⟩⟩ = if P.pathS fp then 0 else 5 from thE_two _ _ _ _ _ _ _ _ _] at hr
        rw [hr]
        clear hr hs
        generalize P.pathS fp = p at *
        have HB0 := Lib.hid (below2 w (.cells #[.int .i64 2, .string fp, .string ⟨#[]⟩, .bool true, .string sk, .string sv, .string vn, .string vp, .bool va, .bool vo] 73) (.cells #[.int .i64 0, .string fp, .string ⟨#[]⟩, .bool true, .string sk, .string sv, .string vn, .string vp, .bool va, .bool vo] 73))
        have HR0 := Lib.hid (HasRow.new (w.alloc (.cells #[.int .i64 2, .string fp, .string ⟨#[]⟩, .bool true, .string sk, .string sv, .string vn, .string vp, .bool va, .bool vo] 73)) #[.int .i64 0, .string fp, .string ⟨#[]⟩, .bool true, .string sk, .string sv, .string vn, .string vp, .bool va, .bool vo] 73)
        rw [World.size_alloc] at HR0
        have HX0 := Lib.hid ((HasRow.new w #[.int .i64 2, .string fp, .string ⟨#[]⟩, .bool true, .string sk, .string sv, .string vn, .string vp, .bool va, .bool vo] 73).alloc (.cells #[.int .i64 0, .string fp, .string ⟨#[]⟩, .bool true, .string sk, .string sv, .string vn, .string vp, .bool va, .bool vo] 73))
        clear hw
        cases p
        all_goals
          go_enter Tryz.func44, Tryz.ntmps44
          go_wp2_with (first
            | (go_at_call 40; refine (HE.out _ (HW.out.mono HB0.out)).mono ?_; rintro e w2 ⟨rfl, hb2⟩; have HB2 := Lib.hid (bstep HB0.out hb2); have HR2 := Lib.hid (HR0.out.below hb2); obtain ⟨d0, d1, d2, d3, d4, d5, d6, d7, d8, d9⟩ := hrow10 HR2.out; have f1 := HR2.out.free 1; have HR3 : Hid (HasRow _ (w.heap.size + 1) #[.int .i64 0, .string ⟨#[]⟩, .string ⟨#[]⟩, .bool true, .string sk, .string sv, .string vn, .string vp, .bool va, .bool vo]) := Lib.hid (HR2.out.set 1 (.string ⟨#[]⟩) (by simp)); have HB3 := Lib.hid (HB2.out.setCell (p := ⟨w.heap.size + 1, 1, none⟩) (Nat.le_succ _) (.string ⟨#[]⟩)); obtain ⟨g0, g1, g2, g3, g4, g5, g6, g7, g8, g9⟩ := hrow10 HR3.out)
            | (go_at_call 87; refine (HN.out _ _ _).mono ?_; rintro e w3 ⟨rfl, rfl⟩)
            | (go_at_call 88; refine (HO.out _ _ _ _ (by simp)).mono ?_; rintro e w4 ⟨rfl, rfl⟩))
          go_ret
          exact ⟨rfl, by first | exact bstep HB3.out (below_alloc _ _) | exact HB3.out⟩
    · have hr : P.chE ⟨2, ⟨fp, fd, fr⟩, ⟨sk, sv⟩, ⟨vn, vp, va, vo⟩⟩ = P.orE (P.thE ⟨2, ⟨fp, fd, fr⟩, ⟨sk, sv⟩, ⟨vn, vp, va, vo⟩⟩) 2 := by unfold P.chE; rw [show P.eqC ⟨2, ⟨fp, fd, fr⟩, ⟨sk, sv⟩, ⟨vn, vp, va, vo⟩⟩ (P.needed ⟨2, ⟨fp, fd, fr⟩, ⟨sk, sv⟩, ⟨vn, vp, va, vo⟩⟩) = false from by simp [P.eqC, P.needed, P.st0, P.sv0, hd]]; rfl
      have HE := Lib.hid (fun W hW => rpath_any fp hs.fp W hW)
      rw [show P.thE ⟨2, ⟨fp, fd, fr⟩, ⟨sk, sv⟩, ⟨vn, vp, va, vo⟩⟩ = if P.pathS fp then 0 else 5 from thE_two _ _ _ _ _ _ _ _ _] at hr
      rw [hr]
      clear hr hs
      generalize P.pathS fp = p at *
      have HB0 := Lib.hid (below2 w (.cells #[.int .i64 2, .string fp, .string fd, .bool fr, .string sk, .string sv, .string vn, .string vp, .bool va, .bool vo] 73) (.cells #[.int .i64 0, .string fp, .string fd, .bool fr, .string sk, .string sv, .string vn, .string vp, .bool va, .bool vo] 73))
      have HR0 := Lib.hid (HasRow.new (w.alloc (.cells #[.int .i64 2, .string fp, .string fd, .bool fr, .string sk, .string sv, .string vn, .string vp, .bool va, .bool vo] 73)) #[.int .i64 0, .string fp, .string fd, .bool fr, .string sk, .string sv, .string vn, .string vp, .bool va, .bool vo] 73)
      rw [World.size_alloc] at HR0
      have HX0 := Lib.hid ((HasRow.new w #[.int .i64 2, .string fp, .string fd, .bool fr, .string sk, .string sv, .string vn, .string vp, .bool va, .bool vo] 73).alloc (.cells #[.int .i64 0, .string fp, .string fd, .bool fr, .string sk, .string sv, .string vn, .string vp, .bool va, .bool vo] 73))
      clear hw
      cases p
      all_goals
        go_enter Tryz.func44, Tryz.ntmps44
        go_wp2_with (first
          | (go_at_call 40; refine (HE.out _ (HW.out.mono HB0.out)).mono ?_; rintro e w2 ⟨rfl, hb2⟩; have HB2 := Lib.hid (bstep HB0.out hb2); have HR2 := Lib.hid (HR0.out.below hb2); obtain ⟨d0, d1, d2, d3, d4, d5, d6, d7, d8, d9⟩ := hrow10 HR2.out; have f1 := HR2.out.free 1; have HR3 : Hid (HasRow _ (w.heap.size + 1) #[.int .i64 0, .string ⟨#[]⟩, .string fd, .bool fr, .string sk, .string sv, .string vn, .string vp, .bool va, .bool vo]) := Lib.hid (HR2.out.set 1 (.string ⟨#[]⟩) (by simp)); have HB3 := Lib.hid (HB2.out.setCell (p := ⟨w.heap.size + 1, 1, none⟩) (Nat.le_succ _) (.string ⟨#[]⟩)); obtain ⟨g0, g1, g2, g3, g4, g5, g6, g7, g8, g9⟩ := hrow10 HR3.out)
          | (go_at_call 87; refine (HN.out _ _ _).mono ?_; rintro e w3 ⟨rfl, rfl⟩)
          | (go_at_call 88; refine (HO.out _ _ _ _ (by simp)).mono ?_; rintro e w4 ⟨rfl, rfl⟩))
        go_ret
        exact ⟨rfl, by first | exact bstep HB3.out (below_alloc _ _) | exact HB3.out⟩
set_option maxRecDepth 100000 in
set_option maxHeartbeats 40000000 in
theorem changeError3 (fp fd sk sv vn vp : ByteArray) (fr va vo : Bool) (hs : P.CSm 4294967280 ⟨3, ⟨fp, fd, fr⟩, ⟨sk, sv⟩, ⟨vn, vp, va, vo⟩⟩) (w : World) (hw : Good w) :
    Calls Tryz.prog 44 #[.agg #[.int .i64 3, .string fp, .string fd, .bool fr, .string sk, .string sv, .string vn, .string vp, .bool va, .bool vo]] w fun e w' => e = .returned (.int .i64 (P.chE ⟨3, ⟨fp, fd, fr⟩, ⟨sk, sv⟩, ⟨vn, vp, va, vo⟩⟩)) ∧ Below w.heap.size w w' := by
    have HO := Lib.hid (fun a b nb W hn => rfirst2 a b nb W hn)
    have HN := Lib.hid rwhen_any
    have HW := Lib.hid hw
    rcases empty_cases fp with rfl | ⟨hd, hd2⟩
    · rcases empty_cases fd with rfl | ⟨hd, hd2⟩
      · cases fr
        · rcases empty_cases vn with rfl | ⟨hd, hd2⟩
          · rcases empty_cases vp with rfl | ⟨hd, hd2⟩
            · cases va
              · cases vo
                · have hr : P.chE ⟨3, ⟨⟨#[]⟩, ⟨#[]⟩, false⟩, ⟨sk, sv⟩, ⟨⟨#[]⟩, ⟨#[]⟩, false, false⟩⟩ = P.orE (P.thE ⟨3, ⟨⟨#[]⟩, ⟨#[]⟩, false⟩, ⟨sk, sv⟩, ⟨⟨#[]⟩, ⟨#[]⟩, false, false⟩⟩) 0 := by unfold P.chE; rw [show P.eqC ⟨3, ⟨⟨#[]⟩, ⟨#[]⟩, false⟩, ⟨sk, sv⟩, ⟨⟨#[]⟩, ⟨#[]⟩, false, false⟩⟩ (P.needed ⟨3, ⟨⟨#[]⟩, ⟨#[]⟩, false⟩, ⟨sk, sv⟩, ⟨⟨#[]⟩, ⟨#[]⟩, false, false⟩⟩) = true from by simp [P.eqC, P.needed, P.fi0, P.sv0]]; rfl
                  have HE := Lib.hid (fun W hW => rsettingError_any ⟨sk, sv⟩ hs.sk hs.sv W hW)
                  rw [show P.thE ⟨3, ⟨⟨#[]⟩, ⟨#[]⟩, false⟩, ⟨sk, sv⟩, ⟨⟨#[]⟩, ⟨#[]⟩, false, false⟩⟩ = P.setErr ⟨sk, sv⟩ from rfl] at hr
                  rw [hr]
                  clear hr hs
                  generalize P.setErr ⟨sk, sv⟩ = a at *
                  have HB0 := Lib.hid (below2 w (.cells #[.int .i64 3, .string ⟨#[]⟩, .string ⟨#[]⟩, .bool false, .string sk, .string sv, .string ⟨#[]⟩, .string ⟨#[]⟩, .bool false, .bool false] 73) (.cells #[.int .i64 0, .string ⟨#[]⟩, .string ⟨#[]⟩, .bool false, .string sk, .string sv, .string ⟨#[]⟩, .string ⟨#[]⟩, .bool false, .bool false] 73))
                  have HR0 := Lib.hid (HasRow.new (w.alloc (.cells #[.int .i64 3, .string ⟨#[]⟩, .string ⟨#[]⟩, .bool false, .string sk, .string sv, .string ⟨#[]⟩, .string ⟨#[]⟩, .bool false, .bool false] 73)) #[.int .i64 0, .string ⟨#[]⟩, .string ⟨#[]⟩, .bool false, .string sk, .string sv, .string ⟨#[]⟩, .string ⟨#[]⟩, .bool false, .bool false] 73)
                  rw [World.size_alloc] at HR0
                  have HX0 := Lib.hid ((HasRow.new w #[.int .i64 3, .string ⟨#[]⟩, .string ⟨#[]⟩, .bool false, .string sk, .string sv, .string ⟨#[]⟩, .string ⟨#[]⟩, .bool false, .bool false] 73).alloc (.cells #[.int .i64 0, .string ⟨#[]⟩, .string ⟨#[]⟩, .bool false, .string sk, .string sv, .string ⟨#[]⟩, .string ⟨#[]⟩, .bool false, .bool false] 73))
                  clear hw
                  go_enter Tryz.func44, Tryz.ntmps44
                  go_wp2_with (first
                    | (go_at_call 91; refine (HE.out _ (HW.out.mono HB0.out)).mono ?_; rintro e w2 ⟨rfl, hb2⟩; have HB2 := Lib.hid (bstep HB0.out hb2); have HR2 := Lib.hid (HR0.out.below hb2); obtain ⟨d0, d1, d2, d3, d4, d5, d6, d7, d8, d9⟩ := hrow10 HR2.out; have f4 := HR2.out.free 4; have f5 := HR2.out.free 5; have HR3 : Hid (HasRow _ (w.heap.size + 1) #[.int .i64 0, .string ⟨#[]⟩, .string ⟨#[]⟩, .bool false, .string ⟨#[]⟩, .string ⟨#[]⟩, .string ⟨#[]⟩, .string ⟨#[]⟩, .bool false, .bool false]) := Lib.hid ((HR2.out.set 4 (.string ⟨#[]⟩) (by simp)).set 5 (.string ⟨#[]⟩) (by simp)); have HB3 := Lib.hid ((HB2.out.setCell (p := ⟨w.heap.size + 1, 4, none⟩) (Nat.le_succ _) (.string ⟨#[]⟩)).setCell (p := ⟨w.heap.size + 1, 5, none⟩) (Nat.le_succ _) (.string ⟨#[]⟩)); obtain ⟨g0, g1, g2, g3, g4, g5, g6, g7, g8, g9⟩ := hrow10 HR3.out)
                    | (go_at_call 87; refine (HN.out _ _ _).mono ?_; rintro e w3 ⟨rfl, rfl⟩)
                    | (go_at_call 88; refine (HO.out _ _ _ _ (by simp)).mono ?_; rintro e w4 ⟨rfl, rfl⟩))
                  go_ret
                  exact ⟨rfl, by first | exact bstep HB3.out (below_alloc _ _) | exact HB3.out⟩
                · have hr : P.chE ⟨3, ⟨⟨#[]⟩, ⟨#[]⟩, false⟩, ⟨sk, sv⟩, ⟨⟨#[]⟩, ⟨#[]⟩, false, true⟩⟩ = P.orE (P.thE ⟨3, ⟨⟨#[]⟩, ⟨#[]⟩, false⟩, ⟨sk, sv⟩, ⟨⟨#[]⟩, ⟨#[]⟩, false, true⟩⟩) 2 := by unfold P.chE; rw [show P.eqC ⟨3, ⟨⟨#[]⟩, ⟨#[]⟩, false⟩, ⟨sk, sv⟩, ⟨⟨#[]⟩, ⟨#[]⟩, false, true⟩⟩ (P.needed ⟨3, ⟨⟨#[]⟩, ⟨#[]⟩, false⟩, ⟨sk, sv⟩, ⟨⟨#[]⟩, ⟨#[]⟩, false, true⟩⟩) = false from by simp [P.eqC, P.needed, P.fi0, P.sv0]]; rfl
                  have HE := Lib.hid (fun W hW => rsettingError_any ⟨sk, sv⟩ hs.sk hs.sv W hW)
                  rw [show P.thE ⟨3, ⟨⟨#[]⟩, ⟨#[]⟩, false⟩, ⟨sk, sv⟩, ⟨⟨#[]⟩, ⟨#[]⟩, false, true⟩⟩ = P.setErr ⟨sk, sv⟩ from rfl] at hr
                  rw [hr]
                  clear hr hs
                  generalize P.setErr ⟨sk, sv⟩ = a at *
                  have HB0 := Lib.hid (below2 w (.cells #[.int .i64 3, .string ⟨#[]⟩, .string ⟨#[]⟩, .bool false, .string sk, .string sv, .string ⟨#[]⟩, .string ⟨#[]⟩, .bool false, .bool true] 73) (.cells #[.int .i64 0, .string ⟨#[]⟩, .string ⟨#[]⟩, .bool false, .string sk, .string sv, .string ⟨#[]⟩, .string ⟨#[]⟩, .bool false, .bool true] 73))
                  have HR0 := Lib.hid (HasRow.new (w.alloc (.cells #[.int .i64 3, .string ⟨#[]⟩, .string ⟨#[]⟩, .bool false, .string sk, .string sv, .string ⟨#[]⟩, .string ⟨#[]⟩, .bool false, .bool true] 73)) #[.int .i64 0, .string ⟨#[]⟩, .string ⟨#[]⟩, .bool false, .string sk, .string sv, .string ⟨#[]⟩, .string ⟨#[]⟩, .bool false, .bool true] 73)
                  rw [World.size_alloc] at HR0
                  have HX0 := Lib.hid ((HasRow.new w #[.int .i64 3, .string ⟨#[]⟩, .string ⟨#[]⟩, .bool false, .string sk, .string sv, .string ⟨#[]⟩, .string ⟨#[]⟩, .bool false, .bool true] 73).alloc (.cells #[.int .i64 0, .string ⟨#[]⟩, .string ⟨#[]⟩, .bool false, .string sk, .string sv, .string ⟨#[]⟩, .string ⟨#[]⟩, .bool false, .bool true] 73))
                  clear hw
                  go_enter Tryz.func44, Tryz.ntmps44
                  go_wp2_with (first
                    | (go_at_call 91; refine (HE.out _ (HW.out.mono HB0.out)).mono ?_; rintro e w2 ⟨rfl, hb2⟩; have HB2 := Lib.hid (bstep HB0.out hb2); have HR2 := Lib.hid (HR0.out.below hb2); obtain ⟨d0, d1, d2, d3, d4, d5, d6, d7, d8, d9⟩ := hrow10 HR2.out; have f4 := HR2.out.free 4; have f5 := HR2.out.free 5; have HR3 : Hid (HasRow _ (w.heap.size + 1) #[.int .i64 0, .string ⟨#[]⟩, .string ⟨#[]⟩, .bool false, .string ⟨#[]⟩, .string ⟨#[]⟩, .string ⟨#[]⟩, .string ⟨#[]⟩, .bool false, .bool true]) := Lib.hid ((HR2.out.set 4 (.string ⟨#[]⟩) (by simp)).set 5 (.string ⟨#[]⟩) (by simp)); have HB3 := Lib.hid ((HB2.out.setCell (p := ⟨w.heap.size + 1, 4, none⟩) (Nat.le_succ _) (.string ⟨#[]⟩)).setCell (p := ⟨w.heap.size + 1, 5, none⟩) (Nat.le_succ _) (.string ⟨#[]⟩)); obtain ⟨g0, g1, g2, g3, g4, g5, g6, g7, g8, g9⟩ := hrow10 HR3.out)
                    | (go_at_call 87; refine (HN.out _ _ _).mono ?_; rintro e w3 ⟨rfl, rfl⟩)
                    | (go_at_call 88; refine (HO.out _ _ _ _ (by simp)).mono ?_; rintro e w4 ⟨rfl, rfl⟩))
                  go_ret
                  exact ⟨rfl, by first | exact bstep HB3.out (below_alloc _ _) | exact HB3.out⟩
              · have hr : P.chE ⟨3, ⟨⟨#[]⟩, ⟨#[]⟩, false⟩, ⟨sk, sv⟩, ⟨⟨#[]⟩, ⟨#[]⟩, true, vo⟩⟩ = P.orE (P.thE ⟨3, ⟨⟨#[]⟩, ⟨#[]⟩, false⟩, ⟨sk, sv⟩, ⟨⟨#[]⟩, ⟨#[]⟩, true, vo⟩⟩) 2 := by unfold P.chE; rw [show P.eqC ⟨3, ⟨⟨#[]⟩, ⟨#[]⟩, false⟩, ⟨sk, sv⟩, ⟨⟨#[]⟩, ⟨#[]⟩, true, vo⟩⟩ (P.needed ⟨3, ⟨⟨#[]⟩, ⟨#[]⟩, false⟩, ⟨sk, sv⟩, ⟨⟨#[]⟩, ⟨#[]⟩, true, vo⟩⟩) = false from by simp [P.eqC, P.needed, P.fi0, P.sv0]]; rfl
                have HE := Lib.hid (fun W hW => rsettingError_any ⟨sk, sv⟩ hs.sk hs.sv W hW)
                rw [show P.thE ⟨3, ⟨⟨#[]⟩, ⟨#[]⟩, false⟩, ⟨sk, sv⟩, ⟨⟨#[]⟩, ⟨#[]⟩, true, vo⟩⟩ = P.setErr ⟨sk, sv⟩ from rfl] at hr
                rw [hr]
                clear hr hs
                generalize P.setErr ⟨sk, sv⟩ = a at *
                have HB0 := Lib.hid (below2 w (.cells #[.int .i64 3, .string ⟨#[]⟩, .string ⟨#[]⟩, .bool false, .string sk, .string sv, .string ⟨#[]⟩, .string ⟨#[]⟩, .bool true, .bool vo] 73) (.cells #[.int .i64 0, .string ⟨#[]⟩, .string ⟨#[]⟩, .bool false, .string sk, .string sv, .string ⟨#[]⟩, .string ⟨#[]⟩, .bool true, .bool vo] 73))
                have HR0 := Lib.hid (HasRow.new (w.alloc (.cells #[.int .i64 3, .string ⟨#[]⟩, .string ⟨#[]⟩, .bool false, .string sk, .string sv, .string ⟨#[]⟩, .string ⟨#[]⟩, .bool true, .bool vo] 73)) #[.int .i64 0, .string ⟨#[]⟩, .string ⟨#[]⟩, .bool false, .string sk, .string sv, .string ⟨#[]⟩, .string ⟨#[]⟩, .bool true, .bool vo] 73)
                rw [World.size_alloc] at HR0
                have HX0 := Lib.hid ((HasRow.new w #[.int .i64 3, .string ⟨#[]⟩, .string ⟨#[]⟩, .bool false, .string sk, .string sv, .string ⟨#[]⟩, .string ⟨#[]⟩, .bool true, .bool vo] 73).alloc (.cells #[.int .i64 0, .string ⟨#[]⟩, .string ⟨#[]⟩, .bool false, .string sk, .string sv, .string ⟨#[]⟩, .string ⟨#[]⟩, .bool true, .bool vo] 73))
                clear hw
                go_enter Tryz.func44, Tryz.ntmps44
                go_wp2_with (first
                  | (go_at_call 91; refine (HE.out _ (HW.out.mono HB0.out)).mono ?_; rintro e w2 ⟨rfl, hb2⟩; have HB2 := Lib.hid (bstep HB0.out hb2); have HR2 := Lib.hid (HR0.out.below hb2); obtain ⟨d0, d1, d2, d3, d4, d5, d6, d7, d8, d9⟩ := hrow10 HR2.out; have f4 := HR2.out.free 4; have f5 := HR2.out.free 5; have HR3 : Hid (HasRow _ (w.heap.size + 1) #[.int .i64 0, .string ⟨#[]⟩, .string ⟨#[]⟩, .bool false, .string ⟨#[]⟩, .string ⟨#[]⟩, .string ⟨#[]⟩, .string ⟨#[]⟩, .bool true, .bool vo]) := Lib.hid ((HR2.out.set 4 (.string ⟨#[]⟩) (by simp)).set 5 (.string ⟨#[]⟩) (by simp)); have HB3 := Lib.hid ((HB2.out.setCell (p := ⟨w.heap.size + 1, 4, none⟩) (Nat.le_succ _) (.string ⟨#[]⟩)).setCell (p := ⟨w.heap.size + 1, 5, none⟩) (Nat.le_succ _) (.string ⟨#[]⟩)); obtain ⟨g0, g1, g2, g3, g4, g5, g6, g7, g8, g9⟩ := hrow10 HR3.out)
                  | (go_at_call 87; refine (HN.out _ _ _).mono ?_; rintro e w3 ⟨rfl, rfl⟩)
                  | (go_at_call 88; refine (HO.out _ _ _ _ (by simp)).mono ?_; rintro e w4 ⟨rfl, rfl⟩))
                go_ret
                exact ⟨rfl, by first | exact bstep HB3.out (below_alloc _ _) | exact HB3.out⟩
            · have hr : P.chE ⟨3, ⟨⟨#[]⟩, ⟨#[]⟩, false⟩, ⟨sk, sv⟩, ⟨⟨#[]⟩, vp, va, vo⟩⟩ = P.orE (P.thE ⟨3, ⟨⟨#[]⟩, ⟨#[]⟩, false⟩, ⟨sk, sv⟩, ⟨⟨#[]⟩, vp, va, vo⟩⟩) 2 := by unfold P.chE; rw [show P.eqC ⟨3, ⟨⟨#[]⟩, ⟨#[]⟩, false⟩, ⟨sk, sv⟩, ⟨⟨#[]⟩, vp, va, vo⟩⟩ (P.needed ⟨3, ⟨⟨#[]⟩, ⟨#[]⟩, false⟩, ⟨sk, sv⟩, ⟨⟨#[]⟩, vp, va, vo⟩⟩) = false from by simp [P.eqC, P.needed, P.fi0, P.sv0, hd]]; rfl
              have HE := Lib.hid (fun W hW => rsettingError_any ⟨sk, sv⟩ hs.sk hs.sv W hW)
              rw [show P.thE ⟨3, ⟨⟨#[]⟩, ⟨#[]⟩, false⟩, ⟨sk, sv⟩, ⟨⟨#[]⟩, vp, va, vo⟩⟩ = P.setErr ⟨sk, sv⟩ from rfl] at hr
              rw [hr]
              clear hr hs
              generalize P.setErr ⟨sk, sv⟩ = a at *
              have HB0 := Lib.hid (below2 w (.cells #[.int .i64 3, .string ⟨#[]⟩, .string ⟨#[]⟩, .bool false, .string sk, .string sv, .string ⟨#[]⟩, .string vp, .bool va, .bool vo] 73) (.cells #[.int .i64 0, .string ⟨#[]⟩, .string ⟨#[]⟩, .bool false, .string sk, .string sv, .string ⟨#[]⟩, .string vp, .bool va, .bool vo] 73))
              have HR0 := Lib.hid (HasRow.new (w.alloc (.cells #[.int .i64 3, .string ⟨#[]⟩, .string ⟨#[]⟩, .bool false, .string sk, .string sv, .string ⟨#[]⟩, .string vp, .bool va, .bool vo] 73)) #[.int .i64 0, .string ⟨#[]⟩, .string ⟨#[]⟩, .bool false, .string sk, .string sv, .string ⟨#[]⟩, .string vp, .bool va, .bool vo] 73)
              rw [World.size_alloc] at HR0
              have HX0 := Lib.hid ((HasRow.new w #[.int .i64 3, .string ⟨#[]⟩, .string ⟨#[]⟩, .bool false, .string sk, .string sv, .string ⟨#[]⟩, .string vp, .bool va, .bool vo] 73).alloc (.cells #[.int .i64 0, .string ⟨#[]⟩, .string ⟨#[]⟩, .bool false, .string sk, .string sv, .string ⟨#[]⟩, .string vp, .bool va, .bool vo] 73))
              clear hw
              go_enter Tryz.func44, Tryz.ntmps44
              go_wp2_with (first
                | (go_at_call 91; refine (HE.out _ (HW.out.mono HB0.out)).mono ?_; rintro e w2 ⟨rfl, hb2⟩; have HB2 := Lib.hid (bstep HB0.out hb2); have HR2 := Lib.hid (HR0.out.below hb2); obtain ⟨d0, d1, d2, d3, d4, d5, d6, d7, d8, d9⟩ := hrow10 HR2.out; have f4 := HR2.out.free 4; have f5 := HR2.out.free 5; have HR3 : Hid (HasRow _ (w.heap.size + 1) #[.int .i64 0, .string ⟨#[]⟩, .string ⟨#[]⟩, .bool false, .string ⟨#[]⟩, .string ⟨#[]⟩, .string ⟨#[]⟩, .string vp, .bool va, .bool vo]) := Lib.hid ((HR2.out.set 4 (.string ⟨#[]⟩) (by simp)).set 5 (.string ⟨#[]⟩) (by simp)); have HB3 := Lib.hid ((HB2.out.setCell (p := ⟨w.heap.size + 1, 4, none⟩) (Nat.le_succ _) (.string ⟨#[]⟩)).setCell (p := ⟨w.heap.size + 1, 5, none⟩) (Nat.le_succ _) (.string ⟨#[]⟩)); obtain ⟨g0, g1, g2, g3, g4, g5, g6, g7, g8, g9⟩ := hrow10 HR3.out)
                | (go_at_call 87; refine (HN.out _ _ _).mono ?_; rintro e w3 ⟨rfl, rfl⟩)
                | (go_at_call 88; refine (HO.out _ _ _ _ (by simp)).mono ?_; rintro e w4 ⟨rfl, rfl⟩))
              go_ret
              exact ⟨rfl, by first | exact bstep HB3.out (below_alloc _ _) | exact HB3.out⟩
          · have hr : P.chE ⟨3, ⟨⟨#[]⟩, ⟨#[]⟩, false⟩, ⟨sk, sv⟩, ⟨vn, vp, va, vo⟩⟩ = P.orE (P.thE ⟨3, ⟨⟨#[]⟩, ⟨#[]⟩, false⟩, ⟨sk, sv⟩, ⟨vn, vp, va, vo⟩⟩) 2 := by unfold P.chE; rw [show P.eqC ⟨3, ⟨⟨#[]⟩, ⟨#[]⟩, false⟩, ⟨sk, sv⟩, ⟨vn, vp, va, vo⟩⟩ (P.needed ⟨3, ⟨⟨#[]⟩, ⟨#[]⟩, false⟩, ⟨sk, sv⟩, ⟨vn, vp, va, vo⟩⟩) = false from by simp [P.eqC, P.needed, P.fi0, P.sv0, hd]]; rfl
            have HE := Lib.hid (fun W hW => rsettingError_any ⟨sk, sv⟩ hs.sk hs.sv W hW)
            rw [show P.thE ⟨3, ⟨⟨#[]⟩, ⟨#[]⟩, false⟩, ⟨sk, sv⟩, ⟨vn, vp, va, vo⟩⟩ = P.setErr ⟨sk, sv⟩ from rfl] at hr
            rw [hr]
            clear hr hs
            generalize P.setErr ⟨sk, sv⟩ = a at *
            have HB0 := Lib.hid (below2 w (.cells #[.int .i64 3, .string ⟨#[]⟩, .string ⟨#[]⟩, .bool false, .string sk, .string sv, .string vn, .string vp, .bool va, .bool vo] 73) (.cells #[.int .i64 0, .string ⟨#[]⟩, .string ⟨#[]⟩, .bool false, .string sk, .string sv, .string vn, .string vp, .bool va, .bool vo] 73))
            have HR0 := Lib.hid (HasRow.new (w.alloc (.cells #[.int .i64 3, .string ⟨#[]⟩, .string ⟨#[]⟩, .bool false, .string sk, .string sv, .string vn, .string vp, .bool va, .bool vo] 73)) #[.int .i64 0, .string ⟨#[]⟩, .string ⟨#[]⟩, .bool false, .string sk, .string sv, .string vn, .string vp, .bool va, .bool vo] 73)
            rw [World.size_alloc] at HR0
            have HX0 := Lib.hid ((HasRow.new w #[.int .i64 3, .string ⟨#[]⟩, .string ⟨#[]⟩, .bool false, .string sk, .string sv, .string vn, .string vp, .bool va, .bool vo] 73).alloc (.cells #[.int .i64 0, .string ⟨#[]⟩, .string ⟨#[]⟩, .bool false, .string sk, .string sv, .string vn, .string vp, .bool va, .bool vo] 73))
            clear hw
            go_enter Tryz.func44, Tryz.ntmps44
            go_wp2_with (first
              | (go_at_call 91; refine (HE.out _ (HW.out.mono HB0.out)).mono ?_; rintro e w2 ⟨rfl, hb2⟩; have HB2 := Lib.hid (bstep HB0.out hb2); have HR2 := Lib.hid (HR0.out.below hb2); obtain ⟨d0, d1, d2, d3, d4, d5, d6, d7, d8, d9⟩ := hrow10 HR2.out; have f4 := HR2.out.free 4; have f5 := HR2.out.free 5; have HR3 : Hid (HasRow _ (w.heap.size + 1) #[.int .i64 0, .string ⟨#[]⟩, .string ⟨#[]⟩, .bool false, .string ⟨#[]⟩, .string ⟨#[]⟩, .string vn, .string vp, .bool va, .bool vo]) := Lib.hid ((HR2.out.set 4 (.string ⟨#[]⟩) (by simp)).set 5 (.string ⟨#[]⟩) (by simp)); have HB3 := Lib.hid ((HB2.out.setCell (p := ⟨w.heap.size + 1, 4, none⟩) (Nat.le_succ _) (.string ⟨#[]⟩)).setCell (p := ⟨w.heap.size + 1, 5, none⟩) (Nat.le_succ _) (.string ⟨#[]⟩)); obtain ⟨g0, g1, g2, g3, g4, g5, g6, g7, g8, g9⟩ := hrow10 HR3.out)
              | (go_at_call 87; refine (HN.out _ _ _).mono ?_; rintro e w3 ⟨rfl, rfl⟩)
              | (go_at_call 88; refine (HO.out _ _ _ _ (by simp)).mono ?_; rintro e w4 ⟨rfl, rfl⟩))
            go_ret
            exact ⟨rfl, by first | exact bstep HB3.out (below_alloc _ _) | exact HB3.out⟩
        · have hr : P.chE ⟨3, ⟨⟨#[]⟩, ⟨#[]⟩, true⟩, ⟨sk, sv⟩, ⟨vn, vp, va, vo⟩⟩ = P.orE (P.thE ⟨3, ⟨⟨#[]⟩, ⟨#[]⟩, true⟩, ⟨sk, sv⟩, ⟨vn, vp, va, vo⟩⟩) 2 := by unfold P.chE; rw [show P.eqC ⟨3, ⟨⟨#[]⟩, ⟨#[]⟩, true⟩, ⟨sk, sv⟩, ⟨vn, vp, va, vo⟩⟩ (P.needed ⟨3, ⟨⟨#[]⟩, ⟨#[]⟩, true⟩, ⟨sk, sv⟩, ⟨vn, vp, va, vo⟩⟩) = false from by simp [P.eqC, P.needed, P.fi0, P.sv0]]; rfl
          have HE := Lib.hid (fun W hW => rsettingError_any ⟨sk, sv⟩ hs.sk hs.sv W hW)
          rw [show P.thE ⟨3, ⟨⟨#[]⟩, ⟨#[]⟩, true⟩, ⟨sk, sv⟩, ⟨vn, vp, va, vo⟩⟩ = P.setErr ⟨sk, sv⟩ from rfl] at hr
          rw [hr]
          clear hr hs
          generalize P.setErr ⟨sk, sv⟩ = a at *
          have HB0 := Lib.hid (below2 w (.cells #[.int .i64 3, .string ⟨#[]⟩, .string ⟨#[]⟩, .bool true, .string sk, .string sv, .string vn, .string vp, .bool va, .bool vo] 73) (.cells #[.int .i64 0, .string ⟨#[]⟩, .string ⟨#[]⟩, .bool true, .string sk, .string sv, .string vn, .string vp, .bool va, .bool vo] 73))
          have HR0 := Lib.hid (HasRow.new (w.alloc (.cells #[.int .i64 3, .string ⟨#[]⟩, .string ⟨#[]⟩, .bool true, .string sk, .string sv, .string vn, .string vp, .bool va, .bool vo] 73)) #[.int .i64 0, .string ⟨#[]⟩, .string ⟨#[]⟩, .bool true, .string sk, .string sv, .string vn, .string vp, .bool va, .bool vo] 73)
          rw [World.size_alloc] at HR0
          have HX0 := Lib.hid ((HasRow.new w #[.int .i64 3, .string ⟨#[]⟩, .string ⟨#[]⟩, .bool true, .string sk, .string sv, .string vn, .string vp, .bool va, .bool vo] 73).alloc (.cells #[.int .i64 0, .string ⟨#[]⟩, .string ⟨#[]⟩, .bool true, .string sk, .string sv, .string vn, .string vp, .bool va, .bool vo] 73))
          clear hw
          go_enter Tryz.func44, Tryz.ntmps44
          go_wp2_with (first
            | (go_at_call 91; refine (HE.out _ (HW.out.mono HB0.out)).mono ?_; rintro e w2 ⟨rfl, hb2⟩; have HB2 := Lib.hid (bstep HB0.out hb2); have HR2 := Lib.hid (HR0.out.below hb2); obtain ⟨d0, d1, d2, d3, d4, d5, d6, d7, d8, d9⟩ := hrow10 HR2.out; have f4 := HR2.out.free 4; have f5 := HR2.out.free 5; have HR3 : Hid (HasRow _ (w.heap.size + 1) #[.int .i64 0, .string ⟨#[]⟩, .string ⟨#[]⟩, .bool true, .string ⟨#[]⟩, .string ⟨#[]⟩, .string vn, .string vp, .bool va, .bool vo]) := Lib.hid ((HR2.out.set 4 (.string ⟨#[]⟩) (by simp)).set 5 (.string ⟨#[]⟩) (by simp)); have HB3 := Lib.hid ((HB2.out.setCell (p := ⟨w.heap.size + 1, 4, none⟩) (Nat.le_succ _) (.string ⟨#[]⟩)).setCell (p := ⟨w.heap.size + 1, 5, none⟩) (Nat.le_succ _) (.string ⟨#[]⟩)); obtain ⟨g0, g1, g2, g3, g4, g5, g6, g7, g8, g9⟩ := hrow10 HR3.out)
            | (go_at_call 87; refine (HN.out _ _ _).mono ?_; rintro e w3 ⟨rfl, rfl⟩)
            | (go_at_call 88; refine (HO.out _ _ _ _ (by simp)).mono ?_; rintro e w4 ⟨rfl, rfl⟩))
          go_ret
          exact ⟨rfl, by first | exact bstep HB3.out (below_alloc _ _) | exact HB3.out⟩
      · have hr : P.chE ⟨3, ⟨⟨#[]⟩, fd, fr⟩, ⟨sk, sv⟩, ⟨vn, vp, va, vo⟩⟩ = P.orE (P.thE ⟨3, ⟨⟨#[]⟩, fd, fr⟩, ⟨sk, sv⟩, ⟨vn, vp, va, vo⟩⟩) 2 := by unfold P.chE; rw [show P.eqC ⟨3, ⟨⟨#[]⟩, fd, fr⟩, ⟨sk, sv⟩, ⟨vn, vp, va, vo⟩⟩ (P.needed ⟨3, ⟨⟨#[]⟩, fd, fr⟩, ⟨sk, sv⟩, ⟨vn, vp, va, vo⟩⟩) = false from by simp [P.eqC, P.needed, P.fi0, P.sv0, hd]]; rfl
        have HE := Lib.hid (fun W hW => rsettingError_any ⟨sk, sv⟩ hs.sk hs.sv W hW)
        rw [show P.thE ⟨3, ⟨⟨#[]⟩, fd, fr⟩, ⟨sk, sv⟩, ⟨vn, vp, va, vo⟩⟩ = P.setErr ⟨sk, sv⟩ from rfl] at hr
        rw [hr]
        clear hr hs
        generalize P.setErr ⟨sk, sv⟩ = a at *
        have HB0 := Lib.hid (below2 w (.cells #[.int .i64 3, .string ⟨#[]⟩, .string fd, .bool fr, .string sk, .string sv, .string vn, .string vp, .bool va, .bool vo] 73) (.cells #[.int .i64 0, .string ⟨#[]⟩, .string fd, .bool fr, .string sk, .string sv, .string vn, .string vp, .bool va, .bool vo] 73))
        have HR0 := Lib.hid (HasRow.new (w.alloc (.cells #[.int .i64 3, .string ⟨#[]⟩, .string fd, .bool fr, .string sk, .string sv, .string vn, .string vp, .bool va, .bool vo] 73)) #[.int .i64 0, .string ⟨#[]⟩, .string fd, .bool fr, .string sk, .string sv, .string vn, .string vp, .bool va, .bool vo] 73)
        rw [World.size_alloc] at HR0
        have HX0 := Lib.hid ((HasRow.new w #[.int .i64 3, .string ⟨#[]⟩, .string fd, .bool fr, .string sk, .string sv, .string vn, .string vp, .bool va, .bool vo] 73).alloc (.cells #[.int .i64 0, .string ⟨#[]⟩, .string fd, .bool fr, .string sk, .string sv, .string vn, .string vp, .bool va, .bool vo] 73))
        clear hw
        go_enter Tryz.func44, Tryz.ntmps44
        go_wp2_with (first
          | (go_at_call 91; refine (HE.out _ (HW.out.mono HB0.out)).mono ?_; rintro e w2 ⟨rfl, hb2⟩; have HB2 := Lib.hid (bstep HB0.out hb2); have HR2 := Lib.hid (HR0.out.below hb2); obtain ⟨d0, d1, d2, d3, d4, d5, d6, d7, d8, d9⟩ := hrow10 HR2.out; have f4 := HR2.out.free 4; have f5 := HR2.out.free 5; have HR3 : Hid (HasRow _ (w.heap.size + 1) #[.int .i64 0, .string ⟨#[]⟩, .string fd, .bool fr, .string ⟨#[]⟩, .string ⟨#[]⟩, .string vn, .string vp, .bool va, .bool vo]) := Lib.hid ((HR2.out.set 4 (.string ⟨#[]⟩) (by simp)).set 5 (.string ⟨#[]⟩) (by simp)); have HB3 := Lib.hid ((HB2.out.setCell (p := ⟨w.heap.size + 1, 4, none⟩) (Nat.le_succ _) (.string ⟨#[]⟩)).setCell (p := ⟨w.heap.size + 1, 5, none⟩) (Nat.le_succ _) (.string ⟨#[]⟩)); obtain ⟨g0, g1, g2, g3, g4, g5, g6, g7, g8, g9⟩ := hrow10 HR3.out)
          | (go_at_call 87; refine (HN.out _ _ _).mono ?_; rintro e w3 ⟨rfl, rfl⟩)
          | (go_at_call 88; refine (HO.out _ _ _ _ (by simp)).mono ?_; rintro e w4 ⟨rfl, rfl⟩))
        go_ret
        exact ⟨rfl, by first | exact bstep HB3.out (below_alloc _ _) | exact HB3.out⟩
    · have hr : P.chE ⟨3, ⟨fp, fd, fr⟩, ⟨sk, sv⟩, ⟨vn, vp, va, vo⟩⟩ = P.orE (P.thE ⟨3, ⟨fp, fd, fr⟩, ⟨sk, sv⟩, ⟨vn, vp, va, vo⟩⟩) 2 := by unfold P.chE; rw [show P.eqC ⟨3, ⟨fp, fd, fr⟩, ⟨sk, sv⟩, ⟨vn, vp, va, vo⟩⟩ (P.needed ⟨3, ⟨fp, fd, fr⟩, ⟨sk, sv⟩, ⟨vn, vp, va, vo⟩⟩) = false from by simp [P.eqC, P.needed, P.fi0, P.sv0, hd]]; rfl
      have HE := Lib.hid (fun W hW => rsettingError_any ⟨sk, sv⟩ hs.sk hs.sv W hW)
      rw [show P.thE ⟨3, ⟨fp, fd, fr⟩, ⟨sk, sv⟩, ⟨vn, vp, va, vo⟩⟩ = P.setErr ⟨sk, sv⟩ from rfl] at hr
      rw [hr]
      clear hr hs
      generalize P.setErr ⟨sk, sv⟩ = a at *
      have HB0 := Lib.hid (below2 w (.cells #[.int .i64 3, .string fp, .string fd, .bool fr, .string sk, .string sv, .string vn, .string vp, .bool va, .bool vo] 73) (.cells #[.int .i64 0, .string fp, .string fd, .bool fr, .string sk, .string sv, .string vn, .string vp, .bool va, .bool vo] 73))
      have HR0 := Lib.hid (HasRow.new (w.alloc (.cells #[.int .i64 3, .string fp, .string fd, .bool fr, .string sk, .string sv, .string vn, .string vp, .bool va, .bool vo] 73)) #[.int .i64 0, .string fp, .string fd, .bool fr, .string sk, .string sv, .string vn, .string vp, .bool va, .bool vo] 73)
      rw [World.size_alloc] at HR0
      have HX0 := Lib.hid ((HasRow.new w #[.int .i64 3, .string fp, .string fd, .bool fr, .string sk, .string sv, .string vn, .string vp, .bool va, .bool vo] 73).alloc (.cells #[.int .i64 0, .string fp, .string fd, .bool fr, .string sk, .string sv, .string vn, .string vp, .bool va, .bool vo] 73))
      clear hw
      go_enter Tryz.func44, Tryz.ntmps44
      go_wp2_with (first
        | (go_at_call 91; refine (HE.out _ (HW.out.mono HB0.out)).mono ?_; rintro e w2 ⟨rfl, hb2⟩; have HB2 := Lib.hid (bstep HB0.out hb2); have HR2 := Lib.hid (HR0.out.below hb2); obtain ⟨d0, d1, d2, d3, d4, d5, d6, d7, d8, d9⟩ := hrow10 HR2.out; have f4 := HR2.out.free 4; have f5 := HR2.out.free 5; have HR3 : Hid (HasRow _ (w.heap.size + 1) #[.int .i64 0, .string fp, .string fd, .bool fr, .string ⟨#[]⟩, .string ⟨#[]⟩, .string vn, .string vp, .bool va, .bool vo]) := Lib.hid ((HR2.out.set 4 (.string ⟨#[]⟩) (by simp)).set 5 (.string ⟨#[]⟩) (by simp)); have HB3 := Lib.hid ((HB2.out.setCell (p := ⟨w.heap.size + 1, 4, none⟩) (Nat.le_succ _) (.string ⟨#[]⟩)).setCell (p := ⟨w.heap.size + 1, 5, none⟩) (Nat.le_succ _) (.string ⟨#[]⟩)); obtain ⟨g0, g1, g2, g3, g4, g5, g6, g7, g8, g9⟩ := hrow10 HR3.out)
        | (go_at_call 87; refine (HN.out _ _ _).mono ?_; rintro e w3 ⟨rfl, rfl⟩)
        | (go_at_call 88; refine (HO.out _ _ _ _ (by simp)).mono ?_; rintro e w4 ⟨rfl, rfl⟩))
      go_ret
      exact ⟨rfl, by first | exact bstep HB3.out (below_alloc _ _) | exact HB3.out⟩
end Go.Proofs.YtomikcemiacjmaaGreatDoor
