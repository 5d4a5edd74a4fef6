/- Walks: outref1's ChangeError, kinds 4 to 6. -/
import Derived.Test.YtomikcemiacjmaaGreatDoorZGPure

namespace Go.Proofs.YtomikcemiacjmaaGreatDoor
open Go.RowKit Go.Lib Go.Shelf

set_option maxRecDepth 100000 in
set_option maxHeartbeats 40000000 in
theorem changeError4 (fp fd sk sv vn vp : ByteArray) (fr va vo : Bool) (hs : P.CSm 4294967280 ⟨4, ⟨fp, fd, fr⟩, ⟨sk, sv⟩, ⟨vn, vp, va, vo⟩⟩) (w : World) (hw : Good w) :
    Calls Tryz.prog 44 #[.agg #[.int .i64 4, .string fp, .string fd, .bool fr, .string sk, .string sv, .string vn, .string vp, .bool va, .bool vo]] w fun e w' => e = .returned (.int .i64 (P.chE ⟨4, ⟨fp, fd, fr⟩, ⟨sk, sv⟩, ⟨vn, vp, va, vo⟩⟩)) ∧ Below w.heap.size w w' := by
    have HO := Lib.hid (fun a b nb W hn => rfirst2 a b nb W hn)
    have HN := Lib.hid rwhen_any
    have HW := Lib.hid hw
    rcases empty_cases fp with rfl | ⟨hd, hd2⟩
    · rcases empty_cases fd with rfl | ⟨hd, hd2⟩
      · cases fr
        · rcases empty_cases sv with rfl | ⟨hd, hd2⟩
          · rcases empty_cases vn with rfl | ⟨hd, hd2⟩
            · rcases empty_cases vp with rfl | ⟨hd, hd2⟩
              · cases va
                · cases vo
                  · have hr : P.chE ⟨4, ⟨⟨#[]⟩, ⟨#[]⟩, false⟩, ⟨sk, ⟨#[]⟩⟩, ⟨⟨#[]⟩, ⟨#[]⟩, false, false⟩⟩ = P.orE (P.thE ⟨4, ⟨⟨#[]⟩, ⟨#[]⟩, false⟩, ⟨sk, ⟨#[]⟩⟩, ⟨⟨#[]⟩, ⟨#[]⟩, false, false⟩⟩) 0 := by unfold P.chE; rw [show P.eqC ⟨4, ⟨⟨#[]⟩, ⟨#[]⟩, false⟩, ⟨sk, ⟨#[]⟩⟩, ⟨⟨#[]⟩, ⟨#[]⟩, false, false⟩⟩ (P.needed ⟨4, ⟨⟨#[]⟩, ⟨#[]⟩, false⟩, ⟨sk, ⟨#[]⟩⟩, ⟨⟨#[]⟩, ⟨#[]⟩, false, false⟩⟩) = true from by simp [P.eqC, P.needed, P.fi0, P.sv0]]; rfl
                    have HE := Lib.hid (fun W hW => rpath_any sk hs.sk W hW)
                    rw [show P.thE ⟨4, ⟨⟨#[]⟩, ⟨#[]⟩, false⟩, ⟨sk, ⟨#[]⟩⟩, ⟨⟨#[]⟩, ⟨#[]⟩, false, false⟩⟩ = if P.pathS sk then 0 else 5 from thE_four _ _ _ _ _ _ _ _ _] at hr
                    rw [hr]
                    clear hr hs
                    generalize P.pathS sk = p at *
                    have HB0 := Lib.hid (below2 w (.cells #[.int .i64 4, .string ⟨#[]⟩, .string ⟨#[]⟩, .bool false, .string sk, .string ⟨#[]⟩, .string ⟨#[]⟩, .string ⟨#[]⟩, .bool false, .bool false] 73) (.cells #[.int .i64 0, .string ⟨#[]⟩, .string ⟨#[]⟩, .bool false, .string sk, .string ⟨#[]⟩, .string ⟨#[]⟩, .string ⟨#[]⟩, .bool false, .bool false] 73))
                    have HR0 := Lib.hid (HasRow.new (w.alloc (.cells #[.int .i64 4, .string ⟨#[]⟩, .string ⟨#[]⟩, .bool false, .string sk, .string ⟨#[]⟩, .string ⟨#[]⟩, .string ⟨#[]⟩, .bool false, .bool false] 73)) #[.int .i64 0, .string ⟨#[]⟩, .string ⟨#[]⟩, .bool false, .string sk, .string ⟨#[]⟩, .string ⟨#[]⟩, .string ⟨#[]⟩, .bool false, .bool false] 73)
                    rw [World.size_alloc] at HR0
                    have HX0 := Lib.hid ((HasRow.new w #[.int .i64 4, .string ⟨#[]⟩, .string ⟨#[]⟩, .bool false, .string sk, .string ⟨#[]⟩, .string ⟨#[]⟩, .string ⟨#[]⟩, .bool false, .bool false] 73).alloc (.cells #[.int .i64 0, .string ⟨#[]⟩, .string ⟨#[]⟩, .bool false, .string sk, .string ⟨#[]⟩, .string ⟨#[]⟩, .string ⟨#[]⟩, .bool false, .bool false] 73))
                    clear hw
                    cases p
                    all_goals
                      go_enter Tryz.func44, Tryz.ntmps44
                      go_wp2_with (first
                        | (go_at_call 40; refine (HE.out _ (HW.out.mono HB0.out)).mono ?_; rintro e w2 ⟨rfl, hb2⟩; have HB2 := Lib.hid (bstep HB0.out hb2); have HR2 := Lib.hid (HR0.out.below hb2); obtain ⟨d0, d1, d2, d3, d4, d5, d6, d7, d8, d9⟩ := hrow10 HR2.out; have f4 := HR2.out.free 4; have HR3 : Hid (HasRow _ (w.heap.size + 1) #[.int .i64 0, .string ⟨#[]⟩, .string ⟨#[]⟩, .bool false, .string ⟨#[]⟩, .string ⟨#[]⟩, .string ⟨#[]⟩, .string ⟨#[]⟩, .bool false, .bool false]) := Lib.hid (HR2.out.set 4 (.string ⟨#[]⟩) (by simp)); have HB3 := Lib.hid (HB2.out.setCell (p := ⟨w.heap.size + 1, 4, none⟩) (Nat.le_succ _) (.string ⟨#[]⟩)); obtain ⟨g0, g1, g2, g3, g4, g5, g6, g7, g8, g9⟩ := hrow10 HR3.out)
                        | (go_at_call 87; refine (HN.out _ _ _).mono ?_; rintro e w3 ⟨rfl, rfl⟩)
                        | (go_at_call 88; refine (HO.out _ _ _ _ (by simp)).mono ?_; rintro e w4 ⟨rfl, rfl⟩))
                      go_ret
                      exact ⟨rfl, by first | exact bstep HB3.out (below_alloc _ _) | exact HB3.out⟩
                  · have hr : P.chE ⟨4, ⟨⟨#[]⟩, ⟨#[]⟩, false⟩, ⟨sk, ⟨#[]⟩⟩, ⟨⟨#[]⟩, ⟨#[]⟩, false, true⟩⟩ = P.orE (P.thE ⟨4, ⟨⟨#[]⟩, ⟨#[]⟩, false⟩, ⟨sk, ⟨#[]⟩⟩, ⟨⟨#[]⟩, ⟨#[]⟩, false, true⟩⟩) 2 := by unfold P.chE; rw [show P.eqC ⟨4, ⟨⟨#[]⟩, ⟨#[]⟩, false⟩, ⟨sk, ⟨#[]⟩⟩, ⟨⟨#[]⟩, ⟨#[]⟩, false, true⟩⟩ (P.needed ⟨4, ⟨⟨#[]⟩, ⟨#[]⟩, false⟩, ⟨sk, ⟨#[]⟩⟩, ⟨⟨#[]⟩, ⟨#[]⟩, false, true⟩⟩) = false from by simp [P.eqC, P.needed, P.fi0, P.sv0]]; rfl
                    have HE := Lib.hid (fun W hW => rpath_any sk hs.sk W hW)
                    rw [show P.thE ⟨4, ⟨⟨#[]⟩, ⟨#[]⟩, false⟩, ⟨sk, ⟨#[]⟩⟩, ⟨⟨#[]⟩, ⟨#[]⟩, false, true⟩⟩ = if P.pathS sk then 0 else 5 from thE_four _ _ _ _ _ _ _ _ _] at hr
                    rw [hr]
                    clear hr hs
                    generalize P.pathS sk = p at *
                    have HB0 := Lib.hid (below2 w (.cells #[.int .i64 4, .string ⟨#[]⟩, .string ⟨#[]⟩, .bool false, .string sk, .string ⟨#[]⟩, .string ⟨#[]⟩, .string ⟨#[]⟩, .bool false, .bool true] 73) (.cells #[.int .i64 0, .string ⟨#[]⟩, .string ⟨#[]⟩, .bool false, .string sk, .string ⟨#[]⟩, .string ⟨#[]⟩, .string ⟨#[]⟩, .bool false, .bool true] 73))
                    have HR0 := Lib.hid (HasRow.new (w.alloc (.cells #[.int .i64 4, .string ⟨#[]⟩, .string ⟨#[]⟩, .bool false, .string sk, .string ⟨#[]⟩, .string ⟨#[]⟩, .string ⟨#[]⟩, .bool false, .bool true] 73)) #[.int .i64 0, .string ⟨#[]⟩, .string ⟨#[]⟩, .bool false, .string sk, .string ⟨#[]⟩, .string ⟨#[]⟩, .string ⟨#[]⟩, .bool false, .bool true] 73)
                    rw [World.size_alloc] at HR0
                    have HX0 := Lib.hid ((HasRow.new w #[.int .i64 4, .string ⟨#[]⟩, .string ⟨#[]⟩, .bool false, .string sk, .string ⟨#[]⟩, .string ⟨#[]⟩, .string ⟨#[]⟩, .bool false, .bool true] 73).alloc (.cells #[.int .i64 0, .string ⟨#[]⟩, .string ⟨#[]⟩, .bool false, .string sk, .string ⟨#[]⟩, .string ⟨#[]⟩, .string ⟨#[]⟩, .bool false, .bool true] 73))
                    clear hw
                    cases p
                    all_goals
                      go_enter Tryz.func44, Tryz.ntmps44
                      go_wp2_with (first
                        | (go_at_call 40; refine (HE.out _ (HW.out.mono HB0.out)).mono ?_; rintro e w2 ⟨rfl, hb2⟩; have HB2 := Lib.hid (bstep HB0.out hb2); have HR2 := Lib.hid (HR0.out.below hb2); obtain ⟨d0, d1, d2, d3, d4, d5, d6, d7, d8, d9⟩ := hrow10 HR2.out; have f4 := HR2.out.free 4; have HR3 : Hid (HasRow _ (w.heap.size + 1) #[.int .i64 0, .string ⟨#[]⟩, .string ⟨#[]⟩, .bool false, .string ⟨#[]⟩, .string ⟨#[]⟩, .string ⟨#[]⟩, .string ⟨#[]⟩, .bool false, .bool true]) := Lib.hid (HR2.out.set 4 (.string ⟨#[]⟩) (by simp)); have HB3 := Lib.hid (HB2.out.setCell (p := ⟨w.heap.size + 1, 4, none⟩) (Nat.le_succ _) (.string ⟨#[]⟩)); obtain ⟨g0, g1, g2, g3, g4, g5, g6, g7, g8, g9⟩ := hrow10 HR3.out)
                        | (go_at_call 87; refine (HN.out _ _ _).mono ?_; rintro e w3 ⟨rfl, rfl⟩)
                        | (go_at_call 88; refine (HO.out _ _ _ _ (by simp)).mono ?_; rintro e w4 ⟨rfl, rfl⟩))
                      go_ret
                      exact ⟨rfl, by first | exact bstep HB3.out (below_alloc _ _) | exact HB3.out⟩
                · have hr : P.chE ⟨4, ⟨⟨#[]⟩, ⟨#[]⟩, false⟩, ⟨sk, ⟨#[]⟩⟩, ⟨⟨#[]⟩, ⟨#[]⟩, true, vo⟩⟩ = P.orE (P.thE ⟨4, ⟨⟨#[]⟩, ⟨#[]⟩, false⟩, ⟨sk, ⟨#[]⟩⟩, ⟨⟨#[]⟩, ⟨#[]⟩, true, vo⟩⟩) 2 := by unfold P.chE; rw [show P.eqC ⟨4, ⟨⟨#[]⟩, ⟨#[]⟩, false⟩, ⟨sk, ⟨#[]⟩⟩, ⟨⟨#[]⟩, ⟨#[]⟩, true, vo⟩⟩ (P.needed ⟨4, ⟨⟨#[]⟩, ⟨#[]⟩, false⟩, ⟨sk, ⟨#[]⟩⟩, ⟨⟨#[]⟩, ⟨#[]⟩, true, vo⟩⟩) = false from by simp [P.eqC, P.needed, P.fi0, P.sv0]]; rfl
                  have HE := Lib.hid (fun W hW => rpath_any sk hs.sk W hW)
                  rw [show P.thE ⟨4, ⟨⟨#[]⟩, ⟨#[]⟩, false⟩, ⟨sk, ⟨#[]⟩⟩, ⟨⟨#[]⟩, ⟨#[]⟩, true, vo⟩⟩ = if P.pathS sk then 0 else 5 from thE_four _ _ _ _ _ _ _ _ _] at hr
                  rw [hr]
                  clear hr hs
                  generalize P.pathS sk = p at *
                  have HB0 := Lib.hid (below2 w (.cells #[.int .i64 4, .string ⟨#[]⟩, .string ⟨#[]⟩, .bool false, .string sk, .string ⟨#[]⟩, .string ⟨#[]⟩, .string ⟨#[]⟩, .bool true, .bool vo] 73) (.cells #[.int .i64 0, .string ⟨#[]⟩, .string ⟨#[]⟩, .bool false, .string sk, .string ⟨#[]⟩, .string ⟨#[]⟩, .string ⟨#[]⟩, .bool true, .bool vo] 73))
                  have HR0 := Lib.hid (HasRow.new (w.alloc (.cells #[.int .i64 4, .string ⟨#[]⟩, .string ⟨#[]⟩, .bool false, .string sk, .string ⟨#[]⟩, .string ⟨#[]⟩, .string ⟨#[]⟩, .bool true, .bool vo] 73)) #[.int .i64 0, .string ⟨#[]⟩, .string ⟨#[]⟩, .bool false, .string sk, .string ⟨#[]⟩, .string ⟨#[]⟩, .string ⟨#[]⟩, .bool true, .bool vo] 73)
                  rw [World.size_alloc] at HR0
                  have HX0 := Lib.hid ((HasRow.new w #[.int .i64 4, .string ⟨#[]⟩, .string ⟨#[]⟩, .bool false, .string sk, .string ⟨#[]⟩, .string ⟨#[]⟩, .string ⟨#[]⟩, .bool true, .bool vo] 73).alloc (.cells #[.int .i64 0, .string ⟨#[]⟩, .string ⟨#[]⟩, .bool false, .string sk, .string ⟨#[]⟩, .string ⟨#[]⟩, .string ⟨#[]⟩, .bool true, .bool vo] 73))
                  clear hw
                  cases p
                  all_goals
                    go_enter Tryz.func44, Tryz.ntmps44
                    go_wp2_with (first
                      | (go_at_call 40; refine (HE.out _ (HW.out.mono HB0.out)).mono ?_; rintro e w2 ⟨rfl, hb2⟩; have HB2 := Lib.hid (bstep HB0.out hb2); have HR2 := Lib.hid (HR0.out.below hb2); obtain ⟨d0, d1, d2, d3, d4, d5, d6, d7, d8, d9⟩ := hrow10 HR2.out; have f4 := HR2.out.free 4; have HR3 : Hid (HasRow _ (w.heap.size + 1) #[.int .i64 0, .string ⟨#[]⟩, .string ⟨#[]⟩, .bool false, .string ⟨#[]⟩, .string ⟨#[]⟩, .string ⟨#[]⟩, .string ⟨#[]⟩, .bool true, .bool vo]) := Lib.hid (HR2.out.set 4 (.string ⟨#[]⟩) (by simp)); have HB3 := Lib.hid (HB2.out.setCell (p := ⟨w.heap.size + 1, 4, none⟩) (Nat.le_succ _) (.string ⟨#[]⟩)); obtain ⟨g0, g1, g2, g3, g4, g5, g6, g7, g8, g9⟩ := hrow10 HR3.out)
                      | (go_at_call 87; refine (HN.out _ _ _).mono ?_; rintro e w3 ⟨rfl, rfl⟩)
                      | (go_at_call 88; refine (HO.out _ _ _ _ (by simp)).mono ?_; rintro e w4 ⟨rfl, rfl⟩))
                    go_ret
                    exact ⟨rfl, by first | exact bstep HB3.out (below_alloc _ _) | exact HB3.out⟩
              · have hr : P.chE ⟨4, ⟨⟨#[]⟩, ⟨#[]⟩, false⟩, ⟨sk, ⟨#[]⟩⟩, ⟨⟨#[]⟩, vp, va, vo⟩⟩ = P.orE (P.thE ⟨4, ⟨⟨#[]⟩, ⟨#[]⟩, false⟩, ⟨sk, ⟨#[]⟩⟩, ⟨⟨#[]⟩, vp, va, vo⟩⟩) 2 := by unfold P.chE; rw [show P.eqC ⟨4, ⟨⟨#[]⟩, ⟨#[]⟩, false⟩, ⟨sk, ⟨#[]⟩⟩, ⟨⟨#[]⟩, vp, va, vo⟩⟩ (P.needed ⟨4, ⟨⟨#[]⟩, ⟨#[]⟩, false⟩, ⟨sk, ⟨#[]⟩⟩, ⟨⟨#[]⟩, vp, va, vo⟩⟩) = false from by simp [P.eqC, P.needed, P.fi0, P.sv0, hd]]; rfl
                have HE := Lib.hid (fun W hW => rpath_any sk hs.sk W hW)
                rw [show P.thE ⟨4, ⟨⟨#[]⟩, ⟨#[]⟩, false⟩, ⟨sk, ⟨#[]⟩⟩, ⟨⟨#[]⟩, vp, va, vo⟩⟩ = if P.pathS sk then 0 else 5 from thE_four _ _ _ _ _ _ _ _ _] at hr
                rw [hr]
                clear hr hs
                generalize P.pathS sk = p at *
                have HB0 := Lib.hid (below2 w (.cells #[.int .i64 4, .string ⟨#[]⟩, .string ⟨#[]⟩, .bool false, .string sk, .string ⟨#[]⟩, .string ⟨#[]⟩, .string vp, .bool va, .bool vo] 73) (.cells #[.int .i64 0, .string ⟨#[]⟩, .string ⟨#[]⟩, .bool false, .string sk, .string ⟨#[]⟩, .string ⟨#[]⟩, .string vp, .bool va, .bool vo] 73))
                have HR0 := Lib.hid (HasRow.new (w.alloc (.cells #[.int .i64 4, .string ⟨#[]⟩, .string ⟨#[]⟩, .bool false, .string sk, .string ⟨#[]⟩, .string ⟨#[]⟩, .string vp, .bool va, .bool vo] 73)) #[.int .i64 0, .string ⟨#[]⟩, .string ⟨#[]⟩, .bool false, .string sk, .string ⟨#[]⟩, .string ⟨#[]⟩, .string vp, .bool va, .bool vo] 73)
                rw [World.size_alloc] at HR0
                have HX0 := Lib.hid ((HasRow.new w #[.int .i64 4, .string ⟨#[]⟩, .string ⟨#[]⟩, .bool false, .string sk, .string ⟨#[]⟩, .string ⟨#[]⟩, .string vp, .bool va, .bool vo] 73).alloc (.cells #[.int .i64 0, .string ⟨#[]⟩, .string ⟨#[]⟩, .bool false, .string sk, .string ⟨#[]⟩, .string ⟨#[]⟩, .string vp, .bool va, .bool vo] 73))
                clear hw
                cases p
                all_goals
                  go_enter Tryz.func44, Tryz.ntmps44
                  go_wp2_with (first
                    | (go_at_call 40; refine (HE.out _ (HW.out.mono HB0.out)).mono ?_; rintro e w2 ⟨rfl, hb2⟩; have HB2 := Lib.hid (bstep HB0.out hb2); have HR2 := Lib.hid (HR0.out.below hb2); obtain ⟨d0, d1, d2, d3, d4, d5, d6, d7, d8, d9⟩ := hrow10 HR2.out; have f4 := HR2.out.free 4; have HR3 : Hid (HasRow _ (w.heap.size + 1) #[.int .i64 0, .string ⟨#[]⟩, .string ⟨#[]⟩, .bool false, .string ⟨#[]⟩, .string ⟨#[]⟩, .string ⟨#[]⟩, .string vp, .bool va, .bool vo]) := Lib.hid (HR2.out.set 4 (.string ⟨#[]⟩) (by simp)); have HB3 := Lib.hid (HB2.out.setCell (p := ⟨w.heap.size + 1, 4, none⟩) (Nat.le_succ _) (.string ⟨#[]⟩)); obtain ⟨g0, g1, g2, g3, g4, g5, g6, g7, g8, g9⟩ := hrow10 HR3.out)
                    | (go_at_call 87; refine (HN.out _ _ _).mono ?_; rintro e w3 ⟨rfl, rfl⟩)
                    | (go_at_call 88; refine (HO.out _ _ _ _ (by simp)).mono ?_; rintro e w4 ⟨rfl, rfl⟩))
                  go_ret
                  exact ⟨rfl, by first | exact bstep HB3.out (below_alloc _ _) | exact HB3.out⟩
            · have hr : P.chE ⟨4, ⟨⟨#[]⟩, ⟨#[]⟩, false⟩, ⟨sk, ⟨#[]⟩⟩, ⟨vn, vp, va, vo⟩⟩ = P.orE (P.thE ⟨4, ⟨⟨#[]⟩, ⟨#[]⟩, false⟩, ⟨sk, ⟨#[]⟩⟩, ⟨vn, vp, va, vo⟩⟩) 2 := by unfold P.chE; rw [show P.eqC ⟨4, ⟨⟨#[]⟩, ⟨#[]⟩, false⟩, ⟨sk, ⟨#[]⟩⟩, ⟨vn, vp, va, vo⟩⟩ (P.needed ⟨4, ⟨⟨#[]⟩, ⟨#[]⟩, false⟩, ⟨sk, ⟨#[]⟩⟩, ⟨vn, vp, va, vo⟩⟩) = false from by simp [P.eqC, P.needed, P.fi0, P.sv0, hd]]; rfl
              have HE := Lib.hid (fun W hW => rpath_any sk hs.sk W hW)
              rw [show P.thE ⟨4, ⟨⟨#[]⟩, ⟨#[]⟩, false⟩, ⟨sk, ⟨#[]⟩⟩, ⟨vn, vp, va, vo⟩⟩ = if P.pathS sk then 0 else 5 from thE_four _ _ _ _ _ _ _ _ _] at hr
              rw [hr]
              clear hr hs
              generalize P.pathS sk = p at *
              have HB0 := Lib.hid (below2 w (.cells #[.int .i64 4, .string ⟨#[]⟩, .string ⟨#[]⟩, .bool false, .string sk, .string ⟨#[]⟩, .string vn, .string vp, .bool va, .bool vo] 73) (.cells #[.int .i64 0, .string ⟨#[]⟩, .string ⟨#[]⟩, .bool false, .string sk, .string ⟨#[]⟩, .string vn, .string vp, .bool va, .bool vo] 73))
              have HR0 := Lib.hid (HasRow.new (w.alloc (.cells #[.int .i64 4, .string ⟨#[]⟩, .string ⟨#[]⟩, .bool false, .string sk, .string ⟨#[]⟩, .string vn, .string vp, .bool va, .bool vo] 73)) #[.int .i64 0, .string ⟨#[]⟩, .string ⟨#[]⟩, .bool false, .string sk, .string ⟨#[]⟩, .string vn, .string vp, .bool va, .bool vo] 73)
              rw [World.size_alloc] at HR0
              have HX0 := Lib.hid ((HasRow.new w #[.int .i64 4, .string ⟨#[]⟩, .string ⟨#[]⟩, .bool false, .string sk, .string ⟨#[]⟩, .string vn, .string vp, .bool va, .bool vo] 73).alloc (.cells #[.int .i64 0, .string ⟨#[]⟩, .string ⟨#[]⟩, .bool false, .string sk, .string ⟨#[]⟩, .string vn, .string vp, .bool va, .bool vo] 73))
              clear hw
              cases p
              all_goals
                go_enter Tryz.func44, Tryz.ntmps44
                go_wp2_with (first
                  | (go_at_call 40; refine (HE.out _ (HW.out.mono HB0.out)).mono ?_; rintro e w2 ⟨rfl, hb2⟩; have HB2 := Lib.hid (bstep HB0.out hb2); have HR2 := Lib.hid (HR0.out.below hb2); obtain ⟨d0, d1, d2, d3, d4, d5, d6, d7, d8, d9⟩ := hrow10 HR2.out; have f4 := HR2.out.free 4; have HR3 : Hid (HasRow _ (w.heap.size + 1) #[.int .i64 0, .string ⟨#[]⟩, .string ⟨#[]⟩, .bool false, .string ⟨#[]⟩, .string ⟨#[]⟩, .string vn, .string vp, .bool va, .bool vo]) := Lib.hid (HR2.out.set 4 (.string ⟨#[]⟩) (by simp)); have HB3 := Lib.hid (HB2.out.setCell (p := ⟨w.heap.size + 1, 4, none⟩) (Nat.le_succ _) (.string ⟨#[]⟩)); obtain ⟨g0, g1, g2, g3, g4, g5, g6, g7, g8, g9⟩ := hrow10 HR3.out)
                  | (go_at_call 87; refine (HN.out _ _ _).mono ?_; rintro e w3 ⟨rfl, rfl⟩)
                  | (go_at_call 88; refine (HO.out _ _ _ _ (by simp)).mono ?_; rintro e w4 ⟨rfl, rfl⟩))
                go_ret
                exact ⟨rfl, by first | exact bstep HB3.out (below_alloc _ _) | exact HB3.out⟩
          · have hr : P.chE ⟨4, ⟨⟨#[]⟩, ⟨#[]⟩, false⟩, ⟨sk, sv⟩, ⟨vn, vp, va, vo⟩⟩ = P.orE (P.thE ⟨4, ⟨⟨#[]⟩, ⟨#[]⟩, false⟩, ⟨sk, sv⟩, ⟨vn, vp, va, vo⟩⟩) 2 := by unfold P.chE; rw [show P.eqC ⟨4, ⟨⟨#[]⟩, ⟨#[]⟩, false⟩, ⟨sk, sv⟩, ⟨vn, vp, va, vo⟩⟩ (P.needed ⟨4, ⟨⟨#[]⟩, ⟨#[]⟩, false⟩, ⟨sk, sv⟩, ⟨vn, vp, va, vo⟩⟩) = false from by simp [P.eqC, P.needed, P.fi0, P.sv0, hd]]; rfl
            have HE := Lib.hid (fun W hW => rpath_any sk hs.sk W hW)
            rw [show P.thE ⟨4, ⟨⟨#[]⟩, ⟨#[]⟩, false⟩, ⟨sk, sv⟩, ⟨vn, vp, va, vo⟩⟩ = if P.pathS sk then 0 else 5 from thE_four _ _ _ _ _ _ _ _ _] at hr
            rw [hr]
            clear hr hs
            generalize P.pathS sk = p at *
            have HB0 := Lib.hid (below2 w (.cells #[.int .i64 4, .string ⟨#[]⟩, .string ⟨#[]⟩, .bool false, .string sk, .string sv, .string vn, .string vp, .bool va, .bool vo] 73) (.cells #[.int .i64 0, .string ⟨#[]⟩, .string ⟨#[]⟩, .bool false, .string sk, .string sv, .string vn, .string vp, .bool va, .bool vo] 73))
            have HR0 := Lib.hid (HasRow.new (w.alloc (.cells #[.int .i64 4, .string ⟨#[]⟩, .string ⟨#[]⟩, .bool false, .string sk, .string sv, .string vn, .string vp, .bool va, .bool vo] 73)) #[.int .i64 0, .string ⟨#[]⟩, .string ⟨#[]⟩, .bool false, .string sk, .string sv, .string vn, .string vp, .bool va, .bool vo] 73)
            rw [World.size_alloc] at HR0
            have HX0 := Lib.hid ((HasRow.new w #[.int .i64 4, .string ⟨#[]⟩, .string ⟨#[]⟩, .bool false, .string sk, .string sv, .string vn, .string vp, .bool va, .bool vo] 73).alloc (.cells #[.int .i64 0, .string ⟨#[]⟩, .string ⟨#[]⟩, .bool false, .string sk, .string sv, .string vn, .string vp, .bool va, .bool vo] 73))
            clear hw
            cases p
            all_goals
              go_enter Tryz.func44, Tryz.ntmps44
              go_wp2_with (first
                | (go_at_call 40; refine (HE.out _ (HW.out.mono HB0.out)).mono ?_; rintro e w2 ⟨rfl, hb2⟩; have HB2 := Lib.hid (bstep HB0.out hb2); have HR2 := Lib.hid (HR0.out.below hb2); obtain ⟨d0, d1, d2, d3, d4, d5, d6, d7, d8, d9⟩ := hrow10 HR2.out; have f4 := HR2.out.free 4; have HR3 : Hid (HasRow _ (w.heap.size + 1) #[.int .i64 0, .string ⟨#[]⟩, .string ⟨#[]⟩, .bool false, .string ⟨#[]⟩, .string sv, .string vn, .string vp, .bool va, .bool vo]) := Lib.hid (HR2.out.set 4 (.string ⟨#[]⟩) (by simp)); have HB3 := Lib.hid (HB2.out.setCell (p := ⟨w.heap.size + 1, 4, none⟩) (Nat.le_succ _) (.string ⟨#[]⟩)); obtain ⟨g0, g1, g2, g3, g4, g5, g6, g7, g8, g9⟩ := hrow10 HR3.out)
                | (go_at_call 87; refine (HN.out _ _ _).mono ?_; rintro e w3 ⟨rfl, rfl⟩)
                | (go_at_call 88; refine (HO.out _ _ _ _ (by simp)).mono ?_; rintro e w4 ⟨rfl, rfl⟩))
              go_ret
              exact ⟨rfl, by first | exact bstep HB3.out (below_alloc _ _) | exact HB3.out⟩
        · have hr : P.chE ⟨4, ⟨⟨#[]⟩, ⟨#[]⟩, true⟩, ⟨sk, sv⟩, ⟨vn, vp, va, vo⟩⟩ = P.orE (P.thE ⟨4, ⟨⟨#[]⟩, ⟨#[]⟩, true⟩, ⟨sk, sv⟩, ⟨vn, vp, va, vo⟩⟩) 2 := by unfold P.chE; rw [show P.eqC ⟨4, ⟨⟨#[]⟩, ⟨#[]⟩, true⟩, ⟨sk, sv⟩, ⟨vn, vp, va, vo⟩⟩ (P.needed ⟨4, ⟨⟨#[]⟩, ⟨#[]⟩, true⟩, ⟨sk, sv⟩, ⟨vn, vp, va, vo⟩⟩) = false from by simp [P.eqC, P.needed, P.fi0, P.sv0]]; rfl
          have HE := Lib.hid (fun W hW => rpath_any sk hs.sk W hW)
          rw [show P.thE ⟨4, ⟨⟨#[]⟩, ⟨#[]⟩, true⟩, ⟨sk, sv⟩, ⟨vn, vp, va, vo⟩⟩ = if P.pathS sk then 0 else 5 from thE_four _ _ _ _ _ _ _ _ _] at hr
          rw [hr]
          clear hr hs
          generalize P.pathS sk = p at *
          have HB0 := Lib.hid (below2 w (.cells #[.int .i64 4, .string ⟨#[]⟩, .string ⟨#[]⟩, .bool true, .string sk, .string sv, .string vn, .string vp, .bool va, .bool vo] 73) (.cells #[.int .i64 0, .string ⟨#[]⟩, .string ⟨#[]⟩, .bool true, .string sk, .string sv, .string vn, .string vp, .bool va, .bool vo] 73))
          have HR0 := Lib.hid (HasRow.new (w.alloc (.cells #[.int .i64 4, .string ⟨#[]⟩, .string ⟨#[]⟩, .bool true, .string sk, .string sv, .string vn, .string vp, .bool va, .bool vo] 73)) #[.int .i64 0, .string ⟨#[]⟩, .string ⟨#[]⟩, .bool true, .string sk, .string sv, .string vn, .string vp, .bool va, .bool vo] 73)
          rw [World.size_alloc] at HR0
          have HX0 := Lib.hid ((HasRow.new w #[.int .i64 4, .string ⟨#[]⟩, .string ⟨#[]⟩, .bool true, .string sk, .string sv, .string vn, .string vp, .bool va, .bool vo] 73).alloc (.cells #[.int .i64 0, .string ⟨#[]⟩, .string ⟨#[]⟩, .bool true, .string sk, .string sv, .string vn, .string vp, .bool va, .bool vo] 73))
          clear hw
          cases p
          all_goals
            go_enter Tryz.func44, Tryz.ntmps44
            go_wp2_with (first
              | (go_at_call 40; refine (HE.out _ (HW.out.mono HB0.out)).mono ?_; rintro e w2 ⟨rfl, hb2⟩; have HB2 := Lib.hid (bstep HB0.out hb2); have HR2 := Lib.hid (HR0.out.below hb2); obtain ⟨d0, d1, d2, d3, d4, d5, d6, d7, d8, d9⟩ := hrow10 HR2.out; have f4 := HR2.out.free 4; have HR3 : Hid (HasRow _ (w.heap.size + 1) #[.int .i64 0, .string ⟨#[]⟩, .string ⟨#[]⟩, .bool true, .string ⟨#[]⟩, .string sv, .string vn, .string vp, .bool va, .bool vo]) := Lib.hid (HR2.out.set 4 (.string ⟨#[]⟩) (by simp)); have HB3 := Lib.hid (HB2.out.setCell (p := ⟨w.heap.size + 1, 4, none⟩) (Nat.le_succ _) (.string ⟨#[]⟩)); obtain ⟨g0, g1, g2, g3, g4, g5, g6, g7, g8, g9⟩ := hrow10 HR3.out)
              | (go_at_call 87; refine (HN.out _ _ _).mono ?_; rintro e w3 ⟨rfl, rfl⟩)
              | (go_at_call 88; refine (HO.out _ _ _ _ (by simp)).mono ?_; rintro e w4 ⟨rfl, rfl⟩))
            go_ret
            exact ⟨rfl, by first | exact bstep HB3.out (below_alloc _ _) | exact HB3.out⟩
      · have hr : P.chE ⟨4, ⟨⟨#[]⟩, fd, fr⟩, ⟨sk, sv⟩, ⟨vn, vp, va, vo⟩⟩ = P.orE (P.thE ⟨4, ⟨⟨#[]⟩, fd, fr⟩, ⟨sk, sv⟩, ⟨vn, vp, va, vo⟩⟩) 2 := by unfold P.chE; rw [show P.eqC ⟨4, ⟨⟨#[]⟩, fd, fr⟩, ⟨sk, sv⟩, ⟨vn, vp, va, vo⟩⟩ (P.needed ⟨4, ⟨⟨#[]⟩, fd, fr⟩, ⟨sk, sv⟩, ⟨vn, vp, va, vo⟩⟩) = false from by simp [P.eqC, P.needed, P.fi0, P.sv0, hd]]; rfl
        have HE := Lib.hid (fun W hW => rpath_any sk hs.sk W hW)
        rw [show P.thE ⟨4, ⟨⟨#[]⟩, fd, fr⟩, ⟨sk, sv⟩, ⟨vn, vp, va, vo⟩⟩ = if P.pathS sk then 0 else 5 from thE_four _ _ _ _ _ _ _ _ _] at hr
        rw [hr]
        clear hr hs
        generalize P.pathS sk = p at *
        have HB0 := Lib.hid (below2 w (.cells #[.int .i64 4, .string ⟨#[]⟩, .string fd, .bool fr, .string sk, .string sv, .string vn, .string vp, .bool va, .bool vo] 73) (.cells #[.int .i64 0, .string ⟨#[]⟩, .string fd, .bool fr, .string sk, .string sv, .string vn, .string vp, .bool va, .bool vo] 73))
        have HR0 := Lib.hid (HasRow.new (w.alloc (.cells #[.int .i64 4, .string ⟨#[]⟩, .string fd, .bool fr, .string sk, .string sv, .string vn, .string vp, .bool va, .bool vo] 73)) #[.int .i64 0, .string ⟨#[]⟩, .string fd, .bool fr, .string sk, .string sv, .string vn, .string vp, .bool va, .bool vo] 73)
        rw [World.size_alloc] at HR0
        have HX0 := Lib.hid ((HasRow.new w #[.int .i64 4, .string ⟨#[]⟩, .string fd, .bool fr, .string sk, .string sv, .string vn, .string vp, .bool va, .bool vo] 73).alloc (.cells #[.int .i64 0, .string ⟨#[]⟩, .string fd, .bool fr, .string sk, .string sv, .string vn, .string vp, .bool va, .bool vo] 73))
        clear hw
        cases p
        all_goals
          go_enter Tryz.func44, Tryz.ntmps44
          go_wp2_with (first
            | (go_at_call 40; refine (HE.out _ (HW.out.mono HB0.out)).mono ?_; rintro e w2 ⟨rfl, hb2⟩; have HB2 := Lib.hid (bstep HB0.out hb2); have HR2 := Lib.hid (HR0.out.below hb2); obtain ⟨d0, d1, d2, d3, d4, d5, d6, d7, d8, d9⟩ := hrow10 HR2.out; have f4 := HR2.out.free 4; have HR3 : Hid (HasRow _ (w.heap.size + 1) #[.int .i64 0, .string ⟨#[]⟩, .string fd, .bool fr, .string ⟨#[]⟩, .string sv, .string vn, .string vp, .bool va, .bool vo]) := Lib.hid (HR2.out.set 4 (.string ⟨#[]⟩) (by simp)); have HB3 := Lib.hid (HB2.out.setCell (p := ⟨w.heap.size + 1, 4, none⟩) (Nat.le_succ _) (.string ⟨#[]⟩)); obtain ⟨g0, g1, g2, g3, g4, g5, g6, g7, g8, g9⟩ := hrow10 HR3.out)
            | (go_at_call 87; refine (HN.out _ _ _).mono ?_; rintro e w3 ⟨rfl, rfl⟩)
            | (go_at_call 88; refine (HO.out _ _ _ _ (by simp)).mono ?_; rintro e w4 ⟨rfl, rfl⟩))
          go_ret
          exact ⟨rfl, by first | exact bstep HB3.out (below_alloc _ _) | exact HB3.out⟩
    · have hr : P.chE ⟨4, ⟨fp, fd, fr⟩, ⟨sk, sv⟩, ⟨vn, vp, va, vo⟩⟩ = P.orE (P.thE ⟨4, ⟨fp, fd, fr⟩, ⟨sk, sv⟩, ⟨vn, vp, va, vo⟩⟩) 2 := by unfold P.chE; rw [show P.eqC ⟨4, ⟨fp, fd, fr⟩, ⟨sk, sv⟩, ⟨vn, vp, va, vo⟩⟩ (P.needed ⟨4, ⟨fp, fd, fr⟩, ⟨sk, sv⟩, ⟨vn, vp, va, vo⟩⟩) = false from by simp [P.eqC, P.needed, P.fi0, P.sv0, hd]]; rfl
      have HE := Lib.hid (fun W hW => rpath_any sk hs.sk W hW)
      rw [show P.thE ⟨4, ⟨fp, fd, fr⟩, ⟨sk, sv⟩, ⟨vn, vp, va, vo⟩⟩ = if P.pathS sk then 0 else 5 from thE_four _ _ _ _ _ _ _ _ _] at hr
      rw [hr]
      clear hr hs
      generalize P.pathS sk = p at *
      have HB0 := Lib.hid (below2 w (.cells #[.int .i64 4, .string fp, .string fd, .bool fr, .string sk, .string sv, .string vn, .string vp, .bool va, .bool vo] 73) (.cells #[.int .i64 0, .string fp, .string fd, .bool fr, .string sk, .string sv, .string vn, .string vp, .bool va, .bool vo] 73))
      have HR0 := Lib.hid (HasRow.new (w.alloc (.cells #[.int .i64 4, .string fp, .string fd, .bool fr, .string sk, .string sv, .string vn, .string vp, .bool va, .bool vo] 73)) #[.int .i64 0, .string fp, .string fd, .bool fr, .string sk, .string sv, .string vn, .string vp, .bool va, .bool vo] 73)
      rw [World.size_alloc] at HR0
      have HX0 := Lib.hid ((HasRow.new w #[.int .i64 4, .string fp, .string fd, .bool fr, .string sk, .string sv, .string vn, .string vp, .bool va, .bool vo] 73).alloc (.cells #[.int .i64 0, .string fp, .string fd, .bool fr, .string sk, .string sv, .string vn, .string vp, .bool va, .bool vo] 73))
      clear hw
      cases p
      all_goals
        go_enter Tryz.func44, Tryz.ntmps44
        go_wp2_with (first
          | (go_at_call 40; refine (HE.out _ (HW.out.mono HB0.out)).mono ?_; rintro e w2 ⟨rfl, hb2⟩; have HB2 := Lib.hid (bstep HB0.out hb2); have HR2 := Lib.hid (HR0.out.below hb2); obtain ⟨d0, d1, d2, d3, d4, d5, d6, d7, d8, d9⟩ := hrow10 HR2.out; have f4 := HR2.out.free 4; have HR3 : Hid (HasRow _ (w.heap.size + 1) #[.int .i64 0, .string fp, .string fd, .bool fr, .string ⟨#[]⟩, .string sv, .string vn, .string vp, .bool va, .bool vo]) := Lib.hid (HR2.out.set 4 (.string ⟨#[]⟩) (by simp)); have HB3 := Lib.hid (HB2.out.setCell (p := ⟨w.heap.size + 1, 4, none⟩) (Nat.le_succ _) (.string ⟨#[]⟩)); obtain ⟨g0, g1, g2, g3, g4, g5, g6, g7, g8, g9⟩ := hrow10 HR3.out)
          | (go_at_call 87; refine (HN.out _ _ _).mono ?_; rintro e w3 ⟨rfl, rfl⟩)
          | (go_at_call 88; refine (HO.out _ _ _ _ (by simp)).mono ?_; rintro e w4 ⟨rfl, rfl⟩))
        go_ret
        exact ⟨rfl, by first | exact bstep HB3.out (below_alloc _ _) | exact HB3.out⟩
set_option maxRecDepth 100000 in
set_option maxHeartbeats 40000000 in
theorem changeError5 (fp fd sk sv vn vp : ByteArray) (fr va vo : Bool) (hs : P.CSm 4294967280 ⟨5, ⟨fp, fd, fr⟩, ⟨sk, sv⟩, ⟨vn, vp, va, vo⟩⟩) (w : World) (hw : Good w) :
    Calls Tryz.prog 44 #[.agg #[.int .i64 5, .string fp, .string fd, .bool fr, .string sk, .string sv, .string vn, .string vp, .bool va, .bool vo]] w fun e w' => e = .returned (.int .i64 (P.chE ⟨5, ⟨fp, fd, fr⟩, ⟨sk, sv⟩, ⟨vn, vp, va, vo⟩⟩)) ∧ Below w.heap.size w w' := by
    have HO := Lib.hid (fun a b nb W hn => rfirst2 a b nb W hn)
    have HN := Lib.hid rwhen_any
    have HW := Lib.hid hw
    rcases empty_cases fp with rfl | ⟨hd, hd2⟩
    · rcases empty_cases fd with rfl | ⟨hd, hd2⟩
      · cases fr
        · rcases empty_cases sk with rfl | ⟨hd, hd2⟩
          · rcases empty_cases sv with rfl | ⟨hd, hd2⟩
            · have hr : P.chE ⟨5, ⟨⟨#[]⟩, ⟨#[]⟩, false⟩, ⟨⟨#[]⟩, ⟨#[]⟩⟩, ⟨vn, vp, va, vo⟩⟩ = P.orE (P.thE ⟨5, ⟨⟨#[]⟩, ⟨#[]⟩, false⟩, ⟨⟨#[]⟩, ⟨#[]⟩⟩, ⟨vn, vp, va, vo⟩⟩) 0 := by unfold P.chE; rw [show P.eqC ⟨5, ⟨⟨#[]⟩, ⟨#[]⟩, false⟩, ⟨⟨#[]⟩, ⟨#[]⟩⟩, ⟨vn, vp, va, vo⟩⟩ (P.needed ⟨5, ⟨⟨#[]⟩, ⟨#[]⟩, false⟩, ⟨⟨#[]⟩, ⟨#[]⟩⟩, ⟨vn, vp, va, vo⟩⟩) = true from by simp [P.eqC, P.needed, P.fi0, P.st0]]; rfl
              have HE := Lib.hid (fun W hW => rserviceError_any ⟨vn, vp, va, vo⟩ hs.vn hs.vp W hW)
              rw [show P.thE ⟨5, ⟨⟨#[]⟩, ⟨#[]⟩, false⟩, ⟨⟨#[]⟩, ⟨#[]⟩⟩, ⟨vn, vp, va, vo⟩⟩ = P.svcErr ⟨vn, vp, va, vo⟩ from rfl] at hr
              rw [hr]
              clear hr hs
              generalize P.svcErr ⟨vn, vp, va, vo⟩ = a at *
              have HB0 := Lib.hid (below2 w (.cells #[.int .i64 5, .string ⟨#[]⟩, .string ⟨#[]⟩, .bool false, .string ⟨#[]⟩, .string ⟨#[]⟩, .string vn, .string vp, .bool va, .bool vo] 73) (.cells #[.int .i64 0, .string ⟨#[]⟩, .string ⟨#[]⟩, .bool false, .string ⟨#[]⟩, .string ⟨#[]⟩, .string vn, .string vp, .bool va, .bool vo] 73))
              have HR0 := Lib.hid (HasRow.new (w.alloc (.cells #[.int .i64 5, .string ⟨#[]⟩, .string ⟨#[]⟩, .bool false, .string ⟨#[]⟩, .string ⟨#[]⟩, .string vn, .string vp, .bool va, .bool vo] 73)) #[.int .i64 0, .string ⟨#[]⟩, .string ⟨#[]⟩, .bool false, .string ⟨#[]⟩, .string ⟨#[]⟩, .string vn, .string vp, .bool va, .bool vo] 73)
              rw [World.size_alloc] at HR0
              have HX0 := Lib.hid ((HasRow.new w #[.int .i64 5, .string ⟨#[]⟩, .string ⟨#[]⟩, .bool false, .string ⟨#[]⟩, .string ⟨#[]⟩, .string vn, .string vp, .bool va, .bool vo] 73).alloc (.cells #[.int .i64 0, .string ⟨#[]⟩, .string ⟨#[]⟩, .bool false, .string ⟨#[]⟩, .string ⟨#[]⟩, .string vn, .string vp, .bool va, .bool vo] 73))
              clear hw
              go_enter Tryz.func44, Tryz.ntmps44
              go_wp2_with (first
                | (go_at_call 92; refine (HE.out _ (HW.out.mono HB0.out)).mono ?_; rintro e w2 ⟨rfl, hb2⟩; have HB2 := Lib.hid (bstep HB0.out hb2); have HR2 := Lib.hid (HR0.out.below hb2); obtain ⟨d0, d1, d2, d3, d4, d5, d6, d7, d8, d9⟩ := hrow10 HR2.out; have f6 := HR2.out.free 6; have f7 := HR2.out.free 7; have f8 := HR2.out.free 8; have f9 := HR2.out.free 9; have HR3 : Hid (HasRow _ (w.heap.size + 1) #[.int .i64 0, .string ⟨#[]⟩, .string ⟨#[]⟩, .bool false, .string ⟨#[]⟩, .string ⟨#[]⟩, .string ⟨#[]⟩, .string ⟨#[]⟩, .bool false, .bool false]) := Lib.hid ((((HR2.out.set 6 (.string ⟨#[]⟩) (by simp)).set 7 (.string ⟨#[]⟩) (by simp)).set 8 (.bool false) (by simp)).set 9 (.bool false) (by simp)); have HB3 := Lib.hid ((((HB2.out.setCell (p := ⟨w.heap.size + 1, 6, none⟩) (Nat.le_succ _) (.string ⟨#[]⟩)).setCell (p := ⟨w.heap.size + 1, 7, none⟩) (Nat.le_succ _) (.string ⟨#[]⟩)).setCell (p := ⟨w.heap.size + 1, 8, none⟩) (Nat.le_succ _) (.bool false)).setCell (p := ⟨w.heap.size + 1, 9, none⟩) (Nat.le_succ _) (.bool false)); obtain ⟨g0, g1, g2, g3, g4, g5, g6, g7, g8, g9⟩ := hrow10 HR3.out)
                | (go_at_call 87; refine (HN.out _ _ _).mono ?_; rintro e w3 ⟨rfl, rfl⟩)
                | (go_at_call 88; refine (HO.out _ _ _ _ (by simp)).mono ?_; rintro e w4 ⟨rfl, rfl⟩))
              go_ret
              exact ⟨rfl, by first | exact bstep HB3.out (below_alloc _ _) | exact HB3.out⟩
            · have hr : P.chE ⟨5, ⟨⟨#[]⟩, ⟨#[]⟩, false⟩, ⟨⟨#[]⟩, sv⟩, ⟨vn, vp, va, vo⟩⟩ = P.orE (P.thE ⟨5, ⟨⟨#[]⟩, ⟨#[]⟩, false⟩, ⟨⟨#[]⟩, sv⟩, ⟨vn, vp, va, vo⟩⟩) 2 := by unfold P.chE; rw [show P.eqC ⟨5, ⟨⟨#[]⟩, ⟨#[]⟩, false⟩, ⟨⟨#[]⟩, sv⟩, ⟨vn, vp, va, vo⟩⟩ (P.needed ⟨5, ⟨⟨#[]⟩, ⟨#[]⟩, false⟩, ⟨⟨#[]⟩, sv⟩, ⟨vn, vp, va, vo⟩⟩) = false from by simp [P.eqC, P.needed, P.fi0, P.st0, hd]]; rfl
              have HE := Lib.hid (fun W hW => rserviceError_any ⟨vn, vp, va, vo⟩ hs.vn hs.vp W hW)
              rw [show P.thE ⟨5, ⟨⟨#[]⟩, ⟨#[]⟩, false⟩, ⟨⟨#[]⟩, sv⟩, ⟨vn, vp, va, vo⟩⟩ = P.svcErr ⟨vn, vp, va, vo⟩ from rfl] at hr
              rw [hr]
              clear hr hs
              generalize P.svcErr ⟨vn, vp, va, vo⟩ = a at *
              have HB0 := Lib.hid (below2 w (.cells #[.int .i64 5, .string ⟨#[]⟩, .string ⟨#[]⟩, .bool false, .string ⟨#[]⟩, .string sv, .string vn, .string vp, .bool va, .bool vo] 73) (.cells #[.int .i64 0, .string ⟨#[]⟩, .string ⟨#[]⟩, .bool false, .string ⟨#[]⟩, .string sv, .string vn, .string vp, .bool va, .bool vo] 73))
              have HR0 := Lib.hid (HasRow.new (w.alloc (.cells #[.int .i64 5, .string ⟨#[]⟩, .string ⟨#[]⟩, .bool false, .string ⟨#[]⟩, .string sv, .string vn, .string vp, .bool va, .bool vo] 73)) #[.int .i64 0, .string ⟨#[]⟩, .string ⟨#[]⟩, .bool false, .string ⟨#[]⟩, .string sv, .string vn, .string vp, .bool va, .bool vo] 73)
              rw [World.size_alloc] at HR0
              have HX0 := Lib.hid ((HasRow.new w #[.int .i64 5, .string ⟨#[]⟩, .string ⟨#[]⟩, .bool false, .string ⟨#[]⟩, .string sv, .string vn, .string vp, .bool va, .bool vo] 73).alloc (.cells #[.int .i64 0, .string ⟨#[]⟩, .string ⟨#[]⟩, .bool false, .string ⟨#[]⟩, .string sv, .string vn, .string vp, .bool va, .bool vo] 73))
              clear hw
              go_enter Tryz.func44, Tryz.ntmps44
              go_wp2_with (first
                | (go_at_call 92; refine (HE.out _ (HW.out.mono HB0.out)).mono ?_; rintro e w2 ⟨rfl, hb2⟩; have HB2 := Lib.hid (bstep HB0.out hb2); have HR2 := Lib.hid (HR0.out.below hb2); obtain ⟨d0, d1, d2, d3, d4, d5, d6, d7, d8, d9⟩ := hrow10 HR2.out; have f6 := HR2.out.free 6; have f7 := HR2.out.free 7; have f8 := HR2.out.free 8; have f9 := HR2.out.free 9; have HR3 : Hid (HasRow _ (w.heap.size + 1) #[.int .i64 0, .string ⟨#[]⟩, .string ⟨#[]⟩, .bool false, .string ⟨#[]⟩, .string sv, .string ⟨#[]⟩, .string ⟨#[]⟩, .bool false, .bool false]) := Lib.hid ((((HR2.out.set 6 (.string ⟨#[]⟩) (by simp)).set 7 (.string ⟨#[]⟩) (by simp)).set 8 (.bool false) (by simp)).set 9 (.bool false) (by simp)); have HB3 := Lib.hid ((((HB2.out.setCell (p := ⟨w.heap.size + 1, 6, none⟩) (Nat.le_succ _) (.string ⟨#[]⟩)).setCell (p := ⟨w.heap.size + 1, 7, none⟩) (Nat.le_succ _) (.string ⟨#[]⟩)).setCell (p := ⟨w.heap.size + 1, 8, none⟩) (Nat.le_succ _) (.bool false)).setCell (p := ⟨w.heap.size + 1, 9, none⟩) (Nat.le_succ _) (.bool false)); obtain ⟨g0, g1, g2, g3, g4, g5, g6, g7, g8, g9⟩ := hrow10 HR3.out)
                | (go_at_call 87; refine (HN.out _ _ _).mono ?_; rintro e w3 ⟨rfl, rfl⟩)
                | (go_at_call 88; refine (HO.out _ _ _ _ (by simp)).mono ?_; rintro e w4 ⟨rfl, rfl⟩))
              go_ret
              exact ⟨rfl, by first | exact bstep HB3.out (below_alloc _ _) | exact HB3.out⟩
          · have hr : P.chE ⟨5, ⟨⟨#[]⟩, ⟨#[]⟩, false⟩, ⟨sk, sv⟩, ⟨vn, vp, va, vo⟩⟩ = P.orE (P.thE ⟨5, ⟨⟨#[]⟩, ⟨#[]⟩, false⟩, ⟨sk, sv⟩, ⟨vn, vp, va, vo⟩⟩) 2 := by unfold P.chE; rw [show P.eqC ⟨5, ⟨⟨#[]⟩, ⟨#[]⟩, false⟩, ⟨sk, sv⟩, ⟨vn, vp, va, vo⟩⟩ (P.needed ⟨5, ⟨⟨#[]⟩, ⟨#[]⟩, false⟩, ⟨sk, sv⟩, ⟨vn, vp, va, vo⟩⟩) = false from by simp [P.eqC, P.needed, P.fi0, P.st0, hd]]; rfl
            have HE := Lib.hid (fun W hW => rserviceError_any ⟨vn, vp, va, vo⟩ hs.vn hs.vp W hW)
            rw [show P.thE ⟨5, ⟨⟨#[]⟩, ⟨#[]⟩, false⟩, ⟨sk, sv⟩, ⟨vn, vp, va, vo⟩⟩ = P.svcErr ⟨vn, vp, va, vo⟩ from rfl] at hr
            rw [hr]
            clear hr hs
            generalize P.svcErr ⟨vn, vp, va, vo⟩ = a at *
            have HB0 := Lib.hid (below2 w (.cells #[.int .i64 5, .string ⟨#[]⟩, .string ⟨#[]⟩, .bool false, .string sk, .string sv, .string vn, .string vp, .bool va, .bool vo] 73) (.cells #[.int .i64 0, .string ⟨#[]⟩, .string ⟨#[]⟩, .bool false, .string sk, .string sv, .string vn, .string vp, .bool va, .bool vo] 73))
            have HR0 := Lib.hid (HasRow.new (w.alloc (.cells #[.int .i64 5, .string ⟨#[]⟩, .string ⟨#[]⟩, .bool false, .string sk, .string sv, .string vn, .string vp, .bool va, .bool vo] 73)) #[.int .i64 0, .string ⟨#[]⟩, .string ⟨#[]⟩, .bool false, .string sk, .string sv, .string vn, .string vp, .bool va, .bool vo] 73)
            rw [World.size_alloc] at HR0
            have HX0 := Lib.hid ((HasRow.new w #[.int .i64 5, .string ⟨#[]⟩, .string ⟨#[]⟩, .bool false, .string sk, .string sv, .string vn, .string vp, .bool va, .bool vo] 73).alloc (.cells #[.int .i64 0, .string ⟨#[]⟩, .string ⟨#[]⟩, .bool false, .string sk, .string sv, .string vn, .string vp, .bool va, .bool vo] 73))
            clear hw
            go_enter Tryz.func44, Tryz.ntmps44
            go_wp2_with (first
              | (go_at_call 92; refine (HE.out _ (HW.out.mono HB0.out)).mono ?_; rintro e w2 ⟨rfl, hb2⟩; have HB2 := Lib.hid (bstep HB0.out hb2); have HR2 := Lib.hid (HR0.out.below hb2); obtain ⟨d0, d1, d2, d3, d4, d5, d6, d7, d8, d9⟩ := hrow10 HR2.out; have f6 := HR2.out.free 6; have f7 := HR2.out.free 7; have f8 := HR2.out.free 8; have f9 := HR2.out.free 9; have HR3 : Hid (HasRow _ (w.heap.size + 1) #[.int .i64 0, .string ⟨#[]⟩, .string ⟨#[]⟩, .bool false, .string sk, .string sv, .string ⟨#[]⟩, .string ⟨#[]⟩, .bool false, .bool false]) := Lib.hid ((((HR2.out.set 6 (.string ⟨#[]⟩) (by simp)).set 7 (.string ⟨#[]⟩) (by simp)).set 8 (.bool false) (by simp)).set 9 (.bool false) (by simp)); have HB3 := Lib.hid ((((HB2.out.setCell (p := ⟨w.heap.size + 1, 6, none⟩) (Nat.le_succ _) (.string ⟨#[]⟩)).setCell (p := ⟨w.heap.size + 1, 7, none⟩) (Nat.le_succ _) (.string ⟨#[]⟩)).setCell (p := ⟨w.heap.size + 1, 8, none⟩) (Nat.le_succ _) (.bool false)).setCell (p := ⟨w.heap.size + 1, 9, none⟩) (Nat.le_succ _) (.bool false)); obtain ⟨g0, g1, g2, g3, g4, g5, g6, g7, g8, g9⟩ := hrow10 HR3.out)
              | (go_at_call 87; refine (HN.out _ _ _).mono ?_; rintro e w3 ⟨rfl, rfl⟩)
              | (go_at_call 88; refine (HO.out _ _ _ _ (by simp)).mono ?_; rintro e w4 ⟨rfl, rfl⟩))
            go_ret
            exact ⟨rfl, by first | exact bstep HB3.out (below_alloc _ _) | exact HB3.out⟩
        · have hr : P.chE ⟨5, ⟨⟨#[]⟩, ⟨#[]⟩, true⟩, ⟨sk, sv⟩, ⟨vn, vp, va, vo⟩⟩ = P.orE (P.thE ⟨5, ⟨⟨#[]⟩, ⟨#[]⟩, true⟩, ⟨sk, sv⟩, ⟨vn, vp, va, vo⟩⟩) 2 := by unfold P.chE; rw [show P.eqC ⟨5, ⟨⟨#[]⟩, ⟨#[]⟩, true⟩, ⟨sk, sv⟩, ⟨vn, vp, va, vo⟩⟩ (P.needed ⟨5, ⟨⟨#[]⟩, ⟨#[]⟩, true⟩, ⟨sk, sv⟩, ⟨vn, vp, va, vo⟩⟩) = false from by simp [P.eqC, P.needed, P.fi0, P.st0]]; rfl
          have HE := Lib.hid (fun W hW => rserviceError_any ⟨vn, vp, va, vo⟩ hs.vn hs.vp W hW)
          rw [show P.thE ⟨5, ⟨⟨#[]⟩, ⟨#[]⟩, true⟩, ⟨sk, sv⟩, ⟨vn, vp, va, vo⟩⟩ = P.svcErr ⟨vn, vp, va, vo⟩ from rfl] at hr
          rw [hr]
          clear hr hs
          generalize P.svcErr ⟨vn, vp, va, vo⟩ = a at *
          have HB0 := Lib.hid (below2 w (.cells #[.int .i64 5, .string ⟨#[]⟩, .string ⟨#[]⟩, .bool true, .string sk, .string sv, .string vn, .string vp, .bool va, .bool vo] 73) (.cells #[.int .i64 0, .string ⟨#[]⟩, .string ⟨#[]⟩, .bool true, .string sk, .string sv, .string vn, .string vp, .bool va, .bool vo] 73))
          have HR0 := Lib.hid (HasRow.new (w.alloc (.cells #[.int .i64 5, .string ⟨#[]⟩, .string ⟨#[]⟩, .bool true, .string sk, .string sv, .string vn, .string vp, .bool va, .bool vo] 73)) #[.int .i64 0, .string ⟨#[]⟩, .string ⟨#[]⟩, .bool true, .string sk, .string sv, .string vn, .string vp, .bool va, .bool vo] 73)
          rw [World.size_alloc] at HR0
          have HX0 := Lib.hid ((HasRow.new w #[.int .i64 5, .string ⟨#[]⟩, .string ⟨#[]⟩, .bool true, .string sk, .string sv, .string vn, .string vp, .bool va, .bool vo] 73).alloc (.cells #[.int .i64 0, .string ⟨#[]⟩, .string ⟨#[]⟩, .bool true, .string sk, .string sv, .string vn, .string vp, .bool va, .bool vo] 73))
          clear hw
          go_enter Tryz.func44, Tryz.ntmps44
          go_wp2_with (first
            | (go_at_call 92; refine (HE.out _ (HW.out.mono HB0.out)).mono ?_; rintro e w2 ⟨rfl, hb2⟩; have HB2 := Lib.hid (bstep HB0.out hb2); have HR2 := Lib.hid (HR0.out.below hb2); obtain ⟨d0, d1, d2, d3, d4, d5, d6, d7, d8, d9⟩ := hrow10 HR2.out; have f6 := HR2.out.free 6; have f7 := HR2.out.free 7; have f8 := HR2.out.free 8; have f9 := HR2.out.free 9; have HR3 : Hid (HasRow _ (w.heap.size + 1) #[.int .i64 0, .string ⟨#[]⟩, .string ⟨#[]⟩, .bool true, .string sk, .string sv, .string ⟨#[]⟩, .string ⟨#[]⟩, .bool false, .bool false]) := Lib.hid ((((HR2.out.set 6 (.string ⟨#[]⟩) (by simp)).set 7 (.string ⟨#[]⟩) (by simp)).set 8 (.bool false) (by simp)).set 9 (.bool false) (by simp)); have HB3 := Lib.hid ((((HB2.out.setCell (p := ⟨w.heap.size + 1, 6, none⟩) (Nat.le_succ _) (.string ⟨#[]⟩)).setCell (p := ⟨w.heap.size + 1, 7, none⟩) (Nat.le_succ _) (.string ⟨#[]⟩)).setCell (p := ⟨w.heap.size + 1, 8, none⟩) (Nat.le_succ _) (.bool false)).setCell (p := ⟨w.heap.size + 1, 9, none⟩) (Nat.le_succ _) (.bool false)); obtain ⟨g0, g1, g2, g3, g4, g5, g6, g7, g8, g9⟩ := hrow10 HR3.out)
            | (go_at_call 87; refine (HN.out _ _ _).mono ?_; rintro e w3 ⟨rfl, rfl⟩)
            | (go_at_call 88; refine (HO.out _ _ _ _ (by simp)).mono ?_; rintro e w4 ⟨rfl, rfl⟩))
          go_ret
          exact ⟨rfl, by first | exact bstep HB3.out (below_alloc _ _) | exact HB3.out⟩
      · have hr : P.chE ⟨5, ⟨⟨#[]⟩, fd, fr⟩, ⟨sk, sv⟩, ⟨vn, vp, va, vo⟩⟩ = P.orE (P.thE ⟨5, ⟨⟨#[]⟩, fd, fr⟩, ⟨sk, sv⟩, ⟨vn, vp, va, vo⟩⟩) 2 := by unfold P.chE; rw [show P.eqC ⟨5, ⟨⟨#[]⟩, fd, fr⟩, ⟨sk, sv⟩, ⟨vn, vp, va, vo⟩⟩ (P.needed ⟨5, ⟨⟨#[]⟩, fd, fr⟩, ⟨sk, sv⟩, ⟨vn, vp, va, vo⟩⟩) = false from by simp [P.eqC, P.needed, P.fi0, P.st0, hd]]; rfl
        have HE := Lib.hid (fun W hW => rserviceError_any ⟨vn, vp, va, vo⟩ hs.vn hs.vp W hW)
        rw [show P.thE ⟨5, ⟨⟨#[]⟩, fd, fr⟩, ⟨sk, sv⟩, ⟨vn, vp, va, vo⟩⟩ = P.svcErr ⟨vn, vp, va, vo⟩ from rfl] at hr
        rw [hr]
        clear hr hs
        generalize P.svcErr ⟨vn, vp, va, vo⟩ = a at *
        have HB0 := Lib.hid (below2 w (.cells #[.int .i64 5, .string ⟨#[]⟩, .string fd, .bool fr, .string sk, .string sv, .string vn, .string vp, .bool va, .bool vo] 73) (.cells #[.int .i64 0, .string ⟨#[]⟩, .string fd, .bool fr, .string sk, .string sv, .string vn, .string vp, .bool va, .bool vo] 73))
        have HR0 := Lib.hid (HasRow.new (w.alloc (.cells #[.int .i64 5, .string ⟨#[]⟩, .string fd, .bool fr, .string sk, .string sv, .string vn, .string vp, .bool va, .bool vo] 73)) #[.int .i64 0, .string ⟨#[]⟩, .string fd, .bool fr, .string sk, .string sv, .string vn, .string vp, .bool va, .bool vo] 73)
        rw [World.size_alloc] at HR0
        have HX0 := Lib.hid ((HasRow.new w #[.int .i64 5, .string ⟨#[]⟩, .string fd, .bool fr, .string sk, .string sv, .string vn, .string vp, .bool va, .bool vo] 73).alloc (.cells #[.int .i64 0, .string ⟨#[]⟩, .string fd, .bool fr, .string sk, .string sv, .string vn, .string vp, .bool va, .bool vo] 73))
        clear hw
        go_enter Tryz.func44, Tryz.ntmps44
        go_wp2_with (first
          | (go_at_call 92; refine (HE.out _ (HW.out.mono HB0.out)).mono ?_; rintro e w2 ⟨rfl, hb2⟩; have HB2 := Lib.hid (bstep HB0.out hb2); have HR2 := Lib.hid (HR0.out.below hb2); obtain ⟨d0, d1, d2, d3, d4, d5, d6, d7, d8, d9⟩ := hrow10 HR2.out; have f6 := HR2.out.free 6; have f7 := HR2.out.free 7; have f8 := HR2.out.free 8; have f9 := HR2.out.free 9; have HR3 : Hid (HasRow _ (w.heap.size + 1) #[.int .i64 0, .string ⟨#[]⟩, .string fd, .bool fr, .string sk, .string sv, .string ⟨#[]⟩, .string ⟨#[]⟩, .bool false, .bool false]) := Lib.hid ((((HR2.out.set 6 (.string ⟨#[]⟩) (by simp)).set 7 (.string ⟨#[]⟩) (by simp)).set 8 (.bool false) (by simp)).set 9 (.bool false) (by simp)); have HB3 := Lib.hid ((((HB2.out.setCell (p := ⟨w.heap.size + 1, 6, none⟩) (Nat.le_succ _) (.string ⟨#[]⟩)).setCell (p := ⟨w.heap.size + 1, 7, none⟩) (Nat.le_succ _) (.string ⟨#[]⟩)).setCell (p := ⟨w.heap.size + 1, 8, none⟩) (Nat.le_succ _) (.bool false)).setCell (p := ⟨w.heap.size + 1, 9, none⟩) (Nat.le_succ _) (.bool false)); obtain ⟨g0, g1, g2, g3, g4, g5, g6, g7, g8, g9⟩ := hrow10 HR3.out)
          | (go_at_call 87; refine (HN.out _ _ _).mono ?_; rintro e w3 ⟨rfl, rfl⟩)
          | (go_at_call 88; refine (HO.out _ _ _ _ (by simp)).mono ?_; rintro e w4 ⟨rfl, rfl⟩))
        go_ret
        exact ⟨rfl, by first | exact bstep HB3.out (below_alloc _ _) | exact HB3.out⟩
    · have hr : P.chE ⟨5, ⟨fp, fd, fr⟩, ⟨sk, sv⟩, ⟨vn, vp, va, vo⟩⟩ = P.orE (P.thE ⟨5, ⟨fp, fd, fr⟩, ⟨sk, sv⟩, ⟨vn, vp, va, vo⟩⟩) 2 := by unfold P.chE; rw [show P.eqC ⟨5, ⟨fp, fd, fr⟩, ⟨sk, sv⟩, ⟨vn, vp, va, vo⟩⟩ (P.needed ⟨5, ⟨fp, fd, fr⟩, ⟨sk, sv⟩, ⟨vn, vp, va, vo⟩⟩) = false from by simp [P.eqC, P.needed, P.fi0, P.st0, hd]]; rfl
      have HE := Lib.hid (fun W hW => rserviceError_any ⟨vn, vp, va, vo⟩ hs.vn hs.vp W hW)
      rw [show P.thE ⟨5, ⟨fp, fd, fr⟩, ⟨sk, sv⟩, ⟨vn, vp, va, vo⟩⟩ = P.svcErr ⟨vn, vp, va, vo⟩ from rfl] at hr
      rw [hr]
      clear hr hs
      generalize P.svcErr ⟨vn, vp, va, vo⟩ = a at *
      have HB0 := Lib.hid (below2 w (.cells #[.int .i64 5, .string fp, .string fd, .bool fr, .string sk, .string sv, .string vn, .string vp, .bool va, .bool vo] 73) (.cells #[.int .i64 0, .string fp, .string fd, .bool fr, .string sk, .string sv, .string vn, .string vp, .bool va, .bool vo] 73))
      have HR0 := Lib.hid (HasRow.new (w.alloc (.cells #[.int .i64 5, .string fp, .string fd, .bool fr, .string sk, .string sv, .string vn, .string vp, .bool va, .bool vo] 73)) #[.int .i64 0, .string fp, .string fd, .bool fr, .string sk, .string sv, .string vn, .string vp, .bool va, .bool vo] 73)
      rw [World.size_alloc] at HR0
      have HX0 := Lib.hid ((HasRow.new w #[.int .i64 5, .string fp, .string fd, .bool fr, .string sk, .string sv, .string vn, .string vp, .bool va, .bool vo] 73).alloc (.cells #[.int .i64 0, .string fp, .string fd, .bool fr, .string sk, .string sv, .string vn, .string vp, .bool va, .bool vo] 73))
      clear hw
      go_enter Tryz.func44, Tryz.ntmps44
      go_wp2_with (first
        | (go_at_call 92; refine (HE.out _ (HW.out.mono HB0.out)).mono ?_; rintro e w2 ⟨rfl, hb2⟩; have HB2 := Lib.hid (bstep HB0.out hb2); have HR2 := Lib.hid (HR0.out.below hb2); obtain ⟨d0, d1, d2, d3, d4, d5, d6, d7, d8, d9⟩ := hrow10 HR2.out; have f6 := HR2.out.free 6; have f7 := HR2.out.free 7; have f8 := HR2.out.free 8; have f9 := HR2.out.free 9; have HR3 : Hid (HasRow _ (w.heap.size + 1) #[.int .i64 0, .string fp, .string fd, .bool fr, .string sk, .string sv, .string ⟨#[]⟩, .string ⟨#[]⟩, .bool false, .bool false]) := Lib.hid ((((HR2.out.set 6 (.string ⟨#[]⟩) (by simp)).set 7 (.string ⟨#[]⟩) (by simp)).set 8 (.bool false) (by simp)).set 9 (.bool false) (by simp)); have HB3 := Lib.hid ((((HB2.out.setCell (p := ⟨w.heap.size + 1, 6, none⟩) (Nat.le_succ _) (.string ⟨#[]⟩)).setCell (p := ⟨w.heap.size + 1, 7, none⟩) (Nat.le_succ _) (.string ⟨#[]⟩)).setCell (p := ⟨w.heap.size + 1, 8, none⟩) (Nat.le_succ _) (.bool false)).setCell (p := ⟨w.heap.size + 1, 9, none⟩) (Nat.le_succ _) (.bool false)); obtain ⟨g0, g1, g2, g3, g4, g5, g6, g7, g8, g9⟩ := hrow10 HR3.out)
        | (go_at_call 87; refine (HN.out _ _ _).mono ?_; rintro e w3 ⟨rfl, rfl⟩)
        | (go_at_call 88; refine (HO.out _ _ _ _ (by simp)).mono ?_; rintro e w4 ⟨rfl, rfl⟩))
      go_ret
      exact ⟨rfl, by first | exact bstep HB3.out (below_alloc _ _) | exact HB3.out⟩
set_option maxRecDepth 100000 in
set_option maxHeartbeats 40000000 in
theorem changeError6 (fp fd sk sv vn vp : ByteArray) (fr va vo : Bool) (hs : P.CSm 4294967280 ⟨6, ⟨fp, fd, fr⟩, ⟨sk, sv⟩, ⟨vn, vp, va, vo⟩⟩) (w : World) (hw : Good w) :
    Calls Tryz.prog 44 #[.agg #[.int .i64 6, .string fp, .string fd, .bool fr, .string sk, .string sv, .string vn, .string vp, .bool va, .bool vo]] w fun e w' => e = .returned (.int .i64 (P.chE ⟨6, ⟨fp, fd, fr⟩, ⟨sk, sv⟩, ⟨vn, vp, va, vo⟩⟩)) ∧ Below w.heap.size w w' := by
    have HO := Lib.hid (fun a b nb W hn => rfirst2 a b nb W hn)
    have HN := Lib.hid rwhen_any
    have HW := Lib.hid hw
    rcases empty_cases fp with rfl | ⟨hd, hd2⟩
    · rcases empty_cases fd with rfl | ⟨hd, hd2⟩
      · cases fr
        · rcases empty_cases sk with rfl | ⟨hd, hd2⟩
          · rcases empty_cases sv with rfl | ⟨hd, hd2⟩
            · rcases empty_cases vp with rfl | ⟨hd, hd2⟩
              · cases va
                · cases vo
                  · have hr : P.chE ⟨6, ⟨⟨#[]⟩, ⟨#[]⟩, false⟩, ⟨⟨#[]⟩, ⟨#[]⟩⟩, ⟨vn, ⟨#[]⟩, false, false⟩⟩ = P.orE (P.thE ⟨6, ⟨⟨#[]⟩, ⟨#[]⟩, false⟩, ⟨⟨#[]⟩, ⟨#[]⟩⟩, ⟨vn, ⟨#[]⟩, false, false⟩⟩) 0 := by unfold P.chE; rw [show P.eqC ⟨6, ⟨⟨#[]⟩, ⟨#[]⟩, false⟩, ⟨⟨#[]⟩, ⟨#[]⟩⟩, ⟨vn, ⟨#[]⟩, false, false⟩⟩ (P.needed ⟨6, ⟨⟨#[]⟩, ⟨#[]⟩, false⟩, ⟨⟨#[]⟩, ⟨#[]⟩⟩, ⟨vn, ⟨#[]⟩, false, false⟩⟩) = true from by simp [P.eqC, P.needed, P.fi0, P.st0]]; rfl
                    have HE := Lib.hid (fun W => rname_any vn hs.vn W)
                    rw [show P.thE ⟨6, ⟨⟨#[]⟩, ⟨#[]⟩, false⟩, ⟨⟨#[]⟩, ⟨#[]⟩⟩, ⟨vn, ⟨#[]⟩, false, false⟩⟩ = if P.nameS vn then 0 else 5 from rfl] at hr
                    rw [hr]
                    clear hr hs
                    generalize P.nameS vn = p at *
                    have HB0 := Lib.hid (below2 w (.cells #[.int .i64 6, .string ⟨#[]⟩, .string ⟨#[]⟩, .bool false, .string ⟨#[]⟩, .string ⟨#[]⟩, .string vn, .string ⟨#[]⟩, .bool false, .bool false] 73) (.cells #[.int .i64 0, .string ⟨#[]⟩, .string ⟨#[]⟩, .bool false, .string ⟨#[]⟩, .string ⟨#[]⟩, .string vn, .string ⟨#[]⟩, .bool false, .bool false] 73))
                    have HR0 := Lib.hid (HasRow.new (w.alloc (.cells #[.int .i64 6, .string ⟨#[]⟩, .string ⟨#[]⟩, .bool false, .string ⟨#[]⟩, .string ⟨#[]⟩, .string vn, .string ⟨#[]⟩, .bool false, .bool false] 73)) #[.int .i64 0, .string ⟨#[]⟩, .string ⟨#[]⟩, .bool false, .string ⟨#[]⟩, .string ⟨#[]⟩, .string vn, .string ⟨#[]⟩, .bool false, .bool false] 73)
                    rw [World.size_alloc] at HR0
                    have HX0 := Lib.hid ((HasRow.new w #[.int .i64 6, .string ⟨#[]⟩, .string ⟨#[]⟩, .bool false, .string ⟨#[]⟩, .string ⟨#[]⟩, .string vn, .string ⟨#[]⟩, .bool false, .bool false] 73).alloc (.cells #[.int .i64 0, .string ⟨#[]⟩, .string ⟨#[]⟩, .bool false, .string ⟨#[]⟩, .string ⟨#[]⟩, .string vn, .string ⟨#[]⟩, .bool false, .bool false] 73))
                    clear hw
                    cases p
                    all_goals
                      go_enter Tryz.func44, Tryz.ntmps44
                      go_wp2_with (first
                        | (go_at_call 39; refine (HE.out _).mono ?_; rintro e w2 ⟨rfl, h2⟩; have hb2 := below_of_eq h2; have HB2 := Lib.hid (bstep HB0.out hb2); have HR2 := Lib.hid (HR0.out.below hb2); obtain ⟨d0, d1, d2, d3, d4, d5, d6, d7, d8, d9⟩ := hrow10 HR2.out; have f6 := HR2.out.free 6; have HR3 : Hid (HasRow _ (w.heap.size + 1) #[.int .i64 0, .string ⟨#[]⟩, .string ⟨#[]⟩, .bool false, .string ⟨#[]⟩, .string ⟨#[]⟩, .string ⟨#[]⟩, .string ⟨#[]⟩, .bool false, .bool false]) := Lib.hid (HR2.out.set 6 (.string ⟨#[]⟩) (by simp)); have HB3 := Lib.hid (HB2.out.setCell (p := ⟨w.heap.size + 1, 6, none⟩) (Nat.le_succ _) (.string ⟨#[]⟩)); obtain ⟨g0, g1, g2, g3, g4, g5, g6, g7, g8, g9⟩ := hrow10 HR3.out)
                        | (go_at_call 87; refine (HN.out _ _ _).mono ?_; rintro e w3 ⟨rfl, rfl⟩)
                        | (go_at_call 88; refine (HO.out _ _ _ _ (by simp)).mono ?_; rintro e w4 ⟨rfl, rfl⟩))
                      go_ret
                      exact ⟨rfl, by first | exact bstep HB3.out (below_alloc _ _) | exact HB3.out⟩
                  · have hr : P.chE ⟨6, ⟨⟨#[]⟩, ⟨#[]⟩, false⟩, ⟨⟨#[]⟩, ⟨#[]⟩⟩, ⟨vn, ⟨#[]⟩, false, true⟩⟩ = P.orE (P.thE ⟨6, ⟨⟨#[]⟩, ⟨#[]⟩, false⟩, ⟨⟨#[]⟩, ⟨#[]⟩⟩, ⟨vn, ⟨#[]⟩, false, true⟩⟩) 2 := by unfold P.chE; rw [show P.eqC ⟨6, ⟨⟨#[]⟩, ⟨#[]⟩, false⟩, ⟨⟨#[]⟩, ⟨#[]⟩⟩, ⟨vn, ⟨#[]⟩, false, true⟩⟩ (P.needed ⟨6, ⟨⟨#[]⟩, ⟨#[]⟩, false⟩, ⟨⟨#[]⟩, ⟨#[]⟩⟩, ⟨vn, ⟨#[]⟩, false, true⟩⟩) = false from by simp [P.eqC, P.needed, P.fi0, P.st0]]; rfl
                    have HE := Lib.hid (fun W => rname_any vn hs.vn W)
                    rw [show P.thE ⟨6, ⟨⟨#[]⟩, ⟨#[]⟩, false⟩, ⟨⟨#[]⟩, ⟨#[]⟩⟩, ⟨vn, ⟨#[]⟩, false, true⟩⟩ = if P.nameS vn then 0 else 5 from rfl] at hr
                    rw [hr]
                    clear hr hs
                    generalize P.nameS vn = p at *
                    have HB0 := Lib.hid (below2 w (.cells #[.int .i64 6, .string ⟨#[]⟩, .string ⟨#[]⟩, .bool false, .string ⟨#[]⟩, .string ⟨#[]⟩, .string vn, .string ⟨#[]⟩, .bool false, .bool true] 73) (.cells #[.int .i64 0, .string ⟨#[]⟩, .string ⟨#[]⟩, .bool false, .string ⟨#[]⟩, .string ⟨#[]⟩, .string vn, .string ⟨#[]⟩, .bool false, .bool true] 73))
                    have HR0 := Lib.hid (HasRow.new (w.alloc (.cells #[.int .i64 6, .string ⟨#[]⟩, .string ⟨#[]⟩, .bool false, .string ⟨#[]⟩, .string ⟨#[]⟩, .string vn, .string ⟨#[]⟩, .bool false, .bool true] 73)) #[.int .i64 0, .string ⟨#[]⟩, .string ⟨#[]⟩, .bool false, .string ⟨#[]⟩, .string ⟨#[]⟩, .string vn, .string ⟨#[]⟩, .bool false, .bool true] 73)
                    rw [World.size_alloc] at HR0
                    have HX0 := Lib.hid ((HasRow.new w #[.int .i64 6, .string ⟨#[]⟩, .string ⟨#[]⟩, .bool false, .string ⟨#[]⟩, .string ⟨#[]⟩, .string vn, .string ⟨#[]⟩, .bool false, .bool true] 73).alloc (.cells #[.int .i64 0, .string ⟨#[]⟩, .string ⟨#[]⟩, .bool false, .string ⟨#[]⟩, .string ⟨#[]⟩, .string vn, .string ⟨#[]⟩, .bool false, .bool true] 73))
                    clear hw
                    cases p
                    all_goals
                      go_enter Tryz.func44, Tryz.ntmps44
                      go_wp2_with (first
                        | (go_at_call 39; refine (HE.out _).mono ?_; rintro e w2 ⟨rfl, h2⟩; have hb2 := below_of_eq h2; have HB2 := Lib.hid (bstep HB0.out hb2); have HR2 := Lib.hid (HR0.out.below hb2); obtain ⟨d0, d1, d2, d3, d4, d5, d6, d7, d8, d9⟩ := hrow10 HR2.out; have f6 := HR2.out.free 6; have HR3 : Hid (HasRow _ (w.heap.size + 1) #[.int .i64 0, .string ⟨#[]⟩, .string ⟨#[]⟩, .bool false, .string ⟨#[]⟩, .string ⟨#[]⟩, .string ⟨#[]⟩, .string ⟨#[]⟩, .bool false, .bool true]) := Lib.hid (HR2.out.set 6 (.string ⟨#[]⟩) (by simp)); have HB3 := Lib.hid (HB2.out.setCell (p := ⟨w.heap.size + 1, 6, none⟩) (Nat.le_succ _) (.string ⟨#[]⟩)); obtain ⟨g0, g1, g2, g3, g4, g5, g6, g7, g8, g9⟩ := hrow10 HR3.out)
                        | (go_at_call 87; refine (HN.out _ _ _).mono ?_; rintro e w3 ⟨rfl, rfl⟩)
                        | (go_at_call 88; refine (HO.out _ _ _ _ (by simp)).mono ?_; rintro e w4 ⟨rfl, rfl⟩))
                      go_ret
                      exact ⟨rfl, by first | exact bstep HB3.out (below_alloc _ _) | exact HB3.out⟩
                · have hr : P.chE ⟨6, ⟨⟨#[]⟩, ⟨#[]⟩, false⟩, ⟨⟨#[]⟩, ⟨#[]⟩⟩, ⟨vn, ⟨#[]⟩, true, vo⟩⟩ = P.orE (P.thE ⟨6, ⟨⟨#[]⟩, ⟨#[]⟩, false⟩, ⟨⟨#[]⟩, ⟨#[]⟩⟩, ⟨vn, ⟨#[]⟩, true, vo⟩⟩) 2 := by unfold P.chE; rw [show P.eqC ⟨6, ⟨⟨#[]⟩, ⟨#[]⟩, false⟩, ⟨⟨#[]⟩, ⟨#[]⟩⟩, ⟨vn, ⟨#[]⟩, true, vo⟩⟩ (P.needed ⟨6, ⟨⟨#[]⟩, ⟨#[]⟩, false⟩, ⟨⟨#[]⟩, ⟨#[]⟩⟩, ⟨vn, ⟨#[]⟩, true, vo⟩⟩) = false from by simp [P.eqC, P.needed, P.fi0, P.st0]]; rfl
                  have HE := Lib.hid (fun W => rname_any vn hs.vn W)
                  rw [show P.thE ⟨6, ⟨⟨#[]⟩, ⟨#[]⟩, false⟩, ⟨⟨#[]⟩, ⟨#[]⟩⟩, ⟨vn, ⟨#[]⟩, true, vo⟩⟩ = if P.nameS vn then 0 else 5 from rfl] at hr
                  rw [hr]
                  clear hr hs
                  generalize P.nameS vn = p at *
                  have HB0 := Lib.hid (below2 w (.cells #[.int .i64 6, .string ⟨#[]⟩, .string ⟨#[]⟩, .bool false, .string ⟨#[]⟩, .string ⟨#[]⟩, .string vn, .string ⟨#[]⟩, .bool true, .bool vo] 73) (.cells #[.int .i64 0, .string ⟨#[]⟩, .string ⟨#[]⟩, .bool false, .string ⟨#[]⟩, .string ⟨#[]⟩, .string vn, .string ⟨#[]⟩, .bool true, .bool vo] 73))
                  have HR0 := Lib.hid (HasRow.new (w.alloc (.cells #[.int .i64 6, .string ⟨#[]⟩, .string ⟨#[]⟩, .bool false, .string ⟨#[]⟩, .string ⟨#[]⟩, .string vn, .string ⟨#[]⟩, .bool true, .bool vo] 73)) #[.int .i64 0, .string ⟨#[]⟩, .string ⟨#[]⟩, .bool false, .string ⟨#[]⟩, .string ⟨#[]⟩, .string vn, .string ⟨#[]⟩, .bool true, .bool vo] 73)
                  rw [World.size_alloc] at HR0
                  have HX0 := Lib.hid ((HasRow.new w #[.int .i64 6, .string ⟨#[]⟩, .string ⟨#[]⟩, .bool false, .string ⟨#[]⟩, .string ⟨#[]⟩, .string vn, .string ⟨#[]⟩, .bool true, .bool vo] 73).alloc (.cells #[.int .i64 0, .string ⟨#[]⟩, .string ⟨#[]⟩, .bool false, .string ⟨#[]⟩, .string ⟨#[]⟩, .string vn, .string ⟨#[]⟩, .bool true, .bool vo] 73))
                  clear hw
                  cases p
                  all_goals
                    go_enter Tryz.func44, Tryz.ntmps44
                    go_wp2_with (first
                      | (go_at_call 39; refine (HE.out _).mono ?_; rintro e w2 ⟨rfl, h2⟩; have hb2 := below_of_eq h2; have HB2 := Lib.hid (bstep HB0.out hb2); have HR2 := Lib.hid (HR0.out.below hb2); obtain ⟨d0, d1, d2, d3, d4, d5, d6, d7, d8, d9⟩ := hrow10 HR2.out; have f6 := HR2.out.free 6; have HR3 : Hid (HasRow _ (w.heap.size + 1) #[.int .i64 0, .string ⟨#[]⟩, .string ⟨#[]⟩, .bool false, .string ⟨#[]⟩, .string ⟨#[]⟩, .string ⟨#[]⟩, .string ⟨#[]⟩, .bool true, .bool vo]) := Lib.hid (HR2.out.set 6 (.string ⟨#[]⟩) (by simp)); have HB3 := Lib.hid (HB2.out.setCell (p := ⟨w.heap.size + 1, 6, none⟩) (Nat.le_succ _) (.string ⟨#[]⟩)); obtain ⟨g0, g1, g2, g3, g4, g5, g6, g7, g8, g9⟩ := hrow10 HR3.out)
                      | (go_at_call 87; refine (HN.out _ _ _).mono ?_; rintro e w3 ⟨rfl, rfl⟩)
                      | (go_at_call 88; refine (HO.out _ _ _ _ (by simp)).mono ?_; rintro e w4 ⟨rfl, rfl⟩))
                    go_ret
                    exact ⟨rfl, by first | exact bstep HB3.out (below_alloc _ _) | exact HB3.out⟩
              · have hr : P.chE ⟨6, ⟨⟨#[]⟩, ⟨#[]⟩, false⟩, ⟨⟨#[]⟩, ⟨#[]⟩⟩, ⟨vn, vp, va, vo⟩⟩ = P.orE (P.thE ⟨6, ⟨⟨#[]⟩, ⟨#[]⟩, false⟩, ⟨⟨#[]⟩, ⟨#[]⟩⟩, ⟨vn, vp, va, vo⟩⟩) 2 := by unfold P.chE; rw [show P.eqC ⟨6, ⟨⟨#[]⟩, ⟨#[]⟩, false⟩, ⟨⟨#[]⟩, ⟨#[]⟩⟩, ⟨vn, vp, va, vo⟩⟩ (P.needed ⟨6, ⟨⟨#[]⟩, ⟨#[]⟩, false⟩, ⟨⟨#[]⟩, ⟨#[]⟩⟩, ⟨vn, vp, va, vo⟩⟩) = false from by simp [P.eqC, P.needed, P.fi0, P.st0, hd]]; rfl
                have HE := Lib.hid (fun W => rname_any vn hs.vn W)
                rw [show P.thE ⟨6, ⟨⟨#[]⟩, ⟨#[]⟩, false⟩, ⟨⟨#[]⟩, ⟨#[]⟩⟩, ⟨vn, vp, va, vo⟩⟩ = if P.nameS vn then 0 else 5 from rfl] at hr
                rw [hr]
                clear hr hs
                generalize P.nameS vn = p at *
                have HB0 := Lib.hid (below2 w (.cells #[.int .i64 6, .string ⟨#[]⟩, .string ⟨#[]⟩, .bool false, .string ⟨#[]⟩, .string ⟨#[]⟩, .string vn, .string vp, .bool va, .bool vo] 73) (.cells #[.int .i64 0, .string ⟨#[]⟩, .string ⟨#[]⟩, .bool false, .string ⟨#[]⟩, .string ⟨#[]⟩, .string vn, .string vp, .bool va, .bool vo] 73))
                have HR0 := Lib.hid (HasRow.new (w.alloc (.cells #[.int .i64 6, .string ⟨#[]⟩, .string ⟨#[]⟩, .bool false, .string ⟨#[]⟩, .string ⟨#[]⟩, .string vn, .string vp, .bool va, .bool vo] 73)) #[.int .i64 0, .string ⟨#[]⟩, .string ⟨#[]⟩, .bool false, .string ⟨#[]⟩, .string ⟨#[]⟩, .string vn, .string vp, .bool va, .bool vo] 73)
                rw [World.size_alloc] at HR0
                have HX0 := Lib.hid ((HasRow.new w #[.int .i64 6, .string ⟨#[]⟩, .string ⟨#[]⟩, .bool false, .string ⟨#[]⟩, .string ⟨#[]⟩, .string vn, .string vp, .bool va, .bool vo] 73).alloc (.cells #[.int .i64 0, .string ⟨#[]⟩, .string ⟨#[]⟩, .bool false, .string ⟨#[]⟩, .string ⟨#[]⟩, .string vn, .string vp, .bool va, .bool vo] 73))
                clear hw
                cases p
                all_goals
                  go_enter Tryz.func44, Tryz.ntmps44
                  go_wp2_with (first
                    | (go_at_call 39; refine (HE.out _).mono ?_; rintro e w2 ⟨rfl, h2⟩; have hb2 := below_of_eq h2; have HB2 := Lib.hid (bstep HB0.out hb2); have HR2 := Lib.hid (HR0.out.below hb2); obtain ⟨d0, d1, d2, d3, d4, d5, d6, d7, d8, d9⟩ := hrow10 HR2.out; have f6 := HR2.out.free 6; have HR3 : Hid (HasRow _ (w.heap.size + 1) #[.int .i64 0, .string ⟨#[]⟩, .string ⟨#[]⟩, .bool false, .string ⟨#[]⟩, .string ⟨#[]⟩, .string ⟨#[]⟩, .string vp, .bool va, .bool vo]) := Lib.hid (HR2.out.set 6 (.string ⟨#[]⟩) (by simp)); have HB3 := Lib.hid (HB2.out.setCell (p := ⟨w.heap.size + 1, 6, none⟩) (Nat.le_succ _) (.string ⟨#[]⟩)); obtain ⟨g0, g1, g2, g3, g4, g5, g6, g7, g8, g9⟩ := hrow10 HR3.out)
                    | (go_at_call 87; refine (HN.out _ _ _).mono ?_; rintro e w3 ⟨rfl, rfl⟩)
                    | (go_at_call 88; refine (HO.out _ _ _ _ (by simp)).mono ?_; rintro e w4 ⟨rfl, rfl⟩))
                  go_ret
                  exact ⟨rfl, by first | exact bstep HB3.out (below_alloc _ _) | exact HB3.out⟩
            · have hr : P.chE ⟨6, ⟨⟨#[]⟩, ⟨#[]⟩, false⟩, ⟨⟨#[]⟩, sv⟩, ⟨vn, vp, va, vo⟩⟩ = P.orE (P.thE ⟨6, ⟨⟨#[]⟩, ⟨#[]⟩, false⟩, ⟨⟨#[]⟩, sv⟩, ⟨vn, vp, va, vo⟩⟩) 2 := by unfold P.chE; rw [show P.eqC ⟨6, ⟨⟨#[]⟩, ⟨#[]⟩, false⟩, ⟨⟨#[]⟩, sv⟩, ⟨vn, vp, va, vo⟩⟩ (P.needed ⟨6, ⟨⟨#[]⟩, ⟨#[]⟩, false⟩, ⟨⟨#[]⟩, sv⟩, ⟨vn, vp, va, vo⟩⟩) = false from by simp [P.eqC, P.needed, P.fi0, P.st0, hd]]; rfl
              have HE := Lib.hid (fun W => rname_any vn hs.vn W)
              rw [show P.thE ⟨6, ⟨⟨#[]⟩, ⟨#[]⟩, false⟩, ⟨⟨#[]⟩, sv⟩, ⟨vn, vp, va, vo⟩⟩ = if P.nameS vn then 0 else 5 from rfl] at hr
              rw [hr]
              clear hr hs
              generalize P.nameS vn = p at *
              have HB0 := Lib.hid (below2 w (.cells #[.int .i64 6, .string ⟨#[]⟩, .string ⟨#[]⟩, .bool false, .string ⟨#[]⟩, .string sv, .string vn, .string vp, .bool va, .bool vo] 73) (.cells #[.int .i64 0, .string ⟨#[]⟩, .string ⟨#[]⟩, .bool false, .string ⟨#[]⟩, .string sv, .string vn, .string vp, .bool va, .bool vo] 73))
              have HR0 := Lib.hid (HasRow.new (w.alloc (.cells #[.int .i64 6, .string ⟨#[]⟩, .string ⟨#[]⟩, .bool false, .string ⟨#[]⟩, .string sv, .string vn, .string vp, .bool va, .bool vo] 73)) #[.int .i64 0, .string ⟨#[]⟩, .string ⟨#[]⟩, .bool false, .string ⟨#[]⟩, .string sv, .string vn, .string vp, .bool va, .bool vo] 73)
              rw [World.size_alloc] at HR0
              have HX0 := Lib.hid ((HasRow.new w #[.int .i64 6, .string ⟨#[]⟩, .string ⟨#[]⟩, .bool false, .string ⟨#[]⟩, .string sv, .string vn, .string vp, .bool va, .bool vo] 73).alloc (.cells #[.int .i64 0, .string ⟨#[]⟩, .string ⟨#[]⟩, .bool false, .string ⟨#[]⟩, .string sv, .string vn, .string vp, .bool va, .bool vo] 73))
              clear hw
              cases p
              all_goals
                go_enter Tryz.func44, Tryz.ntmps44
                go_wp2_with (first
                  | (go_at_call 39; refine (HE.out _).mono ?_; rintro e w2 ⟨rfl, h2⟩; have hb2 := below_of_eq h2; have HB2 := Lib.hid (bstep HB0.out hb2); have HR2 := Lib.hid (HR0.out.below hb2); obtain ⟨d0, d1, d2, d3, d4, d5, d6, d7, d8, d9⟩ := hrow10 HR2.out; have f6 := HR2.out.free 6; have HR3 : Hid (HasRow _ (w.heap.size + 1) #[.int .i64 0, .string ⟨#[]⟩, .string ⟨#[]⟩, .bool false, .string ⟨#[]⟩, .string sv, .string ⟨#[]⟩, .string vp, .bool va, .bool vo]) := Lib.hid (HR2.out.set 6 (.string ⟨#[]⟩) (by simp)); have HB3 := Lib.hid (HB2.out.setCell (p := ⟨w.heap.size + 1, 6, none⟩) (Nat.le_succ _) (.string ⟨#[]⟩)); obtain ⟨g0, g1, g2, g3, g4, g5, g6, g7, g8, g9⟩ := hrow10 HR3.out)
                  | (go_at_call 87; refine (HN.out _ _ _).mono ?_; rintro e w3 ⟨rfl, rfl⟩)
                  | (go_at_call 88; refine (HO.out _ _ _ _ (by simp)).mono ?_; rintro e w4 ⟨rfl, rfl⟩))
                go_ret
                exact ⟨rfl, by first | exact bstep HB3.out (below_alloc _ _) | exact HB3.out⟩
          · have hr : P.chE ⟨6, ⟨⟨#[]⟩, ⟨#[]⟩, false⟩, ⟨sk, sv⟩, ⟨vn, vp, va, vo⟩⟩ = P.orE (P.thE ⟨6, ⟨⟨#[]⟩, ⟨#[]⟩, false⟩, ⟨sk, sv⟩, ⟨vn, vp, va, vo⟩⟩) 2 := by unfold P.chE; rw [show P.eqC ⟨6, ⟨⟨#[]⟩, ⟨#[]⟩, false⟩, ⟨sk, sv⟩, ⟨vn, vp, va, vo⟩⟩ (P.needed ⟨6, ⟨⟨#[]⟩, ⟨#[]⟩, false⟩, ⟨sk, sv⟩, ⟨vn, vp, va, vo⟩⟩) = false from by simp [P.eqC, P.needed, P.fi0, P.st0, hd]]; rfl
            have HE := Lib.hid (fun W => rname_any vn hs.vn W)
            rw [show P.thE ⟨6, ⟨⟨#[]⟩, ⟨#[]⟩, false⟩, ⟨sk, sv⟩, ⟨vn, vp, va, vo⟩⟩ = if P.nameS vn then 0 else 5 from rfl] at hr
            rw [hr]
            clear hr hs
            generalize P.nameS vn = p at *
            have HB0 := Lib.hid (below2 w (.cells #[.int .i64 6, .string ⟨#[]⟩, .string ⟨#[]⟩, .bool false, .string sk, .string sv, .string vn, .string vp, .bool va, .bool vo] 73) (.cells #[.int .i64 0, .string ⟨#[]⟩, .string ⟨#[]⟩, .bool false, .string sk, .string sv, .string vn, .string vp, .bool va, .bool vo] 73))
            have HR0 := Lib.hid (HasRow.new (w.alloc (.cells #[.int .i64 6, .string ⟨#[]⟩, .string ⟨#[]⟩, .bool false, .string sk, .string sv, .string vn, .string vp, .bool va, .bool vo] 73)) #[.int .i64 0, .string ⟨#[]⟩, .string ⟨#[]⟩, .bool false, .string sk, .string sv, .string vn, .string vp, .bool va, .bool vo] 73)
            rw [World.size_alloc] at HR0
            have HX0 := Lib.hid ((HasRow.new w #[.int .i64 6, .string ⟨#[]⟩, .string ⟨#[]⟩, .bool false, .string sk, .string sv, .string vn, .string vp, .bool va, .bool vo] 73).alloc (.cells #[.int .i64 0, .string ⟨#[]⟩, .string ⟨#[]⟩, .bool false, .string sk, .string sv, .string vn, .string vp, .bool va, .bool vo] 73))
            clear hw
            cases p
            all_goals
              go_enter Tryz.func44, Tryz.ntmps44
              go_wp2_with (first
                | (go_at_call 39; refine (HE.out _).mono ?_; rintro e w2 ⟨rfl, h2⟩; have hb2 := below_of_eq h2; have HB2 := Lib.hid (bstep HB0.out hb2); have HR2 := Lib.hid (HR0.out.below hb2); obtain ⟨d0, d1, d2, d3, d4, d5, d6, d7, d8, d9⟩ := hrow10 HR2.out; have f6 := HR2.out.free 6; have HR3 : Hid (HasRow _ (w.heap.size + 1) #[.int .i64 0, .string ⟨#[]⟩, .string ⟨#[]⟩, .bool false, .string sk, .string sv, .string ⟨#[]⟩, .string vp, .bool va, .bool vo]) := Lib.hid (HR2.out.set 6 (.string ⟨#[]⟩) (by simp)); have HB3 := Lib.hid (HB2.out.setCell (p := ⟨w.heap.size + 1, 6, none⟩) (Nat.le_succ _) (.string ⟨#[]⟩)); obtain ⟨g0, g1, g2, g3, g4, g5, g6, g7, g8, g9⟩ := hrow10 HR3.out)
                | (go_at_call 87; refine (HN.out _ _ _).mono ?_; rintro e w3 ⟨rfl, rfl⟩)
                | (go_at_call 88; refine (HO.out _ _ _ _ (by simp)).mono ?_; rintro e w4 ⟨rfl, rfl⟩))
              go_ret
              exact ⟨rfl, by first | exact bstep HB3.out (below_alloc _ _) | exact HB3.out⟩
        · have hr : P.chE ⟨6, ⟨⟨#[]⟩, ⟨#[]⟩, true⟩, ⟨sk, sv⟩, ⟨vn, vp, va, vo⟩⟩ = P.orE (P.thE ⟨6, ⟨⟨#[]⟩, ⟨#[]⟩, true⟩, ⟨sk, sv⟩, ⟨vn, vp, va, vo⟩⟩) 2 := by unfold P.chE; rw [show P.eqC ⟨6, ⟨⟨#[]⟩, ⟨#[]⟩, true⟩, ⟨sk, sv⟩, ⟨vn, vp, va, vo⟩⟩ (P.needed ⟨6, ⟨⟨#[]⟩, ⟨#[]⟩, true⟩, ⟨sk, sv⟩, ⟨vn, vp, va, vo⟩⟩) = false from by simp [P.eqC, P.needed, P.fi0, P.st0]]; rfl
          have HE := Lib.hid (fun W => rname_any vn hs.vn W)
          rw [show P.thE ⟨6, ⟨⟨#[]⟩, ⟨#[]⟩, true⟩, ⟨sk, sv⟩, ⟨vn, vp, va, vo⟩⟩ = if P.nameS vn then 0 else 5 from rfl] at hr
          rw [hr]
          clear hr hs
          generalize P.nameS vn = p at *
          have HB0 := Lib.hid (below2 w (.cells #[.int .i64 6, .string ⟨#[]⟩, .string ⟨#[]⟩, .bool true, .string sk, .string sv, .string vn, .string vp, .bool va, .bool vo] 73) (.cells #[.int .i64 0, .string ⟨#[]⟩, .string ⟨#[]⟩, .bool true, .string sk, .string sv, .string vn, .string vp, .bool va, .bool vo] 73))
          have HR0 := Lib.hid (HasRow.new (w.alloc (.cells #[.int .i64 6, .string ⟨#[]⟩, .string ⟨#[]⟩, .bool true, .string sk, .string sv, .string vn, .string vp, .bool va, .bool vo] 73)) #[.int .i64 0, .string ⟨#[]⟩, .string ⟨#[]⟩, .bool true, .string sk, .string sv, .string vn, .string vp, .bool va, .bool vo] 73)
          rw [World.size_alloc] at HR0
          have HX0 := Lib.hid ((HasRow.new w #[.int .i64 6, .string ⟨#[]⟩, .string ⟨#[]⟩, .bool true, .string sk, .string sv, .string vn, .string vp, .bool va, .bool vo] 73).alloc (.cells #[.int .i64 0, .string ⟨#[]⟩, .string ⟨#[]⟩, .bool true, .string sk, .string sv, .string vn, .string vp, .bool va, .bool vo] 73))
          clear hw
          cases p
          all_goals
            go_enter Tryz.func44, Tryz.ntmps44
            go_wp2_with (first
              | (go_at_call 39; refine (HE.out _).mono ?_; rintro e w2 ⟨rfl, h2⟩; have hb2 := below_of_eq h2; have HB2 := Lib.hid (bstep HB0.out hb2); have HR2 := Lib.hid (HR0.out.below hb2); obtain ⟨d0, d1, d2, d3, d4, d5, d6, d7, d8, d9⟩ := hrow10 HR2.out; have f6 := HR2.out.free 6; have HR3 : Hid (HasRow _ (w.heap.size + 1) #[.int .i64 0, .string ⟨#[]⟩, .string ⟨#[]⟩, .bool true, .string sk, .string sv, .string ⟨#[]⟩, .string vp, .bool va, .bool vo]) := Lib.hid (HR2.out.set 6 (.string ⟨#[]⟩) (by simp)); have HB3 := Lib.hid (HB2.out.setCell (p := ⟨w.heap.size + 1, 6, none⟩) (Nat.le_succ _) (.string ⟨#[]⟩)); obtain ⟨g0, g1, g2, g3, g4, g5, g6, g7, g8, g9⟩ := hrow10 HR3.out)
              | (go_at_call 87; refine (HN.out _ _ _).mono ?_; rintro e w3 ⟨rfl, rfl⟩)
              | (go_at_call 88; refine (HO.out _ _ _ _ (by simp)).mono ?_; rintro e w4 ⟨rfl, rfl⟩))
            go_ret
            exact ⟨rfl, by first | exact bstep HB3.out (below_alloc _ _) | exact HB3.out⟩
      · have hr : P.chE ⟨6, ⟨⟨#[]⟩, fd, fr⟩, ⟨sk, sv⟩, ⟨vn, vp, va, vo⟩⟩ = P.orE (P.thE ⟨6, ⟨⟨#[]⟩, fd, fr⟩, ⟨sk, sv⟩, ⟨vn, vp, va, vo⟩⟩) 2 := by unfold P.chE; rw [show P.eqC ⟨6, ⟨⟨#[]⟩, fd, fr⟩, ⟨sk, sv⟩, ⟨vn, vp, va, vo⟩⟩ (P.needed ⟨6, ⟨⟨#[]⟩, fd, fr⟩, ⟨sk, sv⟩, ⟨vn, vp, va, vo⟩⟩) = false from by simp [P.eqC, P.needed, P.fi0, P.st0, hd]]; rfl
        have HE := Lib.hid (fun W => rname_any vn hs.vn W)
        rw [show P.thE ⟨6, ⟨⟨#[]⟩, fd, fr⟩, ⟨sk, sv⟩, ⟨vn, vp, va, vo⟩⟩ = if P.nameS vn then 0 else 5 from rfl] at hr
        rw [hr]
        clear hr hs
        generalize P.nameS vn = p at *
        have HB0 := Lib.hid (below2 w (.cells #[.int .i64 6, .string ⟨#[]⟩, .string fd, .bool fr, .string sk, .string sv, .string vn, .string vp, .bool va, .bool vo] 73) (.cells #[.int .i64 0, .string ⟨#[]⟩, .string fd, .bool fr, .string sk, .string sv, .string vn, .string vp, .bool va, .bool vo] 73))
        have HR0 := Lib.hid (HasRow.new (w.alloc (.cells #[.int .i64 6, .string ⟨#[]⟩, .string fd, .bool fr, .string sk, .string sv, .string vn, .string vp, .bool va, .bool vo] 73)) #[.int .i64 0, .string ⟨#[]⟩, .string fd, .bool fr, .string sk, .string sv, .string vn, .string vp, .bool va, .bool vo] 73)
        rw [World.size_alloc] at HR0
        have HX0 := Lib.hid ((HasRow.new w #[.int .i64 6, .string ⟨#[]⟩, .string fd, .bool fr, .string sk, .string sv, .string vn, .string vp, .bool va, .bool vo] 73).alloc (.cells #[.int .i64 0, .string ⟨#[]⟩, .string fd, .bool fr, .string sk, .string sv, .string vn, .string vp, .bool va, .bool vo] 73))
        clear hw
        cases p
        all_goals
          go_enter Tryz.func44, Tryz.ntmps44
          go_wp2_with (first
            | (go_at_call 39; refine (HE.out _).mono ?_; rintro e w2 ⟨rfl, h2⟩; have hb2 := below_of_eq h2; have HB2 := Lib.hid (bstep HB0.out hb2); have HR2 := Lib.hid (HR0.out.below hb2); obtain ⟨d0, d1, d2, d3, d4, d5, d6, d7, d8, d9⟩ := hrow10 HR2.out; have f6 := HR2.out.free 6; have HR3 : Hid (HasRow _ (w.heap.size + 1) #[.int .i64 0, .string ⟨#[]⟩, .string fd, .bool fr, .string sk, .string sv, .string ⟨#[]⟩, .string vp, .bool va, .bool vo]) := Lib.hid (HR2.out.set 6 (.string ⟨#[]⟩) (by simp)); have HB3 := Lib.hid (HB2.out.setCell (p := ⟨w.heap.size + 1, 6, none⟩) (Nat.le_succ _) (.string ⟨#[]⟩)); obtain ⟨g0, g1, g2, g3, g4, g5, g6, g7, g8, g9⟩ := hrow10 HR3.out)
            | (go_at_call 87; refine (HN.out _ _ _).mono ?_; rintro e w3 ⟨rfl, rfl⟩)
            | (go_at_call 88; refine (HO.out _ _ _ _ (by simp)).mono ?_; rintro e w4 ⟨rfl, rfl⟩))
          go_ret
          exact ⟨rfl, by first | exact bstep HB3.out (below_alloc _ _) | exact HB3.out⟩
    · have hr : P.chE ⟨6, ⟨fp, fd, fr⟩, ⟨sk, sv⟩, ⟨vn, vp, va, vo⟩⟩ = P.orE (P.thE ⟨6, ⟨fp, fd, fr⟩, ⟨sk, sv⟩, ⟨vn, vp, va, vo⟩⟩) 2 := by unfold P.chE; rw [show P.eqC ⟨6, ⟨fp, fd, fr⟩, ⟨sk, sv⟩, ⟨vn, vp, va, vo⟩⟩ (P.needed ⟨6, ⟨fp, fd, fr⟩, ⟨sk, sv⟩, ⟨vn, vp, va, vo⟩⟩) = false from by simp [P.eqC, P.needed, P.fi0, P.st0, hd]]; rfl
      have HE := Lib.hid (fun W => rname_any vn hs.vn W)
      rw [show P.thE ⟨6, ⟨fp, fd, fr⟩, ⟨sk, sv⟩, ⟨vn, vp, va, vo⟩⟩ = if P.nameS vn then 0 else 5 from rfl] at hr
      rw [hr]
      clear hr hs
      generalize P.nameS vn = p at *
      have HB0 := Lib.hid (below2 w (.cells #[.int .i64 6, .string fp, .string fd, .bool fr, .string sk, .string sv, .string vn, .string vp, .bool va, .bool vo] 73) (.cells #[.int .i64 0, .string fp, .string fd, .bool fr, .string sk, .string sv, .string vn, .string vp, .bool va, .bool vo] 73))
      have HR0 := Lib.hid (HasRow.new (w.alloc (.cells #[.int .i64 6, .string fp, .string fd, .bool fr, .string sk, .string sv, .string vn, .string vp, .bool va, .bool vo] 73)) #[.int .i64 0, .string fp, .string fd, .bool fr, .string sk, .string sv, .string vn, .string vp, .bool va, .bool vo] 73)
      rw [World.size_alloc] at HR0
      have HX0 := Lib.hid ((HasRow.new w #[.int .i64 6, .string fp, .string fd, .bool fr, .string sk, .string sv, .string vn, .string vp, .bool va, .bool vo] 73).alloc (.cells #[.int .i64 0, .string fp, .string fd, .bool fr, .string sk, .string sv, .string vn, .string vp, .bool va, .bool vo] 73))
      clear hw
      cases p
      all_goals
        go_enter Tryz.func44, Tryz.ntmps44
        go_wp2_with (first
          | (go_at_call 39; refine (HE.out _).mono ?_; rintro e w2 ⟨rfl, h2⟩; have hb2 := below_of_eq h2; have HB2 := Lib.hid (bstep HB0.out hb2); have HR2 := Lib.hid (HR0.out.below hb2); obtain ⟨d0, d1, d2, d3, d4, d5, d6, d7, d8, d9⟩ := hrow10 HR2.out; have f6 := HR2.out.free 6; have HR3 : Hid (HasRow _ (w.heap.size + 1) #[.int .i64 0, .string fp, .string fd, .bool fr, .string sk, .string sv, .string ⟨#[]⟩, .string vp, .bool va, .bool vo]) := Lib.hid (HR2.out.set 6 (.string ⟨#[]⟩) (by simp)); have HB3 := Lib.hid (HB2.out.setCell (p := ⟨w.heap.size + 1, 6, none⟩) (Nat.le_succ _) (.string ⟨#[]⟩)); obtain ⟨g0, g1, g2, g3, g4, g5, g6, g7, g8, g9⟩ := hrow10 HR3.out)
          | (go_at_call 87; refine (HN.out _ _ _).mono ?_; rintro e w3 ⟨rfl, rfl⟩)
          | (go_at_call 88; refine (HO.out _ _ _ _ (by simp)).mono ?_; rintro e w4 ⟨rfl, rfl⟩))
        go_ret
        exact ⟨rfl, by first | exact bstep HB3.out (below_alloc _ _) | exact HB3.out⟩
end Go.Proofs.YtomikcemiacjmaaGreatDoor
