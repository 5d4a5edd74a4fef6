/- Walks: package disk: the closures that compare a thing with the one of the other machine. -/
import Derived.Test.YtkibmoekadmjnaaGreatDoorZMMiss

namespace Go.Proofs.YtkibmoekadmjnaaGreatDoor
open Go.RowKit Go.Shelf

namespace P
def neSt (y x : St) : Bool := !(y.k.toList == x.k.toList && y.v.toList == x.v.toList)
theorem _root_.Go.Proofs.YtkibmoekadmjnaaGreatDoor.neSt_0 {y x : St} (h : ¬ y.k.toList = x.k.toList) : neSt y x = true := by unfold neSt; simp [h]
theorem _root_.Go.Proofs.YtkibmoekadmjnaaGreatDoor.neSt_1 {y x : St} (h0 : y.k.toList = x.k.toList) (h : ¬ y.v.toList = x.v.toList) : neSt y x = true := by unfold neSt; simp [h0, h]
theorem _root_.Go.Proofs.YtkibmoekadmjnaaGreatDoor.neSt_2 {y x : St} (h0 : y.k.toList = x.k.toList) (h1 : y.v.toList = x.v.toList) : neSt y x = false := by unfold neSt; simp [h0, h1]
def neFi (y x : Fi) : Bool := !(y.p.toList == x.p.toList && y.d.toList == x.d.toList && y.r == x.r)
theorem _root_.Go.Proofs.YtkibmoekadmjnaaGreatDoor.neFi_0 {y x : Fi} (h : ¬ y.p.toList = x.p.toList) : neFi y x = true := by unfold neFi; simp [h]
theorem _root_.Go.Proofs.YtkibmoekadmjnaaGreatDoor.neFi_1 {y x : Fi} (h0 : y.p.toList = x.p.toList) (h : ¬ y.d.toList = x.d.toList) : neFi y x = true := by unfold neFi; simp [h0, h]
theorem _root_.Go.Proofs.YtkibmoekadmjnaaGreatDoor.neFi_2 {y x : Fi} (h0 : y.p.toList = x.p.toList) (h1 : y.d.toList = x.d.toList) (h : ¬ y.r = x.r) : neFi y x = true := by unfold neFi; simp [h0, h1, h]
theorem _root_.Go.Proofs.YtkibmoekadmjnaaGreatDoor.neFi_3 {y x : Fi} (h0 : y.p.toList = x.p.toList) (h1 : y.d.toList = x.d.toList) (h2 : y.r = x.r) : neFi y x = false := by unfold neFi; simp [h0, h1, h2]
def neSv (y x : Sv) : Bool := !(y.n.toList == x.n.toList && y.p.toList == x.p.toList && y.a == x.a && y.o == x.o)
theorem _root_.Go.Proofs.YtkibmoekadmjnaaGreatDoor.neSv_0 {y x : Sv} (h : ¬ y.n.toList = x.n.toList) : neSv y x = true := by unfold neSv; simp [h]
theorem _root_.Go.Proofs.YtkibmoekadmjnaaGreatDoor.neSv_1 {y x : Sv} (h0 : y.n.toList = x.n.toList) (h : ¬ y.p.toList = x.p.toList) : neSv y x = true := by unfold neSv; simp [h0, h]
theorem _root_.Go.Proofs.YtkibmoekadmjnaaGreatDoor.neSv_2 {y x : Sv} (h0 : y.n.toList = x.n.toList) (h1 : y.p.toList = x.p.toList) (h : ¬ y.a = x.a) : neSv y x = true := by unfold neSv; simp [h0, h1, h]
theorem _root_.Go.Proofs.YtkibmoekadmjnaaGreatDoor.neSv_3 {y x : Sv} (h0 : y.n.toList = x.n.toList) (h1 : y.p.toList = x.p.toList) (h2 : y.a = x.a) (h : ¬ y.o = x.o) : neSv y x = true := by unfold neSv; simp [h0, h1, h2, h]
theorem _root_.Go.Proofs.YtkibmoekadmjnaaGreatDoor.neSv_4 {y x : Sv} (h0 : y.n.toList = x.n.toList) (h1 : y.p.toList = x.p.toList) (h2 : y.a = x.a) (h3 : y.o = x.o) : neSv y x = false := by unfold neSv; simp [h0, h1, h2, h3]
end P

set_option maxRecDepth 100000 in
set_option maxHeartbeats 8000000 in
theorem unlS_any (x : P.St) (hx : x.k.size ≤ 4294967280) (Bt Bk BM n : Nat) (g : ByteArray → Option P.St) (w : World) (hT : HasRow w Bt #[.map (some BM)]) (hK : HasRow w Bk #[.func (.func 88) #[] #[]]) (hM : MapS w BM n g) :
    Calls Tryz.prog 231 #[.agg #[.string x.k, .string x.v], .pointer (some ⟨Bt, 0, none⟩), .pointer (some ⟨Bk, 0, none⟩)] w fun e w' =>
      e = .returned (.bool (!(g x.k).isSome || P.neSt ((g x.k).getD ⟨⟨#[]⟩, ⟨#[]⟩⟩) x)) ∧ Below w.heap.size w w' := by
  have eK := enters_of Tryz.func88 (by kernel_rfl) rfl
  have hlt := hM.lt
  have hlt1 := hT.lt
  have hlt2 := hK.lt
  have HL : Hid (∀ W', Below w.heap.size w W' → (Instr.lookup 216 (.map (some BM)) (.string x.k) true).run Tryz.prog W' = .ok (.tuple #[.agg #[.string ((g x.k).getD ⟨⟨#[]⟩, ⟨#[]⟩⟩).k, .string ((g x.k).getD ⟨⟨#[]⟩, ⟨#[]⟩⟩).v], .bool (g x.k).isSome]) W') := Lib.hid fun W' hb =>
    (hM.below hb hlt).look Tryz.underlying9 Tryz.underlying216 (zeroT62 _) (by unfold maxLen; omega)
  generalize ((g x.k).getD ⟨⟨#[]⟩, ⟨#[]⟩⟩) = y at *
  generalize (g x.k).isSome = bb at *
  have HY := Lib.hid keyOf_below
  have d0 : w.cell? ⟨Bt, 0, none⟩ = some (.map (some BM)) := hT.cell 0
  have d1 : w.cell? ⟨Bk, 0, none⟩ = some (.func (.func 88) #[] #[]) := hK.cell 0
  have e1 : w.heap.size ≠ w.heap.size + 1 := by omega
  have e2 : Bt ≠ w.heap.size + 1 := by omega
  have e3 : Bk ≠ w.heap.size + 1 := by omega
  clear hM hT hK
  go_enter Tryz.func231, Tryz.ntmps231
  go_wp2_with fail
  go_region_held3 (fun W => W.cell? ⟨w.heap.size, 0, none⟩ = some (.string x.k) ∧ W.cell? ⟨w.heap.size, 1, none⟩ = some (.string x.v) ∧ W.cell? ⟨Bt, 0, none⟩ = some (.map (some BM)) ∧ W.cell? ⟨Bk, 0, none⟩ = some (.func (.func 88) #[] #[]))
    (first | with_reducible assumption | with_reducible exact q2_keep (by assumption) hb1 | with_reducible exact q2_keep hS5 (below_alloc _ _) | with_reducible exact q2_keep (by assumption) (below_alloc _ _) | with_reducible exact q2_set e1 e2 e3 (by assumption) | with_reducible exact q2_start _ _ _ _ _ _ _ _ d0 d1)
    (first | (go_at_call 88; refine (HY.out _ _ _).mono ?_; rintro e w5 ⟨rfl, hb1⟩; have hS5 := q2_keep (by with_reducible assumption) hb1; have hB5 : Below w.heap.size w w5 := (by first | exact first_below1 hb1 | exact first_below2 hb1); have hrun := HL.out w5 ((by first | exact first_below1 hb1 | exact first_below2 hb1)); have hrun2 := HL.out (w5.alloc (.cells #[.string ⟨#[]⟩, .string ⟨#[]⟩] 62)) (bstep ((by first | exact first_below1 hb1 | exact first_below2 hb1)) (below_alloc _ _)); have hz := hb1; first | (replace hz := (((HasRow.new (w.alloc (.cells #[.string x.k, .string x.v] 62)) #[.string ⟨#[]⟩, .string ⟨#[]⟩] 62).drew).below hz); rw [World.size_alloc] at hz; obtain ⟨z0, z1, zl⟩ := hrow2 hz; have y0 := hz.free 0; have y1 := hz.free 1) | skip))
  all_goals
    clear hrun hrun2 hb1 hS5
    have HB5 := Lib.hid hB5
    clear hB5
    cases bb
  all_goals go_wp2_with fail
  all_goals
    go_ret
    exact ⟨by first | rfl | exact congrArg (fun b => Ending.returned (Value.bool b)) (by first | exact (neSt_0 (by assumption)).symm | exact (neSt_1 (by assumption) (by assumption)).symm | exact (neSt_2 (by assumption) (by assumption)).symm), by first | exact bstep HB5.out (below_alloc _ _) | exact ((HB5.out.setCell (p := ⟨w.heap.size + 1, 0, none⟩) (Nat.le_succ _) _).setCell (p := ⟨w.heap.size + 1, 1, none⟩) (Nat.le_succ _) _)⟩

set_option maxRecDepth 100000 in
set_option maxHeartbeats 8000000 in
theorem unlF_any (x : P.Fi) (hx : x.p.size ≤ 4294967280) (Bt Bk BM n : Nat) (g : ByteArray → Option P.Fi) (w : World) (hT : HasRow w Bt #[.map (some BM)]) (hK : HasRow w Bk #[.func (.func 91) #[] #[]]) (hM : MapF w BM n g) :
    Calls Tryz.prog 230 #[.agg #[.string x.p, .string x.d, .bool x.r], .pointer (some ⟨Bt, 0, none⟩), .pointer (some ⟨Bk, 0, none⟩)] w fun e w' =>
      e = .returned (.bool (!(g x.p).isSome || P.neFi ((g x.p).getD ⟨⟨#[]⟩, ⟨#[]⟩, false⟩) x)) ∧ Below w.heap.size w w' := by
  have eK := enters_of Tryz.func91 (by kernel_rfl) rfl
  have hlt := hM.lt
  have hlt1 := hT.lt
  have hlt2 := hK.lt
  have HL : Hid (∀ W', Below w.heap.size w W' → (Instr.lookup 148 (.map (some BM)) (.string x.p) true).run Tryz.prog W' = .ok (.tuple #[.agg #[.string ((g x.p).getD ⟨⟨#[]⟩, ⟨#[]⟩, false⟩).p, .string ((g x.p).getD ⟨⟨#[]⟩, ⟨#[]⟩, false⟩).d, .bool ((g x.p).getD ⟨⟨#[]⟩, ⟨#[]⟩, false⟩).r], .bool (g x.p).isSome]) W') := Lib.hid fun W' hb =>
    (hM.below hb hlt).look Tryz.underlying9 Tryz.underlying148 (zeroT42 _) (by unfold maxLen; omega)
  generalize ((g x.p).getD ⟨⟨#[]⟩, ⟨#[]⟩, false⟩) = y at *
  generalize (g x.p).isSome = bb at *
  have HY := Lib.hid pathOf_any
  have d0 : w.cell? ⟨Bt, 0, none⟩ = some (.map (some BM)) := hT.cell 0
  have d1 : w.cell? ⟨Bk, 0, none⟩ = some (.func (.func 91) #[] #[]) := hK.cell 0
  have e1 : w.heap.size ≠ w.heap.size + 1 := by omega
  have e2 : Bt ≠ w.heap.size + 1 := by omega
  have e3 : Bk ≠ w.heap.size + 1 := by omega
  clear hM hT hK
  go_enter Tryz.func230, Tryz.ntmps230
  go_wp2_with fail
  go_region_held3 (fun W => W.cell? ⟨w.heap.size, 0, none⟩ = some (.string x.p) ∧ W.cell? ⟨w.heap.size, 1, none⟩ = some (.string x.d) ∧ W.cell? ⟨w.heap.size, 2, none⟩ = some (.bool x.r) ∧ W.cell? ⟨Bt, 0, none⟩ = some (.map (some BM)) ∧ W.cell? ⟨Bk, 0, none⟩ = some (.func (.func 91) #[] #[]))
    (first | with_reducible assumption | with_reducible exact q3_keep (by assumption) hb1 | with_reducible exact q3_keep hS5 (below_alloc _ _) | with_reducible exact q3_keep (by assumption) (below_alloc _ _) | with_reducible exact q3_set e1 e2 e3 (by assumption) | with_reducible exact q3_start _ _ _ _ _ _ _ _ _ d0 d1)
    (first | (go_at_call 91; refine (HY.out _ _ _ _).mono ?_; rintro e w5 ⟨rfl, hb1⟩; have hS5 := q3_keep (by with_reducible assumption) hb1; have hB5 : Below w.heap.size w w5 := (by first | exact first_below1 hb1 | exact first_below2 hb1); have hrun := HL.out w5 ((by first | exact first_below1 hb1 | exact first_below2 hb1)); have hrun2 := HL.out (w5.alloc (.cells #[.string ⟨#[]⟩, .string ⟨#[]⟩, .bool false] 42)) (bstep ((by first | exact first_below1 hb1 | exact first_below2 hb1)) (below_alloc _ _)); have hz := hb1; first | (replace hz := (((HasRow.new (w.alloc (.cells #[.string x.p, .string x.d, .bool x.r] 42)) #[.string ⟨#[]⟩, .string ⟨#[]⟩, .bool false] 42).drew).below hz); rw [World.size_alloc] at hz; obtain ⟨z0, z1, z2, zl⟩ := hrow3 hz; have y0 := hz.free 0; have y1 := hz.free 1; have y2 := hz.free 2) | skip))
  all_goals
    clear hrun hrun2 hb1 hS5
    have HB5 := Lib.hid hB5
    clear hB5
    cases bb
  all_goals go_wp2_with fail
  all_goals
    go_ret
    exact ⟨by first | rfl | exact congrArg (fun b => Ending.returned (Value.bool b)) (by first | exact (neFi_0 (by assumption)).symm | exact (neFi_1 (by assumption) (by assumption)).symm | exact (neFi_2 (by assumption) (by assumption) (by assumption)).symm | exact (neFi_3 (by assumption) (by assumption) (by assumption)).symm), by first | exact bstep HB5.out (below_alloc _ _) | exact (((HB5.out.setCell (p := ⟨w.heap.size + 1, 0, none⟩) (Nat.le_succ _) _).setCell (p := ⟨w.heap.size + 1, 1, none⟩) (Nat.le_succ _) _).setCell (p := ⟨w.heap.size + 1, 2, none⟩) (Nat.le_succ _) _)⟩

set_option maxRecDepth 100000 in
set_option maxHeartbeats 8000000 in
theorem unlV_any (x : P.Sv) (hx : x.n.size ≤ 4294967280) (Bt Bk BM n : Nat) (g : ByteArray → Option P.Sv) (w : World) (hT : HasRow w Bt #[.map (some BM)]) (hK : HasRow w Bk #[.func (.func 96) #[] #[]]) (hM : MapV w BM n g) :
    Calls Tryz.prog 232 #[.agg #[.string x.n, .string x.p, .bool x.a, .bool x.o], .pointer (some ⟨Bt, 0, none⟩), .pointer (some ⟨Bk, 0, none⟩)] w fun e w' =>
      e = .returned (.bool (!(g x.n).isSome || P.neSv ((g x.n).getD ⟨⟨#[]⟩, ⟨#[]⟩, false, false⟩) x)) ∧ Below w.heap.size w w' := by
  have eK := enters_of Tryz.func96 (by kernel_rfl) rfl
  have hlt := hM.lt
  have hlt1 := hT.lt
  have hlt2 := hK.lt
  have HL : Hid (∀ W', Below w.heap.size w W' → (Instr.lookup 150 (.map (some BM)) (.string x.n) true).run Tryz.prog W' = .ok (.tuple #[.agg #[.string ((g x.n).getD ⟨⟨#[]⟩, ⟨#[]⟩, false, false⟩).n, .string ((g x.n).getD ⟨⟨#[]⟩, ⟨#[]⟩, false, false⟩).p, .bool ((g x.n).getD ⟨⟨#[]⟩, ⟨#[]⟩, false, false⟩).a, .bool ((g x.n).getD ⟨⟨#[]⟩, ⟨#[]⟩, false, false⟩).o], .bool (g x.n).isSome]) W') := Lib.hid fun W' hb =>
    (hM.below hb hlt).look Tryz.underlying9 Tryz.underlying150 (zeroT46 _) (by unfold maxLen; omega)
  generalize ((g x.n).getD ⟨⟨#[]⟩, ⟨#[]⟩, false, false⟩) = y at *
  generalize (g x.n).isSome = bb at *
  have HY := Lib.hid nameOf_below
  have d0 : w.cell? ⟨Bt, 0, none⟩ = some (.map (some BM)) := hT.cell 0
  have d1 : w.cell? ⟨Bk, 0, none⟩ = some (.func (.func 96) #[] #[]) := hK.cell 0
  have e1 : w.heap.size ≠ w.heap.size + 1 := by omega
  have e2 : Bt ≠ w.heap.size + 1 := by omega
  have e3 : Bk ≠ w.heap.size + 1 := by omega
  clear hM hT hK
  go_enter Tryz.func232, Tryz.ntmps232
  go_wp2_with fail
  go_region_held3 (fun W => W.cell? ⟨w.heap.size, 0, none⟩ = some (.string x.n) ∧ W.cell? ⟨w.heap.size, 1, none⟩ = some (.string x.p) ∧ W.cell? ⟨w.heap.size, 2, none⟩ = some (.bool x.a) ∧ W.cell? ⟨w.heap.size, 3, none⟩ = some (.bool x.o) ∧ W.cell? ⟨Bt, 0, none⟩ = some (.map (some BM)) ∧ W.cell? ⟨Bk, 0, none⟩ = some (.func (.func 96) #[] #[]))
    (first | with_reducible assumption | with_reducible exact q4_keep (by assumption) hb1 | with_reducible exact q4_keep hS5 (below_alloc _ _) | with_reducible exact q4_keep (by assumption) (below_alloc _ _) | with_reducible exact q4_set e1 e2 e3 (by assumption) | with_reducible exact q4_start _ _ _ _ _ _ _ _ _ _ d0 d1)
    (first | (go_at_call 96; refine (HY.out _ _ _ _ _).mono ?_; rintro e w5 ⟨rfl, hb1⟩; have hS5 := q4_keep (by with_reducible assumption) hb1; have hB5 : Below w.heap.size w w5 := (by first | exact first_below1 hb1 | exact first_below2 hb1); have hrun := HL.out w5 ((by first | exact first_below1 hb1 | exact first_below2 hb1)); have hrun2 := HL.out (w5.alloc (.cells #[.string ⟨#[]⟩, .string ⟨#[]⟩, .bool false, .bool false] 46)) (bstep ((by first | exact first_below1 hb1 | exact first_below2 hb1)) (below_alloc _ _)); have hz := hb1; first | (replace hz := (((HasRow.new (w.alloc (.cells #[.string x.n, .string x.p, .bool x.a, .bool x.o] 46)) #[.string ⟨#[]⟩, .string ⟨#[]⟩, .bool false, .bool false] 46).drew).below hz); rw [World.size_alloc] at hz; obtain ⟨z0, z1, z2, z3, zl⟩ := hrow4 hz; have y0 := hz.free 0; have y1 := hz.free 1; have y2 := hz.free 2; have y3 := hz.free 3) | skip))
  all_goals
    clear hrun hrun2 hb1 hS5
    have HB5 := Lib.hid hB5
    clear hB5
    cases bb
  all_goals go_wp2_with fail
  all_goals
    go_ret
    exact ⟨by first | rfl | exact congrArg (fun b => Ending.returned (Value.bool b)) (by first | exact (neSv_0 (by assumption)).symm | exact (neSv_1 (by assumption) (by assumption)).symm | exact (neSv_2 (by assumption) (by assumption) (by assumption)).symm | exact (neSv_3 (by assumption) (by assumption) (by assumption) (by assumption)).symm | exact (neSv_4 (by assumption) (by assumption) (by assumption) (by assumption)).symm), by first | exact bstep HB5.out (below_alloc _ _) | exact ((((HB5.out.setCell (p := ⟨w.heap.size + 1, 0, none⟩) (Nat.le_succ _) _).setCell (p := ⟨w.heap.size + 1, 1, none⟩) (Nat.le_succ _) _).setCell (p := ⟨w.heap.size + 1, 2, none⟩) (Nat.le_succ _) _).setCell (p := ⟨w.heap.size + 1, 3, none⟩) (Nat.le_succ _) _)⟩
end Go.Proofs.YtkibmoekadmjnaaGreatDoor
