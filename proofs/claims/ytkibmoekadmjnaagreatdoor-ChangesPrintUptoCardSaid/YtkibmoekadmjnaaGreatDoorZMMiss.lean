/- Walks: package disk: the closures that look for a thing of one machine in the map of the other one. -/
import Derived.Test.YtkibmoekadmjnaaGreatDoorZMByKey

namespace Go.Proofs.YtkibmoekadmjnaaGreatDoor
open Go.RowKit Go.Shelf

theorem cell_set {W : World} {p : Addr} {v : Value} {k i : Nat} (u : Value) (h : W.cell? p = some v) (hne : p.block ≠ k) : (W.setCell ⟨k, i, none⟩ u).cell? p = some v := by
  rw [World.cell?_setCell_other (h := fun e => hne (by rw [← e]))]; exact h
theorem q2_start (w : World) (v0 v1 t k : Value) (ty : TypeId) (Bt Bk : Nat) (ht : w.cell? ⟨Bt, 0, none⟩ = some t) (hk : w.cell? ⟨Bk, 0, none⟩ = some k) : ((w.alloc (.cells #[v0, v1] ty)).drew).cell? ⟨w.heap.size, 0, none⟩ = some v0 ∧ ((w.alloc (.cells #[v0, v1] ty)).drew).cell? ⟨w.heap.size, 1, none⟩ = some v1 ∧ ((w.alloc (.cells #[v0, v1] ty)).drew).cell? ⟨Bt, 0, none⟩ = some t ∧ ((w.alloc (.cells #[v0, v1] ty)).drew).cell? ⟨Bk, 0, none⟩ = some k :=
  ⟨(HasRow.new w #[v0, v1] ty).cell 0, (HasRow.new w #[v0, v1] ty).cell 1, cell_keep (below_alloc _ _).drew ht, cell_keep (below_alloc _ _).drew hk⟩
theorem q2_keep {nb Bt Bk : Nat} {W W' : World} {v0 v1 t k : Value} (h : W.cell? ⟨nb, 0, none⟩ = some v0 ∧ W.cell? ⟨nb, 1, none⟩ = some v1 ∧ W.cell? ⟨Bt, 0, none⟩ = some t ∧ W.cell? ⟨Bk, 0, none⟩ = some k) (hb : Below W.heap.size W W') : W'.cell? ⟨nb, 0, none⟩ = some v0 ∧ W'.cell? ⟨nb, 1, none⟩ = some v1 ∧ W'.cell? ⟨Bt, 0, none⟩ = some t ∧ W'.cell? ⟨Bk, 0, none⟩ = some k := ⟨cell_keep hb h.1, cell_keep hb h.2.1, cell_keep hb h.2.2.1, cell_keep hb h.2.2.2⟩
theorem q2_set {nb Bt Bk j : Nat} {W : World} {v0 v1 t k : Value} {z0 z1 : Value} (h1 : nb ≠ j) (h2 : Bt ≠ j) (h3 : Bk ≠ j) (h : W.cell? ⟨nb, 0, none⟩ = some v0 ∧ W.cell? ⟨nb, 1, none⟩ = some v1 ∧ W.cell? ⟨Bt, 0, none⟩ = some t ∧ W.cell? ⟨Bk, 0, none⟩ = some k) : ((W.setCell ⟨j, 0, none⟩ z0).setCell ⟨j, 1, none⟩ z1).cell? ⟨nb, 0, none⟩ = some v0 ∧ ((W.setCell ⟨j, 0, none⟩ z0).setCell ⟨j, 1, none⟩ z1).cell? ⟨nb, 1, none⟩ = some v1 ∧ ((W.setCell ⟨j, 0, none⟩ z0).setCell ⟨j, 1, none⟩ z1).cell? ⟨Bt, 0, none⟩ = some t ∧ ((W.setCell ⟨j, 0, none⟩ z0).setCell ⟨j, 1, none⟩ z1).cell? ⟨Bk, 0, none⟩ = some k := ⟨cell_set z1 (cell_set z0 (h.1) h1) h1, cell_set z1 (cell_set z0 (h.2.1) h1) h1, cell_set z1 (cell_set z0 (h.2.2.1) h2) h2, cell_set z1 (cell_set z0 (h.2.2.2) h3) h3⟩
theorem q3_start (w : World) (v0 v1 v2 t k : Value) (ty : TypeId) (Bt Bk : Nat) (ht : w.cell? ⟨Bt, 0, none⟩ = some t) (hk : w.cell? ⟨Bk, 0, none⟩ = some k) : ((w.alloc (.cells #[v0, v1, v2] ty)).drew).cell? ⟨w.heap.size, 0, none⟩ = some v0 ∧ ((w.alloc (.cells #[v0, v1, v2] ty)).drew).cell? ⟨w.heap.size, 1, none⟩ = some v1 ∧ ((w.alloc (.cells #[v0, v1, v2] ty)).drew).cell? ⟨w.heap.size, 2, none⟩ = some v2 ∧ ((w.alloc (.cells #[v0, v1, v2] ty)).drew).cell? ⟨Bt, 0, none⟩ = some t ∧ ((w.alloc (.cells #[v0, v1, v2] ty)).drew).cell? ⟨Bk, 0, none⟩ = some k :=
  ⟨(HasRow.new w #[v0, v1, v2] ty).cell 0, (HasRow.new w #[v0, v1, v2] ty).cell 1, (HasRow.new w #[v0, v1, v2] ty).cell 2, cell_keep (below_alloc _ _).drew ht, cell_keep (below_alloc _ _).drew hk⟩
theorem q3_keep {nb Bt Bk : Nat} {W W' : World} {v0 v1 v2 t k : Value} (h : W.cell? ⟨nb, 0, none⟩ = some v0 ∧ W.cell? ⟨nb, 1, none⟩ = some v1 ∧ W.cell? ⟨nb, 2, none⟩ = some v2 ∧ W.cell? ⟨Bt, 0, none⟩ = some t ∧ W.cell? ⟨Bk, 0, none⟩ = some k) (hb : Below W.heap.size W W') : W'.cell? ⟨nb, 0, none⟩ = some v0 ∧ W'.cell? ⟨nb, 1, none⟩ = some v1 ∧ W'.cell? ⟨nb, 2, none⟩ = some v2 ∧ W'.cell? ⟨Bt, 0, none⟩ = some t ∧ W'.cell? ⟨Bk, 0, none⟩ = some k := ⟨cell_keep hb h.1, cell_keep hb h.2.1, cell_keep hb h.2.2.1, cell_keep hb h.2.2.2.1, cell_keep hb h.2.2.2.2⟩
theorem q3_set {nb Bt Bk j : Nat} {W : World} {v0 v1 v2 t k : Value} {z0 z1 z2 : Value} (h1 : nb ≠ j) (h2 : Bt ≠ j) (h3 : Bk ≠ j) (h : W.cell? ⟨nb, 0, none⟩ = some v0 ∧ W.cell? ⟨nb, 1, none⟩ = some v1 ∧ W.cell? ⟨nb, 2, none⟩ = some v2 ∧ W.cell? ⟨Bt, 0, none⟩ = some t ∧ W.cell? ⟨Bk, 0, none⟩ = some k) : (((W.setCell ⟨j, 0, none⟩ z0).setCell ⟨j, 1, none⟩ z1).setCell ⟨j, 2, none⟩ z2).cell? ⟨nb, 0, none⟩ = some v0 ∧ (((W.setCell ⟨j, 0, none⟩ z0).setCell ⟨j, 1, none⟩ z1).setCell ⟨j, 2, none⟩ z2).cell? ⟨nb, 1, none⟩ = some v1 ∧ (((W.setCell ⟨j, 0, none⟩ z0).setCell ⟨j, 1, none⟩ z1).setCell ⟨j, 2, none⟩ z2).cell? ⟨nb, 2, none⟩ = some v2 ∧ (((W.setCell ⟨j, 0, none⟩ z0).setCell ⟨j, 1, none⟩ z1).setCell ⟨j, 2, none⟩ z2).cell? ⟨Bt, 0, none⟩ = some t ∧ (((W.setCell ⟨j, 0, none⟩ z0).setCell ⟨j, 1, none⟩ z1).setCell ⟨j, 2, none⟩ z2).cell? ⟨Bk, 0, none⟩ = some k := ⟨cell_set z2 (cell_set z1 (cell_set z0 (h.1) h1) h1) h1, cell_set z2 (cell_set z1 (cell_set z0 (h.2.1) h1) h1) h1, cell_set z2 (cell_set z1 (cell_set z0 (h.2.2.1) h1) h1) h1, cell_set z2 (cell_set z1 (cell_set z0 (h.2.2.2.1) h2) h2) h2, cell_set z2 (cell_set z1 (cell_set z0 (h.2.2.2.2) h3) h3) h3⟩
theorem q4_start (w : World) (v0 v1 v2 v3 t k : Value) (ty : TypeId) (Bt Bk : Nat) (ht : w.cell? ⟨Bt, 0, none⟩ = some t) (hk : w.cell? ⟨Bk, 0, none⟩ = some k) : ((w.alloc (.cells #[v0, v1, v2, v3] ty)).drew).cell? ⟨w.heap.size, 0, none⟩ = some v0 ∧ ((w.alloc (.cells #[v0, v1, v2, v3] ty)).drew).cell? ⟨w.heap.size, 1, none⟩ = some v1 ∧ ((w.alloc (.cells #[v0, v1, v2, v3] ty)).drew).cell? ⟨w.heap.size, 2, none⟩ = some v2 ∧ ((w.alloc (.cells #[v0, v1, v2, v3] ty)).drew).cell? ⟨w.heap.size, 3, none⟩ = some v3 ∧ ((w.alloc (.cells #[v0, v1, v2, v3] ty)).drew).cell? ⟨Bt, 0, none⟩ = some t ∧ ((w.alloc (.cells #[v0, v1, v2, v3] ty)).drew).cell? ⟨Bk, 0, none⟩ = some k :=
  ⟨(HasRow.new w #[v0, v1, v2, v3] ty).cell 0, (HasRow.new w #[v0, v1, v2, v3] ty).cell 1, (HasRow.new w #[v0, v1, v2, v3] ty).cell 2, (HasRow.new w #[v0, v1, v2, v3] ty).cell 3, cell_keep (below_alloc _ _).drew ht, cell_keep (below_alloc _ _).drew hk⟩
theorem q4_keep {nb Bt Bk : Nat} {W W' : World} {v0 v1 v2 v3 t k : Value} (h : W.cell? ⟨nb, 0, none⟩ = some v0 ∧ W.cell? ⟨nb, 1, none⟩ = some v1 ∧ W.cell? ⟨nb, 2, none⟩ = some v2 ∧ W.cell? ⟨nb, 3, none⟩ = some v3 ∧ W.cell? ⟨Bt, 0, none⟩ = some t ∧ W.cell? ⟨Bk, 0, none⟩ = some k) (hb : Below W.heap.size W W') : W'.cell? ⟨nb, 0, none⟩ = some v0 ∧ W'.cell? ⟨nb, 1, none⟩ = some v1 ∧ W'.cell? ⟨nb, 2, none⟩ = some v2 ∧ W'.cell? ⟨nb, 3, none⟩ = some v3 ∧ W'.cell? ⟨Bt, 0, none⟩ = some t ∧ W'.cell? ⟨Bk, 0, none⟩ = some k := ⟨cell_keep hb h.1, cell_keep hb h.2.1, cell_keep hb h.2.2.1, cell_keep hb h.2.2.2.1, cell_keep hb h.2.2.2.2.1, cell_keep hb h.2.2.2.2.2⟩
theorem q4_set {nb Bt Bk j : Nat} {W : World} {v0 v1 v2 v3 t k : Value} {z0 z1 z2 z3 : Value} (h1 : nb ≠ j) (h2 : Bt ≠ j) (h3 : Bk ≠ j) (h : W.cell? ⟨nb, 0, none⟩ = some v0 ∧ W.cell? ⟨nb, 1, none⟩ = some v1 ∧ W.cell? ⟨nb, 2, none⟩ = some v2 ∧ W.cell? ⟨nb, 3, none⟩ = some v3 ∧ W.cell? ⟨Bt, 0, none⟩ = some t ∧ W.cell? ⟨Bk, 0, none⟩ = some k) : ((((W.setCell ⟨j, 0, none⟩ z0).setCell ⟨j, 1, none⟩ z1).setCell ⟨j, 2, none⟩ z2).setCell ⟨j, 3, none⟩ z3).cell? ⟨nb, 0, none⟩ = some v0 ∧ ((((W.setCell ⟨j, 0, none⟩ z0).setCell ⟨j, 1, none⟩ z1).setCell ⟨j, 2, none⟩ z2).setCell ⟨j, 3, none⟩ z3).cell? ⟨nb, 1, none⟩ = some v1 ∧ ((((W.setCell ⟨j, 0, none⟩ z0).setCell ⟨j, 1, none⟩ z1).setCell ⟨j, 2, none⟩ z2).setCell ⟨j, 3, none⟩ z3).cell? ⟨nb, 2, none⟩ = some v2 ∧ ((((W.setCell ⟨j, 0, none⟩ z0).setCell ⟨j, 1, none⟩ z1).setCell ⟨j, 2, none⟩ z2).setCell ⟨j, 3, none⟩ z3).cell? ⟨nb, 3, none⟩ = some v3 ∧ ((((W.setCell ⟨j, 0, none⟩ z0).setCell ⟨j, 1, none⟩ z1).setCell ⟨j, 2, none⟩ z2).setCell ⟨j, 3, none⟩ z3).cell? ⟨Bt, 0, none⟩ = some t ∧ ((((W.setCell ⟨j, 0, none⟩ z0).setCell ⟨j, 1, none⟩ z1).setCell ⟨j, 2, none⟩ z2).setCell ⟨j, 3, none⟩ z3).cell? ⟨Bk, 0, none⟩ = some k := ⟨cell_set z3 (cell_set z2 (cell_set z1 (cell_set z0 (h.1) h1) h1) h1) h1, cell_set z3 (cell_set z2 (cell_set z1 (cell_set z0 (h.2.1) h1) h1) h1) h1, cell_set z3 (cell_set z2 (cell_set z1 (cell_set z0 (h.2.2.1) h1) h1) h1) h1, cell_set z3 (cell_set z2 (cell_set z1 (cell_set z0 (h.2.2.2.1) h1) h1) h1) h1, cell_set z3 (cell_set z2 (cell_set z1 (cell_set z0 (h.2.2.2.2.1) h2) h2) h2) h2, cell_set z3 (cell_set z2 (cell_set z1 (cell_set z0 (h.2.2.2.2.2) h3) h3) h3) h3⟩
/-- a callee's word, taken back to where the walk began, behind one block or two -/
theorem first_below1 {w w5 : World} {o : Obj} (h : Below (w.alloc o).drew.heap.size (w.alloc o).drew w5) : Below w.heap.size w w5 := bstep (below_alloc w o).drew h
theorem first_below2 {w w5 : World} {o o' : Obj} (h : Below ((w.alloc o).alloc o').drew.heap.size ((w.alloc o).alloc o').drew w5) : Below w.heap.size w w5 := bstep (bstep (below_alloc w o) (below_alloc _ o')).drew h

theorem zeroT62 (w : World) : (zeroValue 62).run Tryz.prog w = .ok (.agg #[.string ⟨#[]⟩, .string ⟨#[]⟩]) w := by kernel_rfl
set_option maxRecDepth 100000 in
set_option maxHeartbeats 8000000 in
theorem missS_any (x : P.St) (hx : x.k.size ≤ 4294967280) (Bt Bk BM n : Nat) (g : ByteArray → Option P.St) (w : World) (hT : HasRow w Bt #[.map (some BM)]) (hK : HasRow w Bk #[.func (.func 88) #[] #[]]) (hM : MapS w BM n g) :
    Calls Tryz.prog 227 #[.agg #[.string x.k, .string x.v], .pointer (some ⟨Bt, 0, none⟩), .pointer (some ⟨Bk, 0, none⟩)] w fun e w' =>
      e = .returned (.bool (!(g x.k).isSome)) ∧ Below w.heap.size w w' := by
  have eK := enters_of Tryz.func88 (by kernel_rfl) rfl
  have hlt := hM.lt
  have hlt1 := hT.lt
  have hlt2 := hK.lt
  have HL : Hid (∀ W', Below w.heap.size w W' → (Instr.lookup 216 (.map (some BM)) (.string x.k) true).run Tryz.prog W' = .ok (.tuple #[.agg #[.string ((g x.k).getD ⟨⟨#[]⟩, ⟨#[]⟩⟩).k, .string ((g x.k).getD ⟨⟨#[]⟩, ⟨#[]⟩⟩).v], .bool (g x.k).isSome]) W') := Lib.hid fun W' hb =>
    (hM.below hb hlt).look Tryz.underlying9 Tryz.underlying216 (zeroT62 _) (by unfold maxLen; omega)
  generalize ((g x.k).getD ⟨⟨#[]⟩, ⟨#[]⟩⟩) = y at *
  generalize (g x.k).isSome = bb at *
  have HY := Lib.hid keyOf_below
  have d0 : w.cell? ⟨Bt, 0, none⟩ = some (.map (some BM)) := hT.cell 0
  have d1 : w.cell? ⟨Bk, 0, none⟩ = some (.func (.func 88) #[] #[]) := hK.cell 0
  have e1 : w.heap.size ≠ w.heap.size + 1 := by omega
  have e2 : Bt ≠ w.heap.size + 1 := by omega
  have e3 : Bk ≠ w.heap.size + 1 := by omega
  clear hM hT hK
  go_enter Tryz.func227, Tryz.ntmps227
  go_wp2_with fail
  go_region_held3 (fun W => W.cell? ⟨w.heap.size, 0, none⟩ = some (.string x.k) ∧ W.cell? ⟨w.heap.size, 1, none⟩ = some (.string x.v) ∧ W.cell? ⟨Bt, 0, none⟩ = some (.map (some BM)) ∧ W.cell? ⟨Bk, 0, none⟩ = some (.func (.func 88) #[] #[]))
    (first | with_reducible assumption | with_reducible exact q2_keep (by assumption) hb1 | with_reducible exact q2_keep hS5 (below_alloc _ _) | with_reducible exact q2_keep (by assumption) (below_alloc _ _) | with_reducible exact q2_set e1 e2 e3 (by assumption) | with_reducible exact q2_start _ _ _ _ _ _ _ _ d0 d1)
    (first | (go_at_call 88; refine (HY.out _ _ _).mono ?_; rintro e w5 ⟨rfl, hb1⟩; have hS5 := q2_keep (by with_reducible assumption) hb1; have hB5 : Below w.heap.size w w5 := (by first | exact first_below1 hb1 | exact first_below2 hb1); have hrun := HL.out w5 ((by first | exact first_below1 hb1 | exact first_below2 hb1)); have hrun2 := HL.out (w5.alloc (.cells #[.string ⟨#[]⟩, .string ⟨#[]⟩] 62)) (bstep ((by first | exact first_below1 hb1 | exact first_below2 hb1)) (below_alloc _ _)); have hz := hb1; first | (replace hz := (((HasRow.new (w.alloc (.cells #[.string x.k, .string x.v] 62)) #[.string ⟨#[]⟩, .string ⟨#[]⟩] 62).drew).below hz); rw [World.size_alloc] at hz; obtain ⟨z0, z1, zl⟩ := hrow2 hz; have y0 := hz.free 0; have y1 := hz.free 1) | skip))
  all_goals
    clear hrun hrun2 hb1 hS5
    have HB5 := Lib.hid hB5
    clear hB5
    go_wp2_with fail
    go_ret
    exact ⟨rfl, by first | exact bstep HB5.out (below_alloc _ _) | exact ((HB5.out.setCell (p := ⟨w.heap.size + 1, 0, none⟩) (Nat.le_succ _) _).setCell (p := ⟨w.heap.size + 1, 1, none⟩) (Nat.le_succ _) _)⟩

theorem zeroT42 (w : World) : (zeroValue 42).run Tryz.prog w = .ok (.agg #[.string ⟨#[]⟩, .string ⟨#[]⟩, .bool false]) w := by kernel_rfl
set_option maxRecDepth 100000 in
set_option maxHeartbeats 8000000 in
theorem missF_any (x : P.Fi) (hx : x.p.size ≤ 4294967280) (Bt Bk BM n : Nat) (g : ByteArray → Option P.Fi) (w : World) (hT : HasRow w Bt #[.map (some BM)]) (hK : HasRow w Bk #[.func (.func 91) #[] #[]]) (hM : MapF w BM n g) :
    Calls Tryz.prog 225 #[.agg #[.string x.p, .string x.d, .bool x.r], .pointer (some ⟨Bt, 0, none⟩), .pointer (some ⟨Bk, 0, none⟩)] w fun e w' =>
      e = .returned (.bool (!(g x.p).isSome)) ∧ Below w.heap.size w w' := by
  have eK := enters_of Tryz.func91 (by kernel_rfl) rfl
  have hlt := hM.lt
  have hlt1 := hT.lt
  have hlt2 := hK.lt
  have HL : Hid (∀ W', Below w.heap.size w W' → (Instr.lookup 148 (.map (some BM)) (.string x.p) true).run Tryz.prog W' = .ok (.tuple #[.agg #[.string ((g x.p).getD ⟨⟨#[]⟩, ⟨#[]⟩, false⟩).p, .string ((g x.p).getD ⟨⟨#[]⟩, ⟨#[]⟩, false⟩).d, .bool ((g x.p).getD ⟨⟨#[]⟩, ⟨#[]⟩, false⟩).r], .bool (g x.p).isSome]) W') := Lib.hid fun W' hb =>
    (hM.below hb hlt).look Tryz.underlying9 Tryz.underlying148 (zeroT42 _) (by unfold maxLen; omega)
  generalize ((g x.p).getD ⟨⟨#[]⟩, ⟨#[]⟩, false⟩) = y at *
  generalize (g x.p).isSome = bb at *
  have HY := Lib.hid pathOf_any
  have d0 : w.cell? ⟨Bt, 0, none⟩ = some (.map (some BM)) := hT.cell 0
  have d1 : w.cell? ⟨Bk, 0, none⟩ = some (.func (.func 91) #[] #[]) := hK.cell 0
  have e1 : w.heap.size ≠ w.heap.size + 1 := by omega
  have e2 : Bt ≠ w.heap.size + 1 := by omega
  have e3 : Bk ≠ w.heap.size + 1 := by omega
  clear hM hT hK
  go_enter Tryz.func225, Tryz.ntmps225
  go_wp2_with fail
  go_region_held3 (fun W => W.cell? ⟨w.heap.size, 0, none⟩ = some (.string x.p) ∧ W.cell? ⟨w.heap.size, 1, none⟩ = some (.string x.d) ∧ W.cell? ⟨w.heap.size, 2, none⟩ = some (.bool x.r) ∧ W.cell? ⟨Bt, 0, none⟩ = some (.map (some BM)) ∧ W.cell? ⟨Bk, 0, none⟩ = some (.func (.func 91) #[] #[]))
    (first | with_reducible assumption | with_reducible exact q3_keep (by assumption) hb1 | with_reducible exact q3_keep hS5 (below_alloc _ _) | with_reducible exact q3_keep (by assumption) (below_alloc _ _) | with_reducible exact q3_set e1 e2 e3 (by assumption) | with_reducible exact q3_start _ _ _ _ _ _ _ _ _ d0 d1)
    (first | (go_at_call 91; refine (HY.out _ _ _ _).mono ?_; rintro e w5 ⟨rfl, hb1⟩; have hS5 := q3_keep (by with_reducible assumption) hb1; have hB5 : Below w.heap.size w w5 := (by first | exact first_below1 hb1 | exact first_below2 hb1); have hrun := HL.out w5 ((by first | exact first_below1 hb1 | exact first_below2 hb1)); have hrun2 := HL.out (w5.alloc (.cells #[.string ⟨#[]⟩, .string ⟨#[]⟩, .bool false] 42)) (bstep ((by first | exact first_below1 hb1 | exact first_below2 hb1)) (below_alloc _ _)); have hz := hb1; first | (replace hz := (((HasRow.new (w.alloc (.cells #[.string x.p, .string x.d, .bool x.r] 42)) #[.string ⟨#[]⟩, .string ⟨#[]⟩, .bool false] 42).drew).below hz); rw [World.size_alloc] at hz; obtain ⟨z0, z1, z2, zl⟩ := hrow3 hz; have y0 := hz.free 0; have y1 := hz.free 1; have y2 := hz.free 2) | skip))
  all_goals
    clear hrun hrun2 hb1 hS5
    have HB5 := Lib.hid hB5
    clear hB5
    go_wp2_with fail
    go_ret
    exact ⟨rfl, by first | exact bstep HB5.out (below_alloc _ _) | exact (((HB5.out.setCell (p := ⟨w.heap.size + 1, 0, none⟩) (Nat.le_succ _) _).setCell (p := ⟨w.heap.size + 1, 1, none⟩) (Nat.le_succ _) _).setCell (p := ⟨w.heap.size + 1, 2, none⟩) (Nat.le_succ _) _)⟩

theorem zeroT46 (w : World) : (zeroValue 46).run Tryz.prog w = .ok (.agg #[.string ⟨#[]⟩, .string ⟨#[]⟩, .bool false, .bool false]) w := by kernel_rfl
set_option maxRecDepth 100000 in
set_option maxHeartbeats 8000000 in
theorem missV_any (x : P.Sv) (hx : x.n.size ≤ 4294967280) (Bt Bk BM n : Nat) (g : ByteArray → Option P.Sv) (w : World) (hT : HasRow w Bt #[.map (some BM)]) (hK : HasRow w Bk #[.func (.func 96) #[] #[]]) (hM : MapV w BM n g) :
    Calls Tryz.prog 229 #[.agg #[.string x.n, .string x.p, .bool x.a, .bool x.o], .pointer (some ⟨Bt, 0, none⟩), .pointer (some ⟨Bk, 0, none⟩)] w fun e w' =>
      e = .returned (.bool (!(g x.n).isSome)) ∧ Below w.heap.size w w' := by
  have eK := enters_of Tryz.func96 (by kernel_rfl) rfl
  have hlt := hM.lt
  have hlt1 := hT.lt
  have hlt2 := hK.lt
  have HL : Hid (∀ W', Below w.heap.size w W' → (Instr.lookup 150 (.map (some BM)) (.string x.n) true).run Tryz.prog W' = .ok (.tuple #[.agg #[.string ((g x.n).getD ⟨⟨#[]⟩, ⟨#[]⟩, false, false⟩).n, .string ((g x.n).getD ⟨⟨#[]⟩, ⟨#[]⟩, false, false⟩).p, .bool ((g x.n).getD ⟨⟨#[]⟩, ⟨#[]⟩, false, false⟩).a, .bool ((g x.n).getD ⟨⟨#[]⟩, ⟨#[]⟩, false, false⟩).o], .bool (g x.n).isSome]) W') := Lib.hid fun W' hb =>
    (hM.below hb hlt).look Tryz.underlying9 Tryz.underlying150 (zeroT46 _) (by unfold maxLen; omega)
  generalize ((g x.n).getD ⟨⟨#[]⟩, ⟨#[]⟩, false, false⟩) = y at *
  generalize (g x.n).isSome = bb at *
  have HY := Lib.hid nameOf_below
  have d0 : w.cell? ⟨Bt, 0, none⟩ = some (.map (some BM)) := hT.cell 0
  have d1 : w.cell? ⟨Bk, 0, none⟩ = some (.func (.func 96) #[] #[]) := hK.cell 0
  have e1 : w.heap.size ≠ w.heap.size + 1 := by omega
  have e2 : Bt ≠ w.heap.size + 1 := by omega
  have e3 : Bk ≠ w.heap.size + 1 := by omega
  clear hM hT hK
  go_enter Tryz.func229, Tryz.ntmps229
  go_wp2_with fail
  go_region_held3 (fun W => W.cell? ⟨w.heap.size, 0, none⟩ = some (.string x.n) ∧ W.cell? ⟨w.heap.size, 1, none⟩ = some (.string x.p) ∧ W.cell? ⟨w.heap.size, 2, none⟩ = some (.bool x.a) ∧ W.cell? ⟨w.heap.size, 3, none⟩ = some (.bool x.o) ∧ W.cell? ⟨Bt, 0, none⟩ = some (.map (some BM)) ∧ W.cell? ⟨Bk, 0, none⟩ = some (.func (.func 96) #[] #[]))
    (first | with_reducible assumption | with_reducible exact q4_keep (by assumption) hb1 | with_reducible exact q4_keep hS5 (below_alloc _ _) | with_reducible exact q4_keep (by assumption) (below_alloc _ _) | with_reducible exact q4_set e1 e2 e3 (by assumption) | with_reducible exact q4_start _ _ _ _ _ _ _ _ _ _ d0 d1)
    (first | (go_at_call 96; refine (HY.out _ _ _ _ _).mono ?_; rintro e w5 ⟨rfl, hb1⟩; have hS5 := q4_keep (by with_reducible assumption) hb1; have hB5 : Below w.heap.size w w5 := (by first | exact first_below1 hb1 | exact first_below2 hb1); have hrun := HL.out w5 ((by first | exact first_below1 hb1 | exact first_below2 hb1)); have hrun2 := HL.out (w5.alloc (.cells #[.string ⟨#[]⟩, .string ⟨#[]⟩, .bool false, .bool false] 46)) (bstep ((by first | exact first_below1 hb1 | exact first_below2 hb1)) (below_alloc _ _)); have hz := hb1; first | (replace hz := (((HasRow.new (w.alloc (.cells #[.string x.n, .string x.p, .bool x.a, .bool x.o] 46)) #[.string ⟨#[]⟩, .string ⟨#[]⟩, .bool false, .bool false] 46).drew).below hz); rw [World.size_alloc] at hz; obtain ⟨z0, z1, z2, z3, zl⟩ := hrow4 hz; have y0 := hz.free 0; have y1 := hz.free 1; have y2 := hz.free 2; have y3 := hz.free 3) | skip))
  all_goals
    clear hrun hrun2 hb1 hS5
    have HB5 := Lib.hid hB5
    clear hB5
    go_wp2_with fail
    go_ret
    exact ⟨rfl, by first | exact bstep HB5.out (below_alloc _ _) | exact ((((HB5.out.setCell (p := ⟨w.heap.size + 1, 0, none⟩) (Nat.le_succ _) _).setCell (p := ⟨w.heap.size + 1, 1, none⟩) (Nat.le_succ _) _).setCell (p := ⟨w.heap.size + 1, 2, none⟩) (Nat.le_succ _) _).setCell (p := ⟨w.heap.size + 1, 3, none⟩) (Nat.le_succ _) _)⟩
end Go.Proofs.YtkibmoekadmjnaaGreatDoor
