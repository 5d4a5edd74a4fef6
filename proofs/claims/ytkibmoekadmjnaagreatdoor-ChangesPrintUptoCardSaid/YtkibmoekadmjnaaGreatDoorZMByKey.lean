/- Walks: package disk: things by their keys (maps). -/
import Derived.Test.YtkibmoekadmjnaaGreatDoorZMFMap
import Derived.Test.YtkibmoekadmjnaaGreatDoorZMCheck

namespace Go.Proofs.YtkibmoekadmjnaaGreatDoor
open Go.RowKit Go.Shelf

theorem cell_grown {W W' : World} {p : Addr} {v : Value} {B : Nat} (hg : W.grownBy W' (some B)) (h : W.cell? p = some v) (hne : p.block ≠ B) : W'.cell? p = some v := by
  have hlt : p.block < W.heap.size := by
    unfold World.cell? at h
    split at h
    · rename_i hh; exact (Array.getElem?_eq_some_iff.1 hh).1
    · cases h
  rw [World.cell?_of_block (w := W) (a := p) (hg.block _ hlt (fun e => hne (by injection e)))]; exact h
theorem keyOf_below (k v : ByteArray) (W : World) : Calls Tryz.prog 88 #[.agg #[.string k, .string v]] W fun e w' => e = .returned (.string k) ∧ Below W.heap.size W w' :=
  (keyOf_any k v W).mono fun e w' ⟨h1, h2⟩ => ⟨h1, by rw [h2]; exact below_alloc _ _⟩
theorem nameOf_below (n p : ByteArray) (x y : Bool) (W : World) : Calls Tryz.prog 96 #[.agg #[.string n, .string p, .bool x, .bool y]] W fun e w' => e = .returned (.string n) ∧ Below W.heap.size W w' :=
  (nameOf_any n p x y W).mono fun e w' ⟨h1, h2⟩ => ⟨h1, by rw [h2]; exact below_alloc _ _⟩
theorem g2_grown {B nb : Nat} {W W' : World} {v0 v1 : Value} (hne : nb ≠ B) (h : W.cell? ⟨nb, 0, none⟩ = some v0 ∧ W.cell? ⟨nb, 1, none⟩ = some v1) (hg : W.grownBy W' (some B)) : W'.cell? ⟨nb, 0, none⟩ = some v0 ∧ W'.cell? ⟨nb, 1, none⟩ = some v1 := ⟨cell_grown hg h.1 hne, cell_grown hg h.2 hne⟩
theorem g2_keep {nb : Nat} {W W' : World} {v0 v1 : Value} (h : W.cell? ⟨nb, 0, none⟩ = some v0 ∧ W.cell? ⟨nb, 1, none⟩ = some v1) (hb : Below W.heap.size W W') : W'.cell? ⟨nb, 0, none⟩ = some v0 ∧ W'.cell? ⟨nb, 1, none⟩ = some v1 := ⟨cell_keep hb h.1, cell_keep hb h.2⟩
theorem g2_start (w : World) (v0 v1 : Value) (t : TypeId) : ((w.alloc (.cells #[v0, v1] t)).drew).cell? ⟨w.heap.size, 0, none⟩ = some v0 ∧ ((w.alloc (.cells #[v0, v1] t)).drew).cell? ⟨w.heap.size, 1, none⟩ = some v1 := ⟨(HasRow.new w #[v0, v1] t).cell 0, (HasRow.new w #[v0, v1] t).cell 1⟩
theorem g3_grown {B nb : Nat} {W W' : World} {v0 v1 v2 : Value} (hne : nb ≠ B) (h : W.cell? ⟨nb, 0, none⟩ = some v0 ∧ W.cell? ⟨nb, 1, none⟩ = some v1 ∧ W.cell? ⟨nb, 2, none⟩ = some v2) (hg : W.grownBy W' (some B)) : W'.cell? ⟨nb, 0, none⟩ = some v0 ∧ W'.cell? ⟨nb, 1, none⟩ = some v1 ∧ W'.cell? ⟨nb, 2, none⟩ = some v2 := ⟨cell_grown hg h.1 hne, cell_grown hg h.2.1 hne, cell_grown hg h.2.2 hne⟩
theorem g3_keep {nb : Nat} {W W' : World} {v0 v1 v2 : Value} (h : W.cell? ⟨nb, 0, none⟩ = some v0 ∧ W.cell? ⟨nb, 1, none⟩ = some v1 ∧ W.cell? ⟨nb, 2, none⟩ = some v2) (hb : Below W.heap.size W W') : W'.cell? ⟨nb, 0, none⟩ = some v0 ∧ W'.cell? ⟨nb, 1, none⟩ = some v1 ∧ W'.cell? ⟨nb, 2, none⟩ = some v2 := ⟨cell_keep hb h.1, cell_keep hb h.2.1, cell_keep hb h.2.2⟩
theorem g3_start (w : World) (v0 v1 v2 : Value) (t : TypeId) : ((w.alloc (.cells #[v0, v1, v2] t)).drew).cell? ⟨w.heap.size, 0, none⟩ = some v0 ∧ ((w.alloc (.cells #[v0, v1, v2] t)).drew).cell? ⟨w.heap.size, 1, none⟩ = some v1 ∧ ((w.alloc (.cells #[v0, v1, v2] t)).drew).cell? ⟨w.heap.size, 2, none⟩ = some v2 := ⟨(HasRow.new w #[v0, v1, v2] t).cell 0, (HasRow.new w #[v0, v1, v2] t).cell 1, (HasRow.new w #[v0, v1, v2] t).cell 2⟩
theorem g4_grown {B nb : Nat} {W W' : World} {v0 v1 v2 v3 : Value} (hne : nb ≠ B) (h : W.cell? ⟨nb, 0, none⟩ = some v0 ∧ W.cell? ⟨nb, 1, none⟩ = some v1 ∧ W.cell? ⟨nb, 2, none⟩ = some v2 ∧ W.cell? ⟨nb, 3, none⟩ = some v3) (hg : W.grownBy W' (some B)) : W'.cell? ⟨nb, 0, none⟩ = some v0 ∧ W'.cell? ⟨nb, 1, none⟩ = some v1 ∧ W'.cell? ⟨nb, 2, none⟩ = some v2 ∧ W'.cell? ⟨nb, 3, none⟩ = some v3 := ⟨cell_grown hg h.1 hne, cell_grown hg h.2.1 hne, cell_grown hg h.2.2.1 hne, cell_grown hg h.2.2.2 hne⟩
theorem g4_keep {nb : Nat} {W W' : World} {v0 v1 v2 v3 : Value} (h : W.cell? ⟨nb, 0, none⟩ = some v0 ∧ W.cell? ⟨nb, 1, none⟩ = some v1 ∧ W.cell? ⟨nb, 2, none⟩ = some v2 ∧ W.cell? ⟨nb, 3, none⟩ = some v3) (hb : Below W.heap.size W W') : W'.cell? ⟨nb, 0, none⟩ = some v0 ∧ W'.cell? ⟨nb, 1, none⟩ = some v1 ∧ W'.cell? ⟨nb, 2, none⟩ = some v2 ∧ W'.cell? ⟨nb, 3, none⟩ = some v3 := ⟨cell_keep hb h.1, cell_keep hb h.2.1, cell_keep hb h.2.2.1, cell_keep hb h.2.2.2⟩
theorem g4_start (w : World) (v0 v1 v2 v3 : Value) (t : TypeId) : ((w.alloc (.cells #[v0, v1, v2, v3] t)).drew).cell? ⟨w.heap.size, 0, none⟩ = some v0 ∧ ((w.alloc (.cells #[v0, v1, v2, v3] t)).drew).cell? ⟨w.heap.size, 1, none⟩ = some v1 ∧ ((w.alloc (.cells #[v0, v1, v2, v3] t)).drew).cell? ⟨w.heap.size, 2, none⟩ = some v2 ∧ ((w.alloc (.cells #[v0, v1, v2, v3] t)).drew).cell? ⟨w.heap.size, 3, none⟩ = some v3 := ⟨(HasRow.new w #[v0, v1, v2, v3] t).cell 0, (HasRow.new w #[v0, v1, v2, v3] t).cell 1, (HasRow.new w #[v0, v1, v2, v3] t).cell 2, (HasRow.new w #[v0, v1, v2, v3] t).cell 3⟩

abbrev MapS (W : World) (B n : Nat) (g : ByteArray → Option P.St) : Prop := FMap codedSt ⟨⟨#[]⟩, ⟨#[]⟩⟩ Tryz.prog 9 W B n g
set_option maxHeartbeats 4000000 in
theorem byKeyS_any (L : List P.St) (a : Option Addr) (cap : Nat) (hl : L.length ≤ 4294967280) (hs : stsFit L) (w : World) (hm : StsAt w.heap.size w a L cap) :
    Calls Tryz.prog 189 #[.slice a L.length cap, .func (.func 88) #[] #[]] w fun e w' => e = .returned (.map (some w.heap.size)) ∧ MapS w' w.heap.size L.length (P.getK P.St.k L) ∧ Below w.heap.size w w' := by
  have eK := enters_of Tryz.func88 (by kernel_rfl) rfl
  have hmm := @run_makeMap Tryz.prog
  have HM := Lib.hid hm
  have HS := Lib.hid hs
  have HY := Lib.hid keyOf_below
  clear hm hs
  go_enter Tryz.func189, Tryz.ntmps189
  go_wp2_with fail
  go_loopw [11] (fun i wr => ∃ k : Nat, k ≤ L.length ∧ i = .int .i64 k ∧ Hid (MapS wr w.heap.size k (P.getK P.St.k (L.take k))) ∧ Hid (Below w.heap.size w wr)) (fun i _ => L.length - (intOf i).toNat)
  case atStart => exact ⟨0, Nat.zero_le _, rfl, Lib.hid ((FMap.made _ _ _ _ _).congr (fun s => rfl)), Lib.hid (below_alloc _ _)⟩
  case round =>
    obtain ⟨k, hk, rfl, HQ, HB⟩ := hrel
    by_cases hlt : k < L.length
    · obtain ⟨b, off, rfl, hbm, hc⟩ := (HM.out.below HB.out).at_ (ne_nil_of_lt hlt)
      obtain ⟨c0, c1⟩ := hc k hlt
      have hqlt := HQ.out.lt
      have hne : wr.heap.size ≠ w.heap.size := by omega
      have HP : Hid (∀ W', Below wr.heap.size wr W' → ∃ W2, (Instr.mapUpdate 216 (.map (some w.heap.size)) (.string L[k].k) (.agg #[.string L[k].k, .string L[k].v])).run Tryz.prog W' = .ok () W2 ∧ MapS W2 w.heap.size (k + 1) (P.getK P.St.k (L.take (k + 1))) ∧ W'.grownBy W2 (some w.heap.size)) := Lib.hid fun W' hb => by
        obtain ⟨W2, h1, h2, h3⟩ := (HQ.out.below hb hqlt).put Tryz.underlying9 Tryz.underlying216 (by unfold maxLen; omega) (s := L[k].k) (by have := (HS.out k hlt).1; unfold maxLen; omega) L[k]
        exact ⟨W2, h1, h2.congr (P.getK_succ P.St.k L hlt), h3⟩
      clear hc
      generalize L[k] = x at *
      go_wp2_with fail
      go_region_held3 (fun W => W.cell? ⟨wr.heap.size, 0, none⟩ = some (.string x.k) ∧ W.cell? ⟨wr.heap.size, 1, none⟩ = some (.string x.v))
        (first | exact g2_start _ _ _ _ | with_reducible assumption | exact g2_grown hne (by with_reducible assumption) hg | exact g2_keep (by with_reducible assumption) (by with_reducible assumption))
        (first | (go_at_call 88; refine (HY.out _ _ _).mono ?_; rintro e w5 ⟨rfl, hb1⟩; obtain ⟨w6, hrun, hF, hg⟩ := HP.out w5 (bstep (below_alloc wr _).drew hb1)))
      have HQ6 := Lib.hid hF
      have HB6 := Lib.hid ((bstep HB.out (bstep (below_alloc wr _).drew hb1)).grown hg (bstep HB.out (bstep (below_alloc wr _).drew hb1)).size (fun j e => by cases e; exact Nat.le_refl _))
      clear hF hg hrun hb1
      go_wp2_with fail
      go_roundw
      case rel => exact ⟨k + 1, by omega, by go_num, HQ6, HB6⟩
      case measure => simp [intOf]; omega
    · have hkl : k = L.length := by omega
      subst hkl
      have HQ' := Lib.hid (HQ.out.congr (g' := P.getK P.St.k L) (fun s => by rw [List.take_length]))
      go_wp2_with fail
      go_ret
      exact ⟨rfl, HQ'.out, HB.out⟩

abbrev MapF (W : World) (B n : Nat) (g : ByteArray → Option P.Fi) : Prop := FMap codedFi ⟨⟨#[]⟩, ⟨#[]⟩, false⟩ Tryz.prog 9 W B n g
set_option maxHeartbeats 4000000 in
theorem byKeyF_any (L : List P.Fi) (a : Option Addr) (cap : Nat) (hl : L.length ≤ 4294967280) (hs : fisFit L) (w : World) (hm : FisAt w.heap.size w a L cap) :
    Calls Tryz.prog 188 #[.slice a L.length cap, .func (.func 91) #[] #[]] w fun e w' => e = .returned (.map (some w.heap.size)) ∧ MapF w' w.heap.size L.length (P.getK P.Fi.p L) ∧ Below w.heap.size w w' := by
  have eK := enters_of Tryz.func91 (by kernel_rfl) rfl
  have hmm := @run_makeMap Tryz.prog
  have HM := Lib.hid hm
  have HS := Lib.hid hs
  have HY := Lib.hid pathOf_any
  clear hm hs
  go_enter Tryz.func188, Tryz.ntmps188
  go_wp2_with fail
  go_loopw [11] (fun i wr => ∃ k : Nat, k ≤ L.length ∧ i = .int .i64 k ∧ Hid (MapF wr w.heap.size k (P.getK P.Fi.p (L.take k))) ∧ Hid (Below w.heap.size w wr)) (fun i _ => L.length - (intOf i).toNat)
  case atStart => exact ⟨0, Nat.zero_le _, rfl, Lib.hid ((FMap.made _ _ _ _ _).congr (fun s => rfl)), Lib.hid (below_alloc _ _)⟩
  case round =>
    obtain ⟨k, hk, rfl, HQ, HB⟩ := hrel
    by_cases hlt : k < L.length
    · obtain ⟨b, off, rfl, hbm, hc⟩ := (HM.out.below HB.out).at_ (ne_nil_of_lt hlt)
      obtain ⟨c0, c1, c2⟩ := hc k hlt
      have hqlt := HQ.out.lt
      have hne : wr.heap.size ≠ w.heap.size := by omega
      have HP : Hid (∀ W', Below wr.heap.size wr W' → ∃ W2, (Instr.mapUpdate 148 (.map (some w.heap.size)) (.string L[k].p) (.agg #[.string L[k].p, .string L[k].d, .bool L[k].r])).run Tryz.prog W' = .ok () W2 ∧ MapF W2 w.heap.size (k + 1) (P.getK P.Fi.p (L.take (k + 1))) ∧ W'.grownBy W2 (some w.heap.size)) := Lib.hid fun W' hb => by
        obtain ⟨W2, h1, h2, h3⟩ := (HQ.out.below hb hqlt).put Tryz.underlying9 Tryz.underlying148 (by unfold maxLen; omega) (s := L[k].p) (by have := (HS.out k hlt).1; unfold maxLen; omega) L[k]
        exact ⟨W2, h1, h2.congr (P.getK_succ P.Fi.p L hlt), h3⟩
      clear hc
      generalize L[k] = x at *
      go_wp2_with fail
      go_region_held3 (fun W => W.cell? ⟨wr.heap.size, 0, none⟩ = some (.string x.p) ∧ W.cell? ⟨wr.heap.size, 1, none⟩ = some (.string x.d) ∧ W.cell? ⟨wr.heap.size, 2, none⟩ = some (.bool x.r))
        (first | exact g3_start _ _ _ _ _ | with_reducible assumption | exact g3_grown hne (by with_reducible assumption) hg | exact g3_keep (by with_reducible assumption) (by with_reducible assumption))
        (first | (go_at_call 91; refine (HY.out _ _ _ _).mono ?_; rintro e w5 ⟨rfl, hb1⟩; obtain ⟨w6, hrun, hF, hg⟩ := HP.out w5 (bstep (below_alloc wr _).drew hb1)))
      have HQ6 := Lib.hid hF
      have HB6 := Lib.hid ((bstep HB.out (bstep (below_alloc wr _).drew hb1)).grown hg (bstep HB.out (bstep (below_alloc wr _).drew hb1)).size (fun j e => by cases e; exact Nat.le_refl _))
      clear hF hg hrun hb1
      go_wp2_with fail
      go_roundw
      case rel => exact ⟨k + 1, by omega, by go_num, HQ6, HB6⟩
      case measure => simp [intOf]; omega
    · have hkl : k = L.length := by omega
      subst hkl
      have HQ' := Lib.hid (HQ.out.congr (g' := P.getK P.Fi.p L) (fun s => by rw [List.take_length]))
      go_wp2_with fail
      go_ret
      exact ⟨rfl, HQ'.out, HB.out⟩

abbrev MapV (W : World) (B n : Nat) (g : ByteArray → Option P.Sv) : Prop := FMap codedSv ⟨⟨#[]⟩, ⟨#[]⟩, false, false⟩ Tryz.prog 9 W B n g
set_option maxHeartbeats 4000000 in
theorem byKeyV_any (L : List P.Sv) (a : Option Addr) (cap : Nat) (hl : L.length ≤ 4294967280) (hs : svsFit L) (w : World) (hm : SvsAt w.heap.size w a L cap) :
    Calls Tryz.prog 190 #[.slice a L.length cap, .func (.func 96) #[] #[]] w fun e w' => e = .returned (.map (some w.heap.size)) ∧ MapV w' w.heap.size L.length (P.getK P.Sv.n L) ∧ Below w.heap.size w w' := by
  have eK := enters_of Tryz.func96 (by kernel_rfl) rfl
  have hmm := @run_makeMap Tryz.prog
  have HM := Lib.hid hm
  have HS := Lib.hid hs
  have HY := Lib.hid nameOf_below
  clear hm hs
  go_enter Tryz.func190, Tryz.ntmps190
  go_wp2_with fail
  go_loopw [11] (fun i wr => ∃ k : Nat, k ≤ L.length ∧ i = .int .i64 k ∧ Hid (MapV wr w.heap.size k (P.getK P.Sv.n (L.take k))) ∧ Hid (Below w.heap.size w wr)) (fun i _ => L.length - (intOf i).toNat)
  case atStart => exact ⟨0, Nat.zero_le _, rfl, Lib.hid ((FMap.made _ _ _ _ _).congr (fun s => rfl)), Lib.hid (below_alloc _ _)⟩
  case round =>
    obtain ⟨k, hk, rfl, HQ, HB⟩ := hrel
    by_cases hlt : k < L.length
    · obtain ⟨b, off, rfl, hbm, hc⟩ := (HM.out.below HB.out).at_ (ne_nil_of_lt hlt)
      obtain ⟨c0, c1, c2, c3⟩ := hc k hlt
      have hqlt := HQ.out.lt
      have hne : wr.heap.size ≠ w.heap.size := by omega
      have HP : Hid (∀ W', Below wr.heap.size wr W' → ∃ W2, (Instr.mapUpdate 150 (.map (some w.heap.size)) (.string L[k].n) (.agg #[.string L[k].n, .string L[k].p, .bool L[k].a, .bool L[k].o])).run Tryz.prog W' = .ok () W2 ∧ MapV W2 w.heap.size (k + 1) (P.getK P.Sv.n (L.take (k + 1))) ∧ W'.grownBy W2 (some w.heap.size)) := Lib.hid fun W' hb => by
        obtain ⟨W2, h1, h2, h3⟩ := (HQ.out.below hb hqlt).put Tryz.underlying9 Tryz.underlying150 (by unfold maxLen; omega) (s := L[k].n) (by have := (HS.out k hlt).1; unfold maxLen; omega) L[k]
        exact ⟨W2, h1, h2.congr (P.getK_succ P.Sv.n L hlt), h3⟩
      clear hc
      generalize L[k] = x at *
      go_wp2_with fail
      go_region_held3 (fun W => W.cell? ⟨wr.heap.size, 0, none⟩ = some (.string x.n) ∧ W.cell? ⟨wr.heap.size, 1, none⟩ = some (.string x.p) ∧ W.cell? ⟨wr.heap.size, 2, none⟩ = some (.bool x.a) ∧ W.cell? ⟨wr.heap.size, 3, none⟩ = some (.bool x.o))
        (first | exact g4_start _ _ _ _ _ _ | with_reducible assumption | exact g4_grown hne (by with_reducible assumption) hg | exact g4_keep (by with_reducible assumption) (by with_reducible assumption))
        (first | (go_at_call 96; refine (HY.out _ _ _ _ _).mono ?_; rintro e w5 ⟨rfl, hb1⟩; obtain ⟨w6, hrun, hF, hg⟩ := HP.out w5 (bstep (below_alloc wr _).drew hb1)))
      have HQ6 := Lib.hid hF
      have HB6 := Lib.hid ((bstep HB.out (bstep (below_alloc wr _).drew hb1)).grown hg (bstep HB.out (bstep (below_alloc wr _).drew hb1)).size (fun j e => by cases e; exact Nat.le_refl _))
      clear hF hg hrun hb1
      go_wp2_with fail
      go_roundw
      case rel => exact ⟨k + 1, by omega, by go_num, HQ6, HB6⟩
      case measure => simp [intOf]; omega
    · have hkl : k = L.length := by omega
      subst hkl
      have HQ' := Lib.hid (HQ.out.congr (g' := P.getK P.Sv.n L) (fun s => by rw [List.take_length]))
      go_wp2_with fail
      go_ret
      exact ⟨rfl, HQ'.out, HB.out⟩
end Go.Proofs.YtkibmoekadmjnaaGreatDoor
