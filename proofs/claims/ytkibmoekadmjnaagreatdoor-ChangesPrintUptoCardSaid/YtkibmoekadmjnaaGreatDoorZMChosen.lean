/- Walks: package disk: the chosen things of a list. -/
import Derived.Test.YtkibmoekadmjnaaGreatDoorZMByKey

namespace Go.Proofs.YtkibmoekadmjnaaGreatDoor
open Go.RowKit Go.Shelf

theorem own_below {W W' : World} {base : Nat} {e : TypeId} {size n : Nat} {v : Value} {xs : List Value} (h : W.ownsRow base e size v n xs) (hb : Below W.heap.size W W') : W'.ownsRow base e size v n xs := by
  obtain ⟨hl, hv⟩ := h
  refine ⟨hl, hv.imp id ?_⟩
  rintro ⟨g, cap, cur, e1, e2, e3, r⟩
  exact ⟨g, cap, cur, e1, e2, (hb.block g (Array.getElem?_eq_some_iff.1 e3).1).trans e3, r⟩
theorem own_ge {W : World} {base : Nat} {e : TypeId} {size n : Nat} {v : Value} {xs : List Value} (h : W.ownsRow base e size v n xs) : ∀ k, v.ownBlock = some k → base ≤ k := by
  obtain ⟨_, ⟨rfl, _⟩ | ⟨g, cap, cur, rfl, hg, _⟩⟩ := h
  · intro k e; cases e
  · intro k e; injection e with e; subst e; exact hg
theorem cells_new (W : World) (vs : List Value) (t : TypeId) : ∀ j u, vs[j]? = some u → (W.alloc (.cells vs.toArray t)).cell? ((⟨W.heap.size, 0, none⟩ : Addr).add j) = some u := by
  intro j u h
  have := (HasRow.new W vs.toArray t).cell j
  have e : (⟨W.heap.size, 0, none⟩ : Addr).add j = ⟨W.heap.size, j, none⟩ := by simp [Addr.add]; exact fun h => h.symm
  rw [e, this]; simpa using h
/-- the cells of a list of things -/
def flat {α : Type} (c : α → List Value) (L : List α) : List Value := L.flatMap c
theorem flat_snoc {α : Type} (c : α → List Value) (L : List α) (x : α) : flat c (L ++ [x]) = flat c L ++ c x := by simp [flat]
theorem filter_succ {α : Type} (p : α → Bool) (L : List α) {k : Nat} (hk : k < L.length) : (L.take (k + 1)).filter p = (L.take k).filter p ++ (if p L[k] then [L[k]] else []) := by
  rw [List.take_succ_eq_append_getElem hk, List.filter_append]
  congr 1
  cases h : p L[k] <;> simp [h]
theorem filter_len {α : Type} (p : α → Bool) (L : List α) (k : Nat) : ((L.take k).filter p).length ≤ k := Nat.le_trans (List.length_filter_le _ _) (by simp; omega)

def cellsS (x : P.St) : List Value := [.string x.k, .string x.v]
theorem info62 : (Tryz.prog.info? 62).map (fun i => (i.zero, i.size, i.bytes)) = some (some (.agg #[.string ⟨#[]⟩, .string ⟨#[]⟩]), 2, 32) := by kernel_rfl
set_option maxHeartbeats 4000000 in
theorem chosenS_any (gc : Nat) (eg : ∀ args w, (callFunc gc args).run Tryz.prog w = .ok (.enter gc args) w) (p1 p2 : Value) (pred : P.St → Bool) (L : List P.St) (a : Option Addr) (cap : Nat) (hl : L.length ≤ 4294967280) (hs : stsFit L) (w : World) (hm : StsAt w.heap.size w a L cap)
    (hC : ∀ k (hk : k < L.length) W', Below w.heap.size w W' → Calls Tryz.prog gc #[.agg #[.string L[k].k, .string L[k].v], p1, p2] W' fun e w' => e = .returned (.bool (pred L[k])) ∧ Below W'.heap.size W' w') :
    Calls Tryz.prog 226 #[.slice a L.length cap, .func (.func gc) #[] #[p1, p2]] w fun e w' => ∃ v, e = .returned v ∧ w'.ownsRow w.heap.size 62 2 v (L.filter pred).length (flat cellsS (L.filter pred)) ∧ Below w.heap.size w w' := by
  obtain ⟨i0, hi, hz0, hz1, hz2⟩ := info_parts info62
  have HM := Lib.hid hm
  have HS := Lib.hid hs
  have HC := Lib.hid hC
  clear hm hs hC
  go_enter Tryz.func226, Tryz.ntmps226
  go_wp2_with fail
  go_loopw [5, 10] (fun v i wr => ∃ k : Nat, k ≤ L.length ∧ i = .int .i64 k ∧ Hid (wr.ownsRow w.heap.size 62 2 v ((L.take k).filter pred).length (flat cellsS ((L.take k).filter pred))) ∧ Hid (Below w.heap.size w wr)) (fun _ i _ => L.length - (intOf i).toNat)
  case atStart => exact ⟨0, Nat.zero_le _, rfl, Lib.hid (World.ownsRow_nil _ _ _ _), Lib.hid (Below.refl _ _)⟩
  case round =>
    obtain ⟨k, hk, rfl, HQ, HB⟩ := hrel
    by_cases hlt : k < L.length
    · obtain ⟨b, off, rfl, hbm, hc⟩ := (HM.out.below HB.out).at_ (ne_nil_of_lt hlt)
      obtain ⟨c0, c1⟩ := hc k hlt
      have HK := Lib.hid (fun W' hb => HC.out k hlt W' hb)
      have hf := filter_succ pred L hlt
      have hn := filter_len pred L k
      clear hc
      cases hq : pred L[k] <;> rw [hq] at HK hf
      · rw [if_neg (by decide), List.append_nil] at hf
        have HF := Lib.hid hf
        clear hq hf
        generalize L[k] = x at *
        go_wp2_with fail
        refine (HK.out _ (bstep HB.out (below_alloc _ _))).mono ?_
        rintro e w2 ⟨rfl, hb2⟩
        have HB2 := Lib.hid (bstep (bstep HB.out (below_alloc wr _)) hb2)
        have HQ2 := Lib.hid (own_below (own_below HQ.out (below_alloc wr _)) hb2)
        clear hb2
        go_wp2_with fail
        go_roundw
        case rel => exact ⟨k + 1, by omega, by go_num, by rw [HF.out]; exact HQ2, HB2⟩
        case measure => simp [intOf]; omega
      · rw [if_pos rfl] at hf
        have HF := Lib.hid hf
        clear hq hf
        generalize L[k] = x at *
        go_wp2_with fail
        refine (HK.out _ (bstep HB.out (below_alloc _ _))).mono ?_
        rintro e w2 ⟨rfl, hb2⟩
        have HB2 := Lib.hid (bstep (bstep HB.out (below_alloc wr _)) hb2)
        have HQ2 := Lib.hid (own_below (own_below HQ.out (below_alloc wr _)) hb2)
        have hR := (HasRow.new wr _ _).below hb2
        obtain ⟨d0, d1, hlt2⟩ := hrow2 hR
        have hwb : w.heap.size ≤ (w2.alloc (.cells #[.string x.k, .string x.v] 62)).heap.size := (bstep HB2.out (below_alloc _ _)).size
        clear hb2 hR c0 c1
        generalize hMk : (L.take k).filter pred = M at *
        clear hMk
        go_wp2_with (at_builtin; refine wpList_append_own _ rfl _ _ 22 rfl w.heap.size 62 i0 (.agg #[.string ⟨#[]⟩, .string ⟨#[]⟩]) 2 32 Tryz.underlying22 hi hz0 hz1 hz2 rfl (by decide) _ _ _ rfl (own_below HQ2.out (below_alloc _ _)) ⟨w2.heap.size, 0, none⟩ 1 1 (cellsS x) rfl rfl (cells_new w2 (cellsS x) 62) (by intro u hu; simp [cellsS] at hu; rcases hu with rfl | rfl <;> rfl) (by unfold maxLen; omega) (by omega) hwb ?_; intro v' w3 hown3 hgrow3 _)
        have HQ3 := Lib.hid hown3
        have HB3 := Lib.hid ((bstep HB2.out (below_alloc w2 (.cells #[.string x.k, .string x.v] 62))).grown hgrow3 hwb (own_ge HQ2.out))
        clear hown3 hgrow3
        go_roundw
        case rel => exact ⟨k + 1, by omega, by go_num, by rw [HF.out, flat_snoc, List.length_append]; exact HQ3, HB3⟩
        case measure => simp [intOf]; omega
    · have hkl : k = L.length := by omega
      subst hkl
      have HQ' := Lib.hid (show wr.ownsRow w.heap.size 62 2 _ (L.filter pred).length (flat cellsS (L.filter pred)) by have := HQ.out; rwa [List.take_length] at this)
      go_wp2_with fail
      go_ret
      exact ⟨_, rfl, HQ'.out, HB.out⟩

def cellsF (x : P.Fi) : List Value := [.string x.p, .string x.d, .bool x.r]
theorem info42 : (Tryz.prog.info? 42).map (fun i => (i.zero, i.size, i.bytes)) = some (some (.agg #[.string ⟨#[]⟩, .string ⟨#[]⟩, .bool false]), 3, 40) := by kernel_rfl
set_option maxHeartbeats 4000000 in
theorem chosenF_any (gc : Nat) (eg : ∀ args w, (callFunc gc args).run Tryz.prog w = .ok (.enter gc args) w) (p1 p2 : Value) (pred : P.Fi → Bool) (L : List P.Fi) (a : Option Addr) (cap : Nat) (hl : L.length ≤ 4294967280) (hs : fisFit L) (w : World) (hm : FisAt w.heap.size w a L cap)
    (hC : ∀ k (hk : k < L.length) W', Below w.heap.size w W' → Calls Tryz.prog gc #[.agg #[.string L[k].p, .string L[k].d, .bool L[k].r], p1, p2] W' fun e w' => e = .returned (.bool (pred L[k])) ∧ Below W'.heap.size W' w') :
    Calls Tryz.prog 224 #[.slice a L.length cap, .func (.func gc) #[] #[p1, p2]] w fun e w' => ∃ v, e = .returned v ∧ w'.ownsRow w.heap.size 42 3 v (L.filter pred).length (flat cellsF (L.filter pred)) ∧ Below w.heap.size w w' := by
  obtain ⟨i0, hi, hz0, hz1, hz2⟩ := info_parts info42
  have HM := Lib.hid hm
  have HS := Lib.hid hs
  have HC := Lib.hid hC
  clear hm hs hC
  go_enter Tryz.func224, Tryz.ntmps224
  go_wp2_with fail
  go_loopw [5, 10] (fun v i wr => ∃ k : Nat, k ≤ L.length ∧ i = .int .i64 k ∧ Hid (wr.ownsRow w.heap.size 42 3 v ((L.take k).filter pred).length (flat cellsF ((L.take k).filter pred))) ∧ Hid (Below w.heap.size w wr)) (fun _ i _ => L.length - (intOf i).toNat)
  case atStart => exact ⟨0, Nat.zero_le _, rfl, Lib.hid (World.ownsRow_nil _ _ _ _), Lib.hid (Below.refl _ _)⟩
  case round =>
    obtain ⟨k, hk, rfl, HQ, HB⟩ := hrel
    by_cases hlt : k < L.length
    · obtain ⟨b, off, rfl, hbm, hc⟩ := (HM.out.below HB.out).at_ (ne_nil_of_lt hlt)
      obtain ⟨c0, c1, c2⟩ := hc k hlt
      have HK := Lib.hid (fun W' hb => HC.out k hlt W' hb)
      have hf := filter_succ pred L hlt
      have hn := filter_len pred L k
      clear hc
      cases hq : pred L[k] <;> rw [hq] at HK hf
      · rw [if_neg (by decide), List.append_nil] at hf
        have HF := Lib.hid hf
        clear hq hf
        generalize L[k] = x at *
        go_wp2_with fail
        refine (HK.out _ (bstep HB.out (below_alloc _ _))).mono ?_
        rintro e w2 ⟨rfl, hb2⟩
        have HB2 := Lib.hid (bstep (bstep HB.out (below_alloc wr _)) hb2)
        have HQ2 := Lib.hid (own_below (own_below HQ.out (below_alloc wr _)) hb2)
        clear hb2
        go_wp2_with fail
        go_roundw
        case rel => exact ⟨k + 1, by omega, by go_num, by rw [HF.out]; exact HQ2, HB2⟩
        case measure => simp [intOf]; omega
      · rw [if_pos rfl] at hf
        have HF := Lib.hid hf
        clear hq hf
        generalize L[k] = x at *
        go_wp2_with fail
        refine (HK.out _ (bstep HB.out (below_alloc _ _))).mono ?_
        rintro e w2 ⟨rfl, hb2⟩
        have HB2 := Lib.hid (bstep (bstep HB.out (below_alloc wr _)) hb2)
        have HQ2 := Lib.hid (own_below (own_below HQ.out (below_alloc wr _)) hb2)
        have hR := (HasRow.new wr _ _).below hb2
        obtain ⟨d0, d1, d2, hlt2⟩ := hrow3 hR
        have hwb : w.heap.size ≤ (w2.alloc (.cells #[.string x.p, .string x.d, .bool x.r] 42)).heap.size := (bstep HB2.out (below_alloc _ _)).size
        clear hb2 hR c0 c1 c2
        generalize hMk : (L.take k).filter pred = M at *
        clear hMk
        go_wp2_with (at_builtin; refine wpList_append_own _ rfl _ _ 23 rfl w.heap.size 42 i0 (.agg #[.string ⟨#[]⟩, .string ⟨#[]⟩, .bool false]) 3 40 Tryz.underlying23 hi hz0 hz1 hz2 rfl (by decide) _ _ _ rfl (own_below HQ2.out (below_alloc _ _)) ⟨w2.heap.size, 0, none⟩ 1 1 (cellsF x) rfl rfl (cells_new w2 (cellsF x) 42) (by intro u hu; simp [cellsF] at hu; rcases hu with rfl | rfl | rfl <;> rfl) (by unfold maxLen; omega) (by omega) hwb ?_; intro v' w3 hown3 hgrow3 _)
        have HQ3 := Lib.hid hown3
        have HB3 := Lib.hid ((bstep HB2.out (below_alloc w2 (.cells #[.string x.p, .string x.d, .bool x.r] 42))).grown hgrow3 hwb (own_ge HQ2.out))
        clear hown3 hgrow3
        go_roundw
        case rel => exact ⟨k + 1, by omega, by go_num, by rw [HF.out, flat_snoc, List.length_append]; exact HQ3, HB3⟩
        case measure => simp [intOf]; omega
    · have hkl : k = L.length := by omega
      subst hkl
      have HQ' := Lib.hid (show wr.ownsRow w.heap.size 42 3 _ (L.filter pred).length (flat cellsF (L.filter pred)) by have := HQ.out; rwa [List.take_length] at this)
      go_wp2_with fail
      go_ret
      exact ⟨_, rfl, HQ'.out, HB.out⟩

def cellsV (x : P.Sv) : List Value := [.string x.n, .string x.p, .bool x.a, .bool x.o]
theorem info46 : (Tryz.prog.info? 46).map (fun i => (i.zero, i.size, i.bytes)) = some (some (.agg #[.string ⟨#[]⟩, .string ⟨#[]⟩, .bool false, .bool false]), 4, 40) := by kernel_rfl
set_option maxHeartbeats 4000000 in
theorem chosenV_any (gc : Nat) (eg : ∀ args w, (callFunc gc args).run Tryz.prog w = .ok (.enter gc args) w) (p1 p2 : Value) (pred : P.Sv → Bool) (L : List P.Sv) (a : Option Addr) (cap : Nat) (hl : L.length ≤ 4294967280) (hs : svsFit L) (w : World) (hm : SvsAt w.heap.size w a L cap)
    (hC : ∀ k (hk : k < L.length) W', Below w.heap.size w W' → Calls Tryz.prog gc #[.agg #[.string L[k].n, .string L[k].p, .bool L[k].a, .bool L[k].o], p1, p2] W' fun e w' => e = .returned (.bool (pred L[k])) ∧ Below W'.heap.size W' w') :
    Calls Tryz.prog 228 #[.slice a L.length cap, .func (.func gc) #[] #[p1, p2]] w fun e w' => ∃ v, e = .returned v ∧ w'.ownsRow w.heap.size 46 4 v (L.filter pred).length (flat cellsV (L.filter pred)) ∧ Below w.heap.size w w' := by
  obtain ⟨i0, hi, hz0, hz1, hz2⟩ := info_parts info46
  have HM := Lib.hid hm
  have HS := Lib.hid hs
  have HC := Lib.hid hC
  clear hm hs hC
  go_enter Tryz.func228, Tryz.ntmps228
  go_wp2_with fail
  go_loopw [5, 10] (fun v i wr => ∃ k : Nat, k ≤ L.length ∧ i = .int .i64 k ∧ Hid (wr.ownsRow w.heap.size 46 4 v ((L.take k).filter pred).length (flat cellsV ((L.take k).filter pred))) ∧ Hid (Below w.heap.size w wr)) (fun _ i _ => L.length - (intOf i).toNat)
  case atStart => exact ⟨0, Nat.zero_le _, rfl, Lib.hid (World.ownsRow_nil _ _ _ _), Lib.hid (Below.refl _ _)⟩
  case round =>
    obtain ⟨k, hk, rfl, HQ, HB⟩ := hrel
    by_cases hlt : k < L.length
    · obtain ⟨b, off, rfl, hbm, hc⟩ := (HM.out.below HB.out).at_ (ne_nil_of_lt hlt)
      obtain ⟨c0, c1, c2, c3⟩ := hc k hlt
      have HK := Lib.hid (fun W' hb => HC.out k hlt W' hb)
      have hf := filter_succ pred L hlt
      have hn := filter_len pred L k
      clear hc
      cases hq : pred L[k] <;> rw [hq] at HK hf
      · rw [if_neg (by decide), List.append_nil] at hf
        have HF := Lib.hid hf
        clear hq hf
        generalize L[k] = x at *
        go_wp2_with fail
        refine (HK.out _ (bstep HB.out (below_alloc _ _))).mono ?_
        rintro e w2 ⟨rfl, hb2⟩
        have HB2 := Lib.hid (bstep (bstep HB.out (below_alloc wr _)) hb2)
        have HQ2 := Lib.hid (own_below (own_below HQ.out (below_alloc wr _)) hb2)
        clear hb2
        go_wp2_with fail
        go_roundw
        case rel => exact ⟨k + 1, by omega, by go_num, by rw [HF.out]; exact HQ2, HB2⟩
        case measure => simp [intOf]; omega
      · rw [if_pos rfl] at hf
        have HF := Lib.hid hf
        clear hq hf
        generalize L[k] = x at *
        go_wp2_with fail
        refine (HK.out _ (bstep HB.out (below_alloc _ _))).mono ?_
        rintro e w2 ⟨rfl, hb2⟩
        have HB2 := Lib.hid (bstep (bstep HB.out (below_alloc wr _)) hb2)
        have HQ2 := Lib.hid (own_below (own_below HQ.out (below_alloc wr _)) hb2)
        have hR := (HasRow.new wr _ _).below hb2
        obtain ⟨d0, d1, d2, d3, hlt2⟩ := hrow4 hR
        have hwb : w.heap.size ≤ (w2.alloc (.cells #[.string x.n, .string x.p, .bool x.a, .bool x.o] 46)).heap.size := (bstep HB2.out (below_alloc _ _)).size
        clear hb2 hR c0 c1 c2 c3
        generalize hMk : (L.take k).filter pred = M at *
        clear hMk
        go_wp2_with (at_builtin; refine wpList_append_own _ rfl _ _ 24 rfl w.heap.size 46 i0 (.agg #[.string ⟨#[]⟩, .string ⟨#[]⟩, .bool false, .bool false]) 4 40 Tryz.underlying24 hi hz0 hz1 hz2 rfl (by decide) _ _ _ rfl (own_below HQ2.out (below_alloc _ _)) ⟨w2.heap.size, 0, none⟩ 1 1 (cellsV x) rfl rfl (cells_new w2 (cellsV x) 46) (by intro u hu; simp [cellsV] at hu; rcases hu with rfl | rfl | rfl | rfl <;> rfl) (by unfold maxLen; omega) (by omega) hwb ?_; intro v' w3 hown3 hgrow3 _)
        have HQ3 := Lib.hid hown3
        have HB3 := Lib.hid ((bstep HB2.out (below_alloc w2 (.cells #[.string x.n, .string x.p, .bool x.a, .bool x.o] 46))).grown hgrow3 hwb (own_ge HQ2.out))
        clear hown3 hgrow3
        go_roundw
        case rel => exact ⟨k + 1, by omega, by go_num, by rw [HF.out, flat_snoc, List.length_append]; exact HQ3, HB3⟩
        case measure => simp [intOf]; omega
    · have hkl : k = L.length := by omega
      subst hkl
      have HQ' := Lib.hid (show wr.ownsRow w.heap.size 46 4 _ (L.filter pred).length (flat cellsV (L.filter pred)) by have := HQ.out; rwa [List.take_length] at this)
      go_wp2_with fail
      go_ret
      exact ⟨_, rfl, HQ'.out, HB.out⟩
end Go.Proofs.YtkibmoekadmjnaaGreatDoor
