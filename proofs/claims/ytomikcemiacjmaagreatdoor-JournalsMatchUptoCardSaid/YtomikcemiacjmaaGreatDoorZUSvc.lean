/- Walks: disk's readService. -/
/- Walks: disk's readThing: a line of a service. -/
/- Walks: disk's readThing: a line of no word that there is; all lines. -/
/- Walks: disk's readLines with what reads a machine. -/
/- Walks: disk's readLines of a machine's text, whatever the text. -/
/- Walks: disk's Parse of a text that is a right machine's. -/
import Derived.Test.YtomikcemiacjmaaGreatDoorZUPure
import Derived.Deep.RegionHeld3
import Derived.Deep.RegionWith
import Derived.Test.YtomikcemiacjmaaGreatDoorZUThingF
import Derived.Test.YtomikcemiacjmaaGreatDoorZUThingR
import Derived.Test.YtomikcemiacjmaaGreatDoorZMWFit
import Derived.Test.YtomikcemiacjmaaGreatDoorZMCheck

namespace Go.Proofs.YtomikcemiacjmaaGreatDoor
open Go.RowKit Go.Lib Go.Shelf

theorem splitN_any (s : ByteArray) (hs : s.size ≤ 1000000000) (w : World) (hw : Good w) :
    Calls Tryz.prog 283 #[.string s, .string ⟨#[32]⟩, .int .i64 5] w fun e w' =>
      ∃ cap, e = .returned (.slice (some ⟨w.heap.size, 0, none⟩) (P.svcWords s).length cap) ∧ (P.svcWords s).length ≤ cap ∧ (∀ k (hk : k < (P.svcWords s).length), w'.cell? ⟨w.heap.size, k, none⟩ = some (.string (P.svcWords s)[k])) ∧ Below w.heap.size w w' := by
  obtain ⟨m, hm⟩ := hw.m
  refine (Tryz.strings_SplitN s ⟨#[32]⟩ 5 m w (by omega) hm (by decide) (by decide) (by decide)).mono fun e w' h => ⟨_, h.1, ?_, ?_, ?_⟩
  · have := Lib.splitB_length_le ⟨#[32]⟩ 0 (min 5 (s.size + 1) - 1) s
    show (Lib.splitB ⟨#[32]⟩ 0 (min 5 (s.size + 1) - 1) s).length ≤ _
    omega
  · intro k hk
    rw [h.2, World.cell?_alloc_at _ _ _ _ rfl]
    show (Lib.cellsOf (P.svcWords s) _)[k]? = _
    simp only [Lib.cellsOf, List.getElem?_toArray]
    rw [List.getElem?_append_left (by simpa using hk)]
    simp [hk]
  · rw [h.2]; exact below_alloc _ _

theorem splitN_at (s : ByteArray) (hs : s.size ≤ 1000000000) (nb : Nat) (w : World) (hn : nb = w.heap.size) (hw : Good w) :
    Calls Tryz.prog 283 #[.string s, .string ⟨#[32]⟩, .int .i64 5] w fun e w' =>
      ∃ cap, e = .returned (.slice (some ⟨nb, 0, none⟩) (P.svcWords s).length cap) ∧ (P.svcWords s).length ≤ cap ∧ (∀ k (hk : k < (P.svcWords s).length), w'.cell? ⟨nb, k, none⟩ = some (.string (P.svcWords s)[k])) ∧ Below w.heap.size w w' := by
  subst hn; exact splitN_any s hs w hw
theorem four_cells {w1 : World} {nb : Nat} {a b c d : ByteArray} (h : ∀ k (hk : k < [a, b, c, d].length), w1.cell? ⟨nb, k, none⟩ = some (.string [a, b, c, d][k])) :
    w1.cell? ⟨nb, 0, none⟩ = some (.string a) ∧ w1.cell? ⟨nb, 1, none⟩ = some (.string b) ∧ w1.cell? ⟨nb, 2, none⟩ = some (.string c) ∧ w1.cell? ⟨nb, 3, none⟩ = some (.string d) :=
  ⟨h 0 (by simp), h 1 (by simp), h 2 (by simp), h 3 (by simp)⟩
theorem w4_keep {nb : Nat} {W W' : World} {a b c d : Value} (h : W.cell? ⟨nb, 0, none⟩ = some a ∧ W.cell? ⟨nb, 1, none⟩ = some b ∧ W.cell? ⟨nb, 2, none⟩ = some c ∧ W.cell? ⟨nb, 3, none⟩ = some d) (hb : Below W.heap.size W W') :
    W'.cell? ⟨nb, 0, none⟩ = some a ∧ W'.cell? ⟨nb, 1, none⟩ = some b ∧ W'.cell? ⟨nb, 2, none⟩ = some c ∧ W'.cell? ⟨nb, 3, none⟩ = some d := ⟨cell_keep hb h.1, cell_keep hb h.2.1, cell_keep hb h.2.2.1, cell_keep hb h.2.2.2⟩
set_option maxRecDepth 100000 in
set_option maxHeartbeats 2000000 in
theorem readService_any (s : ByteArray) (hs : s.size ≤ 1000000000) (w : World) (hw : Good w) :
    Calls Tryz.prog 233 #[.string s] w fun e w' => e = .returned (.tuple #[svcAgg (P.svcRead (P.svcWords s)).1, .bool (P.svcRead (P.svcWords s)).2]) ∧ Below w.heap.size w w' := by
  have HP := Lib.hid (fun nb W hn hW => splitN_at s hs nb W hn hW)
  have Hw := Lib.hid hw
  have mixed : Tryz.prog.follows .mixedOrders = true := by kernel_rfl
  clear hw
  have hlen : (P.svcWords s).length ≤ 5 := by
    have := Lib.splitB_length_le ⟨#[32]⟩ 0 (min 5 (s.size + 1) - 1) s
    unfold P.svcWords
    omega
  generalize P.svcWords s = l at *
  by_cases h4 : l.length = 4
  · obtain ⟨a, b, c, d, rfl⟩ : ∃ a b c d, l = [a, b, c, d] := by
      match l, h4 with
      | [a, b, c, d], _ => exact ⟨a, b, c, d, rfl⟩
    · have HFc := fun W => isFlag_any c W
      have HFd := fun W => isFlag_any d W
      have HWa := Lib.hid (fun W => isWord_any a W)
      have HWb := Lib.hid (fun W => isWord_any b W)
      clear hlen h4
      cases hc : P.isFlag c with
      | false =>
        have hr : Hid (P.svcRead [a, b, c, d] = (P.svc0, false)) := Lib.hid (by show (if (P.isFlag c && P.isFlag d) = true then _ else _) = _; rw [hc]; rfl)
        rw [hc] at HFc
        replace HFc := Lib.hid HFc
        clear hc HFd
        go_enter Tryz.func233, Tryz.ntmps233
        go_wp2_with (first
          | (go_at_call 283; refine (HP.out (w.heap.size + 1) _ (by simp) (Hw.out.mono (below_alloc _ _))).mono ?_; rintro e w1 ⟨cap, rfl, hcap, hcells, hb1⟩; have HR1 := Lib.hid ((HasRow.new w #[.string ⟨#[]⟩, .string ⟨#[]⟩, .bool false, .bool false] 46).below hb1); have HB1 := Lib.hid (bstep (below_alloc w (.cells #[.string ⟨#[]⟩, .string ⟨#[]⟩, .bool false, .bool false] 46)) hb1); obtain ⟨k0, k1, k2, k3⟩ := four_cells hcells; clear hcells; obtain ⟨c0, c1, c2, c3, _⟩ := hrow4 HR1.out; have f0 := HR1.out.free 0; have f1 := HR1.out.free 1; have f2 := HR1.out.free 2; have f3 := HR1.out.free 3)
          | (go_at_call 284; refine (HFc.out _).mono ?_; rintro e w' ⟨rfl, rfl⟩))
        have HS := Lib.hid (store4 HR1.out HB1.out (Nat.le_refl _) (.string ⟨#[]⟩) (.string ⟨#[]⟩) (.bool false) (.bool false))
        clear c0 c1 c2 c3 f0 f1 f2 f3
        obtain ⟨d0, d1, d2, d3, _⟩ := hrow4 HS.out.1
        refine bodyPost_ret (v := .tuple #[.agg #[.string ⟨#[]⟩, .string ⟨#[]⟩, .bool false, .bool false], .bool false]) ?_ rfl ⟨by rw [hr.out]; rfl, HS.out.2⟩
        simp [results, Tryz.results233, go_sem, d0, d1, d2, d3]
      | true =>
        cases hd : P.isFlag d with
        | false =>
          have hr : Hid (P.svcRead [a, b, c, d] = (P.svc0, false)) := Lib.hid (by show (if (P.isFlag c && P.isFlag d) = true then _ else _) = _; rw [hc, hd]; rfl)
          rw [hc] at HFc
          rw [hd] at HFd
          replace HFc := Lib.hid HFc
          replace HFd := Lib.hid HFd
          clear hc hd
          go_enter Tryz.func233, Tryz.ntmps233
          go_wp2_with (first
            | (go_at_call 283; refine (HP.out (w.heap.size + 1) _ (by simp) (Hw.out.mono (below_alloc _ _))).mono ?_; rintro e w1 ⟨cap, rfl, hcap, hcells, hb1⟩; have HR1 := Lib.hid ((HasRow.new w #[.string ⟨#[]⟩, .string ⟨#[]⟩, .bool false, .bool false] 46).below hb1); have HB1 := Lib.hid (bstep (below_alloc w (.cells #[.string ⟨#[]⟩, .string ⟨#[]⟩, .bool false, .bool false] 46)) hb1); obtain ⟨k0, k1, k2, k3⟩ := four_cells hcells; clear hcells; obtain ⟨c0, c1, c2, c3, _⟩ := hrow4 HR1.out; have f0 := HR1.out.free 0; have f1 := HR1.out.free 1; have f2 := HR1.out.free 2; have f3 := HR1.out.free 3)
            | (go_at_call_of 284 (Value.string c); refine (HFc.out _).mono ?_; rintro e w' ⟨rfl, rfl⟩)
            | (go_at_call_of 284 (Value.string d); refine (HFd.out _).mono ?_; rintro e w' ⟨rfl, rfl⟩))
          have HS := Lib.hid (store4 HR1.out HB1.out (Nat.le_refl _) (.string ⟨#[]⟩) (.string ⟨#[]⟩) (.bool false) (.bool false))
          clear c0 c1 c2 c3 f0 f1 f2 f3
          obtain ⟨d0, d1, d2, d3, _⟩ := hrow4 HS.out.1
          refine bodyPost_ret (v := .tuple #[.agg #[.string ⟨#[]⟩, .string ⟨#[]⟩, .bool false, .bool false], .bool false]) ?_ rfl ⟨by rw [hr.out]; rfl, HS.out.2⟩
          simp [results, Tryz.results233, go_sem, d0, d1, d2, d3]
        | true =>
          have hr : Hid (P.svcRead [a, b, c, d] = (⟨a, b, c.toList == [49], d.toList == [49]⟩, P.isWord a && P.isWord b)) := Lib.hid (by show (if (P.isFlag c && P.isFlag d) = true then _ else _) = _; rw [hc, hd]; rfl)
          rw [hc] at HFc
          rw [hd] at HFd
          replace HFc := Lib.hid HFc
          replace HFd := Lib.hid HFd
          clear hc hd
          go_enter Tryz.func233, Tryz.ntmps233
          go_wp2_with (first
            | (go_at_call 283; refine (HP.out (w.heap.size + 1) _ (by simp) (Hw.out.mono (below_alloc _ _))).mono ?_; rintro e w1 ⟨cap, rfl, hcap, hcells, hb1⟩; have HR1 := Lib.hid ((HasRow.new w #[.string ⟨#[]⟩, .string ⟨#[]⟩, .bool false, .bool false] 46).below hb1); have HB1 := Lib.hid (bstep (below_alloc w (.cells #[.string ⟨#[]⟩, .string ⟨#[]⟩, .bool false, .bool false] 46)) hb1); obtain ⟨k0, k1, k2, k3⟩ := four_cells hcells; clear hcells)
            | (go_at_call_of 284 (Value.string c); refine (HFc.out _).mono ?_; rintro e w' ⟨rfl, rfl⟩)
            | (go_at_call_of 284 (Value.string d); refine (HFd.out _).mono ?_; rintro e w' ⟨rfl, rfl⟩))
          go_region_held3 (fun W => W.cell? ⟨w.heap.size + 1, 0, none⟩ = some (.string a) ∧ W.cell? ⟨w.heap.size + 1, 1, none⟩ = some (.string b) ∧ W.cell? ⟨w.heap.size + 1, 2, none⟩ = some (.string c) ∧ W.cell? ⟨w.heap.size + 1, 3, none⟩ = some (.string d))
            (first | exact ⟨k0, k1, k2, k3⟩ | with_reducible assumption | exact w4_keep (by with_reducible assumption) (below_alloc _ _) | exact w4_keep ⟨k0, k1, k2, k3⟩ ((Below.refl _ _).drew) | exact w4_keep ⟨k0, k1, k2, k3⟩ ((below_alloc _ _).drew))
            (first | fail)
          have HR5 := Lib.hid (HR1.out.alloc (.cells #[.string a, .string b, .bool (c.toList == [49]), .bool (d.toList == [49])] 46))
          have HB5 := Lib.hid (bstep HB1.out (below_alloc w1 (.cells #[.string a, .string b, .bool (c.toList == [49]), .bool (d.toList == [49])] 46)))
          have HN5 := Lib.hid (HasRow.new w1 #[.string a, .string b, .bool (c.toList == [49]), .bool (d.toList == [49])] 46)
          generalize w1.alloc (.cells #[.string a, .string b, .bool (c.toList == [49]), .bool (d.toList == [49])] 46) = W5 at *
          generalize (c.toList == [49]) = x at *
          generalize (d.toList == [49]) = y at *
          obtain ⟨n0, n1, n2, n3, _⟩ := hrow4 HN5.out
          obtain ⟨c0, c1, c2, c3, _⟩ := hrow4 HR5.out
          have f0 := HR5.out.free 0
          have f1 := HR5.out.free 1
          have f2 := HR5.out.free 2
          have f3 := HR5.out.free 3
          have HS := Lib.hid (store4 HR5.out HB5.out (Nat.le_refl _) (.string a) (.string b) (.bool x) (.bool y))
          clear hcap k0 k1 k2 k3 hb1
          cases hwa : P.isWord a
          all_goals
            rw [hwa] at hr
            have HW := Lib.hid (fun t W => isWord_any t W)
            clear HWa HWb
            go_wp2_with fail
            first | (go_region_with (go_at_call 237; refine (HW.out _ _).mono ?_; rintro e w' ⟨rfl, rfl⟩)) | fail "no way"
          all_goals (try go_wp2_with fail)
          all_goals
            clear c0 c1 c2 c3 f0 f1 f2 f3
            obtain ⟨d0, d1, d2, d3, _⟩ := hrow4 HS.out.1
            refine bodyPost_ret (v := .tuple #[.agg #[.string a, .string b, .bool x, .bool y], .bool _]) ?_ rfl ⟨by rw [hr.out]; rfl, by first | exact HS.out.2.drew | exact HS.out.2.drew.drew | exact HS.out.2⟩
            simp [results, Tryz.results233, go_sem, d0, d1, d2, d3]
  · have hr := Lib.hid (P.svcRead_other h4)
    have g1 : ((l.length : Int) != 4) = true := by simp; omega
    clear h4
    go_enter Tryz.func233, Tryz.ntmps233
    go_wp2_with (go_at_call 283; refine (HP.out (w.heap.size + 1) _ (by simp) (Hw.out.mono (below_alloc _ _))).mono ?_; rintro e w1 ⟨cap, rfl, hcap, hcells, hb1⟩; have HR1 := Lib.hid ((HasRow.new w #[.string ⟨#[]⟩, .string ⟨#[]⟩, .bool false, .bool false] 46).below hb1); have HB1 := Lib.hid (bstep (below_alloc w (.cells #[.string ⟨#[]⟩, .string ⟨#[]⟩, .bool false, .bool false] 46)) hb1); obtain ⟨c0, c1, c2, c3, _⟩ := hrow4 HR1.out; have f0 := HR1.out.free 0; have f1 := HR1.out.free 1; have f2 := HR1.out.free 2; have f3 := HR1.out.free 3)
    have HS := Lib.hid (store4 HR1.out HB1.out (Nat.le_refl _) (.string ⟨#[]⟩) (.string ⟨#[]⟩) (.bool false) (.bool false))
    clear c0 c1 c2 c3 f0 f1 f2 f3
    obtain ⟨d0, d1, d2, d3, _⟩ := hrow4 HS.out.1
    refine bodyPost_ret (v := .tuple #[.agg #[.string ⟨#[]⟩, .string ⟨#[]⟩, .bool false, .bool false], .bool false]) ?_ rfl ⟨by rw [hr.out]; rfl, HS.out.2⟩
    simp [results, Tryz.results233, go_sem, d0, d1, d2, d3]
end Go.Proofs.YtomikcemiacjmaaGreatDoor

namespace Go.Proofs.YtomikcemiacjmaaGreatDoor
open Go.RowKit Go.Lib Go.Shelf Go.Maps

set_option maxRecDepth 100000 in
set_option maxHeartbeats 4000000 in
theorem readSvc_any (line : ByteArray) (hs : line.size ≤ 10000000) (base N : Nat) (A : Ad) (m : P.Mach) (w : World) (hw : Good w) (he : Es w) (h : PS base w N A m)
    (hl : m.facts.length + m.files.length + m.sets.length + m.svcs.length ≤ 10000000) (hwd : (P.cutA line 32).toList = P.wSvc) :
    Calls Tryz.prog 153 #[.pointer (some ⟨N, 0, none⟩), .string line] w fun e w' => RT base N w (P.readSvc m (P.cutB line 32)) e w' := by
  have HC := Lib.hid (fun W hW => cut_any line 32 (by omega) W hW)
  have HP := Lib.hid (fun W hW hE => readPair_any (P.cutB line 32) (by have := cutB_le line 32; omega) W hW hE)
  have HV := Lib.hid (fun W hW => readService_any (P.cutB line 32) (by have := cutB_le line 32; omega) W hW)
  have Hw := Lib.hid hw
  have HE := Lib.hid he
  have HS := Lib.hid h
  have mixed : Tryz.prog.follows .mixedOrders = true := by kernel_rfl
  obtain ⟨i0, hi, hz0, hz1, hz2⟩ := info_parts info46
  clear hw he h
  unfold P.readSvc RT
  generalize P.cutA line 32 = wd at *
  generalize P.cutB line 32 = r at *
  generalize P.pairK r = k at *
  generalize P.pairV r = v at *
  unfold P.wSvc at hwd
  generalize P.pairOk r = ok at *
  generalize P.svcRead (P.svcWords r) = y at *
  obtain ⟨⟨sn, sp, sa, so⟩, sok⟩ := y
  unfold svcAgg at HV
  simp only at HV ⊢
  go_enter Tryz.func153, Tryz.ntmps153
  go_wp2_with (first
    | (go_at_call 155; refine (HC.out _ Hw.out).mono ?_; rintro e w1 ⟨rfl, hb1⟩)
    | (go_at_call 232; refine (HP.out _ (Hw.out.mono hb1) (HE.out.mono Hw.out hb1)).mono ?_; rintro e w2 ⟨rfl, hb2⟩; have HB2a := Lib.hid (bstep (bstep hb1 hb2) (below_alloc w2 (.cells #[.string k, .string v] 62))))
    | (go_at_call 233; refine (HV.out _ (Hw.out.mono HB2a.out)).mono ?_; rintro e w4 ⟨rfl, hb4⟩))
  have HB5 := Lib.hid (bstep (bstep HB2a.out hb4) (below_alloc w4 (.cells #[.string sn, .string sp, .bool sa, .bool so] 46)))
  have HS5 := Lib.hid (HS.out.below HB5.out)
  have HN5 := Lib.hid (HasRow.new w4 #[.string sn, .string sp, .bool sa, .bool so] 46)
  generalize w4.alloc (.cells #[.string sn, .string sp, .bool sa, .bool so] 46) = W5 at *
  obtain ⟨n0, n1, n2, n3, _⟩ := hrow4 HN5.out
  obtain ⟨r0, r1, r2, r3, hN⟩ := hrow4 HS5.out.row
  have m0 := cell_keep (below_alloc W5 (.cells #[.string sn, .string sp, .bool sa, .bool so] 46)) r3
  have hwb := HS5.out.hb
  have hlen : m.svcs.length ≤ 10000000 := by omega
  go_region_law
    (first
      | (refine step_append_own5 rfl _ _ 24 rfl base 46 i0 _ 4 40 Tryz.underlying24 hi hz0 hz1 hz2 rfl (by decide) _ _ _ rfl (own_below (W := W5) HS5.out.own.v (below_alloc W5 (.cells #[.string sn, .string sp, .bool sa, .bool so] 46)).drew) ⟨W5.heap.size, 0, none⟩ 1 1 (cellsV ⟨sn, sp, sa, so⟩) rfl rfl (cells_new W5 (cellsV ⟨sn, sp, sa, so⟩) 46) (by intro u hu; simp [cellsV] at hu; rcases hu with rfl | rfl | rfl | rfl <;> rfl) (by unfold maxLen; omega) (by omega) (by simp; omega) ?_; intro p' c' w3 hown hgrow hblk; obtain ⟨q1, q2, q3, q4⟩ := HS5.out.addV (x := ⟨sn, sp, sa, so⟩) (below_alloc W5 (.cells #[.string sn, .string sp, .bool sa, .bool so] 46)).drew hown hgrow hblk))
  all_goals
    have HB6 := Lib.hid (((HB5.out.mono (show N ≤ w.heap.size from Nat.le_of_lt HS.out.row.lt)).trans q4))
    have HS6 := Lib.hid q3
    go_wp2_with fail
    go_ret
    exact ⟨_, by first | rfl | (simp; done), by first | exact HS6.out | exact HS6.out.drew, by first | exact HB6.out | exact HB6.out.drew⟩
end Go.Proofs.YtomikcemiacjmaaGreatDoor

namespace Go.Proofs.YtomikcemiacjmaaGreatDoor
open Go.RowKit Go.Lib Go.Shelf Go.Maps

theorem readOther_any (line : ByteArray) (hs : line.size ≤ 10000000) (base N : Nat) (A : Ad) (m : P.Mach) (w : World) (hw : Good w) (he : Es w) (h : PS base w N A m)
    (h1 : (P.cutA line 32).toList ≠ P.wFact) (h2 : (P.cutA line 32).toList ≠ P.wFile) (h3 : (P.cutA line 32).toList ≠ P.wRun) (h4 : (P.cutA line 32).toList ≠ P.wSet) (h5 : (P.cutA line 32).toList ≠ P.wSvc) :
    Calls Tryz.prog 153 #[.pointer (some ⟨N, 0, none⟩), .string line] w fun e w' => RT base N w (m, false) e w' := by
  have HC := Lib.hid (fun W hW => cut_any line 32 (by omega) W hW)
  have HP := Lib.hid (fun W hW hE => readPair_any (P.cutB line 32) (by have := cutB_le line 32; omega) W hW hE)
  have Hw := Lib.hid hw
  have HE := Lib.hid he
  have HS := Lib.hid h
  have g1 : ((P.cutA line 32).toList == [102, 97, 99, 116]) = false := beq_eq_false_iff_ne.2 h1
  have g2 : ((P.cutA line 32).toList == [102, 105, 108, 101]) = false := beq_eq_false_iff_ne.2 h2
  have g3 : ((P.cutA line 32).toList == [114, 117, 110]) = false := beq_eq_false_iff_ne.2 h3
  have g4 : ((P.cutA line 32).toList == [115, 101, 116]) = false := beq_eq_false_iff_ne.2 h4
  have g5 : ((P.cutA line 32).toList == [115, 101, 114, 118, 105, 99, 101]) = false := beq_eq_false_iff_ne.2 h5
  clear hw he h h1 h2 h3 h4 h5
  unfold RT
  generalize P.cutA line 32 = wd at *
  generalize P.cutB line 32 = r at *
  generalize P.pairK r = k at *
  generalize P.pairV r = v at *
  go_enter Tryz.func153, Tryz.ntmps153
  go_wp2_with (first
    | (go_at_call 155; refine (HC.out _ Hw.out).mono ?_; rintro e w1 ⟨rfl, hb1⟩)
    | (go_at_call 232; refine (HP.out _ (Hw.out.mono hb1) (HE.out.mono Hw.out hb1)).mono ?_; rintro e w2 ⟨rfl, hb2⟩))
  have HB5 := Lib.hid (bstep (bstep hb1 hb2) (below_alloc w2 (.cells #[.string k, .string v] 62)))
  go_ret
  exact ⟨A, rfl, HS.out.below HB5.out, HB5.out.mono (Nat.le_of_lt HS.out.row.lt)⟩

theorem readThing_any (line : ByteArray) (hs : line.size ≤ 10000000) (base N : Nat) (A : Ad) (m : P.Mach) (w : World) (hw : Good w) (he : Es w) (h : PS base w N A m)
    (hl : m.facts.length + m.files.length + m.sets.length + m.svcs.length ≤ 10000000) :
    Calls Tryz.prog 153 #[.pointer (some ⟨N, 0, none⟩), .string line] w fun e w' => RT base N w (P.readThing m line) e w' := by
  unfold P.readThing
  by_cases h1 : (P.cutA line 32).toList = P.wFact
  · rw [if_pos h1]; exact readFact_any line hs base N A m w hw he h hl h1
  · rw [if_neg h1]
    by_cases h2 : (P.cutA line 32).toList = P.wFile
    · rw [if_pos h2]; exact readFileF_any line hs base N A m w hw he h hl h2
    · rw [if_neg h2]
      by_cases h3 : (P.cutA line 32).toList = P.wRun
      · rw [if_pos h3]; exact readFileR_any line hs base N A m w hw he h hl h3
      · rw [if_neg h3]
        by_cases h4 : (P.cutA line 32).toList = P.wSet
        · rw [if_pos h4]; exact readSet_any line hs base N A m w hw he h hl h4
        · rw [if_neg h4]
          by_cases h5 : (P.cutA line 32).toList = P.wSvc
          · rw [if_pos h5]; exact readSvc_any line hs base N A m w hw he h hl h5
          · rw [if_neg h5]; exact readOther_any line hs base N A m w hw he h h1 h2 h3 h4 h5
end Go.Proofs.YtomikcemiacjmaaGreatDoor

namespace Go.Proofs.YtomikcemiacjmaaGreatDoor
open Go.RowKit Go.Lib Go.Shelf Go.Maps

namespace P
noncomputable def readF : Nat → Mach → ByteArray → Nat → Mach × Nat × Int
  | 0, m, _, _ => (m, 0, 0)
  | f + 1, m, t, n =>
    if t.toList = [] then (m, 0, 0)
    else if cutOk t 10 = false then (m, n, 8)
    else if (readThing m (cutA t 10)).2 = false then ((readThing m (cutA t 10)).1, n, 8)
    else readF f (readThing m (cutA t 10)).1 (cutB t 10) (n + 1)
theorem cutB_lt {t : ByteArray} (h : cutOk t 10 = true) : (cutB t 10).size < t.size := by
  unfold cutOk Lib.cut at h
  unfold cutB Lib.cut
  rw [txt_size]
  split at h
  · rename_i h0
    rw [if_pos h0]
    have hl : t.data.toList ≠ [] := by
      intro e
      rw [e] at h0
      revert h0
      decide
    have := List.length_pos_iff.2 hl
    rw [size_len] at this
    simp only [List.length_drop, List.length_cons, List.length_nil]
    rw [size_len]; omega
  · cases h
theorem readF_more : ∀ (f g : Nat) (m : Mach) (t : ByteArray) (n : Nat), t.size ≤ f → t.size ≤ g → readF f m t n = readF g m t n
  | 0, 0, m, t, n, _, _ => rfl
  | 0, g + 1, m, t, n, h, _ => by
    have e : t.toList = [] := by rw [Lib.toList_data]; exact List.length_eq_zero_iff.1 (by rw [size_len]; omega)
    unfold readF; rw [if_pos e]
  | f + 1, 0, m, t, n, _, h => by
    have e : t.toList = [] := by rw [Lib.toList_data]; exact List.length_eq_zero_iff.1 (by rw [size_len]; omega)
    unfold readF; rw [if_pos e]
  | f + 1, g + 1, m, t, n, h, h' => by
    unfold readF
    by_cases e : t.toList = []
    · rw [if_pos e, if_pos e]
    · rw [if_neg e, if_neg e]
      by_cases e2 : cutOk t 10 = false
      · rw [if_pos e2, if_pos e2]
      · rw [if_neg e2, if_neg e2]
        have := cutB_lt (t := t) (by simpa using e2)
        rw [readF_more f g _ _ _ (by omega) (by omega)]
/-- what is read line by line: the machine, the number of the line, the error -/
noncomputable def readAll (m : Mach) (t : ByteArray) (n : Nat) : Mach × Nat × Int := readF t.size m t n
theorem readAll_nil {m : Mach} {t : ByteArray} {n : Nat} (h : t.toList = []) : readAll m t n = (m, 0, 0) := by
  unfold readAll
  have : t.size = 0 := by rw [← size_len, ← Lib.toList_data, h]; rfl
  rw [this]; rfl
theorem readAll_cut {m : Mach} {t : ByteArray} {n : Nat} (h : t.toList ≠ []) (h2 : cutOk t 10 = false) : readAll m t n = (m, n, 8) := by
  have hp : 0 < t.size := by rw [← size_len]; rw [Lib.toList_data] at h; exact List.length_pos_iff.2 h
  unfold readAll
  obtain ⟨k, hk⟩ : ∃ k, t.size = k + 1 := ⟨t.size - 1, by omega⟩
  rw [hk, readF, if_neg h, if_pos h2]
theorem readAll_bad {m : Mach} {t : ByteArray} {n : Nat} (h : t.toList ≠ []) (h2 : cutOk t 10 = true) (h3 : (readThing m (cutA t 10)).2 = false) : readAll m t n = ((readThing m (cutA t 10)).1, n, 8) := by
  have hp : 0 < t.size := by rw [← size_len]; rw [Lib.toList_data] at h; exact List.length_pos_iff.2 h
  unfold readAll
  obtain ⟨k, hk⟩ : ∃ k, t.size = k + 1 := ⟨t.size - 1, by omega⟩
  rw [hk, readF, if_neg h, if_neg (by rw [h2]; decide), if_pos h3]
theorem readAll_step {m : Mach} {t : ByteArray} {n : Nat} (h : t.toList ≠ []) (h2 : cutOk t 10 = true) (h3 : (readThing m (cutA t 10)).2 = true) : readAll m t n = readAll (readThing m (cutA t 10)).1 (cutB t 10) (n + 1) := by
  have hp : 0 < t.size := by rw [← size_len]; rw [Lib.toList_data] at h; exact List.length_pos_iff.2 h
  have := cutB_lt h2
  unfold readAll
  obtain ⟨k, hk⟩ : ∃ k, t.size = k + 1 := ⟨t.size - 1, by omega⟩
  rw [hk, readF, if_neg h, if_neg (by rw [h2]; decide), if_neg (by rw [h3]; decide), readF_more k _ _ _ _ (by omega) (Nat.le_refl _)]
def lens (m : Mach) : Nat := m.facts.length + m.files.length + m.sets.length + m.svcs.length
theorem lens_thing (m : Mach) (l : ByteArray) : lens (readThing m l).1 ≤ lens m + 1 := by
  unfold readThing readFact readFile readSet readSvc lens
  split
  · simp; omega
  · split
    · simp; omega
    · split
      · simp; omega
      · split
        · simp; omega
        · split
          · simp; omega
          · simp
end P
theorem parse1_any (line : ByteArray) (hs : line.size ≤ 10000000) (base N : Nat) (A : Ad) (m : P.Mach) (w : World) (hw : Good w) (he : Es w) (h : PS base w N A m) (hl : P.lens m ≤ 10000000) :
    Calls Tryz.prog 152 #[.string line, .pointer (some ⟨N, 0, none⟩)] w fun e w' => RT base N w (P.readThing m line) e w' := by
  have H := Lib.hid (readThing_any line hs base N A m w hw he h hl)
  clear hw he h hl
  go_enter Tryz.func152, Tryz.ntmps152
  go_wp2_with (go_at_call 153; refine H.out.mono ?_; rintro e w' ⟨A', rfl, h2, h3⟩)
  go_ret
  exact ⟨A', rfl, h2, h3⟩
end Go.Proofs.YtomikcemiacjmaaGreatDoor

namespace Go.Proofs.YtomikcemiacjmaaGreatDoor
open Go.RowKit Go.Lib Go.Shelf Go.Maps

set_option maxRecDepth 100000 in
theorem readLines_large (t : ByteArray) (f : Value) (h : 4194304 < t.size) (w : World) :
    Calls Tryz.prog 151 #[.string t, f] w fun e w' => e = .returned (.tuple #[.int .i64 0, .int .i64 4]) ∧ w = w' := by
  have g : decide ((4194304 : Int) < (t.size : Int)) = true := decide_eq_true (by omega)
  clear h
  go_enter Tryz.func151, Tryz.ntmps151
  go_wp2_with fail
  go_ret2
  exact ⟨rfl, rfl⟩

theorem Good.monoN {N : Nat} {w w' : World} (h : Good w) (hN : 8 ≤ N) (hb : Below N w w') : Good w' where
  m := let ⟨m, e⟩ := h.m; ⟨m, by rw [hb.cell (p := ⟨0, 0, none⟩) (show 0 < N by omega)]; exact e⟩
  sz := Nat.le_trans h.sz hb.size
theorem Es.monoN {N : Nat} {w w' : World} (h : Es w) (hN : 8 ≤ N) (hb : Below N w w') : Es w' :=
  ⟨let ⟨ev, h1, h2⟩ := h.e; ⟨ev, by rw [hb.cell (p := ⟨2, 0, none⟩) (show 2 < N by omega)]; exact h1, h2⟩⟩
/-- what readLines leaves -/
def RL (base N : Nat) (w : World) (r : P.Mach × Nat × Int) (e : Ending) (w' : World) : Prop := ∃ A', e = .returned (.tuple #[.int .i64 (r.2.1 : Int), .int .i64 r.2.2]) ∧ PS base w' N A' r.1 ∧ Below N w w'

set_option maxRecDepth 100000 in
set_option maxHeartbeats 4000000 in
theorem readLines_any (t0 : ByteArray) (L : Nat) (hs : t0.size ≤ L) (hL : L ≤ 4194304) (base N : Nat) (hN8 : 8 ≤ N) (A : Ad) (w : World) (hw : Good w) (he : Es w) (h : PS base w N A ⟨[], [], [], []⟩) :
    Calls Tryz.prog 151 #[.string t0, .func (.func 152) #[] #[.pointer (some ⟨N, 0, none⟩)]] w fun e w' => RL base N w (P.readAll ⟨[], [], [], []⟩ t0 0) e w' := by
  have g : decide ((4194304 : Int) < (t0.size : Int)) = false := decide_eq_false (by omega)
  have HF := Lib.hid (fun line hs A m W hw he h hl => parse1_any line hs base N A m W hw he h hl)
  have Hw := Lib.hid hw
  have HE := Lib.hid he
  have HS := Lib.hid h
  have HC := Lib.hid (fun t hs W hW => cut_any t 10 hs W hW)
  have eB := enters_of Tryz.func152 (by kernel_rfl) rfl
  have HN : Hid (N ≤ w.heap.size) := Lib.hid (Nat.le_of_lt h.row.lt)
  have hL2 : (L : Int) ≤ 4194304 := by omega
  unfold RL
  generalize hR : P.readAll ⟨[], [], [], []⟩ t0 0 = R
  replace hR := Lib.hid hR
  clear hw he h hL
  go_enter Tryz.func151, Tryz.ntmps151
  go_wp2_with fail
  clear g
  go_loopw [0, 6] (fun q i wr => ∃ (t : ByteArray) (k : Nat) (A' : Ad) (m : P.Mach), q = .string t ∧ i = .int .i64 k ∧ k + t.size ≤ L ∧ P.lens m ≤ k ∧ Hid (PS base wr N A' m) ∧ Hid (P.readAll m t k = R) ∧ Hid (Below N w wr)) (fun q _ _ => strLen q)
  case atStart => exact ⟨t0, 0, A, ⟨[], [], [], []⟩, rfl, rfl, by omega, Nat.le_refl _, HS, hR, Lib.hid (Below.refl _ _)⟩
  case round =>
    obtain ⟨t, k, A', m, rfl, rfl, hk, hm, HP, HR, HB⟩ := hrel
    have HGw := Lib.hid (Hw.out.monoN hN8 HB.out)
    have HEw := Lib.hid (HE.out.monoN hN8 HB.out)
    have HK1 : IntKind.i64.wrap ((k : Int) + 1) = ((k + 1 : Nat) : Int) := by rw [IntKind.wrap_i64]; omega
    have HL9 : Hid (L ≤ 4194304) := Lib.hid (by omega)
    clear hL2
    cases ht : t.toList.isEmpty with
    | true =>
      have hem := eq_of ht
      have hr := Lib.hid (P.readAll_nil (m := m) (n := k) hem)

      go_wp2_with fail
      go_ret2
      exact ⟨A', by rw [← HR.out, hr.out]; rfl, by rw [← HR.out, hr.out]; exact HP.out, HB.out⟩
    | false =>
      have hne := ne_of ht
      have hp := pos_of ht
      have HCt := Lib.hid (fun W hW => HC.out t (by have := HL9.out; omega) W hW)
      have HZ := Lib.hid (cutA_le t 10)
      have hv1 := Lib.hid (fun h2 => P.readAll_cut (m := m) (n := k) hne h2)
      have hv2 := Lib.hid (fun h2 h3 => P.readAll_bad (m := m) (n := k) hne h2 h3)
      have hv3 := Lib.hid (fun h2 h3 => P.readAll_step (m := m) (n := k) hne h2 h3)
      have hlt := Lib.hid (fun h2 => P.cutB_lt (t := t) h2)
      have hln := Lib.hid (P.lens_thing m (P.cutA t 10))
      generalize hcut : P.cutOk t 10 = c at *
      generalize P.cutA t 10 = l at *
      generalize P.cutB t 10 = r at *
      cases c with
      | false =>
        have hr := Lib.hid (hv1.out rfl)
        clear hv1 hv2 hv3 hcut
        go_wp2_with (go_at_call 155; refine (HCt.out _ HGw.out).mono ?_; rintro e w1 ⟨rfl, hb1⟩)
        have HB1 := Lib.hid (HB.out.trans (hb1.mono (Nat.le_of_lt HP.out.row.lt)))
        go_ret2
        exact ⟨A', by rw [← HR.out, hr.out]; rfl, by rw [← HR.out, hr.out]; exact HP.out.below hb1, HB1.out⟩
      | true =>
        have HFt := Lib.hid (fun W hW hE hPS => HF.out l (by have := HZ.out; have := HL9.out; omega) A' m W hW hE hPS (by have := HL9.out; omega))
        replace hlt := Lib.hid (hlt.out rfl)
        cases hok : (P.readThing m l).2 with
        | false =>
          have hr := Lib.hid (hv2.out rfl hok)
          generalize P.readThing m l = y at *
          obtain ⟨m', ok⟩ := y
          simp only at hok
          subst hok
          clear hv1 hv2 hv3 hcut
          go_wp2_with (first
            | (go_at_call 155; refine (HCt.out _ HGw.out).mono ?_; rintro e w1 ⟨rfl, hb1⟩; have HP1 := Lib.hid (HP.out.below hb1); have HB1 := Lib.hid (HB.out.trans (hb1.mono (Nat.le_of_lt HP.out.row.lt))))
            | (go_at_call 152; refine (HFt.out _ (Hw.out.monoN hN8 HB1.out) (HE.out.monoN hN8 HB1.out) HP1.out).mono ?_; rintro e w2 ⟨A2, rfl, hp2, hb2⟩))
          have HB2 := Lib.hid (HB1.out.trans hb2)
          go_ret2
          exact ⟨A2, by rw [← HR.out, hr.out]; rfl, by rw [← HR.out, hr.out]; exact hp2, HB2.out⟩
        | true =>
          have hr := Lib.hid (hv3.out rfl hok)
          generalize P.readThing m l = y at *
          obtain ⟨m', ok⟩ := y
          simp only at hok
          subst hok
          clear hv1 hv2 hv3 hcut
          go_wp2_with (first
            | (go_at_call 155; refine (HCt.out _ HGw.out).mono ?_; rintro e w1 ⟨rfl, hb1⟩; have HP1 := Lib.hid (HP.out.below hb1); have HB1 := Lib.hid (HB.out.trans (hb1.mono (Nat.le_of_lt HP.out.row.lt))))
            | (go_at_call 152; refine (HFt.out _ (Hw.out.monoN hN8 HB1.out) (HE.out.monoN hN8 HB1.out) HP1.out).mono ?_; rintro e w2 ⟨A2, rfl, hp2, hb2⟩))
          have HB2 := Lib.hid (HB1.out.trans hb2)
          have HP2 := Lib.hid hp2
          have HR2 := Lib.hid (hr.out.symm.trans HR.out)
          go_roundw
          case rel => exact ⟨r, k + 1, A2, m', rfl, by go_num, by have := hlt.out; omega, by have h1 : P.lens m' ≤ P.lens m + 1 := hln.out; omega, HP2, HR2, HB2⟩
          case measure => have := hlt.out; simpa [strLen] using this
end Go.Proofs.YtomikcemiacjmaaGreatDoor

namespace Go.Proofs.YtomikcemiacjmaaGreatDoor
open Go.RowKit Go.Lib Go.Shelf Go.Maps

theorem HasRow.belowN {W W' : World} {k N : Nat} {vs : Array Value} (h : HasRow W k vs) (hb : Below N W W') (hk : k < N) : HasRow W' k vs :=
  ⟨fun i => by rw [hb.cell (p := ⟨k, i, none⟩) hk]; exact h.cell i, fun i => by rw [hb.frozen (p := ⟨k, i, none⟩) hk]; exact h.free i, Nat.lt_of_lt_of_le h.lt hb.size⟩
abbrev adz : Ad := ⟨none, none, none, none, 0, 0, 0, 0⟩
theorem PS.start (w : World) : PS (w.heap.size + 2) ((w.alloc (.cells mz 26)).alloc (.cells mz 26)) (w.heap.size + 1) adz ⟨[], [], [], []⟩ := by
  have hr := HasRow.new (w.alloc (.cells mz 26)) mz 26
  rw [World.size_alloc] at hr
  refine ⟨hr, ⟨⟨rfl, .inl ⟨rfl, rfl⟩⟩, ⟨rfl, .inl ⟨rfl, rfl⟩⟩, ⟨rfl, .inl ⟨rfl, rfl⟩⟩, ⟨rfl, .inl ⟨rfl, rfl⟩⟩⟩, by omega, by simp, ?_, ?_, ?_, ?_, ?_, ?_⟩
  all_goals (intro p q h; cases h)

end Go.Proofs.YtomikcemiacjmaaGreatDoor
