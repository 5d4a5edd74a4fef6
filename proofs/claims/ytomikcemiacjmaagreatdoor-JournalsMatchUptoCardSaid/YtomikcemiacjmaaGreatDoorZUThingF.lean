/- Walks: disk's readThing: a line of a file. -/
import Derived.Test.YtomikcemiacjmaaGreatDoorZUPure

namespace Go.Proofs.YtomikcemiacjmaaGreatDoor
open Go.RowKit Go.Lib Go.Shelf Go.Maps

set_option maxRecDepth 100000 in
set_option maxHeartbeats 4000000 in
theorem readFileF_any (line : ByteArray) (hs : line.size ≤ 10000000) (base N : Nat) (A : Ad) (m : P.Mach) (w : World) (hw : Good w) (he : Es w) (h : PS base w N A m)
    (hl : m.facts.length + m.files.length + m.sets.length + m.svcs.length ≤ 10000000) (hwd : (P.cutA line 32).toList = P.wFile) :
    Calls Tryz.prog 153 #[.pointer (some ⟨N, 0, none⟩), .string line] w fun e w' => RT base N w (P.readFile m (P.cutB line 32) false) e w' := by
  have HC := Lib.hid (fun W hW => cut_any line 32 (by omega) W hW)
  have HP := Lib.hid (fun W hW hE => readPair_any (P.cutB line 32) (by have := cutB_le line 32; omega) W hW hE)
  have Hw := Lib.hid hw
  have HE := Lib.hid he
  have HS := Lib.hid h
  have mixed : Tryz.prog.follows .mixedOrders = true := by kernel_rfl
  obtain ⟨i0, hi, hz0, hz1, hz2⟩ := info_parts info42
  clear hw he h
  obtain ⟨z1, zq, y1, y2, hzq⟩ := sum2 m.sets.length m.svcs.length (by omega)
  unfold P.readFile RT
  rw [hzq]
  clear hzq
  generalize P.cutA line 32 = wd at *
  generalize P.cutB line 32 = r at *
  generalize P.pairK r = k at *
  generalize P.pairV r = v at *
  unfold P.wFile at hwd
  cases hok : P.pairOk r
  all_goals
    rw [hok] at HP
    clear hok
    go_enter Tryz.func153, Tryz.ntmps153
    go_wp2_with (first
      | (go_at_call 155; refine (HC.out _ Hw.out).mono ?_; rintro e w1 ⟨rfl, hb1⟩)
      | (go_at_call 232; refine (HP.out _ (Hw.out.mono hb1) (HE.out.mono Hw.out hb1)).mono ?_; rintro e w2 ⟨rfl, hb2⟩))
    have HB2 := Lib.hid (bstep hb1 hb2)
    have HS5 := Lib.hid (((HS.out.below hb1).below hb2).below (below_alloc w2 (.cells #[.string k, .string v] 62)))
    have HB5 := Lib.hid (bstep HB2.out (below_alloc w2 (.cells #[.string k, .string v] 62)))
    have HN5 := Lib.hid (HasRow.new w2 #[.string k, .string v] 62)
    generalize w2.alloc (.cells #[.string k, .string v] 62) = W5 at *
    obtain ⟨n0, n1, _⟩ := hrow2 HN5.out
    obtain ⟨r0, r1, r2, r3, hN⟩ := hrow4 HS5.out.row
    have m0 := cell_keep (below_alloc W5 (.cells #[.string k, .string v, .bool false] 42)) r1
    have m2 := cell_keep (below_alloc W5 (.cells #[.string k, .string v, .bool false] 42)) n0
    have m4 := cell_keep (below_alloc W5 (.cells #[.string k, .string v, .bool false] 42)) n1
    have hwb := HS5.out.hb
    have hlen : m.files.length ≤ 10000000 := by omega
    go_region_law
      (first
        | (refine step_append_own5 rfl _ _ 23 rfl base 42 i0 _ 3 40 Tryz.underlying23 hi hz0 hz1 hz2 rfl (by decide) _ _ _ rfl (own_below (W := W5) HS5.out.own.i (below_alloc W5 (.cells #[.string k, .string v, .bool false] 42)).drew) ⟨W5.heap.size, 0, none⟩ 1 1 (cellsF ⟨k, v, false⟩) rfl rfl (cells_new W5 (cellsF ⟨k, v, false⟩) 42) (by intro u hu; simp [cellsF] at hu; rcases hu with rfl | rfl | rfl <;> rfl) (by unfold maxLen; omega) (by omega) (by simp; omega) ?_; intro p' c' w3 hown hgrow hblk; obtain ⟨q1, q2, q3, q4⟩ := HS5.out.addI (x := ⟨k, v, false⟩) (below_alloc W5 (.cells #[.string k, .string v, .bool false] 42)).drew hown hgrow hblk))
    all_goals
      have HB6 := Lib.hid (((HB5.out.mono (show N ≤ w.heap.size from Nat.le_of_lt HS.out.row.lt)).trans q4))
      have HS6 := Lib.hid q3
      clear q1 q2 q3 q4 hown hgrow hblk m0 m2 m4 n0 n1 r0 r1 r2 r3
      generalize w3.setCell ⟨N, 1, none⟩ (.slice p' (m.files.length + 1) c') = W6 at *
      have s2 : W6.cell? ⟨N, 2, none⟩ = some (.slice A.a3 m.sets.length A.c3) := HS6.out.row.cell 2
      have s3 : W6.cell? ⟨N, 3, none⟩ = some (.slice A.a4 m.svcs.length A.c4) := HS6.out.row.cell 3
      go_wp2_with fail
      refine region_quiet_tail 15 mixed (by kernel_rfl) ?_
      simp only [List.take_succ_cons, List.take_zero, List.drop_succ_cons, List.drop_zero]
      repeat (first
        | go_big_quiet_step (first | fail)
        | (refine wpQuiet_step (fun K hK => ?_); go_simp; refine hK _ ?_; clear hK K))
      refine wpQuiet_nil ?_
      go_wp2_with fail
      go_ret
      exact ⟨_, by first | rfl | (simp; done), HS6.out.drew, HB6.out.drew⟩
end Go.Proofs.YtomikcemiacjmaaGreatDoor
