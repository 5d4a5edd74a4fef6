/- Walks: read of package ver. -/
import Derived.Test.YtffblkkhjphcfaaGreatDoorRead
namespace Go.Proofs.YtffblkkhjphcfaaGreatDoor
open Go.RowKit Go.Shelf

def readR : Option (Int × Int × Int × ByteArray) → Value
  | none => .tuple #[.agg #[.int .i64 0, .int .i64 0, .int .i64 0, .string ⟨#[]⟩], .bool false]
  | some x => .tuple #[.agg #[.int .i64 x.1, .int .i64 x.2.1, .int .i64 x.2.2.1, .string x.2.2.2], .bool true]

theorem readV_tail {s : ByteArray} (h1 : P.hasTail s = true) (h2 : (P.tailS s).toList.isEmpty = true) : P.readV s = none := by unfold P.readV; rw [h1, h2]; rfl
theorem readV_go {s : ByteArray} (h : (P.hasTail s && (P.tailS s).toList.isEmpty) = false) : P.readV s = (P.words3 (P.splitS (P.headS s) 46)).map fun x => (x.1, x.2.1, x.2.2, P.tailS s) := by unfold P.readV; rw [h]; rfl
theorem words3_len {l : List ByteArray} (h : l.length ≠ 3) : P.words3 l = none := by
  match l, h with
  | [], _ => rfl
  | [_], _ => rfl
  | [_, _], _ => rfl
  | [_, _, _], h => exact absurd rfl h
  | _ :: _ :: _ :: _ :: _, _ => rfl

theorem row4 {W : World} {k : Nat} {v0 v1 v2 v3 : Value} (h : HasRow W k #[v0, v1, v2, v3]) :
    W.cell? ⟨k, 0, none⟩ = some v0 ∧ W.cell? ⟨k, 1, none⟩ = some v1 ∧ W.cell? ⟨k, 2, none⟩ = some v2 ∧ W.cell? ⟨k, 3, none⟩ = some v3 ∧
    W.frozen? ⟨k, 0, none⟩ = false ∧ W.frozen? ⟨k, 1, none⟩ = false ∧ W.frozen? ⟨k, 2, none⟩ = false ∧ W.frozen? ⟨k, 3, none⟩ = false ∧ k < W.heap.size :=
  ⟨h.cell 0, h.cell 1, h.cell 2, h.cell 3, h.free 0, h.free 1, h.free 2, h.free 3, h.lt⟩
theorem row3 {W : World} {k : Nat} {v0 v1 v2 : Value} (h : HasRow W k #[v0, v1, v2]) :
    W.cell? ⟨k, 0, none⟩ = some v0 ∧ W.cell? ⟨k, 1, none⟩ = some v1 ∧ W.cell? ⟨k, 2, none⟩ = some v2 ∧
    W.frozen? ⟨k, 0, none⟩ = false ∧ W.frozen? ⟨k, 1, none⟩ = false ∧ W.frozen? ⟨k, 2, none⟩ = false ∧ k < W.heap.size :=
  ⟨h.cell 0, h.cell 1, h.cell 2, h.free 0, h.free 1, h.free 2, h.lt⟩
theorem below_set4' {w w1 : World} {k : Nat} (h : Below w.heap.size w w1) (hk : w.heap.size ≤ k) (v0 v1 v2 v3 : Value) :
    Below w.heap.size w ((((w1.setCell ⟨k, 0, none⟩ v0).setCell ⟨k, 1, none⟩ v1).setCell ⟨k, 2, none⟩ v2).setCell ⟨k, 3, none⟩ v3) :=
  (((h.setCell hk _).setCell hk _).setCell hk _).setCell hk _

set_option maxHeartbeats 1000000 in
theorem read_tail (s : ByteArray) (hs : s.size ≤ 4294967280) (w : World) (hw : Good w) (h1 : P.hasTail s = true) (h2 : (P.tailS s).toList.isEmpty = true) :
    Calls Tryz.prog 76 #[.string s] w fun e w' => e = .returned (readR (P.readV s)) ∧ Below w.heap.size w w' := by
  rw [readV_tail h1 h2]
  have HC := Lib.hid (fun W hW => cut_any s hs W hW)
  rw [h1] at HC
  generalize P.headS s = hd at *
  generalize P.tailS s = tl at *
  have Hw := Lib.hid hw
  clear hw h1
  go_enter Tryz.func76, Tryz.ntmps76
  go_wp2_with fail
  refine (HC.out _ (Hw.out.mono (below_alloc _ _))).mono ?_
  rintro e w1 ⟨rfl, hb1⟩
  have R1 := (HasRow.new w _ _).below hb1
  obtain ⟨d0, d1, d2, d3, f0, f1, f2, f3, hlt⟩ := row4 R1
  have HB1 := Lib.hid (below_step (below_alloc _ _) hb1)
  clear hb1 R1
  go_wp2
  refine bodyPost_ret (v := readR none) ?_ rfl ⟨rfl, ?_⟩
  · clear HB1 HC Hw
    simp [results, readR, Tryz.results76, go_sem, d0, d1, d2, d3]
  · exact below_set4' HB1.out (Nat.le_refl _) _ _ _ _

set_option maxHeartbeats 1000000 in
theorem read_words (s : ByteArray) (hs : s.size ≤ 4294967280) (w : World) (hw : Good w) (h : (P.hasTail s && (P.tailS s).toList.isEmpty) = false) (h3 : (P.splitS (P.headS s) 46).length ≠ 3) :
    Calls Tryz.prog 76 #[.string s] w fun e w' => e = .returned (readR (P.readV s)) ∧ Below w.heap.size w w' := by
  rw [readV_go h, words3_len h3]
  have HC := Lib.hid (fun W hW => cut_any s hs W hW)
  have hsz := P.headS_size s
  have h4 := P.split4_other h3
  have HN := Lib.hid (fun W hW => splitN_any (P.headS s) (by omega) W hW)
  have hl : (P.split4 (P.headS s)).length ≤ 4 := by
    have := Lib.splitB_length_le ⟨#[46]⟩ 0 (min 4 ((P.headS s).size + 1) - 1) (P.headS s)
    unfold P.split4; omega
  clear h3 hsz
  generalize P.split4 (P.headS s) = l at *
  generalize P.headS s = hd at *
  generalize P.tailS s = tl at *
  have h5 : (((l.length : Nat) : Int) != 3) = true := by rw [bne_iff_ne]; omega
  have Hw := Lib.hid hw
  clear hw
  cases ht : P.hasTail s <;> rw [ht] at HC h
  all_goals
    simp only [Bool.true_and, Bool.false_and] at h
    clear ht
    go_enter Tryz.func76, Tryz.ntmps76
    go_wp2_with fail
    refine (HC.out _ (Hw.out.mono (below_alloc _ _))).mono ?_
    rintro e w1 ⟨rfl, hb1⟩
    have R1 := (HasRow.new w _ _).below hb1
    have HB1 := Lib.hid (below_step (below_alloc _ _) hb1)
    clear hb1
    go_wp2_with fail
    refine (HN.out _ (Hw.out.mono HB1.out)).mono ?_
    rintro e w2 ⟨b, cap, rfl, hb, hbs, hcap, hcell, hb2⟩
    obtain ⟨d0, d1, d2, d3, f0, f1, f2, f3, hlt⟩ := row4 (R1.below hb2)
    have HB2 := Lib.hid (below_step HB1.out hb2)
    clear hb2 R1 hcell hb hbs
    go_wp2
    refine bodyPost_ret (v := readR none) ?_ rfl ⟨rfl, ?_⟩
    · clear HB1 HB2 HC Hw HN
      simp [results, readR, Tryz.results76, go_sem, d0, d1, d2, d3]
    · exact below_set4' HB2.out (Nat.le_refl _) _ _ _ _
end Go.Proofs.YtffblkkhjphcfaaGreatDoor
