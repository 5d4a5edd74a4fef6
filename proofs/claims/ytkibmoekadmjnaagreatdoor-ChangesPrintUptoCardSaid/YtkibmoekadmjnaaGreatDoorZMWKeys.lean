/- Walks: package outref1: the keys of a map, in order. -/
import Derived.Test.YtkibmoekadmjnaaGreatDoorZMWMap
import Derived.Test.YtkibmoekadmjnaaGreatDoorZMGoc
import Derived.Sort.OwnSorted
import Derived.Test.YtkibmoekadmjnaaGreatDoorZMShelf

namespace Go.Proofs.YtkibmoekadmjnaaGreatDoor
open Go.RowKit Go.Shelf Go.Maps Go.Sort

theorem info9 : (Tryz.prog.info? 9).map (fun i => (i.zero, i.size, i.bytes)) = some (some (.string ⟨#[]⟩), 1, 16) := by kernel_rfl
abbrev FilesM (W : World) (B : Nat) (L : List P.Fi) : Prop := LMap codedFi P.fi0 P.Fi.p id Tryz.prog 9 W B L
abbrev SetsM (W : World) (B : Nat) (L : List P.St) : Prop := LMap codedStr ⟨#[]⟩ P.St.k P.St.v Tryz.prog 9 W B L
abbrev SvcsM (W : World) (B : Nat) (L : List P.Sv) : Prop := LMap codedSv P.sv0 P.Sv.n id Tryz.prog 9 W B L

/-- the keys that have come, sorted, are the keys of the list -/
theorem sorted_keys {α : Type} {key : α → ByteArray} {L : List α} {ss : List (List UInt8)} (hr : P.Rising key L) (hp : ss.Perm (L.map (fun x => (key x).data.toList))) : ss.mergeSort leB = L.map (fun x => (key x).data.toList) := by
  rw [mergeSort_of_perm hp]
  refine List.mergeSort_of_pairwise (List.pairwise_map.2 (hr.imp fun {a b} l => ?_))
  simp only [leB, decide_eq_true_eq]
  exact List.le_of_lt l
theorem enc_keys {α : Type} (key : α → ByteArray) (L : List α) : (L.map (fun x => (key x).data.toList)).map encStr = L.map (fun x => Value.string (key x)) := by
  rw [List.map_map]
  exact List.map_congr_left fun x _ => by simp [encStr]
/-- slices.Sort at the keys that have come: the same slice owns the list's keys -/
theorem sort_own {α : Type} (ss : List (List UInt8)) (L : List α) (key : α → ByteArray) (base g cap : Nat) (w : World) {cur : Array Value} (hbase : base ≤ g) (hb : w.heap[g]? = some (.cells cur 9 (0, 0))) (h1 : ss.length ≤ cap) (h2 : cap ≤ maxLen) (h3 : cur.size = cap * 1)
    (h4 : cur.toList.take ss.length = ss.map encStr) (hn : ss.length < 4611686018427387904) (hl : ss.length = L.length) (hsk : ss.mergeSort leB = L.map (fun x => (key x).data.toList)) :
    Calls Tryz.prog 206 #[.slice (some ⟨g, 0, none⟩) ss.length cap] w fun e w' => e = .returned (.tuple #[]) ∧ w'.ownsRow base 9 1 (.slice (some ⟨g, 0, none⟩) ss.length cap) L.length (L.map (fun x => Value.string (key x))) ∧ w.grownBy w' (some g) := by
  refine (Tryz.slices_Sort_string g 0 cap ss w (holds_of_block hb h4) (Array.getElem?_eq_some_iff.1 hb).1 hn).mono ?_
  rintro e w' ⟨rfl, n, os, rfl⟩
  have hm : (ss.mergeSort fun x y => decide (x ≤ y)) = L.map (fun x => (key x).data.toList) := hsk
  rw [hm]
  have := ownsRow_sorted (os := os) (n := n) (ss := ss) (ts := L.map (fun x => (key x).data.toList)) (by simp [hl]) hbase hb h1 h2 h3
  rw [enc_keys] at this
  refine ⟨rfl, ?_, grownBy_sorted _⟩
  rw [← hl]; exact this
theorem enc_bytes (s : ByteArray) : encStr s.data.toList = Value.string s := by simp [encStr]

set_option maxRecDepth 100000 in
set_option maxHeartbeats 1000000 in
theorem keysF_any (L : List P.Fi) (hr : P.Rising P.Fi.p L) (hfit : ∀ x ∈ L, (P.Fi.p x).size ≤ maxLen) (hlen : L.length ≤ 4294967280) (B : Nat) (w : World) (hm : FilesM w B L) :
    Calls Tryz.prog 133 #[.map (some B)] w fun e w' => ∃ v, e = .returned v ∧ w'.ownsRow w.heap.size 9 1 v L.length (L.map (fun x => Value.string x.p)) ∧ Below w.heap.size w w' := by
  obtain ⟨i0, hi, hz0, hz1, hz2⟩ := info_parts info9
  have hbl := hm.lt
  have HF := Lib.hid hfit
  have HR := Lib.hid hr
  clear hfit hr
  go_enter Tryz.func133, Tryz.ntmps133
  go_wp2_with (first
    | (at_range; refine wpList_range_L _ rfl _ 148 rfl 42 Tryz.underlying9 Tryz.underlying148 rfl hm ?_; intro w0 hrg0 hg0 hs0))
  go_frame
  have hs1 : w.heap.size + 1 ≤ w0.heap.size := by omega
  clear hs0
  go_loopw [3] (fun v wr => ∃ ss : List (List UInt8), LRange codedFi P.fi0 P.Fi.p id Tryz.prog 9 wr B w.heap.size L ss ∧ wr.ownsRow (w.heap.size + 1) 9 1 v ss.length (ss.map encStr) ∧ Below w.heap.size w wr)
    (fun _ wr => wr.rangeLeft B w.heap.size)
  case atStart => exact ⟨[], hrg0, World.ownsRow_nil _ _ _ _, (Below.refl _ _).grown hg0 (Nat.le_refl _) (fun j hj => by cases hj)⟩
  case round =>
    obtain ⟨ss, hrg, hrow, hnx⟩ := hrel
    have hrl := hrg.lt
    go_wp2_with (first
      | (at_next; refine wpList_next_L _ rfl _ rfl Tryz.underlying9 HR.out HF.out rfl hrg ?_ ?_))
    · intro hp
      have hlenss : ss.length = L.length := by simpa using hp.length_eq
      have hsk := sorted_keys HR.out hp
      rcases hrow.2 with ⟨rfl, hn0⟩ | ⟨g, cap, cur, rfl, hbase, hb, h1, h2, h3, h4⟩
      · have hc := Tryz.slices_Sort_string_none none 0 wr
        have hL : L = [] := List.length_eq_zero_iff.1 (by omega)
        rw [hn0] at hlenss
        have HLL := Lib.hid hL
        clear hL hsk hp hrow hlenss
        go_wp2_with (go_at_call 206; refine hc.mono ?_; rintro e w' ⟨rfl, rfl⟩)
        go_ret
        exact ⟨_, rfl, by rw [HLL.out]; exact World.ownsRow_nil _ _ _ _, hnx⟩
      · have HC := Lib.hid (sort_own ss L P.Fi.p w.heap.size g cap wr (Nat.le_of_succ_le hbase) hb h1 h2 h3 (by simpa using h4) (by omega) hlenss hsk)
        have hge : w.heap.size ≤ g := by omega
        have HNX := Lib.hid hnx
        clear hsk hp hrow h1 h2 h3 h4 hb hnx hbase hrg hlenss
        generalize ss.length = sl at *
        go_wp2_with (go_at_call 206; refine HC.out.mono ?_; rintro e w' ⟨rfl, ho, hgr⟩)
        go_ret
        exact ⟨_, rfl, ho, HNX.out.grown hgr HNX.out.size (fun j hj => by cases hj; exact hge)⟩
    · intro y w2 hy hrg2 hlt hcnt hg2 hs2 hen
      generalize Coded.enc codedFi (id y) = cv at hen ⊢
      generalize hky : P.Fi.p y = ky at hen ⊢
      rw [hky] at hrg2
      clear hky
      have hne : some w.heap.size ≠ Value.ownBlock _ := row_ne_low hrow (Nat.lt_succ_self w.heap.size)
      have hneB : some B ≠ Value.ownBlock _ := row_ne_low hrow (Nat.lt_succ_of_lt hbl)
      have hrow2 := hrow.kept hg2 (Or.inr hne.symm)
      have hw2 : w.heap.size + 1 ≤ w2.heap.size := by have := hg2.size; omega
      have hnx2 := hnx.grown hg2 hnx.size (fun j hj => by cases hj; exact Nat.le_refl _)
      clear hs2
      go_wp2_with (first
        | (at_builtin; refine wpList_append_own_at _ rfl _ _ 49 rfl (w.heap.size + 1) 9 i0 _ 1 16 Tryz.underlying49 hi hz0 hz1 hz2 rfl (by decide) _ _ _ rfl (hrow2.alloc _) ⟨w2.heap.size, 0, none⟩ 1 1 [.string ky] rfl rfl (cell_one_new _ _ _) (by simp [Value.oneCell']) (by unfold maxLen; omega) (by omega) (by simp; omega) ?_; intro v' w3 hown' hg3 hnil3 hloc3))
      have hrg3 := (hrg2.alloc (.cells #[.string ky] 9)).kept hg3 hneB hne
      have hb3 := ((bstep hnx2 (below_alloc w2 (.cells #[.string ky] 9))).grown hg3 (bstep hnx2 (below_alloc w2 _)).size (fun j hj => by have := (hrow2.lt j hj).1; omega))
      go_roundw
      case rel => exact ⟨ss ++ [ky.data.toList], hrg3, by rw [List.map_append, List.length_append]; simpa [enc_bytes] using hown', hb3⟩
      case measure => rw [(hrg2.alloc (.cells #[.string ky] 9)).left_kept hg3 hneB hne, hrg2.left_kept (World.grownBy_alloc w2 _ none) (by simp) (by simp)]; exact hlt

set_option maxRecDepth 100000 in
set_option maxHeartbeats 1000000 in
theorem keysS_any (L : List P.St) (hr : P.Rising P.St.k L) (hfit : ∀ x ∈ L, (P.St.k x).size ≤ maxLen) (hlen : L.length ≤ 4294967280) (B : Nat) (w : World) (hm : SetsM w B L) :
    Calls Tryz.prog 134 #[.map (some B)] w fun e w' => ∃ v, e = .returned v ∧ w'.ownsRow w.heap.size 9 1 v L.length (L.map (fun x => Value.string x.k)) ∧ Below w.heap.size w w' := by
  obtain ⟨i0, hi, hz0, hz1, hz2⟩ := info_parts info9
  have hbl := hm.lt
  have HF := Lib.hid hfit
  have HR := Lib.hid hr
  clear hfit hr
  go_enter Tryz.func134, Tryz.ntmps134
  go_wp2_with (first
    | (at_range; refine wpList_range_L _ rfl _ 149 rfl 9 Tryz.underlying9 Tryz.underlying149 rfl hm ?_; intro w0 hrg0 hg0 hs0))
  go_frame
  have hs1 : w.heap.size + 1 ≤ w0.heap.size := by omega
  clear hs0
  go_loopw [3] (fun v wr => ∃ ss : List (List UInt8), LRange codedStr ⟨#[]⟩ P.St.k P.St.v Tryz.prog 9 wr B w.heap.size L ss ∧ wr.ownsRow (w.heap.size + 1) 9 1 v ss.length (ss.map encStr) ∧ Below w.heap.size w wr)
    (fun _ wr => wr.rangeLeft B w.heap.size)
  case atStart => exact ⟨[], hrg0, World.ownsRow_nil _ _ _ _, (Below.refl _ _).grown hg0 (Nat.le_refl _) (fun j hj => by cases hj)⟩
  case round =>
    obtain ⟨ss, hrg, hrow, hnx⟩ := hrel
    have hrl := hrg.lt
    go_wp2_with (first
      | (at_next; refine wpList_next_L _ rfl _ rfl Tryz.underlying9 HR.out HF.out rfl hrg ?_ ?_))
    · intro hp
      have hlenss : ss.length = L.length := by simpa using hp.length_eq
      have hsk := sorted_keys HR.out hp
      rcases hrow.2 with ⟨rfl, hn0⟩ | ⟨g, cap, cur, rfl, hbase, hb, h1, h2, h3, h4⟩
      · have hc := Tryz.slices_Sort_string_none none 0 wr
        have hL : L = [] := List.length_eq_zero_iff.1 (by omega)
        rw [hn0] at hlenss
        have HLL := Lib.hid hL
        clear hL hsk hp hrow hlenss
        go_wp2_with (go_at_call 206; refine hc.mono ?_; rintro e w' ⟨rfl, rfl⟩)
        go_ret
        exact ⟨_, rfl, by rw [HLL.out]; exact World.ownsRow_nil _ _ _ _, hnx⟩
      · have HC := Lib.hid (sort_own ss L P.St.k w.heap.size g cap wr (Nat.le_of_succ_le hbase) hb h1 h2 h3 (by simpa using h4) (by omega) hlenss hsk)
        have hge : w.heap.size ≤ g := by omega
        have HNX := Lib.hid hnx
        clear hsk hp hrow h1 h2 h3 h4 hb hnx hbase hrg hlenss
        generalize ss.length = sl at *
        go_wp2_with (go_at_call 206; refine HC.out.mono ?_; rintro e w' ⟨rfl, ho, hgr⟩)
        go_ret
        exact ⟨_, rfl, ho, HNX.out.grown hgr HNX.out.size (fun j hj => by cases hj; exact hge)⟩
    · intro y w2 hy hrg2 hlt hcnt hg2 hs2 hen
      generalize Coded.enc codedStr (P.St.v y) = cv at hen ⊢
      generalize hky : P.St.k y = ky at hen ⊢
      rw [hky] at hrg2
      clear hky
      have hne : some w.heap.size ≠ Value.ownBlock _ := row_ne_low hrow (Nat.lt_succ_self w.heap.size)
      have hneB : some B ≠ Value.ownBlock _ := row_ne_low hrow (Nat.lt_succ_of_lt hbl)
      have hrow2 := hrow.kept hg2 (Or.inr hne.symm)
      have hw2 : w.heap.size + 1 ≤ w2.heap.size := by have := hg2.size; omega
      have hnx2 := hnx.grown hg2 hnx.size (fun j hj => by cases hj; exact Nat.le_refl _)
      clear hs2
      go_wp2_with (first
        | (at_builtin; refine wpList_append_own_at _ rfl _ _ 49 rfl (w.heap.size + 1) 9 i0 _ 1 16 Tryz.underlying49 hi hz0 hz1 hz2 rfl (by decide) _ _ _ rfl (hrow2.alloc _) ⟨w2.heap.size, 0, none⟩ 1 1 [.string ky] rfl rfl (cell_one_new _ _ _) (by simp [Value.oneCell']) (by unfold maxLen; omega) (by omega) (by simp; omega) ?_; intro v' w3 hown' hg3 hnil3 hloc3))
      have hrg3 := (hrg2.alloc (.cells #[.string ky] 9)).kept hg3 hneB hne
      have hb3 := ((bstep hnx2 (below_alloc w2 (.cells #[.string ky] 9))).grown hg3 (bstep hnx2 (below_alloc w2 _)).size (fun j hj => by have := (hrow2.lt j hj).1; omega))
      go_roundw
      case rel => exact ⟨ss ++ [ky.data.toList], hrg3, by rw [List.map_append, List.length_append]; simpa [enc_bytes] using hown', hb3⟩
      case measure => rw [(hrg2.alloc (.cells #[.string ky] 9)).left_kept hg3 hneB hne, hrg2.left_kept (World.grownBy_alloc w2 _ none) (by simp) (by simp)]; exact hlt

set_option maxRecDepth 100000 in
set_option maxHeartbeats 1000000 in
theorem keysV_any (L : List P.Sv) (hr : P.Rising P.Sv.n L) (hfit : ∀ x ∈ L, (P.Sv.n x).size ≤ maxLen) (hlen : L.length ≤ 4294967280) (B : Nat) (w : World) (hm : SvcsM w B L) :
    Calls Tryz.prog 135 #[.map (some B)] w fun e w' => ∃ v, e = .returned v ∧ w'.ownsRow w.heap.size 9 1 v L.length (L.map (fun x => Value.string x.n)) ∧ Below w.heap.size w w' := by
  obtain ⟨i0, hi, hz0, hz1, hz2⟩ := info_parts info9
  have hbl := hm.lt
  have HF := Lib.hid hfit
  have HR := Lib.hid hr
  clear hfit hr
  go_enter Tryz.func135, Tryz.ntmps135
  go_wp2_with (first
    | (at_range; refine wpList_range_L _ rfl _ 150 rfl 46 Tryz.underlying9 Tryz.underlying150 rfl hm ?_; intro w0 hrg0 hg0 hs0))
  go_frame
  have hs1 : w.heap.size + 1 ≤ w0.heap.size := by omega
  clear hs0
  go_loopw [3] (fun v wr => ∃ ss : List (List UInt8), LRange codedSv P.sv0 P.Sv.n id Tryz.prog 9 wr B w.heap.size L ss ∧ wr.ownsRow (w.heap.size + 1) 9 1 v ss.length (ss.map encStr) ∧ Below w.heap.size w wr)
    (fun _ wr => wr.rangeLeft B w.heap.size)
  case atStart => exact ⟨[], hrg0, World.ownsRow_nil _ _ _ _, (Below.refl _ _).grown hg0 (Nat.le_refl _) (fun j hj => by cases hj)⟩
  case round =>
    obtain ⟨ss, hrg, hrow, hnx⟩ := hrel
    have hrl := hrg.lt
    go_wp2_with (first
      | (at_next; refine wpList_next_L _ rfl _ rfl Tryz.underlying9 HR.out HF.out rfl hrg ?_ ?_))
    · intro hp
      have hlenss : ss.length = L.length := by simpa using hp.length_eq
      have hsk := sorted_keys HR.out hp
      rcases hrow.2 with ⟨rfl, hn0⟩ | ⟨g, cap, cur, rfl, hbase, hb, h1, h2, h3, h4⟩
      · have hc := Tryz.slices_Sort_string_none none 0 wr
        have hL : L = [] := List.length_eq_zero_iff.1 (by omega)
        rw [hn0] at hlenss
        have HLL := Lib.hid hL
        clear hL hsk hp hrow hlenss
        go_wp2_with (go_at_call 206; refine hc.mono ?_; rintro e w' ⟨rfl, rfl⟩)
        go_ret
        exact ⟨_, rfl, by rw [HLL.out]; exact World.ownsRow_nil _ _ _ _, hnx⟩
      · have HC := Lib.hid (sort_own ss L P.Sv.n w.heap.size g cap wr (Nat.le_of_succ_le hbase) hb h1 h2 h3 (by simpa using h4) (by omega) hlenss hsk)
        have hge : w.heap.size ≤ g := by omega
        have HNX := Lib.hid hnx
        clear hsk hp hrow h1 h2 h3 h4 hb hnx hbase hrg hlenss
        generalize ss.length = sl at *
        go_wp2_with (go_at_call 206; refine HC.out.mono ?_; rintro e w' ⟨rfl, ho, hgr⟩)
        go_ret
        exact ⟨_, rfl, ho, HNX.out.grown hgr HNX.out.size (fun j hj => by cases hj; exact hge)⟩
    · intro y w2 hy hrg2 hlt hcnt hg2 hs2 hen
      generalize Coded.enc codedSv (id y) = cv at hen ⊢
      generalize hky : P.Sv.n y = ky at hen ⊢
      rw [hky] at hrg2
      clear hky
      have hne : some w.heap.size ≠ Value.ownBlock _ := row_ne_low hrow (Nat.lt_succ_self w.heap.size)
      have hneB : some B ≠ Value.ownBlock _ := row_ne_low hrow (Nat.lt_succ_of_lt hbl)
      have hrow2 := hrow.kept hg2 (Or.inr hne.symm)
      have hw2 : w.heap.size + 1 ≤ w2.heap.size := by have := hg2.size; omega
      have hnx2 := hnx.grown hg2 hnx.size (fun j hj => by cases hj; exact Nat.le_refl _)
      clear hs2
      go_wp2_with (first
        | (at_builtin; refine wpList_append_own_at _ rfl _ _ 49 rfl (w.heap.size + 1) 9 i0 _ 1 16 Tryz.underlying49 hi hz0 hz1 hz2 rfl (by decide) _ _ _ rfl (hrow2.alloc _) ⟨w2.heap.size, 0, none⟩ 1 1 [.string ky] rfl rfl (cell_one_new _ _ _) (by simp [Value.oneCell']) (by unfold maxLen; omega) (by omega) (by simp; omega) ?_; intro v' w3 hown' hg3 hnil3 hloc3))
      have hrg3 := (hrg2.alloc (.cells #[.string ky] 9)).kept hg3 hneB hne
      have hb3 := ((bstep hnx2 (below_alloc w2 (.cells #[.string ky] 9))).grown hg3 (bstep hnx2 (below_alloc w2 _)).size (fun j hj => by have := (hrow2.lt j hj).1; omega))
      go_roundw
      case rel => exact ⟨ss ++ [ky.data.toList], hrg3, by rw [List.map_append, List.length_append]; simpa [enc_bytes] using hown', hb3⟩
      case measure => rw [(hrg2.alloc (.cells #[.string ky] 9)).left_kept hg3 hneB hne, hrg2.left_kept (World.grownBy_alloc w2 _ none) (by simp) (by simp)]; exact hlt

end Go.Proofs.YtkibmoekadmjnaaGreatDoor
