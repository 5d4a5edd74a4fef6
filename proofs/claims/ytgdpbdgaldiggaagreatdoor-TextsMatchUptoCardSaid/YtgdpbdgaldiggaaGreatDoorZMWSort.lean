/- Walks: slices.SortStableFunc at facts of the call's own, at most 20: they are sorted by their keys. -/
import Derived.Test.YtgdpbdgaldiggaaGreatDoorZMWRow
import Derived.Test.YtgdpbdgaldiggaaGreatDoorZMShelf
import Derived.Shelf.SlSortCmp.NoneTotal

namespace Go.Proofs.YtgdpbdgaldiggaaGreatDoor
open Go.RowKit Go.Shelf Go.Sort

set_option maxHeartbeats 1000000 in
theorem fitcmp_any (x y : P.St) (W : World) : Calls Tryz.prog 96 #[.agg #[.string x.k, .string x.v], .agg #[.string y.k, .string y.v]] W fun e w' => e = .returned (.int .i64 (P.cmpK x y)) ∧ ∃ q os', w' = grow (W.drewN q) os' := by
  have hcon := fun W' => Tryz.strings_Compare x.k y.k W'
  rw [show Lib.compareBytes x.k.data.toList y.k.data.toList = P.cmpK x y from rfl] at hcon
  generalize P.cmpK x y = r at hcon ⊢
  go_enter Tryz.func96, Tryz.ntmps96
  go_wp2_with (go_at_call 97; refine (hcon _).mono ?_; rintro e w' ⟨rfl, rfl⟩)
  go_ret
  exact ⟨rfl, 0, _, by rw [alloc_eq_grow, alloc_eq_grow, grow_grow]; rfl⟩

theorem ins_any (M : List P.St) (base g cap a b : Nat) (hab : a ≤ b) (hb : b ≤ M.length) (hl : M.length ≤ 20) (w : World) (ho : w.ownsRow base 62 2 (.slice (some ⟨g, 0, none⟩) M.length cap) M.length (flat cellsS M)) :
    Calls Tryz.prog 199 #[.slice (some ⟨g, 0, none⟩) M.length cap, .int .i64 (a : Int), .int .i64 (b : Int), .func (.func 96) #[] #[]] w fun e w' =>
      e = .returned (.tuple #[]) ∧ ∃ M', M' = (Sort.insertionSort (ltOf P.cmpK) M.toArray a b).toList ∧ M'.length = M.length ∧ w'.ownsRow base 62 2 (.slice (some ⟨g, 0, none⟩) M.length cap) M.length (flat cellsS M') ∧ w.grownBy w' (some g) := by
  have hsz : ∀ d : Array P.St, d = Sort.insertionSort (ltOf P.cmpK) M.toArray a b → d.size = M.length := fun d e => by
    rw [e, (insertionSort_holds (lt := ltOf P.cmpK) P.swoK M.toArray a b hab (by simpa using hb)).1.1]; simp
  obtain ⟨hlen, ⟨h0, _⟩ | ⟨g', cap', cur, e1, hg, hh, hn, hcap, hs, ht⟩⟩ := ho
  · cases h0
  · cases e1
    have hH : HoldsK cellsS 2 w g 0 M.toArray := holdsK_of_own (enc := cellsS) (k := 2) (fun _ => rfl) (by decide) M.toArray hh (by simpa using ht)
    have eg := enters_of Tryz.func96 (by kernel_rfl) rfl
    have h := AnyQ.insertionSortCmpFunc Tryz.insSet 2 Tryz.isAgg62 Tryz.sizeOf62 cellsS (fun _ => rfl) (fun x v hv => by simp [cellsS] at hv; rcases hv with rfl | rfl <;> rfl) P.cmpK 96 #[] g 0 cap a b M.toArray w eg
      (fun m os dk _ x y => fitcmp_any x y _) hH (Array.getElem?_eq_some_iff.1 hh).1 hab (by simpa using hb) (by simp; omega)
    have hz : M.toArray.size = M.length := by simp
    rw [hz] at h
    change Calls Tryz.prog 199 _ _ _ at h
    refine h.mono ?_
    rintro e w' ⟨rfl, nn, os, rfl⟩
    have hd := hsz _ rfl
    generalize Sort.insertionSort (ltOf P.cmpK) M.toArray a b = d at *
    refine ⟨rfl, d.toList, rfl, by simpa using hd, ?_, grownBy_sortedK d⟩
    have := own_sortedK (enc := cellsS) (nn := nn) (os := os) (fun _ => rfl) (by decide) d hg hh (by omega) hcap hs
    rw [hd] at this
    exact this

theorem ins_same (M : List P.St) (a : Nat) : (Sort.insertionSort (ltOf P.cmpK) M.toArray a a).toList = M := by
  unfold Sort.insertionSort
  rw [insOuter, if_neg (by omega)]
theorem ins_sorted (M : List P.St) : ((Sort.insertionSort (ltOf P.cmpK) M.toArray 0 M.length).toList).Perm M ∧ ((Sort.insertionSort (ltOf P.cmpK) M.toArray 0 M.length).toList).Pairwise (fun x y => ¬ P.ltB y.k x.k) := by
  have h := insertionSort_holds (lt := ltOf P.cmpK) P.swoK M.toArray 0 M.length (Nat.zero_le _) (by simp)
  obtain ⟨⟨h1, _, h3⟩, h4⟩ := h
  generalize Sort.insertionSort (ltOf P.cmpK) M.toArray 0 M.length = d at *
  have hd : d.size = M.length := by simpa using h1
  constructor
  · have : (d.extract 0 M.length).toList = d.toList := by rw [← hd]; simp
    rw [this] at h3
    simpa using h3
  · refine List.pairwise_iff_getElem.2 fun i j hi hj hij => ?_
    have := h4 i j (Nat.zero_le _) hij (by simpa [hd] using hj)
    rw [P.lt_false] at this
    have e1 : d[j]! = d.toList[j] := by rw [getElem!_pos d j (by simpa using hj)]; simp
    have e2 : d[i]! = d.toList[i] := by rw [getElem!_pos d i (by simpa using hi)]; simp
    rw [e1, e2] at this
    exact this

def Stb (M : List P.St) (base g cap : Nat) (w : World) (k : Nat) (wr : World) : Prop :=
  (k = 0 ∧ wr = w) ∨ (k = 1 ∧ ∃ M' : List P.St, (M'.Perm M ∧ M'.Pairwise (fun x y => ¬ P.ltB y.k x.k)) ∧ M'.length = 20 ∧ wr.ownsRow base 62 2 (.slice (some ⟨g, 0, none⟩) 20 cap) 20 (flat cellsS M') ∧ w.grownBy wr (some g))
set_option maxRecDepth 100000 in
set_option maxHeartbeats 4000000 in
theorem stable_any (M : List P.St) (base g cap : Nat) (hl : M.length ≤ 20) (w : World) (ho : w.ownsRow base 62 2 (.slice (some ⟨g, 0, none⟩) M.length cap) M.length (flat cellsS M)) :
    Calls Tryz.prog 167 #[.slice (some ⟨g, 0, none⟩) M.length cap, .int .i64 (M.length : Int), .func (.func 96) #[] #[]] w fun e w' =>
      e = .returned (.tuple #[]) ∧ ∃ M', M'.Perm M ∧ M'.Pairwise (fun x y => ¬ P.ltB y.k x.k) ∧ w'.ownsRow base 62 2 (.slice (some ⟨g, 0, none⟩) M.length cap) M.length (flat cellsS M') ∧ w.grownBy w' (some g) := by
  have H0 := Lib.hid (fun b hb => ins_any M base g cap 0 b (Nat.zero_le _) hb hl w ho)
  have HS := Lib.hid (ins_sorted M)
  by_cases h20 : M.length = 20
  · have hi0 := H0.out 20 (by omega)
    have hsort := HS.out
    rw [h20] at hsort hi0 ho ⊢
    have H1 := Lib.hid (fun (M' : List P.St) (W : World) (e : M'.length = 20) (h : W.ownsRow base 62 2 (.slice (some ⟨g, 0, none⟩) 20 cap) 20 (flat cellsS M')) => show _ from by
      have := ins_any M' base g cap 20 20 (Nat.le_refl _) (by omega) (by omega) W (by rw [e]; exact h)
      rw [e, ins_same] at this
      exact this)
    change Calls Tryz.prog _ #[.slice (some ⟨g, 0, none⟩) 20 cap, .int .i64 (20 : Int), .func (.func 96) #[] #[]] w _
    change Calls Tryz.prog _ #[.slice (some ⟨g, 0, none⟩) 20 cap, .int .i64 (0 : Int), .int .i64 (20 : Int), .func (.func 96) #[] #[]] w _ at hi0
    go_enter Tryz.func167, Tryz.ntmps167
    go_wp2_with fail
    go_loopw [7, 8] (fun a b wr => ∃ k : Nat, k ≤ 1 ∧ a = .int .i64 ((20 * k : Nat) : Int) ∧ b = .int .i64 ((20 + 20 * k : Nat) : Int) ∧ Hid (Stb M base g cap w k wr)) (fun _ b _ => 40 - (intOf b).toNat)
    case atStart => exact ⟨0, by omega, rfl, rfl, Lib.hid (.inl ⟨rfl, rfl⟩)⟩
    case round =>
      obtain ⟨k, hk, rfl, rfl, HST⟩ := hrel
      rcases HST.out with ⟨rfl, rfl⟩ | ⟨rfl, M', hp, hl', ho1, hg1⟩
      · go_wp2_with (go_at_call 199; refine hi0.mono ?_; rintro e w' ⟨rfl, M', hM, hl', ho', hg'⟩)
        go_roundw
        case rel => exact ⟨1, by omega, rfl, rfl, Lib.hid (.inr ⟨rfl, M', by rw [hM]; exact hsort, by omega, ho', hg'⟩)⟩
        case measure => simp [intOf]
      · have hi1 := H1.out M' _ hl' ho1
        change Calls Tryz.prog _ #[.slice (some ⟨g, 0, none⟩) 20 cap, .int .i64 (20 : Int), .int .i64 (20 : Int), .func (.func 96) #[] #[]] _ _ at hi1
        have HP := Lib.hid hp
        have HG := Lib.hid hg1
        clear hp hg1 ho1 hl' HST
        go_wp2_with (go_at_call 199; refine hi1.mono ?_; rintro e w' ⟨rfl, M2, hM2, hl2, ho2, hg2⟩)
        go_loopw [6] (fun bs wr => bs = .int .i64 20 ∧ wr = w') (fun _ _ => 0)
        case atStart => exact ⟨rfl, rfl⟩
        case round =>
          obtain ⟨rfl, rfl⟩ := hrel
          go_wp2_with fail
          go_end0
          refine ⟨rfl, M2, by rw [hM2]; exact HP.out.1, by rw [hM2]; exact HP.out.2, ho2, ?_⟩
          exact HG.out.trans hg2
  · have hlt : M.length < 20 := by omega
    have hi0 := H0.out M.length (Nat.le_refl _)
    have hsort := HS.out
    generalize M.length = n at *
    go_enter Tryz.func167, Tryz.ntmps167
    go_wp2_with fail
    have h20 : decide ((20 : Int) ≤ (n : Int)) = false := decide_eq_false (by omega)
    have h21 : decide ((20 : Int) < (n : Int)) = false := decide_eq_false (by omega)
    go_loopw [7, 8] (fun a b wr => a = .int .i64 0 ∧ b = .int .i64 20 ∧ wr = w) (fun _ _ _ => 0)
    case atStart => exact ⟨rfl, rfl, rfl⟩
    case round =>
      obtain ⟨rfl, rfl, rfl⟩ := hrel
      go_wp2_with (go_at_call 199; refine hi0.mono ?_; rintro e w' ⟨rfl, M', hM, hl', ho', hg'⟩)
      go_loopw [6] (fun bs wr => bs = .int .i64 20 ∧ wr = w') (fun _ _ => 0)
      case atStart => exact ⟨rfl, rfl⟩
      case round =>
        obtain ⟨rfl, rfl⟩ := hrel
        go_wp2_with fail
        go_end0
        exact ⟨rfl, M', by rw [hM]; exact hsort.1, by rw [hM]; exact hsort.2, ho', hg'⟩
set_option maxRecDepth 100000 in
set_option maxHeartbeats 4000000 in
theorem stable_nil (w : World) : Calls Tryz.prog 167 #[.slice none 0 0, .int .i64 (0 : Int), .func (.func 96) #[] #[]] w fun e w' => e = .returned (.tuple #[]) ∧ w' = w := by
  have hi := fun W => AnyF.insertionSortCmpFunc_none Tryz.insSet none 0 (.func (.func 96) #[] #[]) W
  change ∀ W, Calls Tryz.prog 199 _ _ _ at hi
  go_enter Tryz.func167, Tryz.ntmps167
  go_wp2_with fail
  go_loopw [7, 8] (fun a b wr => a = .int .i64 0 ∧ b = .int .i64 20 ∧ wr = w) (fun _ _ _ => 0)
  case atStart => exact ⟨rfl, rfl, rfl⟩
  case round =>
    obtain ⟨rfl, rfl, rfl⟩ := hrel
    go_wp2_with (go_at_call 199; refine (hi _).mono ?_; rintro e w' ⟨rfl, rfl⟩)
    go_loopw [6] (fun bs wr => bs = .int .i64 20 ∧ wr = w') (fun _ _ => 0)
    case atStart => exact ⟨rfl, rfl⟩
    case round =>
      obtain ⟨rfl, rfl⟩ := hrel
      go_wp2_with fail
      go_end0
      exact ⟨rfl, rfl⟩

/-- slices.SortStableFunc at facts of the call's own -/
theorem sortStable_any (M : List P.St) (base : Nat) (v : Value) (hl : M.length ≤ 20) (w : World) (ho : w.ownsRow base 62 2 v M.length (flat cellsS M)) :
    Calls Tryz.prog 95 #[v, .func (.func 96) #[] #[]] w fun e w' =>
      e = .returned (.tuple #[]) ∧ ∃ M', M'.Perm M ∧ M'.Pairwise (fun x y => ¬ P.ltB y.k x.k) ∧ w'.ownsRow base 62 2 v M'.length (flat cellsS M') ∧ w.grownBy w' v.ownBlock := by
  have ho1 := ho
  obtain ⟨hlen, ⟨rfl, h0⟩ | ⟨g, cap, cur, rfl, hg, hh, hn, hcap, hs, ht⟩⟩ := ho
  · have hc := stable_nil
    have hM : M = [] := List.length_eq_zero_iff.1 h0
    subst hM
    clear hlen h0
    go_enter Tryz.func95, Tryz.ntmps95
    go_wp2_with (go_at_call 167; refine (hc _).mono ?_; rintro e w' ⟨rfl, rfl⟩)
    go_end0
    exact ⟨rfl, [], List.Perm.refl _, List.Pairwise.nil, ho1, World.grownBy_refl' _ _⟩
  · have HC := Lib.hid (stable_any M base g cap hl w ho1)
    generalize hnn : M.length = n at *
    have HN := Lib.hid hnn
    clear hnn
    clear hlen hh hs ht ho1
    go_enter Tryz.func95, Tryz.ntmps95
    go_wp2_with (go_at_call 167; refine HC.out.mono ?_; rintro e w' ⟨rfl, M', hp, hs, ho, hgr⟩)
    go_end0
    refine ⟨rfl, M', hp, hs, ?_, hgr⟩
    rw [show M'.length = n by rw [hp.length_eq, HN.out]]
    exact ho
end Go.Proofs.YtgdpbdgaldiggaaGreatDoor
