/- Plain: a change's line that is read is what is written of it; one line as a text of changes. -/
/- Plain: a text in lines that are ended and a tail that is not. -/
/- Plain: the lines of a journal; what is read of them is what is written of it. -/
/- Plain: what Itoa writes Atoi reads. -/
import Derived.Test.YtomikcemiacjmaaGreatDoorZGRdL
import Derived.Test.YtomikcemiacjmaaGreatDoorZHParts
import Derived.Lib.AtoiAll
import Derived.Lib.ItoaNum

namespace Go.Proofs.YtomikcemiacjmaaGreatDoor
open Go.RowKit Go.Lib Go.Shelf

namespace P
theorem cut_join {t : ByteArray} {c : UInt8} (h : cutOk t c = true) : t.data.toList = (cutA t c).data.toList ++ c :: (cutB t c).data.toList := by
  have key : Lib.indexByte t.data.toList c = Lib.index t.data.toList [c] := (Lib.index_one _ _).symm
  unfold cutOk Lib.cut at h
  unfold cutA cutB Lib.cut
  split at h
  · rename_i h0
    rw [if_pos h0, txt_list, txt_list]
    obtain ⟨i, hi⟩ : ∃ i : Nat, Lib.index t.data.toList [c] = i := ⟨(Lib.index t.data.toList [c]).toNat, by omega⟩
    rw [hi, Int.toNat_natCast]
    rw [hi] at key
    have hs := (Lib.indexByte_some key).1
    obtain ⟨hlt, e⟩ := List.getElem?_eq_some_iff.1 hs
    simp only [List.length_cons, List.length_nil, Nat.zero_add]
    conv => lhs; rw [← List.take_append_drop i t.data.toList, List.drop_eq_getElem_cons hlt, e]
  · cases h
theorem no_blank {t : ByteArray} (h : cutOk t 32 = false) : cutB t 32 = ⟨#[]⟩ := (parts_no h).2.2.1
theorem isWord_nil : isWord ⟨#[]⟩ = false := by decide +kernel
theorem pairOk_nil : pairOk ⟨#[]⟩ = false := by
  unfold pairOk
  have h : cutOk ⟨#[]⟩ 32 = false := by decide +kernel
  rw [no_blank h, unquote_nil]
  cases isWord (cutA ⟨#[]⟩ 32) <;> rfl
theorem pair_back {r : ByteArray} (h : pairOk r = true) : r.data.toList = (pairK r).data.toList ++ 32 :: quoteL (pairV r).data.toList := by
  cases hc : cutOk r 32 with
  | false =>
    unfold pairOk at h
    rw [no_blank hc, unquote_nil] at h
    simp at h
  | true =>
    have hj := cut_join hc
    unfold pairOk at h
    simp only [Bool.and_eq_true, beq_iff_eq] at h
    have hq : quote (pairV r) = cutB r 32 := by
      unfold pairV
      by_cases hu : quote (txt (unqD (inner (cutB r 32)).data.toList)) = cutB r 32
      · rw [unquote_yes hu]; exact hu
      · rw [unquote_no hu] at h
        exact absurd h.2 (by decide)
    have e : quoteL (pairV r).data.toList = (cutB r 32).data.toList := by rw [← hq]; unfold quote; rw [txt_list]
    rw [e]; exact hj
theorem flag_back {c : ByteArray} (h : isFlag c = true) : bitL (c.toList == [49]) = c.data.toList := by
  rcases flag_cases c with ⟨e, _⟩ | ⟨_, e, e2⟩ | ⟨_, e2, e⟩
  · rw [e] at h; cases h
  · rw [e2, ← Lib.toList_data, e]; rfl
  · rw [e, ← Lib.toList_data, e]; rfl
theorem parts_join4 {r a b c d : ByteArray} (h : parts 32 r = [a, b, c, d]) : r.data.toList = a.data.toList ++ 32 :: (b.data.toList ++ 32 :: (c.data.toList ++ 32 :: d.data.toList)) := by
  have step : ∀ {t x : ByteArray} {l : List ByteArray}, parts 32 t = x :: l → l ≠ [] → cutOk t 32 = true ∧ cutA t 32 = x ∧ parts 32 (cutB t 32) = l := by
    intro t x l ht hl
    cases hc : cutOk t 32 with
    | false =>
      rw [(parts_no hc).1] at ht
      simp only [List.cons.injEq] at ht
      exact absurd ht.2.symm hl
    | true =>
      rw [(parts_hit hc).1] at ht
      simp only [List.cons.injEq] at ht
      exact ⟨rfl, ht.1, ht.2⟩
  obtain ⟨h1, rfl, h2⟩ := step h (by simp)
  obtain ⟨h3, rfl, h4⟩ := step h2 (by simp)
  obtain ⟨h5, rfl, h6⟩ := step h4 (by simp)
  have h7 : cutB (cutB (cutB r 32) 32) 32 = d := by
    cases hc : cutOk (cutB (cutB (cutB r 32) 32) 32) 32 with
    | false => rw [(parts_no hc).1] at h6; simpa using h6
    | true =>
      rw [(parts_hit hc).1] at h6
      simp only [List.cons.injEq] at h6
      exact absurd h6.2 (parts_ne 32 _)
  rw [cut_join h1, cut_join h3, cut_join h5, h7]
theorem svc_back {r : ByteArray} (h : (svcRead (svcWords r)).2 = true) : r.data.toList = wordsL (svcRead (svcWords r)).1 := by
  obtain ⟨h1, h2⟩ := rsvc_eq r
  have h3 := h2 h
  rw [← h1] at h
  rw [← h3]
  by_cases h4 : (parts 32 r).length = 4
  · obtain ⟨a, b, c, d, e⟩ : ∃ a b c d, parts 32 r = [a, b, c, d] := by
      generalize parts 32 r = l at *
      match l, h4 with
      | [a, b, c, d], _ => exact ⟨a, b, c, d, rfl⟩
    rw [parts_join4 e]
    rw [e] at h ⊢
    rw [rsvc_four] at h ⊢
    by_cases hg : (!a.toList.isEmpty && !b.toList.isEmpty && isFlag c && isFlag d) = true
    · rw [if_pos hg]
      simp only [Bool.and_eq_true] at hg
      unfold wordsL
      simp only [flag_back hg.1.2, flag_back hg.2, List.append_assoc, List.cons_append, List.nil_append]
    · rw [if_neg hg] at h; cases h
  · rw [rsvc_other h4] at h; cases h
theorem front {l : ByteArray} {w : B} (hw : (cutA l 32).toList = w) (hc : cutOk l 32 = true) : l.data.toList = w ++ 32 :: (cutB l 32).data.toList := by
  rw [cut_join hc, ← hw, Lib.toList_data]
/-- WHAT IS READ IS WHAT IS WRITTEN OF IT -/
theorem read_back {l : ByteArray} (h : (chRead l).2 = true) : (chT (chRead l).1).data.toList = l.data.toList := by
  have hcut : cutOk l 32 = true := by
    cases hc : cutOk l 32 with
    | true => rfl
    | false =>
      have e := no_blank hc
      have e2 : (svcRead (svcWords ⟨#[]⟩)).2 = false := by decide +kernel
      revert h
      unfold chRead
      rw [e, pairOk_nil, isWord_nil]
      intro h
      split at h
      · cases h
      · split at h
        · cases h
        · split at h
          · cases h
          · split at h
            · cases h
            · split at h
              · cases h
              · split at h
                · rw [e2] at h; cases h
                · split at h
                  · cases h
                  · cases h
  by_cases c0 : (cutA l 32).toList = wPut
  · have f := front c0 hcut
    unfold chRead at h ⊢
    rw [if_pos c0] at h ⊢
    rw [f, pair_back h]
    exact line_list _ _ _
  by_cases c1 : (cutA l 32).toList = wPutrun
  · have f := front c1 hcut
    unfold chRead at h ⊢
    rw [if_neg c0, if_pos c1] at h ⊢
    rw [f, pair_back h]
    exact line_list _ _ _
  by_cases c2 : (cutA l 32).toList = wRemove
  · have f := front c2 hcut
    unfold chRead at h ⊢
    rw [if_neg c0, if_neg c1, if_pos c2] at h ⊢
    rw [f]
    exact word_list wRemove _
  by_cases c3 : (cutA l 32).toList = wSet
  · have f := front c3 hcut
    unfold chRead at h ⊢
    rw [if_neg c0, if_neg c1, if_neg c2, if_pos c3] at h ⊢
    rw [f, pair_back h]
    exact line_list _ _ _
  by_cases c4 : (cutA l 32).toList = wUnset
  · have f := front c4 hcut
    unfold chRead at h ⊢
    rw [if_neg c0, if_neg c1, if_neg c2, if_neg c3, if_pos c4] at h ⊢
    rw [f]
    exact word_list wUnset _
  by_cases c5 : (cutA l 32).toList = wSvc
  · have f := front c5 hcut
    unfold chRead at h ⊢
    rw [if_neg c0, if_neg c1, if_neg c2, if_neg c3, if_neg c4, if_pos c5] at h ⊢
    rw [f, svc_back h]
    show (svcT _).data.toList = _
    unfold svcT
    rw [txt_list]
    simp [wSvc]
  by_cases c6 : (cutA l 32).toList = wDrop
  · have f := front c6 hcut
    unfold chRead at h ⊢
    rw [if_neg c0, if_neg c1, if_neg c2, if_neg c3, if_neg c4, if_neg c5, if_pos c6] at h ⊢
    rw [f]
    exact word_list wDrop _
  · unfold chRead at h
    rw [if_neg c0, if_neg c1, if_neg c2, if_neg c3, if_neg c4, if_neg c5, if_neg c6] at h
    cases h
/-- one line as a text of changes -/
theorem parseC_one {x : B} (h10 : (10 : UInt8) ∉ x) (hs : x.length + 1 ≤ 4194304) : parseC (txt (x ++ [10])) =
    if (chRead (txt x)).2 = false then ([], 0, 8) else if chE (chRead (txt x)).1 ≠ 0 then ([], 0, chE (chRead (txt x)).1) else ([(chRead (txt x)).1], 0, 0) := by
  have hn : ¬ 4194304 < (txt (x ++ [10])).size := by rw [txt_size, List.length_append]; simp only [List.length_cons, List.length_nil]; omega
  have hA := cutA_at (t := []) h10
  have hB := cutB_at (t := []) h10
  have hO := cutOk_at (t := []) h10
  have hne : (txt (x ++ [10])).toList ≠ [] := by rw [Lib.toList_data, txt_list]; simp
  have hnil : (txt ([] : B)).toList = [] := by rw [Lib.toList_data, txt_list]
  cases hr : (chRead (txt x)).2 with
  | false =>
    have e := crdAll_bad (m := []) (n := 0) hne hO (by rw [hA]; exact hr)
    rw [parseC_line hn (by rw [e]; show (8 : Int) ≠ 0; decide), e, if_pos rfl]
  | true =>
    have e := crdAll_step (m := []) (n := 0) hne hO (by rw [hA]; exact hr)
    rw [hA, hB, crdAll_nil hnil] at e
    rw [if_neg (by decide)]
    have hes : ∀ c, chEs [c] = chE c := fun c => by unfold chEs chEs; by_cases h : chE c = 0 <;> simp [h]
    by_cases h0 : chE (chRead (txt x)).1 = 0
    · rw [parseC_ok hn (by rw [e]) (by rw [e]; simpa [hes] using h0), e, if_neg (by simpa using h0)]; rfl
    · rw [parseC_bad hn (by rw [e]) (by rw [e]; simpa [hes] using h0), e, if_pos h0]
      simp only [List.nil_append, hes]
end P
end Go.Proofs.YtomikcemiacjmaaGreatDoor

namespace Go.Proofs.YtomikcemiacjmaaGreatDoor
open Go.RowKit Go.Lib Go.Shelf

namespace P
/-- ended lines, and a tail without a line feed -/
structure Parted (t : ByteArray) (ls : List ByteArray) (tail : B) : Prop where
  eq : t = txt (linesL ls ++ tail)
  free : ∀ l ∈ ls, (10 : UInt8) ∉ l.data.toList
  last : (10 : UInt8) ∉ tail
  lines : lns t = ls ++ (if tail = [] then [] else [txt tail])
  torn : torn t = if tail = [] then -1 else (ls.length : Int)
theorem linesL_cons (l : ByteArray) (ls : List ByteArray) : linesL (l :: ls) = l.data.toList ++ 10 :: linesL ls := by unfold linesL; simp
theorem not_mem_of_cut {t : ByteArray} {c : UInt8} (h : cutOk t c = false) : c ∉ t.data.toList := by
  have := cutA_free c t
  rw [(parts_no h).2.1] at this
  exact this
theorem parted : ∀ (n : Nat) (t : ByteArray), t.size ≤ n → ∃ ls tail, Parted t ls tail
  | n, t, hn => by
    cases hc : cutOk t 10 with
    | false =>
      have hfree := not_mem_of_cut hc
      by_cases he : t.toList = []
      · have e2 : t.data.toList = [] := by rw [← Lib.toList_data]; exact he
        have e1 : t = txt [] := by rw [← txt_self t, e2]
        refine ⟨[], [], ?_, (fun l hl => by cases hl), (by simp), ?_, ?_⟩
        · simpa [linesL] using e1
        · rw [(lns_no hc).1 he]; rfl
        · unfold P.torn
          have e := (parts_no hc).1
          have g : (parts 10 t).getLast (parts_ne 10 t) = t := by simp only [e]; rfl
          rw [g, if_pos he, if_pos rfl]
      · have e2 : t.data.toList ≠ [] := by rw [← Lib.toList_data]; exact he
        refine ⟨[], t.data.toList, ?_, (fun l hl => by cases hl), hfree, ?_, ?_⟩
        · rw [show linesL [] = [] from rfl, List.nil_append, txt_self]
        · rw [(lns_no hc).2 he, if_neg e2, txt_self]; rfl
        · rw [torn_no hc he, if_neg e2]; rfl
    | true =>
      have hlt := cutB_lt' hc
      cases n with
      | zero => omega
      | succ n =>
        obtain ⟨ls, tail, h⟩ := parted n (cutB t 10) (by omega)
        refine ⟨cutA t 10 :: ls, tail, ?_, ?_, h.last, ?_, ?_⟩
        · have e := cut_join hc
          have e3 : (cutB t 10).data.toList = linesL ls ++ tail := by rw [h.eq, txt_list]
          rw [e3] at e
          rw [linesL_cons, List.append_assoc, List.cons_append, ← e, txt_self]
        · intro l hl
          rcases List.mem_cons.1 hl with rfl | hl
          · exact cutA_free 10 t
          · exact h.free l hl
        · rw [lns_hit hc, h.lines]; rfl
        · rw [torn_hit hc, h.torn]
          by_cases ht : tail = []
          · rw [if_pos ht, if_pos rfl, if_pos ht]
          · rw [if_neg ht, if_neg (by omega), if_neg ht, List.length_cons]; push_cast; rfl
/-- a line of a text in parts -/
theorem part_line {l : ByteArray} {ls : List ByteArray} {tail : B} (h : (10 : UInt8) ∉ l.data.toList) :
    cutOk (txt (linesL (l :: ls) ++ tail)) 10 = true ∧ cutA (txt (linesL (l :: ls) ++ tail)) 10 = l ∧ cutB (txt (linesL (l :: ls) ++ tail)) 10 = txt (linesL ls ++ tail) := by
  rw [linesL_cons, List.append_assoc, List.cons_append]
  exact ⟨cutOk_at h, by rw [cutA_at h, txt_self], cutB_at h⟩
theorem part_tail {tail : B} (h : (10 : UInt8) ∉ tail) : cutOk (txt (linesL [] ++ tail)) 10 = false := by
  cases hc : cutOk (txt (linesL [] ++ tail)) 10 with
  | false => rfl
  | true =>
    have e := cut_join hc
    rw [txt_list, show linesL [] ++ tail = tail from rfl] at e
    exact absurd (by rw [e]; simp) h
end P
end Go.Proofs.YtomikcemiacjmaaGreatDoor

namespace Go.Proofs.YtomikcemiacjmaaGreatDoor
open Go.RowKit Go.Lib Go.Shelf

namespace P
def jW : B := [106, 111, 117, 114, 110, 97, 108, 32]
def cW : B := [99, 104, 97, 110, 103, 101, 115, 32]
def oW : B := [111, 108, 100, 32]
def sW : B := [115, 117, 109, 32]
/-- a number, written as Itoa writes it -/
def sNo (d : B) : Option Nat := match Lib.atoiAll d with
  | .ok v => if 0 ≤ v ∧ Lib.itoa v = d then some v.toNat else none
  | _ => none
theorem sNo_text {d : B} {n : Nat} (h : sNo d = some n) : d = Lib.itoa (n : Int) := by
  unfold sNo at h
  split at h
  · rename_i v _
    split at h
    · rename_i hv
      obtain ⟨h1, h2⟩ := hv
      have : v.toNat = n := Option.some.inj h
      rw [← h2, ← this, Int.toNat_of_nonneg h1]
    · cases h
  · cases h
/-- what stands behind a word that a line begins with -/
def sBehind (w : B) : List ByteArray → Option (B × List ByteArray)
  | [] => none
  | l :: ls => if w.isPrefixOf l.data.toList = true then some (l.data.toList.drop w.length, ls) else none
theorem sBehind_text {w : B} {ls : List ByteArray} {d : B} {r : List ByteArray} (h : sBehind w ls = some (d, r)) : linesL ls = w ++ d ++ [10] ++ linesL r ∧ ls.length = r.length + 1 := by
  cases ls with
  | nil => cases h
  | cons l ls =>
    simp only [sBehind] at h
    split at h
    · rename_i hp
      simp only [Option.some.injEq, Prod.mk.injEq] at h
      obtain ⟨rfl, rfl⟩ := h
      obtain ⟨t, ht⟩ := List.isPrefixOf_iff_prefix.1 hp
      refine ⟨?_, rfl⟩
      rw [linesL_cons, ← ht]
      simp
    · cases h
/-- so many lines, read as changes -/
noncomputable def sMany : Nat → List ByteArray → Option (List Chg × List ByteArray)
  | 0, ls => some ([], ls)
  | _ + 1, [] => none
  | n + 1, l :: ls => if (chRead l).2 = true then (sMany n ls).map (fun x => ((chRead l).1 :: x.1, x.2)) else none
theorem sMany_text : ∀ {n : Nat} {ls : List ByteArray} {cs : List Chg} {r : List ByteArray}, sMany n ls = some (cs, r) → linesL ls = chsL cs ++ linesL r ∧ cs.length = n ∧ ls.length = n + r.length
  | 0, ls, cs, r, h => by
    obtain ⟨rfl, rfl⟩ : [] = cs ∧ ls = r := by simpa [sMany] using h
    exact ⟨rfl, rfl, by omega⟩
  | n + 1, [], cs, r, h => by cases h
  | n + 1, l :: ls, cs, r, h => by
    simp only [sMany] at h
    split at h
    · rename_i hr
      obtain ⟨⟨cs', r'⟩, h1, h2⟩ := Option.map_eq_some_iff.1 h
      obtain ⟨rfl, rfl⟩ : (chRead l).1 :: cs' = cs ∧ r' = r := by simpa using h2
      obtain ⟨e1, e2, e3⟩ := sMany_text h1
      refine ⟨?_, by simp [e2], by simp only [List.length_cons]; omega⟩
      rw [linesL_cons, e1]
      unfold chsL
      rw [List.map_cons, linesL_cons, read_back hr]
      simp
    · cases h
/-- a journal's text without its last line -/
noncomputable def jText (id : B) (cs os : List Chg) : B := jW ++ id ++ [10] ++ (cW ++ Lib.itoa (cs.length : Int) ++ [10] ++ chsL cs) ++ (oW ++ Lib.itoa (os.length : Int) ++ [10] ++ chsL os)
/-- what is read of the lines ahead of the sum -/
noncomputable def sBody (ls : List ByteArray) : Option (B × List Chg × List Chg × List ByteArray) :=
  (sBehind jW ls).bind fun a => (sBehind cW a.2).bind fun b => (sNo b.1).bind fun n => (sMany n b.2).bind fun c => (sBehind oW c.2).bind fun d => (sNo d.1).bind fun m => (sMany m d.2).map fun e => (a.1, c.1, e.1, e.2)
theorem sBody_text {ls : List ByteArray} {id : B} {cs os : List Chg} {r : List ByteArray} (h : sBody ls = some (id, cs, os, r)) : linesL ls = jText id cs os ++ linesL r := by
  unfold sBody at h
  obtain ⟨⟨d1, l1⟩, h1, h⟩ := Option.bind_eq_some_iff.1 h
  obtain ⟨⟨d2, l2⟩, h2, h⟩ := Option.bind_eq_some_iff.1 h
  obtain ⟨n, h3, h⟩ := Option.bind_eq_some_iff.1 h
  obtain ⟨⟨c, l4⟩, h4, h⟩ := Option.bind_eq_some_iff.1 h
  obtain ⟨⟨d5, l5⟩, h5, h⟩ := Option.bind_eq_some_iff.1 h
  obtain ⟨m, h6, h⟩ := Option.bind_eq_some_iff.1 h
  obtain ⟨⟨e, l7⟩, h7, h⟩ := Option.map_eq_some_iff.1 h
  simp only [Prod.mk.injEq] at h
  obtain ⟨rfl, rfl, rfl, rfl⟩ := h
  simp only at h2 h3 h4 h5 h6 h7
  obtain ⟨e4, k4, _⟩ := sMany_text h4
  obtain ⟨e7, k7, _⟩ := sMany_text h7
  rw [(sBehind_text h1).1, (sBehind_text h2).1, e4, (sBehind_text h5).1, e7, sNo_text h3, sNo_text h6]
  unfold jText
  rw [k4, k7]
  simp only [List.append_assoc]
end P
end Go.Proofs.YtomikcemiacjmaaGreatDoor

namespace Go.Proofs.YtomikcemiacjmaaGreatDoor
open Go.RowKit Go.Lib Go.Shelf

namespace P
theorem pu_snoc {d : UInt8} (hd : 48 ≤ d.toNat ∧ d.toNat ≤ 57) : ∀ {l : B} {a v : Nat}, Lib.parseUint10 a l = .ok v → v < 100000000000000000 → Lib.parseUint10 a (l ++ [d]) = .ok (v * 10 + (d.toNat - 48))
  | [], a, v, h, hv => by
    have e : a = v := by simpa [Lib.parseUint10] using h
    subst e
    rw [List.nil_append, Lib.parseUint10, if_pos hd, if_neg (by omega), if_neg (by omega)]
    rfl
  | c :: l, a, v, h, hv => by
    rw [Lib.parseUint10] at h
    rw [List.cons_append, Lib.parseUint10]
    split at h
    · rename_i h1
      rw [if_pos h1]
      split at h
      · cases h
      · rename_i h2
        rw [if_neg h2]
        split at h
        · cases h
        · rename_i h3
          rw [if_neg h3]
          exact pu_snoc hd h hv
    · cases h
theorem dig_nat {n : Nat} (h : n < 10) : (UInt8.ofNat (48 + n)).toNat = 48 + n := by
  rw [UInt8.toNat_ofNat', Nat.mod_eq_of_lt (by omega)]
theorem pu_dec (u : Nat) (h : u < 1000000000000000000) : Lib.parseUint10 0 (Lib.decDigits u) = .ok u := by
  rw [Lib.decDigits]
  by_cases h10 : u < 10
  · rw [dif_pos h10]
    have hd := dig_nat h10
    have := pu_snoc (d := UInt8.ofNat (48 + u)) (by omega) (l := []) (a := 0) (v := 0) rfl (by omega)
    rw [List.nil_append] at this
    rw [this, hd]
    congr 1; omega
  · rw [dif_neg h10]
    have hd := dig_nat (n := u % 10) (by omega)
    have ih := pu_dec (u / 10) (by omega)
    rw [pu_snoc (by omega) ih (by omega), hd]
    congr 1; omega
theorem dec_dig (u : Nat) : Lib.decDigits u ≠ [] ∧ ∀ c ∈ Lib.decDigits u, 48 ≤ c.toNat ∧ c.toNat ≤ 57 := by
  rw [Lib.decDigits]
  by_cases h10 : u < 10
  · rw [dif_pos h10]
    have hd := dig_nat h10
    refine ⟨by simp, fun c hc => ?_⟩
    obtain rfl := List.mem_singleton.1 hc
    omega
  · rw [dif_neg h10]
    have hd := dig_nat (n := u % 10) (by omega)
    have ih := dec_dig (u / 10)
    refine ⟨by simp, fun c hc => ?_⟩
    rcases List.mem_append.1 hc with hc | hc
    · exact ih.2 c hc
    · obtain rfl := List.mem_singleton.1 hc
      omega
theorem itoa_nat (u : Nat) : Lib.itoa (u : Int) = Lib.decDigits u := by unfold Lib.itoa; rw [if_neg (by omega)]; simp
theorem atoi_dec (u : Nat) (h : u < 1000000000000000000) : Lib.atoiAll (Lib.decDigits u) = .ok (u : Int) := by
  obtain ⟨h1, h2⟩ := dec_dig u
  have h3 := pu_dec u h
  generalize Lib.decDigits u = l at *
  match l, h1 with
  | c :: r, _ =>
    have hc := h2 c List.mem_cons_self
    have e : Lib.parseMag (if c.toNat = 43 ∨ c.toNat = 45 then r else c :: r) = .ok u := by
      rw [if_neg (by omega)]
      unfold Lib.parseMag
      rw [if_neg (by simp), h3]
    unfold Lib.atoiAll
    simp only [e]
    have hn : ¬ c.toNat = 45 := by omega
    rw [if_neg (by omega), if_neg (by simp [hn]), if_neg hn]
theorem sNo_itoa (u : Nat) (h : u < 1000000000000000000) : sNo (Lib.itoa (u : Int)) = some u := by
  rw [itoa_nat]
  unfold sNo
  rw [atoi_dec u h]
  simp only
  rw [if_pos ⟨by omega, itoa_nat u⟩]
  simp
theorem itoa_free (u : Nat) : (10 : UInt8) ∉ Lib.itoa (u : Int) := by
  rw [itoa_nat]
  intro h
  have := (dec_dig u).2 10 h
  revert this; decide
end P
end Go.Proofs.YtomikcemiacjmaaGreatDoor
