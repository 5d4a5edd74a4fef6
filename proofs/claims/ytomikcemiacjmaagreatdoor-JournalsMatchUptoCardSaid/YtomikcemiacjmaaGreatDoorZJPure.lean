/- Plain: a journal's text, what is read of a text as a journal; what is written is read; what is changed in a byte is not. -/
/- Bytes of a text in memory; one of them changed. -/
import Derived.Test.YtomikcemiacjmaaGreatDoorZJBack
import Derived.Test.YtomikcemiacjmaaGreatDoorZJSum
import Derived.Test.YtomikcemiacjmaaGreatDoorZMNames
import Derived.Lib.ConvBytes
import Derived.Laws.IdiomStrings
import Derived.Laws.Bits64

namespace Go.Proofs.YtomikcemiacjmaaGreatDoor
open Go.RowKit Go.Lib Go.Shelf

namespace P
/-! ### lines -/
theorem lns_lines : ∀ (ls : List ByteArray), (∀ l ∈ ls, (10 : UInt8) ∉ l.data.toList) → lns (txt (linesL ls)) = ls ∧ torn (txt (linesL ls)) = -1
  | [], _ => by
    have hc : cutOk (txt (linesL [])) 10 = false := part_tail (tail := []) (by simp)
    have he : (txt (linesL [])).toList = [] := by rw [Lib.toList_data, txt_list]; rfl
    refine ⟨(lns_no hc).1 he, ?_⟩
    unfold P.torn
    have e := (parts_no hc).1
    have g : (parts 10 (txt (linesL []))).getLast (parts_ne 10 _) = txt (linesL []) := by simp only [e]; rfl
    rw [g, if_pos he]
  | l :: ls, h => by
    obtain ⟨h1, h2, h3⟩ := part_line (ls := ls) (tail := []) (h l List.mem_cons_self)
    obtain ⟨i1, i2⟩ := lns_lines ls (fun x hx => h x (List.mem_cons_of_mem _ hx))
    simp only [List.append_nil] at h1 h2 h3
    refine ⟨?_, ?_⟩
    · rw [lns_hit h1, h2, h3, i1]
    · rw [torn_hit h1, h3, i2, if_pos rfl]
theorem lines_app (a b : List ByteArray) : linesL (a ++ b) = linesL a ++ linesL b := by unfold linesL; simp
theorem sMany_right (r : List ByteArray) : ∀ (cs : List Chg), (∀ c ∈ cs, chE c = 0) → sMany cs.length (cs.map chT ++ r) = some (cs, r)
  | [], _ => rfl
  | c :: cs, h => by
    obtain ⟨l, e, _, hr⟩ := creads (h c List.mem_cons_self)
    have e2 : txt l = chT c := by rw [← e, txt_self]
    rw [e2] at hr
    simp only [List.length_cons, List.map_cons, List.cons_append, sMany]
    rw [hr, if_pos rfl, sMany_right r cs (fun x hx => h x (List.mem_cons_of_mem _ hx))]
    rfl
theorem sBehind_at (w d : B) (r : List ByteArray) : sBehind w (txt (w ++ d) :: r) = some (d, r) := by
  simp only [sBehind, txt_list]
  rw [if_pos (List.isPrefixOf_iff_prefix.2 ⟨d, rfl⟩)]
  simp
/-- the lines of a journal ahead of its sum -/
noncomputable def jLines (id : B) (cs os : List Chg) : List ByteArray := txt (jW ++ id) :: txt (cW ++ Lib.itoa (cs.length : Int)) :: (cs.map chT ++ txt (oW ++ Lib.itoa (os.length : Int)) :: os.map chT)
theorem jLines_text (id : B) (cs os : List Chg) : linesL (jLines id cs os) = jText id cs os := by
  unfold jLines jText chsL
  simp only [linesL_cons, lines_app, txt_list, List.append_assoc, List.cons_append, List.nil_append]
theorem sBody_at {id : B} {cs os : List Chg} (hc : ∀ c ∈ cs, chE c = 0) (ho : ∀ c ∈ os, chE c = 0) (h1 : cs.length < 1000000000000000000) (h2 : os.length < 1000000000000000000) (r : List ByteArray) :
    sBody (jLines id cs os ++ r) = some (id, cs, os, r) := by
  unfold sBody jLines
  simp only [List.cons_append, List.append_assoc, sBehind_at, Option.bind_some, sNo_itoa _ h1, sNo_itoa _ h2, sMany_right _ _ hc, sMany_right _ _ ho, Option.map_some]
/-! ### writing -/
noncomputable def jAll (id : B) (cs os : List Chg) : B := jText id cs os ++ (sW ++ sumL (jText id cs os) ++ [10])
noncomputable def printJ (id : ByteArray) (cs os : List Chg) : ByteArray × Int :=
  if nameS id = false then (⟨#[]⟩, 5) else if chEs cs ≠ 0 then (⟨#[]⟩, chEs cs) else if chEs os ≠ 0 then (⟨#[]⟩, chEs os) else if 65536 < (jAll id.data.toList cs os).length then (⟨#[]⟩, 4) else (txt (jAll id.data.toList cs os), 0)
theorem print_name {id : ByteArray} {cs os : List Chg} (h : nameS id = false) : printJ id cs os = (⟨#[]⟩, 5) := if_pos h
theorem print_ch {id : ByteArray} {cs os : List Chg} (h : nameS id = true) (h1 : chEs cs ≠ 0) : printJ id cs os = (⟨#[]⟩, chEs cs) := by unfold printJ; rw [if_neg (by rw [h]; decide), if_pos h1]
theorem print_old {id : ByteArray} {cs os : List Chg} (h : nameS id = true) (h1 : chEs cs = 0) (h2 : chEs os ≠ 0) : printJ id cs os = (⟨#[]⟩, chEs os) := by unfold printJ; rw [if_neg (by rw [h]; decide), if_neg (by simpa using h1), if_pos h2]
theorem print_large {id : ByteArray} {cs os : List Chg} (h : nameS id = true) (h1 : chEs cs = 0) (h2 : chEs os = 0) (h3 : 65536 < (jAll id.data.toList cs os).length) : printJ id cs os = (⟨#[]⟩, 4) := by
  unfold printJ; rw [if_neg (by rw [h]; decide), if_neg (by simpa using h1), if_neg (by simpa using h2), if_pos h3]
theorem print_ok {id : ByteArray} {cs os : List Chg} (h : nameS id = true) (h1 : chEs cs = 0) (h2 : chEs os = 0) (h3 : ¬ 65536 < (jAll id.data.toList cs os).length) : printJ id cs os = (txt (jAll id.data.toList cs os), 0) := by
  unfold printJ; rw [if_neg (by rw [h]; decide), if_neg (by simpa using h1), if_neg (by simpa using h2), if_neg h3]
theorem print_zero {id : ByteArray} {cs os : List Chg} {s : ByteArray} (h : printJ id cs os = (s, 0)) : nameS id = true ∧ chEs cs = 0 ∧ chEs os = 0 ∧ (jAll id.data.toList cs os).length ≤ 65536 ∧ s = txt (jAll id.data.toList cs os) := by
  cases hn : nameS id with
  | false => rw [print_name hn] at h; cases h
  | true =>
    by_cases h1 : chEs cs = 0
    · by_cases h2 : chEs os = 0
      · by_cases h3 : 65536 < (jAll id.data.toList cs os).length
        · rw [print_large hn h1 h2 h3] at h; cases h
        · rw [print_ok hn h1 h2 h3] at h
          exact ⟨rfl, h1, h2, by omega, (Prod.mk.inj h).1.symm⟩
      · rw [print_old hn h1 h2] at h; exact absurd (Prod.mk.inj h).2 h2
    · rw [print_ch hn h1] at h; exact absurd (Prod.mk.inj h).2 h1
/-! ### reading -/
noncomputable def readJ (t : ByteArray) : Option (B × List Chg × List Chg × B) :=
  if torn t = -1 then (sBody (lns t)).bind fun x => (sBehind sW x.2.2.2).bind fun y => if y.2 = [] then some (x.1, x.2.1, x.2.2.1, y.1) else none else none
abbrev Jr := ByteArray × List Chg × List Chg
def jz : Jr := (⟨#[]⟩, [], [])
noncomputable def judgeJ (t : ByteArray) (id : B) (cs os : List Chg) (sm : B) : Jr × Int :=
  if sumOk (txt sm) = false then (jz, 8) else if txt sm ≠ sumOf (txt (jText id cs os)) then (jz, 14) else if nameS (txt id) = false then (jz, 5)
  else if chEs cs ≠ 0 then (jz, chEs cs) else if chEs os ≠ 0 then (jz, chEs os) else if 65536 < t.size then (jz, 4) else ((txt id, cs, os), 0)
noncomputable def parseJ (t : ByteArray) : Jr × Int := match readJ t with
  | none => (jz, 8)
  | some x => judgeJ t x.1 x.2.1 x.2.2.1 x.2.2.2
theorem readJ_text {t : ByteArray} {id : B} {cs os : List Chg} {sm : B} (h : readJ t = some (id, cs, os, sm)) : t = txt (jText id cs os ++ (sW ++ sm ++ [10])) := by
  obtain ⟨ls, tail, hp⟩ := parted t.size t (Nat.le_refl _)
  unfold readJ at h
  split at h
  · rename_i ht
    have htl : tail = [] := by
      rcases Classical.em (tail = []) with e | e
      · exact e
      · have := hp.torn
        rw [if_neg e] at this
        omega
    subst htl
    have hl := hp.lines
    rw [if_pos rfl, List.append_nil] at hl
    rw [hl] at h
    obtain ⟨⟨i, c, o, r⟩, h1, h2⟩ := Option.bind_eq_some_iff.1 h
    obtain ⟨⟨s, r2⟩, h3, h4⟩ := Option.bind_eq_some_iff.1 h2
    simp only at h3 h4
    split at h4
    · rename_i hr
      subst hr
      obtain ⟨rfl, rfl, rfl, rfl⟩ : i = id ∧ c = cs ∧ o = os ∧ s = sm := by simpa using h4
      have e := hp.eq
      rw [List.append_nil, sBody_text h1, (sBehind_text h3).1] at e
      rw [e, show linesL [] = [] from rfl, List.append_nil]
    · cases h4
  · cases h
theorem judge_ok {t : ByteArray} {id : B} {cs os : List Chg} {sm : B} {j : Jr} (h : judgeJ t id cs os sm = (j, 0)) :
    sumOk (txt sm) = true ∧ txt sm = sumOf (txt (jText id cs os)) ∧ nameS (txt id) = true ∧ chEs cs = 0 ∧ chEs os = 0 ∧ t.size ≤ 65536 ∧ j = (txt id, cs, os) := by
  unfold judgeJ at h
  by_cases h1 : sumOk (txt sm) = false
  · rw [if_pos h1] at h; cases h
  rw [if_neg h1] at h
  by_cases h2 : txt sm = sumOf (txt (jText id cs os))
  · rw [if_neg (by simpa using h2)] at h
    by_cases h3 : nameS (txt id) = false
    · rw [if_pos h3] at h; cases h
    rw [if_neg h3] at h
    by_cases h4 : chEs cs = 0
    · rw [if_neg (by simpa using h4)] at h
      by_cases h5 : chEs os = 0
      · rw [if_neg (by simpa using h5)] at h
        by_cases h6 : 65536 < t.size
        · rw [if_pos h6] at h; cases h
        · rw [if_neg h6] at h
          exact ⟨by simpa using h1, h2, by simpa using h3, h4, h5, by omega, (Prod.mk.inj h).1.symm⟩
      · rw [if_pos h5] at h; exact absurd (Prod.mk.inj h).2 h5
    · rw [if_pos h4] at h; exact absurd (Prod.mk.inj h).2 h4
  · rw [if_pos h2] at h; cases h
/-- WHAT IS READ IS WHAT IS WRITTEN -/
theorem jparse_ok {t : ByteArray} {j : Jr} (h : parseJ t = (j, 0)) : ∃ id : B, j.1 = txt id ∧ t = txt (jAll id j.2.1 j.2.2) ∧ t.size ≤ 65536 := by
  unfold parseJ at h
  split at h
  · cases h
  · rename_i x hx
    obtain ⟨id, cs, os, sm⟩ := x
    obtain ⟨_, h2, _, _, _, h6, rfl⟩ := judge_ok h
    refine ⟨id, rfl, ?_, h6⟩
    have e := readJ_text hx
    have e2 : sm = sumL (jText id cs os) := by
      have := congrArg (fun x : ByteArray => x.data.toList) h2
      unfold sumOf at this
      simpa only [txt_list] using this
    rw [e, e2]; rfl
theorem name_free {s : ByteArray} (h : nameS s = true) : (10 : UInt8) ∉ s.data.toList := no10 (name_ge (show name s.data.toList = true from h)).2
theorem hexC_ok : ∀ d : Fin 16, lowHex (hexC d) = true := by decide +kernel
theorem hexDigits_ok : ∀ k n, ∀ c ∈ hexDigits k n, lowHex c = true
  | 0, _, c, h => by cases h
  | k + 1, n, c, h => by
    unfold hexDigits at h
    split at h
    · rename_i hn
      obtain rfl := List.mem_singleton.1 h
      exact hexC_ok ⟨n, hn⟩
    · rcases List.mem_append.1 h with h | h
      · exact hexDigits_ok k _ c h
      · obtain rfl := List.mem_singleton.1 h
        exact hexC_ok ⟨n % 16, Nat.mod_lt _ (by omega)⟩
theorem sumL_ok (l : B) : ∀ c ∈ sumL l, lowHex c = true := by
  intro c h
  unfold sumL at h
  rcases List.mem_append.1 h with h | h
  · have : ∀ n, ∀ c ∈ Lib.repeatL [48] n, c = (48 : UInt8) := by
      intro n
      induction n with
      | zero => intro c h; cases h
      | succ n ih =>
        intro c h
        rcases List.mem_append.1 (show c ∈ [48] ++ Lib.repeatL [48] n from h) with h | h
        · exact List.mem_singleton.1 h
        · exact ih c h
    rw [this _ c h]; decide
  · exact hexDigits_ok _ _ c h
theorem sumOk_sum (l : B) : sumOk (txt (sumL l)) = true := by
  unfold sumOk
  rw [txt_list, txt_size, sumL_len]
  simp only [decide_true, Bool.and_true, List.all_eq_true]
  exact sumL_ok l
theorem sum_free (l : B) : (10 : UInt8) ∉ sumL l := fun h => by have := sumL_ok l 10 h; revert this; decide
/-- WHAT IS WRITTEN IS READ -/
theorem parse_print {id : ByteArray} {cs os : List Chg} {s : ByteArray} (h : printJ id cs os = (s, 0)) (h1 : cs.length < 1000000000000000000) (h2 : os.length < 1000000000000000000) : parseJ s = ((id, cs, os), 0) := by
  obtain ⟨hn, hc, ho, hl, rfl⟩ := print_zero h
  have hcs := chEs_zero hc
  have hos := chEs_zero ho
  have hfree : ∀ l ∈ jLines id.data.toList cs os ++ [txt (sW ++ sumL (jText id.data.toList cs os))], (10 : UInt8) ∉ l.data.toList := by
    have hch : ∀ L : List Chg, (∀ c ∈ L, chE c = 0) → ∀ l ∈ L.map chT, (10 : UInt8) ∉ l.data.toList := by
      intro L hL l hl
      obtain ⟨c, hc, rfl⟩ := List.mem_map.1 hl
      obtain ⟨x, e, e2, _⟩ := creads (hL c hc)
      rw [e]; exact e2
    have hw : ∀ w d : B, (10 : UInt8) ∉ w → (10 : UInt8) ∉ d → (10 : UInt8) ∉ (txt (w ++ d)).data.toList := by
      intro w d hw hd h
      rw [txt_list] at h
      rcases List.mem_append.1 h with h | h
      · exact hw h
      · exact hd h
    intro l hl
    unfold jLines at hl
    simp only [List.cons_append, List.append_assoc, List.mem_cons, List.mem_append, List.not_mem_nil, or_false] at hl
    rcases hl with rfl | rfl | hl | rfl | hl | rfl
    · exact hw _ _ (by decide) (name_free hn)
    · exact hw _ _ (by decide) (itoa_free _)
    · exact hch cs hcs l hl
    · exact hw _ _ (by decide) (itoa_free _)
    · exact hch os hos l hl
    · exact hw _ _ (by decide) (sum_free _)
  have e : jAll id.data.toList cs os = linesL (jLines id.data.toList cs os ++ [txt (sW ++ sumL (jText id.data.toList cs os))]) := by
    rw [lines_app, jLines_text, linesL_cons, txt_list]
    unfold jAll
    rw [show linesL [] = [] from rfl]
  have hr : readJ (txt (jAll id.data.toList cs os)) = some (id.data.toList, cs, os, sumL (jText id.data.toList cs os)) := by
    obtain ⟨e1, e2⟩ := lns_lines _ hfree
    unfold readJ
    rw [e, e1, e2, if_pos rfl, sBody_at hcs hos h1 h2]
    simp only [Option.bind_some, sBehind_at, if_pos]
  unfold parseJ
  rw [hr]
  simp only
  unfold judgeJ
  have hsz : ¬ 65536 < (txt (jAll id.data.toList cs os)).size := by rw [txt_size]; omega
  rw [if_neg (by rw [sumOk_sum]; decide), if_neg (by unfold sumOf; rw [txt_list]; simp), txt_self, if_neg (by rw [hn]; decide), if_neg (by simpa using hc), if_neg (by simpa using ho), if_neg hsz]
/-- WHAT IS CHANGED IN A BYTE IS NOT READ -/
theorem parse_changed {id : ByteArray} {cs os : List Chg} {s : ByteArray} (h : printJ id cs os = (s, 0)) (p q : B) (c d : UInt8) (hs : s.data.toList = p ++ c :: q) (hcd : c ≠ d) : (parseJ (txt (p ++ d :: q))).2 ≠ 0 := by
  intro h0
  obtain ⟨j, hj⟩ : ∃ j, parseJ (txt (p ++ d :: q)) = (j, 0) := ⟨(parseJ _).1, by rw [← h0]⟩
  obtain ⟨id2, _, e2, _⟩ := jparse_ok hj
  obtain ⟨_, _, _, _, e1⟩ := print_zero h
  have f1 : p ++ c :: q = jAll id.data.toList cs os := by rw [← hs, e1, txt_list]
  have f2 : p ++ d :: q = jAll id2 j.2.1 j.2.2 := by have := congrArg (fun x : ByteArray => x.data.toList) e2; simpa only [txt_list] using this
  unfold jAll at f1 f2
  generalize jText id.data.toList cs os = X at *
  generalize jText id2 j.2.1 j.2.2 = Y at *
  have hlen : X.length = Y.length := by
    have a := congrArg List.length f1
    have b := congrArg List.length f2
    simp only [List.length_append, List.length_cons, sumL_len] at a b
    omega
  by_cases hp : p.length < X.length
  · -- the byte stands ahead of the sum
    have gX : X = p ++ c :: q.take (X.length - p.length - 1) := by
      have := congrArg (List.take X.length) f1
      rw [List.take_left] at this
      rw [← this, List.take_append, List.take_of_length_le (by omega)]
      obtain ⟨k, hk⟩ : ∃ k, X.length - p.length = k + 1 := ⟨X.length - p.length - 1, by omega⟩
      rw [hk, List.take_succ_cons]; simp
    have gY : Y = p ++ d :: q.take (X.length - p.length - 1) := by
      have := congrArg (List.take X.length) f2
      rw [hlen, List.take_left, ← hlen] at this
      rw [← this, List.take_append, List.take_of_length_le (by omega)]
      obtain ⟨k, hk⟩ : ∃ k, X.length - p.length = k + 1 := ⟨X.length - p.length - 1, by omega⟩
      rw [hk, List.take_succ_cons]; simp
    have tX := congrArg (List.drop X.length) f1
    have tY := congrArg (List.drop X.length) f2
    rw [List.drop_left] at tX
    rw [hlen, List.drop_left, ← hlen] at tY
    have e : (p ++ c :: q).drop X.length = (p ++ d :: q).drop X.length := by
      rw [List.drop_append, List.drop_append, List.drop_eq_nil_of_le (by omega)]
      obtain ⟨k, hk⟩ : ∃ k, X.length - p.length = k + 1 := ⟨X.length - p.length - 1, by omega⟩
      rw [hk, List.drop_succ_cons, List.drop_succ_cons]
    rw [tX, tY] at e
    have e3 : sumL X = sumL Y := by
      rw [List.append_assoc, List.append_assoc] at e
      exact (List.append_inj_left (List.append_cancel_left e) (by rw [sumL_len, sumL_len]))
    rw [gX, gY] at e3
    exact hcd (sum_byte e3)
  · -- the byte stands in the sum's line
    have gX : X = p.take X.length := by
      have := congrArg (List.take X.length) f1
      rw [List.take_left, List.take_append_of_le_length (by omega)] at this
      exact this.symm
    have gY : Y = p.take X.length := by
      have := congrArg (List.take X.length) f2
      rw [hlen, List.take_left, ← hlen, List.take_append_of_le_length (by omega)] at this
      exact this.symm
    have e : X = Y := by rw [gY, ← gX]
    rw [← e, ← f1] at f2
    have := List.append_cancel_left f2
    exact hcd (List.cons.inj this).1.symm
end P
end Go.Proofs.YtomikcemiacjmaaGreatDoor

namespace Go.Proofs.YtomikcemiacjmaaGreatDoor
open Go.RowKit Go.Lib Go.Shelf

structure BR (W : World) (b : Nat) (l : P.B) : Prop where
  cell : ∀ j (hj : j < l.length), W.cell? ⟨b, j, none⟩ = some (.int .u8 (l[j].toNat : Int))
  free : ∀ j, j < l.length → W.frozen? ⟨b, j, none⟩ = false
theorem BR.new (w : World) (s : ByteArray) : BR (Lib.bytesWorld w 5 s) w.heap.size s.data.toList := by
  refine ⟨fun j hj => ?_, fun j hj => ?_⟩
  · rw [Lib.bytesWorld_cell w 5 s j (by rw [← P.size_len]; exact hj)]
    rw [List.getD_eq_getElem?_getD, List.getElem?_eq_getElem hj]
    rfl
  · unfold World.frozen?
    simp only [Lib.bytesWorld_at_new]
    have : s.size ≤ (Lib.bytesCells w 5 s).size := by
      unfold Lib.bytesCells
      rw [Array.size_append, Array.size_map]
      have e : s.data.size = s.size := rfl
      omega
    rw [P.size_len] at hj
    simp only [Bool.and_eq_false_iff, decide_eq_false_iff_not]
    left; omega
theorem BR.set {W : World} {b : Nat} {l : P.B} (h : BR W b l) (i : Nat) (hi : i < l.length) (d : UInt8) : BR (W.setCell ⟨b, i, none⟩ (.int .u8 (d.toNat : Int))) b (l.set i d) := by
  refine ⟨fun j hj => ?_, fun j hj => ?_⟩
  · rw [List.length_set] at hj
    by_cases e : j = i
    · subst e
      rw [World.cell?_setCell_same' _ _ _ (by rw [h.cell j hi]; simp)]
      simp
    · rw [World.cell?_setCell_other (h := show (⟨b, i, none⟩ : Addr) ≠ ⟨b, j, none⟩ from fun h' => e (by injection h' with _ h2; exact h2.symm)), h.cell j hj]
      rw [List.getElem_set_ne (fun e2 => e e2.symm)]
  · rw [List.length_set] at hj
    rw [World.frozen?_setCell]; exact h.free j hj
theorem bytes_below (w : World) (s : ByteArray) : Below w.heap.size w (Lib.bytesWorld w 5 s) := Lib.bytesWorld_below _ _ _
theorem conv_to (w : World) (s : ByteArray) : (convert 9 111 (.string s)).run Tryz.prog w = .ok (.slice (some ⟨w.heap.size, 0, none⟩) s.size (grownCap w s.size 0 5)) (Lib.bytesWorld w 5 s) :=
  Lib.run_convert_string_bytes (P := Tryz.prog) w 9 111 5 s Tryz.underlying9 Tryz.underlying111 Tryz.underlying5
theorem conv_back {W : World} {b : Nat} {l : P.B} (h : BR W b l) (n cap : Nat) (hn : l.length = n) : (convert 111 9 (.slice (some ⟨b, 0, none⟩) n cap)).run Tryz.prog W = .ok (.string (P.txt l)) W := by
  subst hn
  refine run_convert_bytes_back (P := Tryz.prog) W 111 9 5 ⟨b, 0, none⟩ cap l Tryz.underlying111 Tryz.underlying5 Tryz.underlying9 (fun j hj => ?_)
  have e : (⟨b, 0, none⟩ : Addr).add j = ⟨b, j, none⟩ := by simp [Addr.add]; omega
  rw [e]; exact h.cell j hj
theorem xor8_fin : ∀ a b : Fin 256, bits .xor .u8 (a.val : Int) (b.val : Int) = ((a.val ^^^ b.val : Nat) : Int) := by decide +kernel
theorem xor8 (c d : UInt8) : bits .xor .u8 (c.toNat : Int) (d.toNat : Int) = ((c ^^^ d).toNat : Int) := by
  rw [xor8_fin ⟨c.toNat, c.toNat_lt⟩ ⟨d.toNat, d.toNat_lt⟩, UInt8.toNat_xor]
namespace P
theorem xor_ne {c b : UInt8} (h : b ≠ 0) : c ^^^ b ≠ c := by
  intro e
  apply h
  have e2 := congrArg UInt8.toNat e
  rw [UInt8.toNat_xor] at e2
  have e3 : c.toNat ^^^ b.toNat = c.toNat ^^^ 0 := by rw [e2]; simp
  exact UInt8.toNat_inj.1 (xorL e3)
theorem changed_set {id : ByteArray} {cs os : List Chg} {s : ByteArray} (h : printJ id cs os = (s, 0)) (i : Nat) (hi : i < s.data.toList.length) (d : UInt8) (hd : d ≠ s.data.toList[i]) : (parseJ (txt (s.data.toList.set i d))).2 ≠ 0 := by
  rw [List.set_eq_take_append_cons_drop, if_pos hi]
  refine parse_changed h _ _ s.data.toList[i] d ?_ (fun e => hd e.symm)
  conv => lhs; rw [← List.take_append_drop i s.data.toList, List.drop_eq_getElem_cons hi]
theorem print_len {id : ByteArray} {cs os : List Chg} {s : ByteArray} (h : printJ id cs os = (s, 0)) : 0 < s.size ∧ s.size ≤ 65536 := by
  obtain ⟨_, _, _, h4, rfl⟩ := print_zero h
  rw [txt_size]
  refine ⟨?_, h4⟩
  unfold jAll
  simp only [List.length_append, List.length_cons, List.length_nil]
  omega
end P
end Go.Proofs.YtomikcemiacjmaaGreatDoor
