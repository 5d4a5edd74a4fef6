/- Plain: the ways of a journal that is judged. -/
/- Plain: the reference's way through a journal's lines. -/
import Derived.Test.YtomikcemiacjmaaGreatDoorZJLink
import Derived.Test.YtomikcemiacjmaaGreatDoorZTRPrint

namespace Go.Proofs.YtomikcemiacjmaaGreatDoor
open Go.RowKit Go.Lib Go.Shelf Go.Maps

namespace P
/-- the judge's ways -/
theorem judge_cases (t : ByteArray) (id : B) (cs os : List Chg) (sm : B) :
    (sumOk (txt sm) = false ∧ judgeJ t id cs os sm = (jz, 8)) ∨
    (sumOk (txt sm) = true ∧ ((txt sm).toList == (sumOf (txt (jText id cs os))).toList) = false ∧ judgeJ t id cs os sm = (jz, 14)) ∨
    (sumOk (txt sm) = true ∧ txt sm = sumOf (txt (jText id cs os)) ∧ ((nameS (txt id) = false ∧ judgeJ t id cs os sm = (jz, 5)) ∨
      (nameS (txt id) = true ∧ ((chEs cs ≠ 0 ∧ judgeJ t id cs os sm = (jz, chEs cs)) ∨ (chEs cs = 0 ∧ ((chEs os ≠ 0 ∧ judgeJ t id cs os sm = (jz, chEs os)) ∨
        (chEs os = 0 ∧ ((65536 < t.size ∧ judgeJ t id cs os sm = (jz, 4)) ∨ (t.size ≤ 65536 ∧ judgeJ t id cs os sm = ((txt id, cs, os), 0)))))))))) := by
  unfold judgeJ
  cases h1 : sumOk (txt sm) with
  | false => exact .inl ⟨rfl, by rw [if_pos rfl]⟩
  | true =>
    rw [if_neg (by decide)]
    by_cases h2 : txt sm = sumOf (txt (jText id cs os))
    · rw [if_neg (by simpa using h2)]
      refine .inr (.inr ⟨rfl, h2, ?_⟩)
      cases h3 : nameS (txt id) with
      | false => exact .inl ⟨rfl, by rw [if_pos rfl]⟩
      | true =>
        rw [if_neg (by decide)]
        refine .inr ⟨rfl, ?_⟩
        by_cases h4 : chEs cs = 0
        · rw [if_neg (by simpa using h4)]
          refine .inr ⟨h4, ?_⟩
          by_cases h5 : chEs os = 0
          · rw [if_neg (by simpa using h5)]
            refine .inr ⟨h5, ?_⟩
            by_cases h6 : 65536 < t.size
            · exact .inl ⟨h6, by rw [if_pos h6]⟩
            · exact .inr ⟨by omega, by rw [if_neg h6]⟩
          · exact .inl ⟨h5, by rw [if_pos h5]⟩
        · exact .inl ⟨h4, by rw [if_pos h4]⟩
    · refine .inr (.inl ⟨rfl, ?_, by rw [if_pos h2]⟩)
      cases h : ((txt sm).toList == (sumOf (txt (jText id cs os))).toList) with
      | false => rfl
      | true => exact absurd (eq_of_list (by simpa using h)) h2
end P
end Go.Proofs.YtomikcemiacjmaaGreatDoor

namespace Go.Proofs.YtomikcemiacjmaaGreatDoor
open Go.RowKit Go.Lib Go.Shelf Go.Maps

namespace P
theorem readJ_torn {t : ByteArray} (h : torn t ≠ -1) : readJ t = none := by unfold readJ; rw [if_neg h]
theorem readJ_eq {t : ByteArray} (h : torn t = -1) : readJ t = (sBehind jW (lns t)).bind fun a => (sPart cW a.2).bind fun c => (sPart oW c.2).bind fun e => (sBehind sW e.2).bind fun y => if y.2 = [] then some (a.1, c.1, e.1, y.1) else none := by
  unfold readJ
  rw [if_pos h, sBody_part]
  cases sBehind jW (lns t) with
  | none => rfl
  | some a =>
    simp only [Option.bind_some]
    cases sPart cW a.2 with
    | none => rfl
    | some c =>
      simp only [Option.bind_some]
      cases sPart oW c.2 with
      | none => rfl
      | some e => rfl
theorem sPart_len {w : B} {ls : List ByteArray} {cs : List Chg} {r : List ByteArray} (h : sPart w ls = some (cs, r)) : ls.length = 1 + cs.length + r.length := by
  unfold sPart at h
  obtain ⟨⟨d, l1⟩, h1, h⟩ := Option.bind_eq_some_iff.1 h
  obtain ⟨n, h2, h3⟩ := Option.bind_eq_some_iff.1 h
  have e1 := (sBehind_text h1).2
  obtain ⟨_, e2, e3⟩ := sMany_text h3
  simp only at e3
  omega
theorem sMany_small {n : Nat} : ∀ {k : Nat} {ls : List ByteArray} {cs : List Chg} {r : List ByteArray}, (∀ l ∈ ls, l.size ≤ n) → sMany k ls = some (cs, r) → ∀ c ∈ cs, CSm n c
  | 0, ls, cs, r, _, h => by
    obtain ⟨rfl, _⟩ : [] = cs ∧ ls = r := by simpa [sMany] using h
    intro c hc; cases hc
  | k + 1, [], cs, r, _, h => by cases h
  | k + 1, l :: ls, cs, r, hl, h => by
    simp only [sMany] at h
    split at h
    · obtain ⟨⟨cs', r'⟩, h1, h2⟩ := Option.map_eq_some_iff.1 h
      obtain ⟨rfl, rfl⟩ : (chRead l).1 :: cs' = cs ∧ r' = r := by simpa using h2
      intro c hc
      rcases List.mem_cons.1 hc with rfl | hc
      · exact (chRead_small l).up (hl l List.mem_cons_self)
      · exact sMany_small (fun x hx => hl x (List.mem_cons_of_mem _ hx)) h1 c hc
    · cases h
theorem sPart_small {n : Nat} {w : B} {ls : List ByteArray} {cs : List Chg} {r : List ByteArray} (hl : ∀ l ∈ ls, l.size ≤ n) (h : sPart w ls = some (cs, r)) : ∀ c ∈ cs, CSm n c := by
  unfold sPart at h
  obtain ⟨⟨d, l1⟩, h1, h⟩ := Option.bind_eq_some_iff.1 h
  obtain ⟨m, h2, h3⟩ := Option.bind_eq_some_iff.1 h
  refine sMany_small (fun l hx => hl l ?_) h3
  cases ls with
  | nil => cases h1
  | cons a b =>
    simp only [sBehind] at h1
    split at h1
    · obtain ⟨_, rfl⟩ : _ = d ∧ b = l1 := by simpa using h1
      exact List.mem_cons_of_mem _ hx
    · cases h1
theorem readJ_short {t : ByteArray} (h : torn t = -1) (hs : (lns t).length < 4) : readJ t = none := by
  cases hr : readJ t with
  | none => rfl
  | some x =>
    rw [readJ_eq h] at hr
    obtain ⟨⟨id, l1⟩, h1, hr⟩ := Option.bind_eq_some_iff.1 hr
    obtain ⟨⟨cs, l2⟩, h2, hr⟩ := Option.bind_eq_some_iff.1 hr
    obtain ⟨⟨os, l3⟩, h3, hr⟩ := Option.bind_eq_some_iff.1 hr
    obtain ⟨⟨sm, l4⟩, h4, hr⟩ := Option.bind_eq_some_iff.1 hr
    have e1 := (sBehind_text h1).2
    have e2 := sPart_len h2
    have e3 := sPart_len h3
    have e4 := (sBehind_text h4).2
    simp only at e2 e3 e4
    omega
theorem parts_torn {t : ByteArray} (h : torn t = -1) : (parts 10 t).length = (lns t).length + 1 := by
  have hl := parts_len 10 t
  unfold P.torn at h
  unfold lns
  split at h
  · rename_i he
    rw [if_pos he, List.length_dropLast]; omega
  · omega
theorem torn_ne {t : ByteArray} (h : torn t ≠ -1) : 0 ≤ torn t := by have := torn_ge t; omega
/-- lines that are joined, and a line feed -/
theorem join_lines : ∀ (L : List ByteArray), L ≠ [] → Lib.join (L.map (·.data.toList)) [10] ++ [10] = linesL L
  | [], h => absurd rfl h
  | [a], _ => by unfold Lib.join linesL; simp
  | a :: b :: L, _ => by
    have ih := join_lines (b :: L) (by simp)
    rw [linesL_cons, ← ih]
    unfold Lib.join
    simp [List.intercalate]
theorem sBehind_at0 {w : B} {M : List ByteArray} (h : 0 < M.length) : sBehind w M = if Lib.hasPrefix M[0].data.toList w = true then some (M[0].data.toList.drop w.length, M.drop 1) else none := by
  cases M with
  | nil => cases h
  | cons a l => rfl
/-- the text ahead of the sum -/
theorem way_body {M : List ByteArray} {id : B} {cs os : List Chg} {k : Nat} (h : sBody M = some (id, cs, os, M.drop k)) : linesL (M.take k) = jText id cs os := by
  have e := sBody_text h
  have e2 : linesL M = linesL (M.take k) ++ linesL (M.drop k) := by rw [← lines_app, List.take_append_drop]
  rw [e2] at e
  exact List.append_cancel_right e
/-- what PrintJournal says of what was read is what is judged -/
theorem judge_print {t : ByteArray} {id : B} {cs os : List Chg} {sm : B} (hr : readJ t = some (id, cs, os, sm)) (h1 : sumOk (txt sm) = true) (h2 : txt sm = sumOf (txt (jText id cs os))) :
    ((printJ (txt id) cs os).2 ≠ 0 ∧ judgeJ t id cs os sm = (jz, (printJ (txt id) cs os).2)) ∨ (printJ (txt id) cs os = (t, 0) ∧ judgeJ t id cs os sm = ((txt id, cs, os), 0)) := by
  have ht := readJ_text hr
  have hs : sm = sumL (jText id cs os) := by
    have := congrArg (fun x : ByteArray => x.data.toList) h2
    unfold sumOf at this
    simpa only [txt_list] using this
  have hall : t = txt (jAll id cs os) := by rw [ht, hs]; rfl
  have hl : t.size = (jAll id cs os).length := by rw [hall, txt_size]
  rcases judge_cases t id cs os sm with ⟨j1, _⟩ | ⟨_, j2, _⟩ | ⟨_, _, hj⟩
  · rw [h1] at j1; cases j1
  · rw [h2] at j2; simp at j2
  rcases hj with ⟨j4, hJ⟩ | ⟨j4, hj⟩
  · rw [print_name j4]; exact .inl ⟨by decide, hJ⟩
  rcases hj with ⟨j5, hJ⟩ | ⟨j5, hj⟩
  · rw [print_ch j4 j5]; exact .inl ⟨j5, hJ⟩
  rcases hj with ⟨j6, hJ⟩ | ⟨j6, hj⟩
  · rw [print_old j4 j5 j6]; exact .inl ⟨j6, hJ⟩
  rcases hj with ⟨j7, hJ⟩ | ⟨j7, hJ⟩
  · rw [print_large j4 j5 j6 (by rw [txt_list, ← hl]; exact j7)]; exact .inl ⟨by decide, hJ⟩
  · rw [print_ok j4 j5 j6 (by rw [txt_list, ← hl]; omega), txt_list, ← hall]; exact .inr ⟨rfl, hJ⟩
theorem sMany_drop : ∀ {n : Nat} {ls : List ByteArray} {cs : List Chg} {r : List ByteArray}, sMany n ls = some (cs, r) → r = ls.drop n
  | 0, ls, cs, r, h => by
    obtain ⟨_, rfl⟩ : [] = cs ∧ ls = r := by simpa [sMany] using h
    rfl
  | n + 1, [], cs, r, h => by cases h
  | n + 1, l :: ls, cs, r, h => by
    simp only [sMany] at h
    split at h
    · obtain ⟨⟨cs', r'⟩, h1, h2⟩ := Option.map_eq_some_iff.1 h
      obtain ⟨_, rfl⟩ : (chRead l).1 :: cs' = cs ∧ r' = r := by simpa using h2
      have := sMany_drop h1
      simpa using this
    · cases h
theorem sPart_drop {w : B} {M : List ByteArray} {k : Nat} {cs : List Chg} {r : List ByteArray} (h : sPart w (M.drop k) = some (cs, r)) : r = M.drop (M.length - r.length) ∧ r.length ≤ M.length := by
  have hl := sPart_len h
  rw [List.length_drop] at hl
  unfold sPart at h
  obtain ⟨⟨d, l1⟩, h1, h⟩ := Option.bind_eq_some_iff.1 h
  obtain ⟨n, h2, h3⟩ := Option.bind_eq_some_iff.1 h
  have hd := sMany_drop h3
  have hcn := (sMany_text h3).2.1
  simp only at hd
  have h1' : l1 = M.drop (k + 1) := by
    cases hM : M.drop k with
    | nil => rw [hM] at h1; cases h1
    | cons a b =>
      rw [hM] at h1
      simp only [sBehind] at h1
      split at h1
      · obtain ⟨_, rfl⟩ : _ = d ∧ b = l1 := by simpa using h1
        rw [← List.drop_drop, hM]; rfl
      · cases h1
  rw [h1', List.drop_drop] at hd
  have hr := congrArg List.length hd
  rw [List.length_drop] at hr
  refine ⟨?_, by omega⟩
  have e : M.length - r.length = k + 1 + n := by omega
  rw [e]; exact hd
theorem way_text' {P0 : Prop} {M : List ByteArray} {id : B} {cs os : List Chg} {r1 r2 : List ByteArray} (_h0 : P0) (h1 : sBehind jW M = some (id, M.drop 1)) (h2 : sPart cW (M.drop 1) = some (cs, r1)) (h3 : sPart oW r1 = some (os, r2)) (_ : True) :
    sBody M = some (id, cs, os, r2) := by
  rw [sBody_part, h1]
  simp only [Option.bind_some, h2, h3, Option.map_some]
theorem behind_one {r : List ByteArray} {α : Type} {f : B → α} (h : r.length ≠ 1) : ((sBehind sW r).bind fun y => if y.2 = [] then some (f y.1) else none) = none := by
  cases r with
  | nil => rfl
  | cons a l =>
    simp only [sBehind]
    split
    · simp only [Option.bind_some]
      rw [if_neg]
      intro e
      rw [e] at h
      exact h rfl
    · rfl
theorem lines_take_le (M : List ByteArray) (k : Nat) : (linesL (M.take k)).length ≤ (linesL M).length := by
  have e2 : linesL M = linesL (M.take k) ++ linesL (M.drop k) := by rw [← lines_app, List.take_append_drop]
  rw [e2, List.length_append]; omega
theorem lns_text {t : ByteArray} (h : torn t = -1) : (linesL (lns t)).length = t.size := by
  obtain ⟨ls, tail, hp⟩ := parted t.size t (Nat.le_refl _)
  have htl : tail = [] := by
    rcases Classical.em (tail = []) with e | e
    · exact e
    · have := hp.torn
      rw [if_neg e] at this
      omega
  subst htl
  have hl := hp.lines
  rw [if_pos rfl, List.append_nil] at hl
  rw [hl]
  have e := congrArg ByteArray.size hp.eq
  rw [txt_size, List.append_nil] at e
  exact e.symm
end P
end Go.Proofs.YtomikcemiacjmaaGreatDoor
