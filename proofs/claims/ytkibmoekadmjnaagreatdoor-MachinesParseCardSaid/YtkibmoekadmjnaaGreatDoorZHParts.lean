/- Plain: a text in parts; what the reference reads it as is what Parse reads it as. -/
import Derived.Test.YtkibmoekadmjnaaGreatDoorZUSmall

namespace Go.Proofs.YtkibmoekadmjnaaGreatDoor
open Go.RowKit Go.Lib Go.Shelf

namespace P
/-- all parts of a text between instances of a byte -/
def parts (c : UInt8) (t : ByteArray) : List ByteArray := Lib.splitB ⟨#[c]⟩ 0 (Lib.countB t ⟨#[c]⟩) t
theorem cut_cases (c : UInt8) (t : ByteArray) : (Lib.indexB t ⟨#[c]⟩ = -1 ∧ cutOk t c = false ∧ cutA t c = t ∧ cutB t c = ⟨#[]⟩) ∨
    (∃ i : Nat, Lib.indexB t ⟨#[c]⟩ = i ∧ i + 1 ≤ t.size ∧ cutOk t c = true ∧ cutA t c = t.extract 0 i ∧ cutB t c = t.extract (i + 1) t.size) := by
  rcases Lib.indexB_cases t ⟨#[c]⟩ with h | ⟨i, h, hi⟩
  · obtain ⟨h1, h2, h3⟩ := Lib.cutB_miss t ⟨#[c]⟩ h
    exact .inl ⟨h, h3, h1, h2⟩
  · obtain ⟨h1, h2, h3⟩ := Lib.cutB_hit t ⟨#[c]⟩ i h
    exact .inr ⟨i, h, hi, h3, h1, h2⟩
theorem parts_no {c : UInt8} {t : ByteArray} (h : cutOk t c = false) : parts c t = [t] ∧ cutA t c = t ∧ cutB t c = ⟨#[]⟩ ∧ Lib.countB t ⟨#[c]⟩ = 0 := by
  rcases cut_cases c t with ⟨h1, _, h2, h3⟩ | ⟨i, _, _, h1, _⟩
  · exact ⟨Lib.splitB_miss _ _ _ _ h1, h2, h3, Lib.countB_miss _ _ h1⟩
  · rw [h1] at h; cases h
theorem parts_hit {c : UInt8} {t : ByteArray} (h : cutOk t c = true) : parts c t = cutA t c :: parts c (cutB t c) ∧ Lib.countB t ⟨#[c]⟩ = Lib.countB (cutB t c) ⟨#[c]⟩ + 1 := by
  rcases cut_cases c t with ⟨_, h1, _⟩ | ⟨i, h1, _, _, h2, h3⟩
  · rw [h1] at h; cases h
  · have e := Lib.countB_hit t ⟨#[c]⟩ i (Nat.le_refl _) h1
    have e2 : (⟨#[c]⟩ : ByteArray).size = 1 := rfl
    rw [e2, ← h3] at e
    refine ⟨?_, by omega⟩
    unfold parts
    rw [e, Nat.add_comm, Lib.splitB_hit _ _ _ _ i h1, e2, h2, ← h3]
    rfl
theorem parts_len (c : UInt8) (t : ByteArray) : (parts c t).length = Lib.countB t ⟨#[c]⟩ + 1 := Lib.splitB_all ⟨#[c]⟩ (Nat.le_refl _) 0 _ t rfl
theorem parts_ne (c : UInt8) (t : ByteArray) : parts c t ≠ [] := by
  intro e
  have := parts_len c t
  rw [e] at this
  simp at this
theorem cutB_lt' {c : UInt8} {t : ByteArray} (h : cutOk t c = true) : (cutB t c).size < t.size := by
  rcases cut_cases c t with ⟨_, h1, _⟩ | ⟨i, _, hi, _, _, h3⟩
  · rw [h1] at h; cases h
  · rw [h3, ByteArray.size_extract]; omega
theorem cutA_free (c : UInt8) (t : ByteArray) : c ∉ (cutA t c).data.toList := by
  intro hm
  unfold cutA Lib.cut at hm
  have key : Lib.indexByte t.data.toList c = Lib.index t.data.toList [c] := (Lib.index_one _ _).symm
  split at hm
  · rename_i h0
    rw [txt_list] at hm
    obtain ⟨i, hi⟩ : ∃ i : Nat, Lib.index t.data.toList [c] = i := ⟨(Lib.index t.data.toList [c]).toNat, by omega⟩
    rw [hi, Int.toNat_natCast] at hm
    rw [hi] at key
    have hs := (Lib.indexByte_some key).2
    obtain ⟨j, hj, e⟩ := List.mem_iff_getElem.1 hm
    rw [List.length_take] at hj
    refine hs j (by omega) ?_
    rw [List.getElem_take] at e
    rw [← e]
    exact List.getElem?_eq_getElem _
  · rename_i h0
    rw [txt_list] at hm
    have hge := Lib.index_ge t.data.toList [c]
    have : Lib.indexByte t.data.toList c = -1 := by omega
    obtain ⟨j, hj⟩ := List.mem_iff_getElem?.1 hm
    exact Lib.indexByte_none this j hj
theorem parts_free (c : UInt8) : ∀ (n : Nat) (t : ByteArray), t.size ≤ n → ∀ x ∈ parts c t, c ∉ x.data.toList
  | n, t, hn, x, hx => by
    cases h : cutOk t c with
    | false =>
      obtain ⟨h1, h2, _⟩ := parts_no h
      rw [h1] at hx
      rcases List.mem_cons.1 hx with rfl | hx
      · rw [← h2]; exact cutA_free c _
      · cases hx
    | true =>
      have hlt := cutB_lt' h
      rw [(parts_hit h).1] at hx
      rcases List.mem_cons.1 hx with rfl | hx
      · exact cutA_free c _
      · cases n with
        | zero => omega
        | succ n => exact parts_free c n _ (by omega) x hx

/-! ### a service -/
theorem splitB_more (c : UInt8) : ∀ (k : Nat) (t : ByteArray), Lib.countB t ⟨#[c]⟩ ≤ k → Lib.splitB ⟨#[c]⟩ 0 k t = parts c t
  | k, t, hk => by
    cases h : cutOk t c with
    | false =>
      rcases cut_cases c t with ⟨h1, _⟩ | ⟨i, _, _, h2, _⟩
      · rw [(parts_no h).1, Lib.splitB_miss _ _ _ _ h1]
      · rw [h2] at h; cases h
    | true =>
      obtain ⟨hp, hc⟩ := parts_hit h
      rcases cut_cases c t with ⟨_, h2, _⟩ | ⟨i, h1, _, _, h2, h3⟩
      · rw [h2] at h; cases h
      · cases k with
        | zero => omega
        | succ k =>
          have e2 : (⟨#[c]⟩ : ByteArray).size = 1 := rfl
          rw [hp, Lib.splitB_hit _ _ _ _ i h1, e2, ← h3, splitB_more c k _ (by omega), h2]
          rfl
theorem splitB_few (c : UInt8) : ∀ (k : Nat) (t : ByteArray), k ≤ Lib.countB t ⟨#[c]⟩ → (Lib.splitB ⟨#[c]⟩ 0 k t).length = k + 1
  | 0, t, _ => rfl
  | k + 1, t, hk => by
    rcases cut_cases c t with ⟨h1, _⟩ | ⟨i, h1, _, h, h2, h3⟩
    · have := Lib.countB_miss _ _ h1; omega
    · have hc := (parts_hit h).2
      have e2 : (⟨#[c]⟩ : ByteArray).size = 1 := rfl
      rw [Lib.splitB_hit _ _ _ _ i h1, e2, ← h3, List.length_cons, splitB_few c k _ (by omega)]
/-- the reference's service of words -/
def rsvc : List ByteArray → Sv × Bool
  | [a, b, c, d] => if !a.toList.isEmpty && !b.toList.isEmpty && isFlag c && isFlag d then (⟨a, b, c.toList == [49], d.toList == [49]⟩, true) else (svc0, false)
  | _ => (svc0, false)
theorem rsvc_other {l : List ByteArray} (h : l.length ≠ 4) : rsvc l = (svc0, false) := by
  match l, h with
  | [], _ => rfl
  | [_], _ => rfl
  | [_, _], _ => rfl
  | [_, _, _], _ => rfl
  | [_, _, _, _], h => exact absurd rfl h
  | _ :: _ :: _ :: _ :: _ :: _, _ => rfl
theorem isWord_free {s : ByteArray} (h : (32 : UInt8) ∉ s.data.toList) : isWord s = !s.toList.isEmpty := by
  unfold isWord
  have : Lib.indexByte s.data.toList 32 = -1 := by
    by_cases h1 : Lib.indexByte s.data.toList 32 < 0
    · have := Lib.index_ge s.data.toList [32]
      rw [Lib.index_one] at this
      omega
    · obtain ⟨i, hi⟩ : ∃ i : Nat, Lib.indexByte s.data.toList 32 = i := ⟨(Lib.indexByte s.data.toList 32).toNat, by omega⟩
      exact absurd (List.mem_of_getElem? (Lib.indexByte_some hi).1) h
  rw [this]
  cases s.toList.isEmpty <;> rfl
theorem rsvc_eq (s : ByteArray) : (rsvc (parts 32 s)).2 = (svcRead (svcWords s)).2 ∧ ((svcRead (svcWords s)).2 = true → (rsvc (parts 32 s)).1 = (svcRead (svcWords s)).1) := by
  have hle : Lib.countB s ⟨#[32]⟩ ≤ s.size := Lib.countB_le _ (Nat.le_refl _) _ s (Nat.le_refl _)
  have hw : svcWords s = Lib.splitB ⟨#[32]⟩ 0 (min 5 (s.size + 1) - 1) s := rfl
  by_cases hc : Lib.countB s ⟨#[32]⟩ ≤ 4
  · rw [splitB_more 32 _ s (by omega)] at hw
    rw [hw]
    by_cases h4 : (parts 32 s).length = 4
    · have hf := parts_free 32 s.size s (Nat.le_refl _)
      generalize parts 32 s = l at *
      match l, h4 with
      | [a, b, c, d], _ =>
        have ha := isWord_free (hf a (by simp))
        have hb := isWord_free (hf b (by simp))
        show (if _ = true then ((⟨a, b, c.toList == [49], d.toList == [49]⟩ : Sv), true) else (svc0, false)).2 = (if (isFlag c && isFlag d) = true then ((⟨a, b, c.toList == [49], d.toList == [49]⟩ : Sv), isWord a && isWord b) else (svc0, false)).2 ∧ ((if (isFlag c && isFlag d) = true then ((⟨a, b, c.toList == [49], d.toList == [49]⟩ : Sv), isWord a && isWord b) else (svc0, false)).2 = true → (if _ = true then ((⟨a, b, c.toList == [49], d.toList == [49]⟩ : Sv), true) else (svc0, false)).1 = (if (isFlag c && isFlag d) = true then ((⟨a, b, c.toList == [49], d.toList == [49]⟩ : Sv), isWord a && isWord b) else (svc0, false)).1)
        rw [ha, hb]
        cases a.toList.isEmpty <;> cases b.toList.isEmpty <;> cases isFlag c <;> cases isFlag d <;> simp
    · rw [rsvc_other h4, svcRead_other h4]
      exact ⟨rfl, fun _ => rfl⟩
  · have h1 : (svcWords s).length ≠ 4 := by
      rw [hw, splitB_few 32 _ s (by omega)]
      omega
    have h2 : (parts 32 s).length ≠ 4 := by rw [parts_len]; omega
    rw [rsvc_other h2, svcRead_other h1]
    exact ⟨rfl, fun _ => rfl⟩

/-! ### a line -/
/-- the reference's pair is right -/
noncomputable def rq (s : ByteArray) : Bool := cutOk s 32 && !(cutA s 32).toList.isEmpty && (unquote (cutB s 32)).2 == 0
theorem unquote_nil : (unquote ⟨#[]⟩).2 = 8 := by
  rw [unquote_no]
  intro e
  have := congrArg ByteArray.size e
  have h2 : 2 ≤ (quote (txt (unqD (inner ⟨#[]⟩).data.toList))).size := by
    rw [← size_len]
    unfold quote
    rw [txt_list]
    unfold quoteL
    simp
  rw [this] at h2
  exact absurd h2 (by decide)
theorem rq_eq (s : ByteArray) : rq s = pairOk s := by
  unfold rq pairOk
  rw [isWord_free (cutA_free 32 s)]
  cases h : cutOk s 32 with
  | true => rfl
  | false =>
    rw [(parts_no h).2.2.1, unquote_nil]
    cases (cutA s 32).toList.isEmpty <;> rfl
def rat (w : B) : Int := if w = wFact then 0 else if w = wFile then 1 else if w = wSet then 2 else if w = wSvc then 3 else if w = wRun then 1 else -1
/-- what the line is -/
noncomputable def ris (l : ByteArray) : Bool := if rat (cutA l 32).toList = 3 then (rsvc (parts 32 (cutB l 32))).2 else rq (cutB l 32)
noncomputable def radd (m : Mach) (l : ByteArray) : Mach :=
  if rat (cutA l 32).toList = 0 then { m with facts := m.facts ++ [⟨pairK (cutB l 32), pairV (cutB l 32)⟩] }
  else if rat (cutA l 32).toList = 1 then { m with files := m.files ++ [⟨pairK (cutB l 32), pairV (cutB l 32), (cutA l 32).toList == wRun⟩] }
  else if rat (cutA l 32).toList = 2 then { m with sets := m.sets ++ [⟨pairK (cutB l 32), pairV (cutB l 32)⟩] }
  else if rat (cutA l 32).toList = 3 then { m with svcs := m.svcs ++ [(rsvc (parts 32 (cutB l 32))).1] }
  else m
/-- what was read last -/
structure Stg (m : Mach) (s : Int) : Prop where
  r : 0 ≤ s ∧ s ≤ 3
  i : m.files ≠ [] → 1 ≤ s
  t : m.sets ≠ [] → 2 ≤ s
  v : m.svcs ≠ [] → 3 ≤ s
  i1 : s = 1 → m.files ≠ []
  t2 : s = 2 → m.sets ≠ []
  v3 : s = 3 → m.svcs ≠ []
theorem Stg.le0 {m : Mach} {s : Int} (h : Stg m s) : decide (s ≤ 0) = (m.files.length + m.sets.length + m.svcs.length == 0) := by
  obtain ⟨hr, hi, ht, hv, i1, t2, v3⟩ := h
  obtain ⟨f, i, t, v⟩ := m
  simp only at *
  by_cases hs : s ≤ 0
  · have e1 : i = [] := Classical.byContradiction fun e => by have := hi e; omega
    have e2 : t = [] := Classical.byContradiction fun e => by have := ht e; omega
    have e3 : v = [] := Classical.byContradiction fun e => by have := hv e; omega
    subst e1; subst e2; subst e3
    rw [decide_eq_true hs]; rfl
  · rw [decide_eq_false hs]
    symm
    rw [beq_eq_false_iff_ne]
    rcases (show s = 1 ∨ s = 2 ∨ s = 3 by omega) with e | e | e
    · have := List.length_pos_iff.2 (i1 e); omega
    · have := List.length_pos_iff.2 (t2 e); omega
    · have := List.length_pos_iff.2 (v3 e); omega
theorem Stg.le1 {m : Mach} {s : Int} (h : Stg m s) : decide (s ≤ 1) = (m.sets.length + m.svcs.length == 0) := by
  obtain ⟨hr, hi, ht, hv, i1, t2, v3⟩ := h
  obtain ⟨f, i, t, v⟩ := m
  simp only at *
  by_cases hs : s ≤ 1
  · have e2 : t = [] := Classical.byContradiction fun e => by have := ht e; omega
    have e3 : v = [] := Classical.byContradiction fun e => by have := hv e; omega
    subst e2; subst e3
    rw [decide_eq_true hs]; rfl
  · rw [decide_eq_false hs]
    symm
    rw [beq_eq_false_iff_ne]
    rcases (show s = 2 ∨ s = 3 by omega) with e | e
    · have := List.length_pos_iff.2 (t2 e); omega
    · have := List.length_pos_iff.2 (v3 e); omega
theorem Stg.le2 {m : Mach} {s : Int} (h : Stg m s) : decide (s ≤ 2) = (m.svcs.length == 0) := by
  obtain ⟨hr, hi, ht, hv, i1, t2, v3⟩ := h
  obtain ⟨f, i, t, v⟩ := m
  simp only at *
  by_cases hs : s ≤ 2
  · have e3 : v = [] := Classical.byContradiction fun e => by have := hv e; omega
    subst e3
    rw [decide_eq_true hs]; rfl
  · rw [decide_eq_false hs]
    symm
    rw [beq_eq_false_iff_ne]
    have := List.length_pos_iff.2 (v3 (by omega)); omega
theorem snoc_ne {α : Type} (l : List α) (x : α) : l ++ [x] ≠ [] := by simp
theorem len_nil {α : Type} {l : List α} (h : l.length = 0) : l = [] := List.length_eq_zero_iff.1 h
/-- A LINE: the reference and the program read it alike -/
theorem line_eq {m : Mach} {s : Int} (h : Stg m s) (l : ByteArray) :
    (decide (s ≤ rat (cutA l 32).toList) && ris l) = (readThing m l).2 ∧ ((readThing m l).2 = true → (readThing m l).1 = radd m l ∧ Stg (radd m l) (rat (cutA l 32).toList)) := by
  have h0 := h.le0
  have h1 := h.le1
  have h2 := h.le2
  have hr := h.r
  have hq := rq_eq (cutB l 32)
  obtain ⟨hs2, hs1⟩ := rsvc_eq (cutB l 32)
  unfold readThing ris radd
  generalize cutB l 32 = r at *
  generalize (cutA l 32).toList = w at *
  by_cases c1 : w = wFact
  · subst c1
    have e : rat wFact = 0 := by decide +kernel
    rw [if_pos rfl, e, if_neg (by decide), hq, h0]
    unfold readFact
    dsimp only
    refine ⟨Bool.and_comm _ _, fun ht => ⟨by rw [if_pos rfl], ?_⟩⟩
    rw [if_pos rfl]
    simp only [Bool.and_eq_true, beq_iff_eq] at ht
    have x1 := len_nil (show m.files.length = 0 by omega)
    have x2 := len_nil (show m.sets.length = 0 by omega)
    have x3 := len_nil (show m.svcs.length = 0 by omega)
    exact ⟨by omega, fun e => absurd x1 e, fun e => absurd x2 e, fun e => absurd x3 e, fun e => by omega, fun e => by omega, fun e => by omega⟩
  · rw [if_neg c1]
    by_cases c2 : w = wFile
    · subst c2
      have e : rat wFile = 1 := by decide +kernel
      have e2 : (wFile == wRun) = false := by decide +kernel
      rw [if_pos rfl, e, if_neg (by decide), hq, h1, e2]
      unfold readFile
      dsimp only
      refine ⟨Bool.and_comm _ _, fun ht => ⟨by rw [if_neg (by decide), if_pos rfl], ?_⟩⟩
      rw [if_neg (by decide), if_pos rfl]
      simp only [Bool.and_eq_true, beq_iff_eq] at ht
      have x2 := len_nil (show m.sets.length = 0 by omega)
      have x3 := len_nil (show m.svcs.length = 0 by omega)
      exact ⟨by omega, fun e => by omega, fun e => absurd x2 e, fun e => absurd x3 e, fun e => snoc_ne _ _, fun e => by omega, fun e => by omega⟩
    · rw [if_neg c2]
      by_cases c3 : w = wRun
      · subst c3
        have e : rat wRun = 1 := by decide +kernel
        have e2 : (wRun == wRun) = true := by decide +kernel
        rw [if_pos rfl, e, if_neg (by decide), hq, h1, e2]
        unfold readFile
        dsimp only
        refine ⟨Bool.and_comm _ _, fun ht => ⟨by rw [if_neg (by decide), if_pos rfl], ?_⟩⟩
        rw [if_neg (by decide), if_pos rfl]
        simp only [Bool.and_eq_true, beq_iff_eq] at ht
        have x2 := len_nil (show m.sets.length = 0 by omega)
        have x3 := len_nil (show m.svcs.length = 0 by omega)
        exact ⟨by omega, fun e => by omega, fun e => absurd x2 e, fun e => absurd x3 e, fun e => snoc_ne _ _, fun e => by omega, fun e => by omega⟩
      · rw [if_neg c3]
        by_cases c4 : w = wSet
        · subst c4
          have e : rat wSet = 2 := by decide +kernel
          rw [if_pos rfl, e, if_neg (by decide), hq, h2]
          unfold readSet
          dsimp only
          refine ⟨Bool.and_comm _ _, fun ht => ⟨by rw [if_neg (by decide), if_neg (by decide), if_pos rfl], ?_⟩⟩
          rw [if_neg (by decide), if_neg (by decide), if_pos rfl]
          simp only [Bool.and_eq_true, beq_iff_eq] at ht
          have x3 := len_nil (show m.svcs.length = 0 by omega)
          exact ⟨by omega, fun e => by omega, fun e => by omega, fun e => absurd x3 e, fun e => by omega, fun e => snoc_ne _ _, fun e => by omega⟩
        · rw [if_neg c4]
          by_cases c5 : w = wSvc
          · subst c5
            have e : rat wSvc = 3 := by decide +kernel
            rw [if_pos rfl, e, if_pos rfl, hs2]
            unfold readSvc
            dsimp only
            refine ⟨by rw [decide_eq_true (by omega)]; rfl, fun ht => ⟨by rw [if_neg (by decide), if_neg (by decide), if_neg (by decide), if_pos rfl, hs1 ht], ?_⟩⟩
            rw [if_neg (by decide), if_neg (by decide), if_neg (by decide), if_pos rfl]
            exact ⟨by omega, fun e => by omega, fun e => by omega, fun e => by omega, fun e => by omega, fun e => by omega, fun e => snoc_ne _ _⟩
          · rw [if_neg c5]
            have e : rat w = -1 := by unfold rat; rw [if_neg c1, if_neg c2, if_neg c4, if_neg c5, if_neg c3]
            rw [e]
            refine ⟨by rw [decide_eq_false (by omega)]; rfl, fun ht => by cases ht⟩

/-! ### all lines -/
/-- a text's lines -/
def lns (t : ByteArray) : List ByteArray := if ((parts 10 t).getLast (parts_ne 10 t)).toList = [] then (parts 10 t).dropLast else parts 10 t
def torn (t : ByteArray) : Int := if ((parts 10 t).getLast (parts_ne 10 t)).toList = [] then -1 else (Lib.countB t ⟨#[10]⟩ : Int)
noncomputable def rloop (torn : Int) : List ByteArray → Nat → Mach → Int → Mach × Nat × Int
  | [], _, m, _ => (m, 0, 0)
  | l :: ls, i, m, s => if ((decide (s ≤ rat (cutA l 32).toList) && ris l) && !decide ((i : Int) = torn)) = true then rloop torn ls (i + 1) (radd m l) (rat (cutA l 32).toList) else (m0, i, 8)
noncomputable def fin (r : Mach × Nat × Int) : Mach × Nat × Int := if r.2.2 = 0 then (r.1, 0, 0) else (m0, r.2.1, r.2.2)
theorem last_cons {α : Type} (a : α) (l : List α) (h : l ≠ []) : (a :: l).getLast (by simp) = l.getLast h := List.getLast_cons h
theorem torn_at (t : ByteArray) (_k : Nat) : ((parts 10 t).getLast (parts_ne 10 t)).toList = [] → True := fun _ => trivial
theorem lns_no {t : ByteArray} (h : cutOk t 10 = false) : (t.toList = [] → lns t = []) ∧ (t.toList ≠ [] → lns t = [t]) := by
  unfold lns
  have e := (parts_no h).1
  have g : (parts 10 t).getLast (parts_ne 10 t) = t := by simp only [e]; rfl
  rw [g]
  refine ⟨fun h => by rw [if_pos h, e]; rfl, fun h => by rw [if_neg h, e]⟩
theorem torn_no {t : ByteArray} (h : cutOk t 10 = false) : t.toList ≠ [] → torn t = 0 := by
  unfold torn
  have e := (parts_no h).1
  have g : (parts 10 t).getLast (parts_ne 10 t) = t := by simp only [e]; rfl
  rw [g]
  intro h2
  rw [if_neg h2, (parts_no h).2.2.2]; rfl
theorem last_hit {t : ByteArray} (h : cutOk t 10 = true) : (parts 10 t).getLast (parts_ne 10 t) = (parts 10 (cutB t 10)).getLast (parts_ne 10 _) := by
  have e := (parts_hit h).1
  simp only [e]
  exact List.getLast_cons (parts_ne 10 _)
theorem lns_hit {t : ByteArray} (h : cutOk t 10 = true) : lns t = cutA t 10 :: lns (cutB t 10) := by
  unfold lns
  rw [last_hit h, (parts_hit h).1]
  split
  · rw [List.dropLast_cons_of_ne_nil (parts_ne 10 _)]
  · rfl
theorem torn_hit {t : ByteArray} (h : cutOk t 10 = true) : torn t = if torn (cutB t 10) = -1 then -1 else torn (cutB t 10) + 1 := by
  unfold torn
  rw [last_hit h, (parts_hit h).2]
  split
  · rw [if_pos rfl]
  · rw [if_neg (by omega)]; push_cast; rfl
theorem torn_ge (t : ByteArray) : -1 ≤ torn t := by unfold torn; split <;> omega
theorem rloop_eq : ∀ (f : Nat) (t : ByteArray) (k : Nat) (m : Mach) (s : Int) (tn : Int), t.size ≤ f → Stg m s → (tn = if torn t = -1 then -1 else torn t + k) → rloop tn (lns t) k m s = fin (readF f m t k)
  | f, t, k, m, s, tn, hf, hS, hT => by
    cases hc : cutOk t 10 with
    | false =>
      by_cases he : t.toList = []
      · rw [(lns_no hc).1 he]
        have : readF f m t k = (m, 0, 0) := by
          cases f with
          | zero => rfl
          | succ f => unfold readF; rw [if_pos he]
        rw [this]; rfl
      · have hp : 0 < t.size := by rw [← size_len]; rw [Lib.toList_data] at he; exact List.length_pos_iff.2 he
        rw [(lns_no hc).2 he]
        have ht := torn_no hc he
        rw [ht, if_neg (by decide)] at hT
        obtain ⟨f, rfl⟩ : ∃ g, f = g + 1 := ⟨f - 1, by omega⟩
        unfold readF
        rw [if_neg he, if_pos hc]
        show (if ((decide (s ≤ rat (cutA t 32).toList) && ris t) && !decide ((k : Int) = tn)) = true then _ else (m0, k, 8)) = _
        rw [if_neg (by rw [decide_eq_true (show (k : Int) = tn by omega)]; simp)]
        rfl
    | true =>
      have hlt := cutB_lt' hc
      have he : t.toList ≠ [] := by
        intro e
        have : t.size = 0 := by rw [← size_len, ← Lib.toList_data, e]; rfl
        omega
      obtain ⟨f, rfl⟩ : ∃ g, f = g + 1 := ⟨f - 1, by omega⟩
      have hge := torn_ge (cutB t 10)
      have hth := torn_hit hc
      have hk : decide ((k : Int) = tn) = false := decide_eq_false (by
        rw [hth] at hT
        by_cases h1 : torn (cutB t 10) = -1
        · rw [if_pos h1, if_pos rfl] at hT; omega
        · rw [if_neg h1, if_neg (by omega)] at hT; omega)
      have hT2 : tn = if torn (cutB t 10) = -1 then -1 else torn (cutB t 10) + (k + 1 : Nat) := by
        rw [hth] at hT
        by_cases h1 : torn (cutB t 10) = -1
        · rw [if_pos h1, if_pos rfl] at hT; rw [if_pos h1]; exact hT
        · rw [if_neg h1, if_neg (by omega)] at hT; rw [if_neg h1]; omega
      obtain ⟨h1, h2⟩ := line_eq hS (cutA t 10)
      rw [lns_hit hc]
      show (if ((decide (s ≤ rat (cutA (cutA t 10) 32).toList) && ris (cutA t 10)) && !decide ((k : Int) = tn)) = true then rloop tn (lns (cutB t 10)) (k + 1) (radd m (cutA t 10)) (rat (cutA (cutA t 10) 32).toList) else (m0, k, 8)) = _
      rw [h1, hk]
      have hF : readF (f + 1) m t k = if (readThing m (cutA t 10)).2 = false then ((readThing m (cutA t 10)).1, k, 8) else readF f (readThing m (cutA t 10)).1 (cutB t 10) (k + 1) := by
        conv => lhs; unfold readF
        rw [if_neg he, if_neg (by rw [hc]; decide)]
      rw [hF]
      cases hok : (readThing m (cutA t 10)).2 with
      | false => rw [if_neg (by simp), if_pos rfl]; rfl
      | true =>
        obtain ⟨e1, e2⟩ := h2 hok
        rw [if_pos (by rfl), if_neg (by simp), e1, rloop_eq f _ _ _ _ tn (by omega) e2 hT2]
theorem Stg.start : Stg m0 0 := ⟨by omega, fun h => absurd rfl h, fun h => absurd rfl h, fun h => absurd rfl h, fun h => by omega, fun h => by omega, fun h => by omega⟩
/-- ALL LINES -/
theorem rloop_all (t : ByteArray) : rloop (torn t) (lns t) 0 m0 0 = fin (readAll m0 t 0) := by
  unfold readAll
  refine rloop_eq t.size t 0 m0 0 _ (Nat.le_refl _) .start ?_
  split
  · assumption
  · simp
end P
end Go.Proofs.YtkibmoekadmjnaaGreatDoor
