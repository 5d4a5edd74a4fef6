/- Plain: a journal that is read from a text's rest is the journal that is read of its lines. -/
import Derived.Test.YtomikcemiacjmaaGreatDoorZJMany
import Derived.Test.YtomikcemiacjmaaGreatDoorZJPure

namespace Go.Proofs.YtomikcemiacjmaaGreatDoor
open Go.RowKit Go.Lib Go.Shelf Go.Maps

namespace P
def jT : ByteArray := ⟨#[106, 111, 117, 114, 110, 97, 108, 32]⟩
def cT : ByteArray := ⟨#[99, 104, 97, 110, 103, 101, 115, 32]⟩
def oT : ByteArray := ⟨#[111, 108, 100, 32]⟩
def sT : ByteArray := ⟨#[115, 117, 109, 32]⟩
theorem jT_list : jT.data.toList = jW := rfl
theorem cT_list : cT.data.toList = cW := rfl
theorem oT_list : oT.data.toList = oW := rfl
theorem sT_list : sT.data.toList = sW := rfl
/-- what is read of a text, rest by rest -/
noncomputable def readP (t : ByteArray) : Option (B × List Chg × List Chg × B) :=
  (behO jT t).bind fun id => (chgsO cT (lineR t)).bind fun a => (chgsO oT a.2).bind fun b => (behO sT b.2).bind fun sm => if (lineR b.2).data.toList = [] then some (id, a.1, b.1, sm) else none
/-- a text of lines that are ended and a tail that is not -/
def pt (ls : List ByteArray) (tail : B) : ByteArray := txt (linesL ls ++ tail)
structure PtOk (ls : List ByteArray) (tail : B) : Prop where
  free : ∀ l ∈ ls, (10 : UInt8) ∉ l.data.toList
  last : (10 : UInt8) ∉ tail
theorem PtOk.tl {l : ByteArray} {ls : List ByteArray} {tail : B} (h : PtOk (l :: ls) tail) : PtOk ls tail := ⟨fun x hx => h.free x (List.mem_cons_of_mem _ hx), h.last⟩
theorem pt_nil {tail : B} (h : PtOk [] tail) : cutOk (pt [] tail) 10 = false := part_tail h.last
theorem pt_cons {l : ByteArray} {ls : List ByteArray} {tail : B} (h : PtOk (l :: ls) tail) : cutOk (pt (l :: ls) tail) 10 = true ∧ cutA (pt (l :: ls) tail) 10 = l ∧ cutB (pt (l :: ls) tail) 10 = pt ls tail := part_line (h.free l List.mem_cons_self)
theorem behO_pt (w : ByteArray) {ls : List ByteArray} {tail : B} (h : PtOk ls tail) : behO w (pt ls tail) = (sBehind w.data.toList ls).map (·.1) ∧ (∀ d r, sBehind w.data.toList ls = some (d, r) → lineR (pt ls tail) = pt r tail ∧ PtOk r tail) := by
  cases ls with
  | nil =>
    refine ⟨?_, fun d r e => by cases e⟩
    unfold behO
    rw [if_neg (by rw [pt_nil h]; simp)]
    rfl
  | cons l ls =>
    obtain ⟨h1, h2, h3⟩ := pt_cons h
    have hR : lineR (pt (l :: ls) tail) = pt ls tail := by unfold lineR; rw [h1, if_pos rfl, h3]
    refine ⟨?_, fun d r e => ?_⟩
    · unfold behO
      simp only [sBehind]
      rw [h1, h2]
      unfold Lib.hasPrefix
      rw [size_len w |>.symm]
      by_cases hp : w.data.toList.isPrefixOf l.data.toList = true
      · rw [if_pos ⟨rfl, hp⟩, if_pos hp]; rfl
      · rw [if_neg (fun e => hp e.2), if_neg hp]; rfl
    · simp only [sBehind] at e
      split at e
      · obtain ⟨rfl, rfl⟩ : _ = d ∧ ls = r := by simpa using e
        exact ⟨hR, h.tl⟩
      · cases e
theorem rMany_pt : ∀ (n : Nat) {ls : List ByteArray} {tail : B}, PtOk ls tail → rMany n (pt ls tail) = (sMany n ls).map (fun r => (r.1, pt r.2 tail)) ∧ (∀ cs r, sMany n ls = some (cs, r) → PtOk r tail)
  | 0, ls, tail, h => ⟨rfl, fun cs r e => by
      obtain ⟨_, rfl⟩ : [] = cs ∧ ls = r := by simpa [sMany] using e
      exact h⟩
  | n + 1, [], tail, h => by
    refine ⟨?_, fun cs r e => by cases e⟩
    rw [rMany, if_neg (by rw [pt_nil h]; simp)]
    rfl
  | n + 1, l :: ls, tail, h => by
    obtain ⟨h1, h2, h3⟩ := pt_cons h
    obtain ⟨i1, i2⟩ := rMany_pt n h.tl
    rw [rMany, sMany, h1, h2, h3]
    by_cases hr : (chRead l).2 = true
    · rw [if_pos ⟨rfl, hr⟩, if_pos hr, i1]
      refine ⟨?_, fun cs r e => ?_⟩
      · cases sMany n ls <;> rfl
      · obtain ⟨⟨cs', r'⟩, e1, e2⟩ := Option.map_eq_some_iff.1 e
        obtain ⟨_, rfl⟩ : (chRead l).1 :: cs' = cs ∧ r' = r := by simpa using e2
        exact i2 _ _ e1
    · rw [if_neg (fun e => hr e.2), if_neg hr]
      exact ⟨rfl, fun cs r e => by cases e⟩
/-- how many changes there are, and these -/
noncomputable def sPart (w : B) (ls : List ByteArray) : Option (List Chg × List ByteArray) := (sBehind w ls).bind fun a => (sNo a.1).bind fun n => sMany n a.2
theorem chgsO_pt (w : ByteArray) {ls : List ByteArray} {tail : B} (h : PtOk ls tail) : chgsO w (pt ls tail) = (sPart w.data.toList ls).map (fun r => (r.1, pt r.2 tail)) ∧ (∀ cs r, sPart w.data.toList ls = some (cs, r) → PtOk r tail) := by
  obtain ⟨h1, h2⟩ := behO_pt w h
  unfold chgsO numO sPart
  rw [h1]
  cases hb : sBehind w.data.toList ls with
  | none => exact ⟨rfl, fun cs r e => by cases e⟩
  | some a =>
    obtain ⟨d, r⟩ := a
    obtain ⟨h3, h4⟩ := h2 d r hb
    simp only [Option.map_some, Option.bind_some, h3]
    cases hn : sNo d with
    | none => exact ⟨rfl, fun cs r e => by cases e⟩
    | some n => simp only [Option.bind_some]; exact rMany_pt n h4
theorem sBody_part (ls : List ByteArray) : sBody ls = (sBehind jW ls).bind fun a => (sPart cW a.2).bind fun c => (sPart oW c.2).map fun e => (a.1, c.1, e.1, e.2) := by
  unfold sBody sPart
  cases sBehind jW ls with
  | none => rfl
  | some a =>
    simp only [Option.bind_some]
    cases sBehind cW a.2 with
    | none => rfl
    | some b =>
      simp only [Option.bind_some]
      cases sNo b.1 with
      | none => rfl
      | some n =>
        simp only [Option.bind_some]
        cases sMany n b.2 with
        | none => rfl
        | some c =>
          simp only [Option.bind_some]
          cases sBehind oW c.2 with
          | none => rfl
          | some d =>
            simp only [Option.bind_some]
            cases sNo d.1 with
            | none => rfl
            | some m => rfl
theorem readP_eq (t : ByteArray) : readP t = readJ t := by
  obtain ⟨ls, tail, hp⟩ := parted t.size t (Nat.le_refl _)
  have ht : t = pt ls tail := hp.eq
  have hok : PtOk ls tail := ⟨hp.free, hp.last⟩
  have hl := hp.lines
  have htn := hp.torn
  unfold readJ
  rw [htn, hl, sBody_part]
  unfold readP
  rw [ht]
  obtain ⟨b1, b2⟩ := behO_pt jT hok
  rw [jT_list] at b1 b2
  rw [b1]
  by_cases he : tail = []
  · rw [if_pos he, if_pos he, if_pos rfl, List.append_nil]
    cases h1 : sBehind jW ls with
    | none => rfl
    | some a =>
      obtain ⟨id, r1⟩ := a
      obtain ⟨e1, o1⟩ := b2 id r1 h1
      simp only [Option.map_some, Option.bind_some, e1]
      obtain ⟨c1, c2⟩ := chgsO_pt cT o1
      rw [cT_list] at c1 c2
      rw [c1]
      cases h2 : sPart cW r1 with
      | none => rfl
      | some c =>
        obtain ⟨cs, r2⟩ := c
        have o2 := c2 cs r2 h2
        simp only [Option.map_some, Option.bind_some]
        obtain ⟨d1, d2⟩ := chgsO_pt oT o2
        rw [oT_list] at d1 d2
        rw [d1]
        cases h3 : sPart oW r2 with
        | none => rfl
        | some d =>
          obtain ⟨os, r3⟩ := d
          have o3 := d2 os r3 h3
          simp only [Option.map_some, Option.bind_some]
          obtain ⟨s1, s2⟩ := behO_pt sT o3
          rw [sT_list] at s1 s2
          rw [s1]
          cases h4 : sBehind sW r3 with
          | none => rfl
          | some s =>
            obtain ⟨sm, r4⟩ := s
            obtain ⟨e4, _⟩ := s2 sm r4 h4
            simp only [Option.map_some, Option.bind_some, e4]
            have key : (pt r4 tail).data.toList = [] ↔ r4 = [] := by
              unfold pt
              rw [txt_list, he, List.append_nil]
              cases r4 with
              | nil => simp [linesL]
              | cons x y => rw [linesL_cons]; simp
            by_cases h5 : r4 = []
            · rw [if_pos (key.2 h5), if_pos h5]
            · rw [if_neg (fun e => h5 (key.1 e)), if_neg h5]
  · rw [if_neg he, if_neg (by omega)]
    cases h1 : sBehind jW ls with
    | none => rfl
    | some a =>
      obtain ⟨id, r1⟩ := a
      obtain ⟨e1, o1⟩ := b2 id r1 h1
      simp only [Option.map_some, Option.bind_some, e1]
      obtain ⟨c1, c2⟩ := chgsO_pt cT o1
      rw [cT_list] at c1 c2
      rw [c1]
      cases h2 : sPart cW r1 with
      | none => rfl
      | some c =>
        obtain ⟨cs, r2⟩ := c
        have o2 := c2 cs r2 h2
        simp only [Option.map_some, Option.bind_some]
        obtain ⟨d1, d2⟩ := chgsO_pt oT o2
        rw [oT_list] at d1 d2
        rw [d1]
        cases h3 : sPart oW r2 with
        | none => rfl
        | some d =>
          obtain ⟨os, r3⟩ := d
          have o3 := d2 os r3 h3
          simp only [Option.map_some, Option.bind_some]
          obtain ⟨s1, s2⟩ := behO_pt sT o3
          rw [sT_list] at s1 s2
          rw [s1]
          cases h4 : sBehind sW r3 with
          | none => rfl
          | some s =>
            obtain ⟨sm, r4⟩ := s
            obtain ⟨e4, _⟩ := s2 sm r4 h4
            simp only [Option.map_some, Option.bind_some, e4]
            rw [if_neg]
            unfold pt
            rw [txt_list]
            intro e
            exact he (List.append_eq_nil_iff.1 e).2
/-- HOW A READING ENDS -/
theorem chain {t : ByteArray} {L1 L2 : List Chg} {f1 f2 : Int} {T2 T3 : ByteArray} {X2 X3 : Bool}
    (hc1 : CR cT (lineR t) (if (behO jT t).isSome then false else true) L1 f1 T2 X2) (hc2 : CR oT T2 X2 L2 f2 T3 X3) :
    ((if (behO sT T3).isSome then X3 else true) = true ∧ readJ t = none) ∨
    ((if (behO sT T3).isSome then X3 else true) = false ∧ (lineR T3).data.toList ≠ [] ∧ readJ t = none) ∨
    ((if (behO sT T3).isSome then X3 else true) = false ∧ (lineR T3).data.toList = [] ∧ ∃ id cs os sm, readJ t = some (id, cs, os, sm) ∧ behT (behO jT t) = txt id ∧ behT (behO sT T3) = txt sm ∧ f1 = chEs cs ∧ (chEs cs = 0 → L1 = cs) ∧ f2 = chEs os ∧ (chEs os = 0 → L2 = os) ∧
      T3.size ≤ t.size ∧ t.extract 0 (t.size - T3.size) = txt (jText id cs os)) := by
  rw [← readP_eq]
  unfold readP
  cases h1 : behO jT t with
  | none =>
    have e1 := hc1.2.2 (by rw [h1]; rfl)
    have e2 := hc2.2.2 e1
    refine .inl ⟨?_, rfl⟩
    rw [e2]; split <;> rfl
  | some id =>
    rw [h1] at hc1
    simp only [Option.bind_some]
    cases h2 : chgsO cT (lineR t) with
    | none =>
      have e1 := hc1.2.1 h2
      have e2 := hc2.2.2 e1
      refine .inl ⟨?_, rfl⟩
      rw [e2]; split <;> rfl
    | some a =>
      obtain ⟨cs, Ta⟩ := a
      obtain ⟨rfl, rfl, e3, e4⟩ := hc1.1 cs Ta h2 rfl
      simp only [Option.bind_some]
      cases h3 : chgsO oT T2 with
      | none =>
        have e2 := hc2.2.1 h3
        refine .inl ⟨?_, rfl⟩
        rw [e2]; split <;> rfl
      | some b =>
        obtain ⟨os, Tb⟩ := b
        obtain ⟨rfl, rfl, e5, e6⟩ := hc2.1 os Tb h3 rfl
        simp only [Option.bind_some]
        cases h4 : behO sT T3 with
        | none => exact .inl ⟨rfl, rfl⟩
        | some sm =>
          simp only [Option.bind_some]
          by_cases h5 : (lineR T3).data.toList = []
          · refine .inr (.inr ⟨rfl, h5, id, cs, os, sm, by rw [if_pos h5], rfl, rfl, e3, e4, e5, e6, ?_⟩)
            have hr : readJ t = some (id, cs, os, sm) := by
              rw [← readP_eq]
              unfold readP
              rw [h1]
              simp only [Option.bind_some, h2, h3, h4]
              rw [if_pos h5]
            have ht := readJ_text hr
            have hT : T3.data.toList = sW ++ sm ++ [10] := by
              unfold behO at h4
              split at h4
              · rename_i hc
                have ej := cut_join hc.1
                have er : cutB T3 10 = lineR T3 := by unfold lineR; rw [hc.1, if_pos rfl]
                rw [er, h5] at ej
                have hp := hc.2
                unfold Lib.hasPrefix at hp
                obtain ⟨z, hz⟩ := List.isPrefixOf_iff_prefix.1 hp
                have ed := Option.some.inj h4
                rw [← hz, show sT.size = sT.data.toList.length from (size_len _).symm, List.drop_left] at ed
                rw [ej, ← hz, ed, sT_list]
              · cases h4
            have hl := congrArg List.length hT
            have htl : t.size = (jText id cs os).length + (sW ++ sm ++ [10]).length := by rw [ht, txt_size, List.length_append]
            rw [size_len] at hl
            refine ⟨by omega, ?_⟩
            rw [show t.size - T3.size = (jText id cs os).length by omega]
            apply ba_inj
            rw [ByteArray.data_extract]
            have e : (t.data.extract 0 (jText id cs os).length).toList = t.data.toList.take (jText id cs os).length := by simp
            rw [e, ht, txt_list, txt_list, List.take_left]
          · exact .inr (.inl ⟨rfl, h5, by rw [if_neg h5]⟩)
end P
end Go.Proofs.YtomikcemiacjmaaGreatDoor
