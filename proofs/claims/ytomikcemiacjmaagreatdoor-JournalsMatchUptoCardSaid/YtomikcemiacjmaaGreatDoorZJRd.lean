/- Walks: stage's reader: line, behind. -/
/- Walks: stage's reader: behind, number. -/
import Derived.Test.YtomikcemiacjmaaGreatDoorZJFrame
import Derived.Test.YtomikcemiacjmaaGreatDoorZJBack

namespace Go.Proofs.YtomikcemiacjmaaGreatDoor
open Go.RowKit Go.Lib Go.Shelf Go.Maps

namespace P
/-- what a line is read as, what is left of the text -/
def lineA (t : ByteArray) : ByteArray := if cutOk t 10 = true then cutA t 10 ++ ⟨#[10]⟩ else ⟨#[]⟩
def lineR (t : ByteArray) : ByteArray := if cutOk t 10 = true then cutB t 10 else t
def lineX (t : ByteArray) (x : Bool) : Bool := if cutOk t 10 = true then x else true
theorem line_yes {t : ByteArray} (h : cutOk t 10 = true) : ∃ i : Nat, Lib.indexByte t.data.toList 10 = (i : Int) ∧ i + 1 ≤ t.size ∧ t.extract 0 (i + 1) = cutA t 10 ++ ⟨#[10]⟩ ∧ t.extract (i + 1) t.size = cutB t 10 := by
  rcases cut_cases 10 t with ⟨_, h1, _⟩ | ⟨i, h1, h2, _, h4, h5⟩
  · rw [h1] at h; cases h
  have key : Lib.indexByte t.data.toList 10 = Lib.index t.data.toList [10] := (Lib.index_one _ _).symm
  have hj := cut_join h
  have hA : (cutA t 10).data.toList = t.data.toList.take i := by rw [h4, ByteArray.data_extract]; simp
  have hlen : (cutA t 10).data.toList.length = i := by rw [hA, List.length_take, size_len]; omega
  refine ⟨i, ?_, h2, ?_, h5.symm⟩
  · rw [key]
    have e : Lib.indexB t ⟨#[10]⟩ = Lib.index t.data.toList [10] := rfl
    rw [← e, h1]
  · apply ba_inj
    rw [ByteArray.data_extract, ByteArray.data_append, Array.toList_append]
    have e : (t.data.extract 0 (i + 1)).toList = t.data.toList.take (i + 1) := by simp
    rw [e, hj, List.take_append, hlen, List.take_of_length_le (by omega), show i + 1 - i = 1 by omega]
    rfl
theorem line_no {t : ByteArray} (h : cutOk t 10 = false) : Lib.indexByte t.data.toList 10 = -1 := by
  rcases cut_cases 10 t with ⟨h1, _⟩ | ⟨i, _, _, h2, _⟩
  · have key : Lib.indexByte t.data.toList 10 = Lib.index t.data.toList [10] := (Lib.index_one _ _).symm
    rw [key]; exact h1
  · rw [h2] at h; cases h
theorem lineR_le (t : ByteArray) : (lineR t).size ≤ t.size := by
  unfold lineR
  split
  · exact cutB_le t 10
  · exact Nat.le_refl _
theorem ext0 (t : ByteArray) : t.extract 0 0 = ⟨#[]⟩ := by apply ba_inj; rw [ByteArray.data_extract]; simp
theorem ext_all (t : ByteArray) : t.extract 0 t.size = t := by
  apply ba_inj
  rw [ByteArray.data_extract]
  have e : (t.data.extract 0 t.size).toList = t.data.toList.take t.size := by simp
  rw [e, List.take_of_length_le (by rw [size_len]; exact Nat.le_refl _)]
end P

set_option maxRecDepth 100000 in
theorem line_any (t : ByteArray) (hs : t.size ≤ 1000000000) (x : Bool) (b : Nat) (w : World) (h : HasRow w b #[.string t, .bool x]) :
    Calls Tryz.prog 240 #[.pointer (some ⟨b, 0, none⟩)] w fun e w' => e = .returned (.string (P.lineA t)) ∧ HasRow w' b #[.string (P.lineR t), .bool (P.lineX t x)] ∧ Gb b w w' := by
  have c0 := h.cell 0
  have c1 := h.cell 1
  have f0 := h.free 0
  have f1 := h.free 1
  have HR := Lib.hid h
  have HI := Lib.hid (fun W => Tryz.strings_IndexByte t 10 W)
  have e10 : (10 : Int).toNat.toUInt8 = (10 : UInt8) := rfl
  rw [e10] at HI
  cases hc : P.cutOk t 10 with
  | false =>
    rw [P.line_no hc] at HI
    have HV : Hid (P.lineA t = ⟨#[]⟩ ∧ P.lineR t = t ∧ P.lineX t x = true) := Lib.hid (by unfold P.lineA P.lineR P.lineX; rw [hc]; exact ⟨rfl, rfl, rfl⟩)
    have z0 := P.ext0 t
    have z1 := P.ext_all t
    have hw1 : IntKind.i64.wrap ((-1 : Int) + 1) = ((0 : Nat) : Int) := by decide
    clear hc h hs
    go_enter Tryz.func240, Tryz.ntmps240
    go_wp2_with (go_at_call 286; refine (HI.out _).mono ?_; rintro e w1 ⟨rfl, rfl⟩)
    go_ret
    refine ⟨by rw [HV.out.1]; rfl, ?_, ?_⟩
    · rw [HV.out.2.1, HV.out.2.2]
      have := (HR.out.set 0 (.string t) (by simp)).set 1 (.bool true) (by simp)
      simpa using this
    · exact ((Gb.refl _ _).set 0 _).set 1 _
  | true =>
    obtain ⟨i, h1, h2, h3, h4⟩ := P.line_yes hc
    rw [h1] at HI
    have HV : Hid (P.lineA t = P.cutA t 10 ++ ⟨#[10]⟩ ∧ P.lineR t = P.cutB t 10 ∧ P.lineX t x = x) := Lib.hid (by unfold P.lineA P.lineR P.lineX; rw [hc]; exact ⟨rfl, rfl, rfl⟩)
    have hw1 : IntKind.i64.wrap ((i : Int) + 1) = ((i + 1 : Nat) : Int) := by rw [IntKind.wrap_i64]; omega
    have hb1 : ((i + 1 : Nat) : Int) ≤ (t.size : Int) := by omega
    have hne : ((P.cutA t 10 ++ ⟨#[10]⟩).toList == []) = false := by rw [Lib.toList_data, ByteArray.data_append, Array.toList_append]; simp
    clear hc h h1 h2 hs
    generalize P.cutA t 10 ++ ⟨#[10]⟩ = l at *
    generalize P.cutB t 10 = r at *
    go_enter Tryz.func240, Tryz.ntmps240
    go_wp2_with (go_at_call 286; refine (HI.out _).mono ?_; rintro e w1 ⟨rfl, rfl⟩)
    go_ret
    refine ⟨by rw [HV.out.1]; rfl, ?_, ?_⟩
    · rw [HV.out.2.1, HV.out.2.2]
      have := HR.out.set 0 (.string r) (by simp)
      simpa using this
    · exact (Gb.refl _ _).set 0 _
end Go.Proofs.YtomikcemiacjmaaGreatDoor

namespace Go.Proofs.YtomikcemiacjmaaGreatDoor
open Go.RowKit Go.Lib Go.Shelf Go.Maps

namespace P
/-- what stands behind a word that the first line begins with -/
def behO (w : ByteArray) (t : ByteArray) : Option B := if cutOk t 10 = true ∧ Lib.hasPrefix (cutA t 10).data.toList w.data.toList = true then some ((cutA t 10).data.toList.drop w.size) else none
def behT (o : Option B) : ByteArray := match o with | some d => txt d | none => ⟨#[]⟩
/-- a number behind a word -/
def numO (w : ByteArray) (t : ByteArray) : Option Nat := (behO w t).bind sNo
theorem prefix_snoc {w a : B} (h : (10 : UInt8) ∉ w) : Lib.hasPrefix (a ++ [10]) w = Lib.hasPrefix a w := by
  unfold Lib.hasPrefix
  cases h1 : w.isPrefixOf a with
  | true =>
    obtain ⟨r, hr⟩ := List.isPrefixOf_iff_prefix.1 h1
    exact List.isPrefixOf_iff_prefix.2 ⟨r ++ [10], by rw [← List.append_assoc, hr]⟩
  | false =>
    cases h2 : w.isPrefixOf (a ++ [10]) with
    | false => rfl
    | true =>
      obtain ⟨r, hr⟩ := List.isPrefixOf_iff_prefix.1 h2
      rcases List.eq_nil_or_concat r with e | ⟨q, z, e⟩
      · subst e
        rw [List.append_nil] at hr
        exact absurd (by rw [hr]; simp) h
      · subst e
        rw [List.concat_eq_append, ← List.append_assoc] at hr
        have := (List.append_inj' hr rfl).1
        rw [List.isPrefixOf_iff_prefix.2 ⟨q, this⟩] at h1
        cases h1
theorem behO_le {w t : ByteArray} {d : B} (h : behO w t = some d) : d.length + 1 ≤ t.size := by
  unfold behO at h
  split at h
  · rename_i hc
    have e := Option.some.inj h
    rw [← e, List.length_drop, size_len]
    have := cutA_le t 10
    have h3 := cut_join hc.1
    have h4 := congrArg List.length h3
    rw [List.length_append, List.length_cons, size_len, size_len] at h4
    omega
  · cases h
end P

set_option maxRecDepth 100000 in
theorem rdBehind_any (word : ByteArray) (h10 : (10 : UInt8) ∉ word.data.toList) (hw0 : word.data.toList ≠ []) (t : ByteArray) (hs : t.size ≤ 1000000000) (x : Bool) (b : Nat) (w : World) (h : HasRow w b #[.string t, .bool x]) :
    Calls Tryz.prog 169 #[.pointer (some ⟨b, 0, none⟩), .string word] w fun e w' => e = .returned (.string (P.behT (P.behO word t))) ∧ HasRow w' b #[.string (P.lineR t), .bool (if (P.behO word t).isSome then x else true)] ∧ Gb b w w' := by
  have HL := Lib.hid (line_any t hs x b w h)
  have HP := Lib.hid (fun W => Tryz.strings_HasPrefix (P.lineA t) word W)
  cases hc : P.cutOk t 10 with
  | false =>
    have hA : P.lineA t = ⟨#[]⟩ := by unfold P.lineA; rw [hc]; rfl
    have hX : P.lineX t x = true := by unfold P.lineX; rw [hc]; rfl
    have hO : P.behO word t = none := by unfold P.behO; rw [if_neg (by rw [hc]; simp)]
    rw [hA, hX] at HL
    rw [hA] at HP
    rw [hO]
    generalize P.lineR t = r at *
    cases hp : Lib.hasPrefix (⟨#[]⟩ : ByteArray).data.toList word.data.toList with
    | false =>
      rw [hp] at HP
      clear hp hc hA hX hO h hw0
      go_enter Tryz.func169, Tryz.ntmps169
      go_wp2_with (first
        | (go_at_call 240; refine HL.out.mono ?_; rintro e w1 ⟨rfl, hr1, hg1⟩; have HR := Lib.hid hr1; have f1 := hr1.free 1; have d1 := hr1.cell 1; clear hr1)
        | (go_at_call 41; refine (HP.out _).mono ?_; rintro e w2 ⟨rfl, rfl⟩))
      go_ret
      refine ⟨rfl, ?_, hg1.set 1 _⟩
      have := HR.out.set 1 (.bool true) (by simp)
      simpa using this
    | true =>
      -- the empty word: not asked for
      obtain ⟨r, hr⟩ := List.isPrefixOf_iff_prefix.1 hp
      exact absurd (List.append_eq_nil_iff.1 hr).1 hw0
  | true =>
    have hA : P.lineA t = P.cutA t 10 ++ ⟨#[10]⟩ := by unfold P.lineA; rw [hc]; rfl
    have hX : P.lineX t x = x := by unfold P.lineX; rw [hc]; rfl
    rw [hA, hX] at HL
    rw [hA, ByteArray.data_append, Array.toList_append, show ((⟨#[10]⟩ : ByteArray).data.toList) = [10] from rfl, P.prefix_snoc h10] at HP
    cases hp : Lib.hasPrefix (P.cutA t 10).data.toList word.data.toList with
    | false =>
      have hO : P.behO word t = none := by unfold P.behO; rw [if_neg (by rw [hp]; simp)]
      rw [hp] at HP
      rw [hO]
      generalize P.cutA t 10 ++ ⟨#[10]⟩ = l at *
      generalize P.lineR t = r at *
      clear hp hc hA hX hO h hw0
      go_enter Tryz.func169, Tryz.ntmps169
      go_wp2_with (first
        | (go_at_call 240; refine HL.out.mono ?_; rintro e w1 ⟨rfl, hr1, hg1⟩; have HR := Lib.hid hr1; have f1 := hr1.free 1; have d1 := hr1.cell 1; clear hr1)
        | (go_at_call 41; refine (HP.out _).mono ?_; rintro e w2 ⟨rfl, rfl⟩))
      go_ret
      refine ⟨rfl, ?_, hg1.set 1 _⟩
      have := HR.out.set 1 (.bool true) (by simp)
      simpa using this
    | true =>
      have hO : P.behO word t = some ((P.cutA t 10).data.toList.drop word.size) := by unfold P.behO; rw [if_pos ⟨hc, hp⟩]
      have hle : word.size ≤ (P.cutA t 10).size := by
        have := (List.isPrefixOf_iff_prefix.1 hp).length_le
        rw [P.size_len, P.size_len] at this; exact this
      have hls : (P.cutA t 10 ++ ⟨#[10]⟩).size = (P.cutA t 10).size + 1 := by rw [ByteArray.size_append]; rfl
      have hle2 := cutA_le t 10
      have hx : (P.cutA t 10 ++ ⟨#[10]⟩).extract word.size (P.cutA t 10).size = P.txt ((P.cutA t 10).data.toList.drop word.size) := by
        apply P.ba_inj
        rw [P.txt_list, ByteArray.data_extract, ByteArray.data_append, Array.toList_extract, Array.toList_append, List.extract_eq_take_drop, List.drop_append_of_le_length (by rw [P.size_len]; exact hle), List.take_append_of_le_length (by rw [List.length_drop, P.size_len]; omega), List.take_of_length_le (by rw [List.length_drop, P.size_len]; omega)]
      rw [hp] at HP
      rw [hO]
      have hgl : P.behT (some ((P.cutA t 10).data.toList.drop word.size)) = P.txt ((P.cutA t 10).data.toList.drop word.size) := rfl
      rw [hgl]
      generalize P.txt ((P.cutA t 10).data.toList.drop word.size) = v at *
      have hw1 : IntKind.i64.wrap (((P.cutA t 10 ++ ⟨#[10]⟩).size : Int) - 1) = ((P.cutA t 10).size : Int) := by rw [IntKind.wrap_i64, hls]; omega
      have hb1 : (word.size : Int) ≤ ((P.cutA t 10).size : Int) := by omega
      have hb2 : ((P.cutA t 10).size : Int) ≤ ((P.cutA t 10 ++ ⟨#[10]⟩).size : Int) := by omega
      generalize (P.cutA t 10).size = m at *
      generalize P.cutA t 10 ++ ⟨#[10]⟩ = l at *
      generalize P.lineR t = r at *
      clear hp hc hA hX hO h hw0 hs hle hls hle2 hgl
      go_enter Tryz.func169, Tryz.ntmps169
      go_wp2_with (first
        | (go_at_call 240; refine HL.out.mono ?_; rintro e w1 ⟨rfl, hr1, hg1⟩; have HR := Lib.hid hr1; clear hr1)
        | (go_at_call 41; refine (HP.out _).mono ?_; rintro e w2 ⟨rfl, rfl⟩))
      go_ret
      exact ⟨rfl, HR.out, hg1⟩
end Go.Proofs.YtomikcemiacjmaaGreatDoor
