/- Plain: a text in parts; what the reference reads it as is what Parse reads it as. -/
/- Walks: outref1's cutLines, quoted, serviceOf; slices.Index of strings. -/
/- Walks: outref1's serviceOf. -/
/- Plain: a line of a change, as the program and as the reference reads it. -/
/- The reference's Parse: its state, what an append leaves of it; its lines. -/
/- The changes that are being read: where they lie; what an append leaves; the text's lines. -/
/- Walks: disk's readChange. -/
/- Walks: outref1's changeOf. -/
import Derived.Test.YtomikcemiacjmaaGreatDoorZUSmall
import Derived.Test.YtomikcemiacjmaaGreatDoorZUSvc
import Derived.Test.YtomikcemiacjmaaGreatDoorZTRPrint
import Derived.Test.YtomikcemiacjmaaGreatDoorZUPure

namespace Go.Proofs.YtomikcemiacjmaaGreatDoor
open Go.RowKit Go.Lib Go.Shelf

namespace P
/-- all parts of a text between instances of a byte -/
def parts (c : UInt8) (t : ByteArray) : List ByteArray := Lib.splitB ⟨#[c]⟩ 0 (Lib.countB t ⟨#[c]⟩) t
theorem cut_cases (c : UInt8) (t : ByteArray) : (Lib.indexB t ⟨#[c]⟩ = -1 ∧ cutOk t c = false ∧ cutA t c = t ∧ cutB t c = ⟨#[]⟩) ∨
    (∃ i : Nat, Lib.indexB t ⟨#[c]⟩ = i ∧ i + 1 ≤ t.size ∧ cutOk t c = true ∧ cutA t c = t.extract 0 i ∧ cutB t c = t.extract (i + 1) t.size) := by
  rcases Lib.indexB_cases t ⟨#[c]⟩ with h | ⟨i, h, hi⟩
  · obtain ⟨h1, h2, h3⟩ := Lib.cutB_miss t ⟨#[c]⟩ h
    exact .inl ⟨h, h3, h1, h2⟩
  · obtain ⟨h1, h2, h3⟩ := Lib.cutB_hit t ⟨#[c]⟩ i h
    exact .inr ⟨i, h, hi, h3, h1, h2⟩
theorem parts_no {c : UInt8} {t : ByteArray} (h : cutOk t c = false) : parts c t = [t] ∧ cutA t c = t ∧ cutB t c = ⟨#[]⟩ ∧ Lib.countB t ⟨#[c]⟩ = 0 := by
  rcases cut_cases c t with ⟨h1, _, h2, h3⟩ | ⟨i, _, _, h1, _⟩
  · exact ⟨Lib.splitB_miss _ _ _ _ h1, h2, h3, Lib.countB_miss _ _ h1⟩
  · rw [h1] at h; cases h
theorem parts_hit {c : UInt8} {t : ByteArray} (h : cutOk t c = true) : parts c t = cutA t c :: parts c (cutB t c) ∧ Lib.countB t ⟨#[c]⟩ = Lib.countB (cutB t c) ⟨#[c]⟩ + 1 := by
  rcases cut_cases c t with ⟨_, h1, _⟩ | ⟨i, h1, _, _, h2, h3⟩
  · rw [h1] at h; cases h
  · have e := Lib.countB_hit t ⟨#[c]⟩ i (Nat.le_refl _) h1
    have e2 : (⟨#[c]⟩ : ByteArray).size = 1 := rfl
    rw [e2, ← h3] at e
    refine ⟨?_, by omega⟩
    unfold parts
    rw [e, Nat.add_comm, Lib.splitB_hit _ _ _ _ i h1, e2, h2, ← h3]
    rfl
theorem parts_len (c : UInt8) (t : ByteArray) : (parts c t).length = Lib.countB t ⟨#[c]⟩ + 1 := Lib.splitB_all ⟨#[c]⟩ (Nat.le_refl _) 0 _ t rfl
theorem parts_ne (c : UInt8) (t : ByteArray) : parts c t ≠ [] := by
  intro e
  have := parts_len c t
  rw [e] at this
  simp at this
theorem cutB_lt' {c : UInt8} {t : ByteArray} (h : cutOk t c = true) : (cutB t c).size < t.size := by
  rcases cut_cases c t with ⟨_, h1, _⟩ | ⟨i, _, hi, _, _, h3⟩
  · rw [h1] at h; cases h
  · rw [h3, ByteArray.size_extract]; omega
theorem cutA_free (c : UInt8) (t : ByteArray) : c ∉ (cutA t c).data.toList := by
  intro hm
  unfold cutA Lib.cut at hm
  have key : Lib.indexByte t.data.toList c = Lib.index t.data.toList [c] := (Lib.index_one _ _).symm
  split at hm
  · rename_i h0
    rw [txt_list] at hm
    obtain ⟨i, hi⟩ : ∃ i : Nat, Lib.index t.data.toList [c] = i := ⟨(Lib.index t.data.toList [c]).toNat, by omega⟩
    rw [hi, Int.toNat_natCast] at hm
    rw [hi] at key
    have hs := (Lib.indexByte_some key).2
    obtain ⟨j, hj, e⟩ := List.mem_iff_getElem.1 hm
    rw [List.length_take] at hj
    refine hs j (by omega) ?_
    rw [List.getElem_take] at e
    rw [← e]
    exact List.getElem?_eq_getElem _
  · rename_i h0
    rw [txt_list] at hm
    have hge := Lib.index_ge t.data.toList [c]
    have : Lib.indexByte t.data.toList c = -1 := by omega
    obtain ⟨j, hj⟩ := List.mem_iff_getElem?.1 hm
    exact Lib.indexByte_none this j hj
theorem parts_free (c : UInt8) : ∀ (n : Nat) (t : ByteArray), t.size ≤ n → ∀ x ∈ parts c t, c ∉ x.data.toList
  | n, t, hn, x, hx => by
    cases h : cutOk t c with
    | false =>
      obtain ⟨h1, h2, _⟩ := parts_no h
      rw [h1] at hx
      rcases List.mem_cons.1 hx with rfl | hx
      · rw [← h2]; exact cutA_free c _
      · cases hx
    | true =>
      have hlt := cutB_lt' h
      rw [(parts_hit h).1] at hx
      rcases List.mem_cons.1 hx with rfl | hx
      · exact cutA_free c _
      · cases n with
        | zero => omega
        | succ n => exact parts_free c n _ (by omega) x hx

/-! ### a service -/
theorem splitB_more (c : UInt8) : ∀ (k : Nat) (t : ByteArray), Lib.countB t ⟨#[c]⟩ ≤ k → Lib.splitB ⟨#[c]⟩ 0 k t = parts c t
  | k, t, hk => by
    cases h : cutOk t c with
    | false =>
      rcases cut_cases c t with ⟨h1, _⟩ | ⟨i, _, _, h2, _⟩
      · rw [(parts_no h).1, Lib.splitB_miss _ _ _ _ h1]
      · rw [h2] at h; cases h
    | true =>
      obtain ⟨hp, hc⟩ := parts_hit h
      rcases cut_cases c t with ⟨_, h2, _⟩ | ⟨i, h1, _, _, h2, h3⟩
      · rw [h2] at h; cases h
      · cases k with
        | zero => omega
        | succ k =>
          have e2 : (⟨#[c]⟩ : ByteArray).size = 1 := rfl
          rw [hp, Lib.splitB_hit _ _ _ _ i h1, e2, ← h3, splitB_more c k _ (by omega), h2]
          rfl
theorem splitB_few (c : UInt8) : ∀ (k : Nat) (t : ByteArray), k ≤ Lib.countB t ⟨#[c]⟩ → (Lib.splitB ⟨#[c]⟩ 0 k t).length = k + 1
  | 0, t, _ => rfl
  | k + 1, t, hk => by
    rcases cut_cases c t with ⟨h1, _⟩ | ⟨i, h1, _, h, h2, h3⟩
    · have := Lib.countB_miss _ _ h1; omega
    · have hc := (parts_hit h).2
      have e2 : (⟨#[c]⟩ : ByteArray).size = 1 := rfl
      rw [Lib.splitB_hit _ _ _ _ i h1, e2, ← h3, List.length_cons, splitB_few c k _ (by omega)]
/-- the reference's service of words -/
def rsvc : List ByteArray → Sv × Bool
  | [a, b, c, d] => if !a.toList.isEmpty && !b.toList.isEmpty && isFlag c && isFlag d then (⟨a, b, c.toList == [49], d.toList == [49]⟩, true) else (svc0, false)
  | _ => (svc0, false)
theorem rsvc_other {l : List ByteArray} (h : l.length ≠ 4) : rsvc l = (svc0, false) := by
  match l, h with
  | [], _ => rfl
  | [_], _ => rfl
  | [_, _], _ => rfl
  | [_, _, _], _ => rfl
  | [_, _, _, _], h => exact absurd rfl h
  | _ :: _ :: _ :: _ :: _ :: _, _ => rfl
theorem isWord_free {s : ByteArray} (h : (32 : UInt8) ∉ s.data.toList) : isWord s = !s.toList.isEmpty := by
  unfold isWord
  have : Lib.indexByte s.data.toList 32 = -1 := by
    by_cases h1 : Lib.indexByte s.data.toList 32 < 0
    · have := Lib.index_ge s.data.toList [32]
      rw [Lib.index_one] at this
      omega
    · obtain ⟨i, hi⟩ : ∃ i : Nat, Lib.indexByte s.data.toList 32 = i := ⟨(Lib.indexByte s.data.toList 32).toNat, by omega⟩
      exact absurd (List.mem_of_getElem? (Lib.indexByte_some hi).1) h
  rw [this]
  cases s.toList.isEmpty <;> rfl
theorem rsvc_eq (s : ByteArray) : (rsvc (parts 32 s)).2 = (svcRead (svcWords s)).2 ∧ ((svcRead (svcWords s)).2 = true → (rsvc (parts 32 s)).1 = (svcRead (svcWords s)).1) := by
  have hle : Lib.countB s ⟨#[32]⟩ ≤ s.size := Lib.countB_le _ (Nat.le_refl _) _ s (Nat.le_refl _)
  have hw : svcWords s = Lib.splitB ⟨#[32]⟩ 0 (min 5 (s.size + 1) - 1) s := rfl
  by_cases hc : Lib.countB s ⟨#[32]⟩ ≤ 4
  · rw [splitB_more 32 _ s (by omega)] at hw
    rw [hw]
    by_cases h4 : (parts 32 s).length = 4
    · have hf := parts_free 32 s.size s (Nat.le_refl _)
      generalize parts 32 s = l at *
      match l, h4 with
      | [a, b, c, d], _ =>
        have ha := isWord_free (hf a (by simp))
        have hb := isWord_free (hf b (by simp))
        show (if _ = true then ((⟨a, b, c.toList == [49], d.toList == [49]⟩ : Sv), true) else (svc0, false)).2 = (if (isFlag c && isFlag d) = true then ((⟨a, b, c.toList == [49], d.toList == [49]⟩ : Sv), isWord a && isWord b) else (svc0, false)).2 ∧ ((if (isFlag c && isFlag d) = true then ((⟨a, b, c.toList == [49], d.toList == [49]⟩ : Sv), isWord a && isWord b) else (svc0, false)).2 = true → (if _ = true then ((⟨a, b, c.toList == [49], d.toList == [49]⟩ : Sv), true) else (svc0, false)).1 = (if (isFlag c && isFlag d) = true then ((⟨a, b, c.toList == [49], d.toList == [49]⟩ : Sv), isWord a && isWord b) else (svc0, false)).1)
        rw [ha, hb]
        cases a.toList.isEmpty <;> cases b.toList.isEmpty <;> cases isFlag c <;> cases isFlag d <;> simp
    · rw [rsvc_other h4, svcRead_other h4]
      exact ⟨rfl, fun _ => rfl⟩
  · have h1 : (svcWords s).length ≠ 4 := by
      rw [hw, splitB_few 32 _ s (by omega)]
      omega
    have h2 : (parts 32 s).length ≠ 4 := by rw [parts_len]; omega
    rw [rsvc_other h2, svcRead_other h1]
    exact ⟨rfl, fun _ => rfl⟩

/-! ### a line -/
/-- the reference's pair is right -/
noncomputable def rq (s : ByteArray) : Bool := cutOk s 32 && !(cutA s 32).toList.isEmpty && (unquote (cutB s 32)).2 == 0
theorem unquote_nil : (unquote ⟨#[]⟩).2 = 8 := by
  rw [unquote_no]
  intro e
  have := congrArg ByteArray.size e
  have h2 : 2 ≤ (quote (txt (unqD (inner ⟨#[]⟩).data.toList))).size := by
    rw [← size_len]
    unfold quote
    rw [txt_list]
    unfold quoteL
    simp
  rw [this] at h2
  exact absurd h2 (by decide)
theorem rq_eq (s : ByteArray) : rq s = pairOk s := by
  unfold rq pairOk
  rw [isWord_free (cutA_free 32 s)]
  cases h : cutOk s 32 with
  | true => rfl
  | false =>
    rw [(parts_no h).2.2.1, unquote_nil]
    cases (cutA s 32).toList.isEmpty <;> rfl
/-! ### all lines -/
/-- a text's lines -/
def lns (t : ByteArray) : List ByteArray := if ((parts 10 t).getLast (parts_ne 10 t)).toList = [] then (parts 10 t).dropLast else parts 10 t
def torn (t : ByteArray) : Int := if ((parts 10 t).getLast (parts_ne 10 t)).toList = [] then -1 else (Lib.countB t ⟨#[10]⟩ : Int)
theorem lns_no {t : ByteArray} (h : cutOk t 10 = false) : (t.toList = [] → lns t = []) ∧ (t.toList ≠ [] → lns t = [t]) := by
  unfold lns
  have e := (parts_no h).1
  have g : (parts 10 t).getLast (parts_ne 10 t) = t := by simp only [e]; rfl
  rw [g]
  refine ⟨fun h => by rw [if_pos h, e]; rfl, fun h => by rw [if_neg h, e]⟩
theorem torn_no {t : ByteArray} (h : cutOk t 10 = false) : t.toList ≠ [] → torn t = 0 := by
  unfold torn
  have e := (parts_no h).1
  have g : (parts 10 t).getLast (parts_ne 10 t) = t := by simp only [e]; rfl
  rw [g]
  intro h2
  rw [if_neg h2, (parts_no h).2.2.2]; rfl
theorem last_hit {t : ByteArray} (h : cutOk t 10 = true) : (parts 10 t).getLast (parts_ne 10 t) = (parts 10 (cutB t 10)).getLast (parts_ne 10 _) := by
  have e := (parts_hit h).1
  simp only [e]
  exact List.getLast_cons (parts_ne 10 _)
theorem lns_hit {t : ByteArray} (h : cutOk t 10 = true) : lns t = cutA t 10 :: lns (cutB t 10) := by
  unfold lns
  rw [last_hit h, (parts_hit h).1]
  split
  · rw [List.dropLast_cons_of_ne_nil (parts_ne 10 _)]
  · rfl
theorem torn_hit {t : ByteArray} (h : cutOk t 10 = true) : torn t = if torn (cutB t 10) = -1 then -1 else torn (cutB t 10) + 1 := by
  unfold torn
  rw [last_hit h, (parts_hit h).2]
  split
  · rw [if_pos rfl]
  · rw [if_neg (by omega)]; push_cast; rfl
theorem torn_ge (t : ByteArray) : -1 ≤ torn t := by unfold torn; split <;> omega
end P
end Go.Proofs.YtomikcemiacjmaaGreatDoor

namespace Go.Proofs.YtomikcemiacjmaaGreatDoor
open Go.RowKit Go.Lib Go.Shelf

theorem split_row (c : UInt8) (s : ByteArray) (hs : s.size ≤ 1000000000) (nb : Nat) (w : World) (hn : nb = w.heap.size) (hw : Good w) :
    Calls Tryz.prog 129 #[.string s, .string ⟨#[c]⟩] w fun e w' =>
      e = .returned (.slice (some ⟨nb, 0, none⟩) (P.parts c s).length (P.parts c s).length) ∧ HasRow w' nb ((P.parts c s).map Value.string).toArray ∧ Below w.heap.size w w' := by
  subst hn
  refine (split_any s c (by omega) w hw).mono fun e w' h => ⟨h.1, ?_, ?_⟩
  · rw [h.2]; exact HasRow.new _ _ _
  · rw [h.2]; exact below_alloc _ _
theorem row_cell {W : World} {b : Nat} {L : List ByteArray} (h : HasRow W b (L.map Value.string).toArray) (k : Nat) (hk : k < L.length) : W.cell? ⟨b, k, none⟩ = some (.string L[k]) := by
  rw [h.cell k]; simp [hk]
theorem lns_len (t : ByteArray) : (P.lns t).length = if ((P.parts 10 t).getLast (P.parts_ne 10 t)).toList = [] then (P.parts 10 t).length - 1 else (P.parts 10 t).length := by
  unfold P.lns; split <;> simp

namespace P
end P
namespace P
end P
theorem quoted_any (s : ByteArray) (hs : s.size ≤ 1000000000) (w : World) (hw : Good w) :
    Calls Tryz.prog 157 #[.string s] w fun e w' => e = .returned (.tuple #[.string (P.pairK s), .string (P.pairV s), .bool (P.rq s)]) ∧ Below w.heap.size w w' := by
  have HC := Lib.hid (fun W hW => cut_any s 32 hs W hW)
  have HU := Lib.hid (fun W hW => runquote_any (P.cutB s 32) (Nat.le_trans (cutB_le s 32) hs) W hW)
  have Hw := Lib.hid hw
  clear hw
  unfold P.pairK P.pairV P.rq
  unfold unquoteOut at HU
  generalize P.cutA s 32 = k at *
  generalize P.cutB s 32 = q at *
  generalize P.cutOk s 32 = c at *
  generalize P.unquote q = u at *
  obtain ⟨v, n⟩ := u
  simp only at HU ⊢
  cases c with
  | false =>
    go_enter Tryz.func157, Tryz.ntmps157
    go_wp2_with (first
      | (go_at_call 155; refine (HC.out _ Hw.out).mono ?_; rintro e w1 ⟨rfl, hb1⟩; have HB1 := Lib.hid hb1)
      | (go_at_call 59; refine (HU.out _ (Hw.out.mono HB1.out)).mono ?_; rintro e w2 ⟨rfl, hb2⟩))
    go_ret3
    exact ⟨rfl, bstep HB1.out hb2⟩
  | true =>
    cases hz : k.toList.isEmpty with
    | true =>
      have hz' := eq_of hz
      clear hz
      go_enter Tryz.func157, Tryz.ntmps157
      go_wp2_with (first
        | (go_at_call 155; refine (HC.out _ Hw.out).mono ?_; rintro e w1 ⟨rfl, hb1⟩; have HB1 := Lib.hid hb1)
        | (go_at_call 59; refine (HU.out _ (Hw.out.mono HB1.out)).mono ?_; rintro e w2 ⟨rfl, hb2⟩))
      go_ret3
      exact ⟨by simp, bstep HB1.out hb2⟩
    | false =>
      have hz' := ne_of hz
      clear hz
      go_enter Tryz.func157, Tryz.ntmps157
      go_wp2_with (first
        | (go_at_call 155; refine (HC.out _ Hw.out).mono ?_; rintro e w1 ⟨rfl, hb1⟩; have HB1 := Lib.hid hb1)
        | (go_at_call 59; refine (HU.out _ (Hw.out.mono HB1.out)).mono ?_; rintro e w2 ⟨rfl, hb2⟩))
      go_ret3
      exact ⟨by simp [hz'], bstep HB1.out hb2⟩
end Go.Proofs.YtomikcemiacjmaaGreatDoor

namespace Go.Proofs.YtomikcemiacjmaaGreatDoor
open Go.RowKit Go.Lib Go.Shelf

theorem row_four {W : World} {b : Nat} {x1 x2 x3 x4 : ByteArray} (h : HasRow W b ([x1, x2, x3, x4].map Value.string).toArray) :
    W.cell? ⟨b, 0, none⟩ = some (.string x1) ∧ W.cell? ⟨b, 1, none⟩ = some (.string x2) ∧ W.cell? ⟨b, 2, none⟩ = some (.string x3) ∧ W.cell? ⟨b, 3, none⟩ = some (.string x4) :=
  ⟨h.cell 0, h.cell 1, h.cell 2, h.cell 3⟩
theorem flag_cases (c : ByteArray) : (P.isFlag c = false ∧ (c.toList == [48]) = false ∧ (c.toList == [49]) = false) ∨ (P.isFlag c = true ∧ c.toList = [48] ∧ (c.toList == [49]) = false) ∨ (P.isFlag c = true ∧ (c.toList == [48]) = false ∧ c.toList = [49]) := by
  unfold P.isFlag
  by_cases h0 : c.toList = [48]
  · exact .inr (.inl ⟨by rw [h0]; rfl, h0, by rw [h0]; decide⟩)
  · by_cases h1 : c.toList = [49]
    · exact .inr (.inr ⟨by rw [h1]; rfl, by rw [h1]; decide, h1⟩)
    · refine .inl ⟨?_, by simpa using h0, by simpa using h1⟩
      simp [h0, h1]
theorem rsvc_four (x1 x2 x3 x4 : ByteArray) : P.rsvc [x1, x2, x3, x4] = if !x1.toList.isEmpty && !x2.toList.isEmpty && P.isFlag x3 && P.isFlag x4 then (⟨x1, x2, x3.toList == [49], x4.toList == [49]⟩, true) else (P.svc0, false) := rfl

set_option maxRecDepth 100000 in
set_option maxHeartbeats 4000000 in
theorem serviceOf_any (l : List ByteArray) (b cap : Nat) (w : World) (h : HasRow w b (l.map Value.string).toArray) :
    Calls Tryz.prog 158 #[.slice (some ⟨b, 0, none⟩) l.length cap] w fun e w' => e = .returned (.tuple #[svcAgg (P.rsvc l).1, .bool (P.rsvc l).2]) ∧ Below w.heap.size w w' := by
  have HR := Lib.hid (HasRow.new w #[.string ⟨#[]⟩, .string ⟨#[]⟩, .bool false, .bool false] 46)
  have HB := Lib.hid (below_alloc w (.cells #[.string ⟨#[]⟩, .string ⟨#[]⟩, .bool false, .bool false] 46))
  have mixed : Tryz.prog.follows .mixedOrders = true := by kernel_rfl
  by_cases h4 : l.length = 4
  · obtain ⟨x1, x2, x3, x4, rfl⟩ : ∃ a b c d, l = [a, b, c, d] := by
      match l, h4 with
      | [a, b, c, d], _ => exact ⟨a, b, c, d, rfl⟩
    obtain ⟨k0, k1, k2, k3⟩ := row_four (h.below HB.out)
    have hr := rsvc_four x1 x2 x3 x4
    have n4 : [x1, x2, x3, x4].length = 4 := rfl
    rw [n4]
    clear h h4 n4
    obtain ⟨c0, c1, c2, c3, _⟩ := hrow4 HR.out
    have f0 := HR.out.free 0
    have f1 := HR.out.free 1
    have f2 := HR.out.free 2
    have f3 := HR.out.free 3
    by_cases hbad : (!x1.toList.isEmpty && !x2.toList.isEmpty && P.isFlag x3 && P.isFlag x4) = true
    · rw [if_pos hbad] at hr
      simp only [Bool.and_eq_true, Bool.not_eq_true'] at hbad
      obtain ⟨⟨⟨h1, h2⟩, h3⟩, h4⟩ := hbad
      have h1' := ne_of h1
      have h2' := ne_of h2
      rcases flag_cases x3 with ⟨e3, _⟩ | ⟨_, p3, q3⟩ | ⟨_, q3, p3⟩
      · rw [e3] at h3; cases h3
      all_goals rcases flag_cases x4 with ⟨e4, _⟩ | ⟨_, p4, q4⟩ | ⟨_, q4, p4⟩
      all_goals first | (rw [e4] at h4; cases h4; done) | skip
      all_goals
        first | rw [q3] at hr | rw [p3, show (([49] : List UInt8) == [49]) = true from rfl] at hr
        first | rw [q4] at hr | rw [p4, show (([49] : List UInt8) == [49]) = true from rfl] at hr
        replace hr := Lib.hid hr
        rw [hr.out]
        clear h3 h4
        go_enter Tryz.func158, Tryz.ntmps158
        go_wp2_with fail
      all_goals
        refine region_quiet_tail 15 mixed (by kernel_rfl) ?_
        simp only [List.take_succ_cons, List.take_zero, List.drop_succ_cons, List.drop_zero]
        repeat (first
          | go_big_quiet_step (first | fail)
          | (refine wpQuiet_step (fun K hK => ?_); go_simp; refine hK _ ?_; clear hK K))
        refine wpQuiet_nil ?_
        go_wp2_with fail
      all_goals
        first
        | (have HN := HasRow.new w #[.string x1, .string x2, .bool false, .bool false] 46
           have HB2 := below_alloc w (.cells #[.string x1, .string x2, .bool false, .bool false] 46)
           obtain ⟨d0, d1, d2, d3, _⟩ := hrow4 HN.drew
           refine bodyPost_ret (v := .tuple #[.agg #[.string x1, .string x2, .bool false, .bool false], .bool true]) ?_ rfl ⟨rfl, HB2.drew⟩
           simp [results, Tryz.results158, go_sem, d0, d1, d2, d3])
        | (have HN := HasRow.new w #[.string x1, .string x2, .bool false, .bool true] 46
           have HB2 := below_alloc w (.cells #[.string x1, .string x2, .bool false, .bool true] 46)
           obtain ⟨d0, d1, d2, d3, _⟩ := hrow4 HN.drew
           refine bodyPost_ret (v := .tuple #[.agg #[.string x1, .string x2, .bool false, .bool true], .bool true]) ?_ rfl ⟨rfl, HB2.drew⟩
           simp [results, Tryz.results158, go_sem, d0, d1, d2, d3])
        | (have HN := HasRow.new w #[.string x1, .string x2, .bool true, .bool false] 46
           have HB2 := below_alloc w (.cells #[.string x1, .string x2, .bool true, .bool false] 46)
           obtain ⟨d0, d1, d2, d3, _⟩ := hrow4 HN.drew
           refine bodyPost_ret (v := .tuple #[.agg #[.string x1, .string x2, .bool true, .bool false], .bool true]) ?_ rfl ⟨rfl, HB2.drew⟩
           simp [results, Tryz.results158, go_sem, d0, d1, d2, d3])
        | (have HN := HasRow.new w #[.string x1, .string x2, .bool true, .bool true] 46
           have HB2 := below_alloc w (.cells #[.string x1, .string x2, .bool true, .bool true] 46)
           obtain ⟨d0, d1, d2, d3, _⟩ := hrow4 HN.drew
           refine bodyPost_ret (v := .tuple #[.agg #[.string x1, .string x2, .bool true, .bool true], .bool true]) ?_ rfl ⟨rfl, HB2.drew⟩
           simp [results, Tryz.results158, go_sem, d0, d1, d2, d3])
    · replace hr := Lib.hid (hr.trans (if_neg hbad))
      rw [hr.out]
      have hcs : (x1.toList = [] ∧ x1.toList.isEmpty = true) ∨ (¬ x1.toList = [] ∧ x1.toList.isEmpty = false ∧ x2.toList = [] ∧ x2.toList.isEmpty = true) ∨ (¬ x1.toList = [] ∧ x1.toList.isEmpty = false ∧ ¬ x2.toList = [] ∧ x2.toList.isEmpty = false ∧ (x3.toList == [48]) = false ∧ (x3.toList == [49]) = false) ∨
          (¬ x1.toList = [] ∧ x1.toList.isEmpty = false ∧ ¬ x2.toList = [] ∧ x2.toList.isEmpty = false ∧ (x3.toList = [48] ∨ x3.toList = [49]) ∧ (x4.toList == [48]) = false ∧ (x4.toList == [49]) = false) := by
        cases h1 : x1.toList.isEmpty with
        | true => exact .inl ⟨eq_of h1, rfl⟩
        | false =>
          cases h2 : x2.toList.isEmpty with
          | true => exact .inr (.inl ⟨ne_of h1, rfl, eq_of h2, rfl⟩)
          | false =>
            rw [h1, h2] at hbad
            rcases flag_cases x3 with ⟨e3, p3, q3⟩ | ⟨e3, p3, _⟩ | ⟨e3, _, p3⟩
            · exact .inr (.inr (.inl ⟨ne_of h1, rfl, ne_of h2, rfl, p3, q3⟩))
            all_goals
              rw [e3] at hbad
              rcases flag_cases x4 with ⟨e4, p4, q4⟩ | ⟨e4, _⟩ | ⟨e4, _⟩
              · exact .inr (.inr (.inr ⟨ne_of h1, rfl, ne_of h2, rfl, (by first | exact .inl p3 | exact .inr p3), p4, q4⟩))
              all_goals (rw [e4] at hbad; exact absurd rfl hbad)
      clear hbad
      rcases hcs with ⟨h1, h1'⟩ | ⟨h1, h1', h2, h2'⟩ | ⟨h1, h1', h2, h2', h3, h3'⟩ | ⟨h1, h1', h2, h2', h3 | h3, h4, h4'⟩
      all_goals
        go_enter Tryz.func158, Tryz.ntmps158
        go_wp2_with fail
        obtain ⟨d0, d1, d2, d3, _⟩ := hrow4 HR.out
        refine bodyPost_ret (v := .tuple #[.agg #[.string ⟨#[]⟩, .string ⟨#[]⟩, .bool false, .bool false], .bool false]) ?_ rfl ⟨rfl, HB.out⟩
        simp [results, Tryz.results158, go_sem, d0, d1, d2, d3]
  · have hr := Lib.hid (P.rsvc_other h4)
    rw [hr.out]
    have g1 : ((l.length : Int) != 4) = true := by simp; omega
    clear h4 h
    obtain ⟨c0, c1, c2, c3, _⟩ := hrow4 HR.out
    have f0 := HR.out.free 0
    have f1 := HR.out.free 1
    have f2 := HR.out.free 2
    have f3 := HR.out.free 3
    go_enter Tryz.func158, Tryz.ntmps158
    go_wp2_with fail
    obtain ⟨d0, d1, d2, d3, _⟩ := hrow4 HR.out
    refine bodyPost_ret (v := .tuple #[.agg #[.string ⟨#[]⟩, .string ⟨#[]⟩, .bool false, .bool false], .bool false]) ?_ rfl ⟨rfl, HB.out⟩
    simp [results, Tryz.results158, go_sem, d0, d1, d2, d3]
end Go.Proofs.YtomikcemiacjmaaGreatDoor

namespace Go.Proofs.YtomikcemiacjmaaGreatDoor
open Go.RowKit Go.Lib Go.Shelf

theorem store10 {w W : World} {k : Nat} {a0 a1 a2 a3 a4 a5 a6 a7 a8 a9 : Value} (hR : HasRow W k #[a0, a1, a2, a3, a4, a5, a6, a7, a8, a9]) (hb : Below w.heap.size w W) (hk : w.heap.size ≤ k) (x0 x1 x2 x3 x4 x5 x6 x7 x8 x9 : Value) :
    HasRow ((((((((((W.setCell ⟨k, 0, none⟩ x0).setCell ⟨k, 1, none⟩ x1).setCell ⟨k, 2, none⟩ x2).setCell ⟨k, 3, none⟩ x3).setCell ⟨k, 4, none⟩ x4).setCell ⟨k, 5, none⟩ x5).setCell ⟨k, 6, none⟩ x6).setCell ⟨k, 7, none⟩ x7).setCell ⟨k, 8, none⟩ x8).setCell ⟨k, 9, none⟩ x9) k #[x0, x1, x2, x3, x4, x5, x6, x7, x8, x9] ∧ Below w.heap.size w ((((((((((W.setCell ⟨k, 0, none⟩ x0).setCell ⟨k, 1, none⟩ x1).setCell ⟨k, 2, none⟩ x2).setCell ⟨k, 3, none⟩ x3).setCell ⟨k, 4, none⟩ x4).setCell ⟨k, 5, none⟩ x5).setCell ⟨k, 6, none⟩ x6).setCell ⟨k, 7, none⟩ x7).setCell ⟨k, 8, none⟩ x8).setCell ⟨k, 9, none⟩ x9) := by
  have h0 : HasRow (W.setCell ⟨k, 0, none⟩ x0) k #[x0, a1, a2, a3, a4, a5, a6, a7, a8, a9] := hR.set 0 x0 (Nat.lt_of_lt_of_le (by decide : 0 < 10) (Nat.le_refl _))
  have b0 : Below w.heap.size w (W.setCell ⟨k, 0, none⟩ x0) := hb.setCell (p := ⟨k, 0, none⟩) hk x0
  generalize (W.setCell ⟨k, 0, none⟩ x0) = W0 at *
  have h1 : HasRow (W0.setCell ⟨k, 1, none⟩ x1) k #[x0, x1, a2, a3, a4, a5, a6, a7, a8, a9] := h0.set 1 x1 (Nat.lt_of_lt_of_le (by decide : 1 < 10) (Nat.le_refl _))
  have b1 : Below w.heap.size w (W0.setCell ⟨k, 1, none⟩ x1) := b0.setCell (p := ⟨k, 1, none⟩) hk x1
  generalize (W0.setCell ⟨k, 1, none⟩ x1) = W1 at *
  have h2 : HasRow (W1.setCell ⟨k, 2, none⟩ x2) k #[x0, x1, x2, a3, a4, a5, a6, a7, a8, a9] := h1.set 2 x2 (Nat.lt_of_lt_of_le (by decide : 2 < 10) (Nat.le_refl _))
  have b2 : Below w.heap.size w (W1.setCell ⟨k, 2, none⟩ x2) := b1.setCell (p := ⟨k, 2, none⟩) hk x2
  generalize (W1.setCell ⟨k, 2, none⟩ x2) = W2 at *
  have h3 : HasRow (W2.setCell ⟨k, 3, none⟩ x3) k #[x0, x1, x2, x3, a4, a5, a6, a7, a8, a9] := h2.set 3 x3 (Nat.lt_of_lt_of_le (by decide : 3 < 10) (Nat.le_refl _))
  have b3 : Below w.heap.size w (W2.setCell ⟨k, 3, none⟩ x3) := b2.setCell (p := ⟨k, 3, none⟩) hk x3
  generalize (W2.setCell ⟨k, 3, none⟩ x3) = W3 at *
  have h4 : HasRow (W3.setCell ⟨k, 4, none⟩ x4) k #[x0, x1, x2, x3, x4, a5, a6, a7, a8, a9] := h3.set 4 x4 (Nat.lt_of_lt_of_le (by decide : 4 < 10) (Nat.le_refl _))
  have b4 : Below w.heap.size w (W3.setCell ⟨k, 4, none⟩ x4) := b3.setCell (p := ⟨k, 4, none⟩) hk x4
  generalize (W3.setCell ⟨k, 4, none⟩ x4) = W4 at *
  have h5 : HasRow (W4.setCell ⟨k, 5, none⟩ x5) k #[x0, x1, x2, x3, x4, x5, a6, a7, a8, a9] := h4.set 5 x5 (Nat.lt_of_lt_of_le (by decide : 5 < 10) (Nat.le_refl _))
  have b5 : Below w.heap.size w (W4.setCell ⟨k, 5, none⟩ x5) := b4.setCell (p := ⟨k, 5, none⟩) hk x5
  generalize (W4.setCell ⟨k, 5, none⟩ x5) = W5 at *
  have h6 : HasRow (W5.setCell ⟨k, 6, none⟩ x6) k #[x0, x1, x2, x3, x4, x5, x6, a7, a8, a9] := h5.set 6 x6 (Nat.lt_of_lt_of_le (by decide : 6 < 10) (Nat.le_refl _))
  have b6 : Below w.heap.size w (W5.setCell ⟨k, 6, none⟩ x6) := b5.setCell (p := ⟨k, 6, none⟩) hk x6
  generalize (W5.setCell ⟨k, 6, none⟩ x6) = W6 at *
  have h7 : HasRow (W6.setCell ⟨k, 7, none⟩ x7) k #[x0, x1, x2, x3, x4, x5, x6, x7, a8, a9] := h6.set 7 x7 (Nat.lt_of_lt_of_le (by decide : 7 < 10) (Nat.le_refl _))
  have b7 : Below w.heap.size w (W6.setCell ⟨k, 7, none⟩ x7) := b6.setCell (p := ⟨k, 7, none⟩) hk x7
  generalize (W6.setCell ⟨k, 7, none⟩ x7) = W7 at *
  have h8 : HasRow (W7.setCell ⟨k, 8, none⟩ x8) k #[x0, x1, x2, x3, x4, x5, x6, x7, x8, a9] := h7.set 8 x8 (Nat.lt_of_lt_of_le (by decide : 8 < 10) (Nat.le_refl _))
  have b8 : Below w.heap.size w (W7.setCell ⟨k, 8, none⟩ x8) := b7.setCell (p := ⟨k, 8, none⟩) hk x8
  generalize (W7.setCell ⟨k, 8, none⟩ x8) = W8 at *
  have h9 : HasRow (W8.setCell ⟨k, 9, none⟩ x9) k #[x0, x1, x2, x3, x4, x5, x6, x7, x8, x9] := h8.set 9 x9 (Nat.lt_of_lt_of_le (by decide : 9 < 10) (Nat.le_refl _))
  have b9 : Below w.heap.size w (W8.setCell ⟨k, 9, none⟩ x9) := b8.setCell (p := ⟨k, 9, none⟩) hk x9
  exact ⟨h9, b9⟩
theorem bne_of {a b : List UInt8} (h : ¬ a = b) : (a == b) = false := by simpa using h
namespace P
def wPut : B := [112, 117, 116]
def wPutrun : B := [112, 117, 116, 114, 117, 110]
def wRemove : B := [114, 101, 109, 111, 118, 101]
def wUnset : B := [117, 110, 115, 101, 116]
def wDrop : B := [100, 114, 111, 112]
noncomputable def chRead (l : ByteArray) : Chg × Bool :=
  if (cutA l 32).toList = wPut then (⟨1, ⟨pairK (cutB l 32), pairV (cutB l 32), false⟩, st0, sv0⟩, pairOk (cutB l 32))
  else if (cutA l 32).toList = wPutrun then (⟨1, ⟨pairK (cutB l 32), pairV (cutB l 32), true⟩, st0, sv0⟩, pairOk (cutB l 32))
  else if (cutA l 32).toList = wRemove then (⟨2, ⟨cutB l 32, ⟨#[]⟩, false⟩, st0, sv0⟩, isWord (cutB l 32))
  else if (cutA l 32).toList = wSet then (⟨3, fi0, ⟨pairK (cutB l 32), pairV (cutB l 32)⟩, sv0⟩, pairOk (cutB l 32))
  else if (cutA l 32).toList = wUnset then (⟨4, fi0, ⟨cutB l 32, ⟨#[]⟩⟩, sv0⟩, isWord (cutB l 32))
  else if (cutA l 32).toList = wSvc then (⟨5, fi0, st0, (svcRead (svcWords (cutB l 32))).1⟩, (svcRead (svcWords (cutB l 32))).2)
  else if (cutA l 32).toList = wDrop then (⟨6, fi0, st0, ⟨cutB l 32, ⟨#[]⟩, false, false⟩⟩, isWord (cutB l 32))
  else (⟨0, fi0, st0, sv0⟩, false)
noncomputable def chRef (l : ByteArray) : Chg × Bool :=
  if (cutA l 32).toList = wPut then (⟨1, ⟨pairK (cutB l 32), pairV (cutB l 32), false⟩, st0, sv0⟩, rq (cutB l 32))
  else if (cutA l 32).toList = wPutrun then (⟨1, ⟨pairK (cutB l 32), pairV (cutB l 32), true⟩, st0, sv0⟩, rq (cutB l 32))
  else if (cutA l 32).toList = wRemove then (⟨2, ⟨cutB l 32, ⟨#[]⟩, false⟩, st0, sv0⟩, isWord (cutB l 32))
  else if (cutA l 32).toList = wSet then (⟨3, fi0, ⟨pairK (cutB l 32), pairV (cutB l 32)⟩, sv0⟩, rq (cutB l 32))
  else if (cutA l 32).toList = wUnset then (⟨4, fi0, ⟨cutB l 32, ⟨#[]⟩⟩, sv0⟩, isWord (cutB l 32))
  else if (cutA l 32).toList = wSvc then (⟨5, fi0, st0, (rsvc (parts 32 (cutB l 32))).1⟩, (rsvc (parts 32 (cutB l 32))).2)
  else if (cutA l 32).toList = wDrop then (⟨6, fi0, st0, ⟨cutB l 32, ⟨#[]⟩, false, false⟩⟩, isWord (cutB l 32))
  else (⟨0, fi0, st0, sv0⟩, false)
theorem chRef_eq (l : ByteArray) : (chRef l).2 = (chRead l).2 ∧ ((chRead l).2 = true → (chRef l).1 = (chRead l).1) := by
  have h1 := rq_eq (cutB l 32)
  obtain ⟨h2, h3⟩ := rsvc_eq (cutB l 32)
  unfold chRef chRead
  split
  · exact ⟨h1, fun _ => rfl⟩
  · split
    · exact ⟨h1, fun _ => rfl⟩
    · split
      · exact ⟨rfl, fun _ => rfl⟩
      · split
        · exact ⟨h1, fun _ => rfl⟩
        · split
          · exact ⟨rfl, fun _ => rfl⟩
          · split
            · exact ⟨h2, fun h => by rw [h3 h]⟩
            · split
              · exact ⟨rfl, fun _ => rfl⟩
              · exact ⟨rfl, fun _ => rfl⟩
end P
end Go.Proofs.YtomikcemiacjmaaGreatDoor

namespace Go.Proofs.YtomikcemiacjmaaGreatDoor
open Go.RowKit Go.Lib Go.Shelf Go.Maps

theorem wpList_append_sl5 {P : Program} {w : World} {ops : Array Oper} {rest : List Oper} {o : Oper} {a : Act} {Q : Exit → Act → World → Prop} (hgd : o.guard = none) (s x : Operand) (t : TypeId)
    (ho : o.op = .call { callee := .builtin .append, args := #[s, x], argTypes := #[t, t] })
    (base : Nat) (e : TypeId) (i : TypeInfo) (z : Value) (size bytes : Nat) (ht : P.underlying t = some (.slice e)) (hi : P.info? e = some i) (hz : i.zero = some z)
    (hsize : i.size = size) (hby : i.bytes = bytes) (hzs : z.cells.size = size) (hsz : 0 < size)
    (v : Value) (n : Nat) (xs : List Value) (hs : a.eval s = v) (hown : w.ownsRow base e size v n xs)
    (ad : Addr) (m c : Nat) (news : List Value) (hx : a.eval x = .slice (some ad) m c) (hl : news.length = m * size) (hnews : ∀ j u, news[j]? = some u → w.cell? (ad.add j) = some u) (h1 : ∀ u ∈ news, u.oneCell' = true)
    (h63 : n + m ≤ maxLen) (hbytes : (n + m) * bytes ≤ 140737488355328) (hbase : base ≤ w.heap.size)
    (h : ∀ p' c' w', w'.ownsRow base e size (.slice p' (n + m) c') (n + m) (xs ++ news) → w.grownBy w' v.ownBlock → ((Value.slice p' (n + m) c').ownBlock = v.ownBlock ∨ (Value.slice p' (n + m) c').ownBlock = some w.heap.size) → wpList P ops Q rest (a.put o.dst (.slice p' (n + m) c')) w') : wpList P ops Q (o :: rest) a w :=
  wpList_plain hgd fun _ hK => by
    obtain ⟨v', w', hr, h2, h3, h4, h5⟩ := run_append_own_at (P := P) w base t o.type e i z size bytes ht hi hz hsize hby hzs hsz v n xs hown ad m c news hl hnews h1 h63 hbytes hbase
    obtain ⟨p', c', rfl⟩ : ∃ p c, v' = .slice p (n + m) c := by
      obtain ⟨_, ⟨rfl, e0⟩ | ⟨g, cap, cur, rfl, _⟩⟩ := h2
      · exact ⟨none, 0, by rw [e0]⟩
      · exact ⟨_, _, rfl⟩
    unfold Oper.wp execOp
    simp only [ho, resolve, invoke, builtin, Sem.run_bind, Sem.run_pure, Result.andThen_ok, List.map_toArray, List.map_cons, List.map_nil, hs, hx, hr]
    exact hK _ _ (h p' c' w' h2 h3 h5)

/-- the boxes of the result and of the machine, the lines -/
structure RS (w W : World) (A : Ad) (m : P.Mach) (L : List ByteArray) : Prop where
  ps : PS (w.heap.size + 3) W (w.heap.size + 1) A m
  res : HasRow W w.heap.size mz
  row : HasRow W (w.heap.size + 2) (L.map Value.string).toArray
  z : Below w.heap.size w W
theorem RS.below {w W W' : World} {A : Ad} {m : P.Mach} {L : List ByteArray} (h : RS w W A m L) (hb : Below W.heap.size W W') : RS w W' A m L := ⟨h.ps.below hb, h.res.below hb, h.row.below hb, bstep h.z hb⟩
theorem RS.drew {w W : World} {A : Ad} {m : P.Mach} {L : List ByteArray} (h : RS w W A m L) : RS w W.drew A m L := h.below (Below.refl _ _).drew
namespace P
theorem lns_get (t : ByteArray) (k : Nat) (h : k < (lns t).length) : ∃ h2 : k < (parts 10 t).length, (parts 10 t)[k] = (lns t)[k] := by
  revert h
  unfold lns
  split
  · intro h
    have h1 := h
    rw [List.length_dropLast] at h1
    exact ⟨by omega, (List.getElem_dropLast (h := h)).symm⟩
  · intro h; exact ⟨h, rfl⟩
theorem parts_size (c : UInt8) (t : ByteArray) : ∀ x ∈ parts c t, x.size ≤ t.size := fun x hx => splitB_size _ _ _ x hx
theorem lns_size (t : ByteArray) (k : Nat) (h : k < (lns t).length) : (lns t)[k].size ≤ t.size := by
  obtain ⟨h2, e⟩ := lns_get t k h
  rw [← e]; exact parts_size 10 t _ (List.getElem_mem h2)
theorem lns_le (t : ByteArray) : (lns t).length ≤ t.size + 1 := by
  have h := parts_len 10 t
  have hc : Lib.countB t ⟨#[10]⟩ ≤ t.size := Lib.countB_le _ (Nat.le_refl _) _ t (Nat.le_refl _)
  have := lns_len t
  split at this <;> omega
end P
end Go.Proofs.YtomikcemiacjmaaGreatDoor

namespace Go.Proofs.YtomikcemiacjmaaGreatDoor
open Go.RowKit Go.Lib Go.Shelf Go.Maps

def chC (c : P.Chg) : List Value := [.int .i64 c.kind, .string c.file.p, .string c.file.d, .bool c.file.r, .string c.set.k, .string c.set.v, .string c.svc.n, .string c.svc.p, .bool c.svc.a, .bool c.svc.o]
theorem chC_one (x : P.Chg) : ∀ u ∈ chC x, u.oneCell' = true := by intro u hu; simp [chC] at hu; rcases hu with rfl | rfl | rfl | rfl | rfl | rfl | rfl | rfl | rfl | rfl <;> rfl
structure CS (base : Nat) (W : World) (N : Nat) (a : Option Addr) (c : Nat) (L : List P.Chg) : Prop where
  row : HasRow W N #[.slice a L.length c]
  own : W.ownsRow base 73 10 (.slice a L.length c) L.length (flat chC L)
  nb : N < base
  hb : base ≤ W.heap.size
theorem CS.below {base : Nat} {W W' : World} {N : Nat} {a : Option Addr} {c : Nat} {L : List P.Chg} (h : CS base W N a c L) (hb : Below W.heap.size W W') : CS base W' N a c L :=
  ⟨h.row.below hb, own_below h.own hb, h.nb, Nat.le_trans h.hb hb.size⟩
theorem CS.drew {base : Nat} {W : World} {N : Nat} {a : Option Addr} {c : Nat} {L : List P.Chg} (h : CS base W N a c L) : CS base W.drew N a c L := h.below (Below.refl _ _).drew
theorem CS.add {base : Nat} {W W' W3 : World} {N : Nat} {a : Option Addr} {c : Nat} {L : List P.Chg} {x : P.Chg} {p' : Option Addr} {c' : Nat} (h : CS base W N a c L) (hb : Below W.heap.size W W')
    (hown : W3.ownsRow base 73 10 (.slice p' (L.length + 1) c') (L.length + 1) (flat chC L ++ chC x)) (hg : W'.grownBy W3 (Value.slice a L.length c).ownBlock) :
    W3.cell? ⟨N, 0, none⟩ = some (.slice a L.length c) ∧ W3.frozen? ⟨N, 0, none⟩ = false ∧
    CS base (W3.setCell ⟨N, 0, none⟩ (.slice p' (L.length + 1) c')) N p' c' (L ++ [x]) ∧ Below N W (W3.setCell ⟨N, 0, none⟩ (.slice p' (L.length + 1) c')) := by
  have hge : ∀ k, (Value.slice a L.length c).ownBlock = some k → base ≤ k := own_ge h.own
  have hr : HasRow W3 N #[.slice a L.length c] := (h.row.below hb).grown hg (fun e => by have := hge _ e.symm; have := h.nb; omega)
  have hbl : Below N W W3 := ((hb.mono (Nat.le_of_lt h.row.lt))).grown hg (Nat.le_of_lt (h.row.below hb).lt) (fun k e => by have := hge _ e; have := h.nb; omega)
  have e1 : (L ++ [x]).length = L.length + 1 := by simp
  refine ⟨hr.cell 0, hr.free 0, ⟨?_, ?_, h.nb, ?_⟩, hbl.setCell (p := ⟨N, 0, none⟩) (Nat.le_refl _) _⟩
  · rw [e1]; exact hr.set 0 (.slice p' (L.length + 1) c') (by simp)
  · rw [e1, flat_snoc]; exact own_store hown h.nb
  · show base ≤ (W3.setCell _ _).heap.size
    have h1 := h.hb
    have h2 := hb.size
    have h3 := hg.size
    simp [World.setCell]; omega
/-- an own list of changes is there to be read -/
theorem chs_of_own {base : Nat} {W : World} {a : Option Addr} {c : Nat} {L : List P.Chg} (h : W.ownsRow base 73 10 (.slice a L.length c) L.length (flat chC L)) : ChsAt W.heap.size W a L c := by
  obtain ⟨a', cap, q, hle, hb, hc⟩ := own_cells (c := chC) (fun _ => rfl) h
  cases q
  refine ⟨hle, fun hne => ?_⟩
  obtain ⟨g, rfl, hg, hcell⟩ := hc hne
  exact ⟨g, 0, rfl, hg, fun k hk => ⟨hcell k hk 0 (by decide), hcell k hk 1 (by decide), hcell k hk 2 (by decide), hcell k hk 3 (by decide), hcell k hk 4 (by decide), hcell k hk 5 (by decide), hcell k hk 6 (by decide), hcell k hk 7 (by decide), hcell k hk 8 (by decide), hcell k hk 9 (by decide)⟩⟩
namespace P
noncomputable def crdF : Nat → List Chg → ByteArray → Nat → List Chg × Nat × Int
  | 0, m, _, _ => (m, 0, 0)
  | f + 1, m, t, n =>
    if t.toList = [] then (m, 0, 0)
    else if cutOk t 10 = false then (m, n, 8)
    else if (chRead (cutA t 10)).2 = false then ((m ++ [(chRead (cutA t 10)).1]), n, 8)
    else crdF f (m ++ [(chRead (cutA t 10)).1]) (cutB t 10) (n + 1)
theorem crdF_more : ∀ (f g : Nat) (m : List Chg) (t : ByteArray) (n : Nat), t.size ≤ f → t.size ≤ g → crdF f m t n = crdF g m t n
  | 0, 0, m, t, n, _, _ => rfl
  | 0, g + 1, m, t, n, h, _ => by
    have e : t.toList = [] := by rw [Lib.toList_data]; exact List.length_eq_zero_iff.1 (by rw [size_len]; omega)
    unfold crdF; rw [if_pos e]
  | f + 1, 0, m, t, n, _, h => by
    have e : t.toList = [] := by rw [Lib.toList_data]; exact List.length_eq_zero_iff.1 (by rw [size_len]; omega)
    unfold crdF; rw [if_pos e]
  | f + 1, g + 1, m, t, n, h, h' => by
    unfold crdF
    by_cases e : t.toList = []
    · rw [if_pos e, if_pos e]
    · rw [if_neg e, if_neg e]
      by_cases e2 : cutOk t 10 = false
      · rw [if_pos e2, if_pos e2]
      · rw [if_neg e2, if_neg e2]
        have := cutB_lt (t := t) (by simpa using e2)
        rw [crdF_more f g _ _ _ (by omega) (by omega)]
/-- what is read line by line: the machine, the number of the line, the error -/
noncomputable def crdAll (m : List Chg) (t : ByteArray) (n : Nat) : List Chg × Nat × Int := crdF t.size m t n
theorem crdAll_nil {m : List Chg} {t : ByteArray} {n : Nat} (h : t.toList = []) : crdAll m t n = (m, 0, 0) := by
  unfold crdAll
  have : t.size = 0 := by rw [← size_len, ← Lib.toList_data, h]; rfl
  rw [this]; rfl
theorem crdAll_cut {m : List Chg} {t : ByteArray} {n : Nat} (h : t.toList ≠ []) (h2 : cutOk t 10 = false) : crdAll m t n = (m, n, 8) := by
  have hp : 0 < t.size := by rw [← size_len]; rw [Lib.toList_data] at h; exact List.length_pos_iff.2 h
  unfold crdAll
  obtain ⟨k, hk⟩ : ∃ k, t.size = k + 1 := ⟨t.size - 1, by omega⟩
  rw [hk, crdF, if_neg h, if_pos h2]
theorem crdAll_bad {m : List Chg} {t : ByteArray} {n : Nat} (h : t.toList ≠ []) (h2 : cutOk t 10 = true) (h3 : (chRead (cutA t 10)).2 = false) : crdAll m t n = ((m ++ [(chRead (cutA t 10)).1]), n, 8) := by
  have hp : 0 < t.size := by rw [← size_len]; rw [Lib.toList_data] at h; exact List.length_pos_iff.2 h
  unfold crdAll
  obtain ⟨k, hk⟩ : ∃ k, t.size = k + 1 := ⟨t.size - 1, by omega⟩
  rw [hk, crdF, if_neg h, if_neg (by rw [h2]; decide), if_pos h3]
theorem crdAll_step {m : List Chg} {t : ByteArray} {n : Nat} (h : t.toList ≠ []) (h2 : cutOk t 10 = true) (h3 : (chRead (cutA t 10)).2 = true) : crdAll m t n = crdAll (m ++ [(chRead (cutA t 10)).1]) (cutB t 10) (n + 1) := by
  have hp : 0 < t.size := by rw [← size_len]; rw [Lib.toList_data] at h; exact List.length_pos_iff.2 h
  have := cutB_lt h2
  unfold crdAll
  obtain ⟨k, hk⟩ : ∃ k, t.size = k + 1 := ⟨t.size - 1, by omega⟩
  rw [hk, crdF, if_neg h, if_neg (by rw [h2]; decide), if_neg (by rw [h3]; decide), crdF_more k _ _ _ _ (by omega) (Nat.le_refl _)]
theorem crdF_len : ∀ (f : Nat) (m : List Chg) (t : ByteArray) (k : Nat), (crdF f m t k).1.length ≤ m.length + f
  | 0, _, _, _ => Nat.le_refl _
  | f + 1, m, t, k => by
    unfold crdF
    split
    · simp only; omega
    · split
      · simp only; omega
      · split
        · simp only [List.length_append, List.length_cons, List.length_nil]; omega
        · have := crdF_len f (m ++ [(chRead (cutA t 10)).1]) (cutB t 10) (k + 1)
          simp only [List.length_append, List.length_cons, List.length_nil] at this
          omega
theorem chRead_small (l : ByteArray) : CSm l.size (chRead l).1 := by
  have hb := cutB_le l 32
  have hk := Nat.le_trans (pairK_le (cutB l 32)) hb
  have hv := Nat.le_trans (pairV_le (cutB l 32)) hb
  obtain ⟨hn, hp⟩ := svcRead_le (fun x hx => Nat.le_trans (svcWords_le (cutB l 32) x hx) hb)
  have z : (⟨#[]⟩ : ByteArray).size ≤ l.size := Nat.zero_le _
  unfold chRead
  split
  · exact ⟨hk, hv, z, z, z, z⟩
  · split
    · exact ⟨hk, hv, z, z, z, z⟩
    · split
      · exact ⟨hb, z, z, z, z, z⟩
      · split
        · exact ⟨z, z, hk, hv, z, z⟩
        · split
          · exact ⟨z, z, hb, z, z, z⟩
          · split
            · exact ⟨z, z, z, z, hn, hp⟩
            · split
              · exact ⟨z, z, z, z, hb, z⟩
              · exact ⟨z, z, z, z, z, z⟩
theorem crdF_small {n : Nat} : ∀ (f : Nat) (m : List Chg) (t : ByteArray) (k : Nat), (∀ c ∈ m, CSm n c) → t.size ≤ n → ∀ c ∈ (crdF f m t k).1, CSm n c
  | 0, _, _, _, h, _ => h
  | f + 1, m, t, k, h, ht => by
    have hx : CSm n (chRead (cutA t 10)).1 := (chRead_small _).up (Nat.le_trans (cutA_le t 10) ht)
    unfold crdF
    split
    · exact h
    · split
      · exact h
      · split
        · exact small_snoc h hx
        · exact crdF_small f _ _ _ (small_snoc h hx) (Nat.le_trans (cutB_le t 10) ht)
end P
end Go.Proofs.YtomikcemiacjmaaGreatDoor

namespace Go.Proofs.YtomikcemiacjmaaGreatDoor
open Go.RowKit Go.Lib Go.Shelf

set_option maxRecDepth 100000 in
set_option maxHeartbeats 40000000 in
theorem readChange_any (line : ByteArray) (hs : line.size ≤ 10000000) (w : World) (hw : Good w) (he : Es w) :
    Calls Tryz.prog 163 #[.string line] w fun e w' => e = .returned (.tuple #[chAgg (P.chRead line).1, .bool (P.chRead line).2]) ∧ Below w.heap.size w w' := by
  have HC := Lib.hid (fun W hW => cut_any line 32 (by omega) W hW)
  have HP := Lib.hid (fun W hW hE => readPair_any (P.cutB line 32) (by have := cutB_le line 32; omega) W hW hE)
  have HV := Lib.hid (fun W hW => readService_any (P.cutB line 32) (by have := cutB_le line 32; omega) W hW)
  have HWd := Lib.hid (isWord_any (P.cutB line 32))
  have Hw := Lib.hid hw
  have HE := Lib.hid he
  have HR0 := Lib.hid (HasRow.new w #[.int .i64 0, .string ⟨#[]⟩, .string ⟨#[]⟩, .bool false, .string ⟨#[]⟩, .string ⟨#[]⟩, .string ⟨#[]⟩, .string ⟨#[]⟩, .bool false, .bool false] 73)
  have HB0 := Lib.hid (below_alloc w (.cells #[.int .i64 0, .string ⟨#[]⟩, .string ⟨#[]⟩, .bool false, .string ⟨#[]⟩, .string ⟨#[]⟩, .string ⟨#[]⟩, .string ⟨#[]⟩, .bool false, .bool false] 73))
  clear hw he
  unfold P.chRead
  by_cases hc0 : (P.cutA line 32).toList = P.wPut
  · rw [if_pos hc0]
    have hc := hc0
    clear hc0
    unfold P.wPut at hc
    generalize P.cutA line 32 = wd at *
    generalize P.cutB line 32 = r at *
    generalize P.pairK r = kk at *
    generalize P.pairV r = vv at *
    generalize P.pairOk r = p at *
    generalize P.isWord r = b at *
    go_enter Tryz.func163, Tryz.ntmps163
    go_wp2_with (first
      | (go_at_call 155; refine (HC.out _ (Hw.out.mono HB0.out)).mono ?_; rintro e w1 ⟨rfl, hb1⟩; have HB1 := Lib.hid (bstep HB0.out hb1))
      | (go_at_call 232; refine (HP.out _ (Hw.out.mono HB1.out) (HE.out.mono Hw.out HB1.out)).mono ?_; rintro e w2 ⟨rfl, hb2⟩; have HB2 := Lib.hid (bstep HB1.out hb2); have HRX := Lib.hid ((((HR0.out.below hb1).below hb2).alloc (.cells #[.string kk, .string vv] 62)).alloc (.cells #[.string kk, .string vv, .bool false] 42)); obtain ⟨c0, c1, c2, c3, c4, c5, c6, c7, c8, c9⟩ := hrow10 HRX.out; have f0 := HRX.out.free 0; have f1 := HRX.out.free 1; have f2 := HRX.out.free 2; have f3 := HRX.out.free 3; have f4 := HRX.out.free 4; have f5 := HRX.out.free 5; have f6 := HRX.out.free 6; have f7 := HRX.out.free 7; have f8 := HRX.out.free 8; have f9 := HRX.out.free 9; have HBX := Lib.hid (bstep (bstep HB2.out (below_alloc w2 (.cells #[.string kk, .string vv] 62))) (below_alloc _ (.cells #[.string kk, .string vv, .bool false] 42)))))
    have HST := Lib.hid (store10 HRX.out HBX.out (Nat.le_refl _) (.int .i64 1) (.string kk) (.string vv) (.bool false) (.string ⟨#[]⟩) (.string ⟨#[]⟩) (.string ⟨#[]⟩) (.string ⟨#[]⟩) (.bool false) (.bool false))
    clear c0 c1 c2 c3 c4 c5 c6 c7 c8 c9 f0 f1 f2 f3 f4 f5 f6 f7 f8 f9
    obtain ⟨d0, d1, d2, d3, d4, d5, d6, d7, d8, d9⟩ := hrow10 HST.out.1
    refine bodyPost_ret (v := .tuple #[.agg #[.int .i64 1, .string kk, .string vv, .bool false, .string ⟨#[]⟩, .string ⟨#[]⟩, .string ⟨#[]⟩, .string ⟨#[]⟩, .bool false, .bool false], .bool p]) ?_ rfl ⟨rfl, HST.out.2⟩
    simp [results, Tryz.results163, go_sem, d0, d1, d2, d3, d4, d5, d6, d7, d8, d9]
  rw [if_neg hc0]
  by_cases hc1 : (P.cutA line 32).toList = P.wPutrun
  · rw [if_pos hc1]
    have hc := hc1
    clear hc1
    unfold P.wPutrun at hc
    generalize P.cutA line 32 = wd at *
    generalize P.cutB line 32 = r at *
    generalize P.pairK r = kk at *
    generalize P.pairV r = vv at *
    generalize P.pairOk r = p at *
    generalize P.isWord r = b at *
    go_enter Tryz.func163, Tryz.ntmps163
    go_wp2_with (first
      | (go_at_call 155; refine (HC.out _ (Hw.out.mono HB0.out)).mono ?_; rintro e w1 ⟨rfl, hb1⟩; have HB1 := Lib.hid (bstep HB0.out hb1))
      | (go_at_call 232; refine (HP.out _ (Hw.out.mono HB1.out) (HE.out.mono Hw.out HB1.out)).mono ?_; rintro e w2 ⟨rfl, hb2⟩; have HB2 := Lib.hid (bstep HB1.out hb2); have HRX := Lib.hid ((((HR0.out.below hb1).below hb2).alloc (.cells #[.string kk, .string vv] 62)).alloc (.cells #[.string kk, .string vv, .bool true] 42)); obtain ⟨c0, c1, c2, c3, c4, c5, c6, c7, c8, c9⟩ := hrow10 HRX.out; have f0 := HRX.out.free 0; have f1 := HRX.out.free 1; have f2 := HRX.out.free 2; have f3 := HRX.out.free 3; have f4 := HRX.out.free 4; have f5 := HRX.out.free 5; have f6 := HRX.out.free 6; have f7 := HRX.out.free 7; have f8 := HRX.out.free 8; have f9 := HRX.out.free 9; have HBX := Lib.hid (bstep (bstep HB2.out (below_alloc w2 (.cells #[.string kk, .string vv] 62))) (below_alloc _ (.cells #[.string kk, .string vv, .bool true] 42)))))
    have HST := Lib.hid (store10 HRX.out HBX.out (Nat.le_refl _) (.int .i64 1) (.string kk) (.string vv) (.bool true) (.string ⟨#[]⟩) (.string ⟨#[]⟩) (.string ⟨#[]⟩) (.string ⟨#[]⟩) (.bool false) (.bool false))
    clear c0 c1 c2 c3 c4 c5 c6 c7 c8 c9 f0 f1 f2 f3 f4 f5 f6 f7 f8 f9
    obtain ⟨d0, d1, d2, d3, d4, d5, d6, d7, d8, d9⟩ := hrow10 HST.out.1
    refine bodyPost_ret (v := .tuple #[.agg #[.int .i64 1, .string kk, .string vv, .bool true, .string ⟨#[]⟩, .string ⟨#[]⟩, .string ⟨#[]⟩, .string ⟨#[]⟩, .bool false, .bool false], .bool p]) ?_ rfl ⟨rfl, HST.out.2⟩
    simp [results, Tryz.results163, go_sem, d0, d1, d2, d3, d4, d5, d6, d7, d8, d9]
  rw [if_neg hc1]
  by_cases hc2 : (P.cutA line 32).toList = P.wRemove
  · rw [if_pos hc2]
    have hc := hc2
    clear hc2
    unfold P.wRemove at hc
    generalize P.cutA line 32 = wd at *
    generalize P.cutB line 32 = r at *
    generalize P.pairK r = kk at *
    generalize P.pairV r = vv at *
    generalize P.pairOk r = p at *
    generalize P.isWord r = b at *
    go_enter Tryz.func163, Tryz.ntmps163
    go_wp2_with (first
      | (go_at_call 155; refine (HC.out _ (Hw.out.mono HB0.out)).mono ?_; rintro e w1 ⟨rfl, hb1⟩; have HB1 := Lib.hid (bstep HB0.out hb1))
      | (go_at_call 232; refine (HP.out _ (Hw.out.mono HB1.out) (HE.out.mono Hw.out HB1.out)).mono ?_; rintro e w2 ⟨rfl, hb2⟩; have HB2 := Lib.hid (bstep HB1.out hb2); have HRX := Lib.hid (((HR0.out.below hb1).below hb2).alloc (.cells #[.string kk, .string vv] 62)); obtain ⟨c0, c1, c2, c3, c4, c5, c6, c7, c8, c9⟩ := hrow10 HRX.out; have f0 := HRX.out.free 0; have f1 := HRX.out.free 1; have f2 := HRX.out.free 2; have f3 := HRX.out.free 3; have f4 := HRX.out.free 4; have f5 := HRX.out.free 5; have f6 := HRX.out.free 6; have f7 := HRX.out.free 7; have f8 := HRX.out.free 8; have f9 := HRX.out.free 9; have HBX := Lib.hid (bstep HB2.out (below_alloc w2 (.cells #[.string kk, .string vv] 62))))
      | (go_at_call 237; refine (HWd.out _).mono ?_; rintro e w3 ⟨rfl, rfl⟩))
    have HST := Lib.hid (store10 HRX.out HBX.out (Nat.le_refl _) (.int .i64 2) (.string r) (.string ⟨#[]⟩) (.bool false) (.string ⟨#[]⟩) (.string ⟨#[]⟩) (.string ⟨#[]⟩) (.string ⟨#[]⟩) (.bool false) (.bool false))
    clear c0 c1 c2 c3 c4 c5 c6 c7 c8 c9 f0 f1 f2 f3 f4 f5 f6 f7 f8 f9
    obtain ⟨d0, d1, d2, d3, d4, d5, d6, d7, d8, d9⟩ := hrow10 HST.out.1
    refine bodyPost_ret (v := .tuple #[.agg #[.int .i64 2, .string r, .string ⟨#[]⟩, .bool false, .string ⟨#[]⟩, .string ⟨#[]⟩, .string ⟨#[]⟩, .string ⟨#[]⟩, .bool false, .bool false], .bool b]) ?_ rfl ⟨rfl, HST.out.2⟩
    simp [results, Tryz.results163, go_sem, d0, d1, d2, d3, d4, d5, d6, d7, d8, d9]
  rw [if_neg hc2]
  by_cases hc3 : (P.cutA line 32).toList = P.wSet
  · rw [if_pos hc3]
    have hc := hc3
    clear hc3
    unfold P.wSet at hc
    generalize P.cutA line 32 = wd at *
    generalize P.cutB line 32 = r at *
    generalize P.pairK r = kk at *
    generalize P.pairV r = vv at *
    generalize P.pairOk r = p at *
    generalize P.isWord r = b at *
    go_enter Tryz.func163, Tryz.ntmps163
    go_wp2_with (first
      | (go_at_call 155; refine (HC.out _ (Hw.out.mono HB0.out)).mono ?_; rintro e w1 ⟨rfl, hb1⟩; have HB1 := Lib.hid (bstep HB0.out hb1))
      | (go_at_call 232; refine (HP.out _ (Hw.out.mono HB1.out) (HE.out.mono Hw.out HB1.out)).mono ?_; rintro e w2 ⟨rfl, hb2⟩; have HB2 := Lib.hid (bstep HB1.out hb2); have HRX := Lib.hid (((HR0.out.below hb1).below hb2).alloc (.cells #[.string kk, .string vv] 62)); obtain ⟨c0, c1, c2, c3, c4, c5, c6, c7, c8, c9⟩ := hrow10 HRX.out; have f0 := HRX.out.free 0; have f1 := HRX.out.free 1; have f2 := HRX.out.free 2; have f3 := HRX.out.free 3; have f4 := HRX.out.free 4; have f5 := HRX.out.free 5; have f6 := HRX.out.free 6; have f7 := HRX.out.free 7; have f8 := HRX.out.free 8; have f9 := HRX.out.free 9; have HBX := Lib.hid (bstep HB2.out (below_alloc w2 (.cells #[.string kk, .string vv] 62)))))
    have HST := Lib.hid (store10 HRX.out HBX.out (Nat.le_refl _) (.int .i64 3) (.string ⟨#[]⟩) (.string ⟨#[]⟩) (.bool false) (.string kk) (.string vv) (.string ⟨#[]⟩) (.string ⟨#[]⟩) (.bool false) (.bool false))
    clear c0 c1 c2 c3 c4 c5 c6 c7 c8 c9 f0 f1 f2 f3 f4 f5 f6 f7 f8 f9
    obtain ⟨d0, d1, d2, d3, d4, d5, d6, d7, d8, d9⟩ := hrow10 HST.out.1
    refine bodyPost_ret (v := .tuple #[.agg #[.int .i64 3, .string ⟨#[]⟩, .string ⟨#[]⟩, .bool false, .string kk, .string vv, .string ⟨#[]⟩, .string ⟨#[]⟩, .bool false, .bool false], .bool p]) ?_ rfl ⟨rfl, HST.out.2⟩
    simp [results, Tryz.results163, go_sem, d0, d1, d2, d3, d4, d5, d6, d7, d8, d9]
  rw [if_neg hc3]
  by_cases hc4 : (P.cutA line 32).toList = P.wUnset
  · rw [if_pos hc4]
    have hc := hc4
    clear hc4
    unfold P.wUnset at hc
    generalize P.cutA line 32 = wd at *
    generalize P.cutB line 32 = r at *
    generalize P.pairK r = kk at *
    generalize P.pairV r = vv at *
    generalize P.pairOk r = p at *
    generalize P.isWord r = b at *
    go_enter Tryz.func163, Tryz.ntmps163
    go_wp2_with (first
      | (go_at_call 155; refine (HC.out _ (Hw.out.mono HB0.out)).mono ?_; rintro e w1 ⟨rfl, hb1⟩; have HB1 := Lib.hid (bstep HB0.out hb1))
      | (go_at_call 232; refine (HP.out _ (Hw.out.mono HB1.out) (HE.out.mono Hw.out HB1.out)).mono ?_; rintro e w2 ⟨rfl, hb2⟩; have HB2 := Lib.hid (bstep HB1.out hb2); have HRX := Lib.hid (((HR0.out.below hb1).below hb2).alloc (.cells #[.string kk, .string vv] 62)); obtain ⟨c0, c1, c2, c3, c4, c5, c6, c7, c8, c9⟩ := hrow10 HRX.out; have f0 := HRX.out.free 0; have f1 := HRX.out.free 1; have f2 := HRX.out.free 2; have f3 := HRX.out.free 3; have f4 := HRX.out.free 4; have f5 := HRX.out.free 5; have f6 := HRX.out.free 6; have f7 := HRX.out.free 7; have f8 := HRX.out.free 8; have f9 := HRX.out.free 9; have HBX := Lib.hid (bstep HB2.out (below_alloc w2 (.cells #[.string kk, .string vv] 62))))
      | (go_at_call 237; refine (HWd.out _).mono ?_; rintro e w3 ⟨rfl, rfl⟩))
    have HST := Lib.hid (store10 HRX.out HBX.out (Nat.le_refl _) (.int .i64 4) (.string ⟨#[]⟩) (.string ⟨#[]⟩) (.bool false) (.string r) (.string ⟨#[]⟩) (.string ⟨#[]⟩) (.string ⟨#[]⟩) (.bool false) (.bool false))
    clear c0 c1 c2 c3 c4 c5 c6 c7 c8 c9 f0 f1 f2 f3 f4 f5 f6 f7 f8 f9
    obtain ⟨d0, d1, d2, d3, d4, d5, d6, d7, d8, d9⟩ := hrow10 HST.out.1
    refine bodyPost_ret (v := .tuple #[.agg #[.int .i64 4, .string ⟨#[]⟩, .string ⟨#[]⟩, .bool false, .string r, .string ⟨#[]⟩, .string ⟨#[]⟩, .string ⟨#[]⟩, .bool false, .bool false], .bool b]) ?_ rfl ⟨rfl, HST.out.2⟩
    simp [results, Tryz.results163, go_sem, d0, d1, d2, d3, d4, d5, d6, d7, d8, d9]
  rw [if_neg hc4]
  by_cases hc5 : (P.cutA line 32).toList = P.wSvc
  · rw [if_pos hc5]
    have hc := hc5
    clear hc5
    unfold P.wSvc at hc
    generalize P.svcRead (P.svcWords (P.cutB line 32)) = y at *
    obtain ⟨⟨sn, sp, sa, so⟩, q⟩ := y
    unfold svcAgg at HV
    simp only at HV
    generalize P.cutA line 32 = wd at *
    generalize P.cutB line 32 = r at *
    generalize P.pairK r = kk at *
    generalize P.pairV r = vv at *
    generalize P.pairOk r = p at *
    generalize P.isWord r = b at *
    go_enter Tryz.func163, Tryz.ntmps163
    go_wp2_with (first
      | (go_at_call 155; refine (HC.out _ (Hw.out.mono HB0.out)).mono ?_; rintro e w1 ⟨rfl, hb1⟩; have HB1 := Lib.hid (bstep HB0.out hb1))
      | (go_at_call 232; refine (HP.out _ (Hw.out.mono HB1.out) (HE.out.mono Hw.out HB1.out)).mono ?_; rintro e w2 ⟨rfl, hb2⟩; have HB2 := Lib.hid (bstep HB1.out hb2); have HB3 := Lib.hid (bstep HB2.out (below_alloc w2 (.cells #[.string kk, .string vv] 62))); have HR3 := Lib.hid (((HR0.out.below hb1).below hb2).alloc (.cells #[.string kk, .string vv] 62)))
      | (go_at_call 233; refine (HV.out _ (Hw.out.mono HB3.out)).mono ?_; rintro e w3 ⟨rfl, hb3⟩; have HRX := Lib.hid ((HR3.out.below hb3).alloc (.cells #[.string sn, .string sp, .bool sa, .bool so] 46)); obtain ⟨c0, c1, c2, c3, c4, c5, c6, c7, c8, c9⟩ := hrow10 HRX.out; have f0 := HRX.out.free 0; have f1 := HRX.out.free 1; have f2 := HRX.out.free 2; have f3 := HRX.out.free 3; have f4 := HRX.out.free 4; have f5 := HRX.out.free 5; have f6 := HRX.out.free 6; have f7 := HRX.out.free 7; have f8 := HRX.out.free 8; have f9 := HRX.out.free 9; have HBX := Lib.hid (bstep (bstep HB3.out hb3) (below_alloc w3 (.cells #[.string sn, .string sp, .bool sa, .bool so] 46)))))
    have HST := Lib.hid (store10 HRX.out HBX.out (Nat.le_refl _) (.int .i64 5) (.string ⟨#[]⟩) (.string ⟨#[]⟩) (.bool false) (.string ⟨#[]⟩) (.string ⟨#[]⟩) (.string sn) (.string sp) (.bool sa) (.bool so))
    clear c0 c1 c2 c3 c4 c5 c6 c7 c8 c9 f0 f1 f2 f3 f4 f5 f6 f7 f8 f9
    obtain ⟨d0, d1, d2, d3, d4, d5, d6, d7, d8, d9⟩ := hrow10 HST.out.1
    refine bodyPost_ret (v := .tuple #[.agg #[.int .i64 5, .string ⟨#[]⟩, .string ⟨#[]⟩, .bool false, .string ⟨#[]⟩, .string ⟨#[]⟩, .string sn, .string sp, .bool sa, .bool so], .bool q]) ?_ rfl ⟨rfl, HST.out.2⟩
    simp [results, Tryz.results163, go_sem, d0, d1, d2, d3, d4, d5, d6, d7, d8, d9]
  rw [if_neg hc5]
  by_cases hc6 : (P.cutA line 32).toList = P.wDrop
  · rw [if_pos hc6]
    have hc := hc6
    clear hc6
    unfold P.wDrop at hc
    generalize P.cutA line 32 = wd at *
    generalize P.cutB line 32 = r at *
    generalize P.pairK r = kk at *
    generalize P.pairV r = vv at *
    generalize P.pairOk r = p at *
    generalize P.isWord r = b at *
    go_enter Tryz.func163, Tryz.ntmps163
    go_wp2_with (first
      | (go_at_call 155; refine (HC.out _ (Hw.out.mono HB0.out)).mono ?_; rintro e w1 ⟨rfl, hb1⟩; have HB1 := Lib.hid (bstep HB0.out hb1))
      | (go_at_call 232; refine (HP.out _ (Hw.out.mono HB1.out) (HE.out.mono Hw.out HB1.out)).mono ?_; rintro e w2 ⟨rfl, hb2⟩; have HB2 := Lib.hid (bstep HB1.out hb2); have HRX := Lib.hid (((HR0.out.below hb1).below hb2).alloc (.cells #[.string kk, .string vv] 62)); obtain ⟨c0, c1, c2, c3, c4, c5, c6, c7, c8, c9⟩ := hrow10 HRX.out; have f0 := HRX.out.free 0; have f1 := HRX.out.free 1; have f2 := HRX.out.free 2; have f3 := HRX.out.free 3; have f4 := HRX.out.free 4; have f5 := HRX.out.free 5; have f6 := HRX.out.free 6; have f7 := HRX.out.free 7; have f8 := HRX.out.free 8; have f9 := HRX.out.free 9; have HBX := Lib.hid (bstep HB2.out (below_alloc w2 (.cells #[.string kk, .string vv] 62))))
      | (go_at_call 237; refine (HWd.out _).mono ?_; rintro e w3 ⟨rfl, rfl⟩))
    have HST := Lib.hid (store10 HRX.out HBX.out (Nat.le_refl _) (.int .i64 6) (.string ⟨#[]⟩) (.string ⟨#[]⟩) (.bool false) (.string ⟨#[]⟩) (.string ⟨#[]⟩) (.string r) (.string ⟨#[]⟩) (.bool false) (.bool false))
    clear c0 c1 c2 c3 c4 c5 c6 c7 c8 c9 f0 f1 f2 f3 f4 f5 f6 f7 f8 f9
    obtain ⟨d0, d1, d2, d3, d4, d5, d6, d7, d8, d9⟩ := hrow10 HST.out.1
    refine bodyPost_ret (v := .tuple #[.agg #[.int .i64 6, .string ⟨#[]⟩, .string ⟨#[]⟩, .bool false, .string ⟨#[]⟩, .string ⟨#[]⟩, .string r, .string ⟨#[]⟩, .bool false, .bool false], .bool b]) ?_ rfl ⟨rfl, HST.out.2⟩
    simp [results, Tryz.results163, go_sem, d0, d1, d2, d3, d4, d5, d6, d7, d8, d9]
  rw [if_neg hc6]
  unfold P.wPut P.wPutrun P.wRemove P.wSet P.wUnset P.wSvc P.wDrop at *
  generalize P.cutA line 32 = wd at *
  generalize P.cutB line 32 = r at *
  generalize P.pairK r = kk at *
  generalize P.pairV r = vv at *
  generalize P.pairOk r = p at *
  have g0 := bne_of hc0
  have g1 := bne_of hc1
  have g2 := bne_of hc2
  have g3 := bne_of hc3
  have g4 := bne_of hc4
  have g5 := bne_of hc5
  have g6 := bne_of hc6
  clear hc0 hc1 hc2 hc3 hc4 hc5 hc6 HV HWd
  go_enter Tryz.func163, Tryz.ntmps163
  go_wp2_with (first
    | (go_at_call 155; refine (HC.out _ (Hw.out.mono HB0.out)).mono ?_; rintro e w1 ⟨rfl, hb1⟩; have HB1 := Lib.hid (bstep HB0.out hb1))
    | (go_at_call 232; refine (HP.out _ (Hw.out.mono HB1.out) (HE.out.mono Hw.out HB1.out)).mono ?_; rintro e w2 ⟨rfl, hb2⟩; have HB2 := Lib.hid (bstep HB1.out hb2); have HRX := Lib.hid (((HR0.out.below hb1).below hb2).alloc (.cells #[.string kk, .string vv] 62)); obtain ⟨c0, c1, c2, c3, c4, c5, c6, c7, c8, c9⟩ := hrow10 HRX.out; have f0 := HRX.out.free 0; have f1 := HRX.out.free 1; have f2 := HRX.out.free 2; have f3 := HRX.out.free 3; have f4 := HRX.out.free 4; have f5 := HRX.out.free 5; have f6 := HRX.out.free 6; have f7 := HRX.out.free 7; have f8 := HRX.out.free 8; have f9 := HRX.out.free 9; have HBX := Lib.hid (bstep HB2.out (below_alloc w2 (.cells #[.string kk, .string vv] 62)))))
  have HST := Lib.hid (store10 HRX.out HBX.out (Nat.le_refl _) (.int .i64 0) (.string ⟨#[]⟩) (.string ⟨#[]⟩) (.bool false) (.string ⟨#[]⟩) (.string ⟨#[]⟩) (.string ⟨#[]⟩) (.string ⟨#[]⟩) (.bool false) (.bool false))
  clear c0 c1 c2 c3 c4 c5 c6 c7 c8 c9 f0 f1 f2 f3 f4 f5 f6 f7 f8 f9
  obtain ⟨d0, d1, d2, d3, d4, d5, d6, d7, d8, d9⟩ := hrow10 HST.out.1
  refine bodyPost_ret (v := .tuple #[.agg #[.int .i64 0, .string ⟨#[]⟩, .string ⟨#[]⟩, .bool false, .string ⟨#[]⟩, .string ⟨#[]⟩, .string ⟨#[]⟩, .string ⟨#[]⟩, .bool false, .bool false], .bool false]) ?_ rfl ⟨rfl, HST.out.2⟩
  simp [results, Tryz.results163, go_sem, d0, d1, d2, d3, d4, d5, d6, d7, d8, d9]
end Go.Proofs.YtomikcemiacjmaaGreatDoor

namespace Go.Proofs.YtomikcemiacjmaaGreatDoor
open Go.RowKit Go.Lib Go.Shelf

theorem contains_word (r : ByteArray) : ∃ b : Bool, P.isWord r = (!r.toList.isEmpty && !b) ∧ Hid (∀ W, Calls Tryz.prog 238 #[.string r, .string ⟨#[32]⟩] W fun e w' => e = .returned (.bool b) ∧ W = w') :=
  ⟨decide (0 ≤ Lib.indexByte r.data.toList 32), rfl, Lib.hid (fun W => (Tryz.strings_Contains_one r 32 W).mono fun e w' h => by
    obtain ⟨h1, h2⟩ := h
    exact ⟨h1, by first | exact h2 | exact h2.symm⟩)⟩
set_option maxRecDepth 100000 in
set_option maxHeartbeats 40000000 in
theorem changeOf_any (line : ByteArray) (hs : line.size ≤ 10000000) (w : World) (hw : Good w) :
    Calls Tryz.prog 164 #[.string line] w fun e w' => e = .returned (.tuple #[chAgg (P.chRef line).1, .bool (P.chRef line).2]) ∧ Below w.heap.size w w' := by
  have HC := Lib.hid (fun W hW => cut_any line 32 (by omega) W hW)
  have HP := Lib.hid (fun W hW => quoted_any (P.cutB line 32) (by have := cutB_le line 32; omega) W hW)
  have HSp := Lib.hid (split_row 32 (P.cutB line 32) (by have := cutB_le line 32; omega))
  have HSv := Lib.hid (serviceOf_any (P.parts 32 (P.cutB line 32)))
  obtain ⟨b, hb, HWd⟩ := contains_word (P.cutB line 32)
  have Hw := Lib.hid hw
  have HR0 := Lib.hid (HasRow.new w #[.int .i64 0, .string ⟨#[]⟩, .string ⟨#[]⟩, .bool false, .string ⟨#[]⟩, .string ⟨#[]⟩, .string ⟨#[]⟩, .string ⟨#[]⟩, .bool false, .bool false] 73)
  have HB0 := Lib.hid (below_alloc w (.cells #[.int .i64 0, .string ⟨#[]⟩, .string ⟨#[]⟩, .bool false, .string ⟨#[]⟩, .string ⟨#[]⟩, .string ⟨#[]⟩, .string ⟨#[]⟩, .bool false, .bool false] 73))
  clear hw
  unfold P.chRef
  by_cases hc0 : (P.cutA line 32).toList = P.wPut
  · rw [if_pos hc0]
    have hc := hc0
    clear hc0
    unfold P.wPut at hc
    generalize P.cutA line 32 = wd at *
    generalize P.cutB line 32 = r at *
    generalize P.pairK r = kk at *
    generalize P.pairV r = vv at *
    generalize P.rq r = p at *
    cases hz : r.toList.isEmpty with
    | true =>
      have hz2 := eq_of hz
      go_enter Tryz.func164, Tryz.ntmps164
      go_wp2_with (first
        | (go_at_call 155; refine (HC.out _ (Hw.out.mono HB0.out)).mono ?_; rintro e w1 ⟨rfl, hb1⟩; have HB1 := Lib.hid (bstep HB0.out hb1))
        | (go_at_call 157; refine (HP.out _ (Hw.out.mono HB1.out)).mono ?_; rintro e w2 ⟨rfl, hb2⟩; have HB2 := Lib.hid (bstep HB1.out hb2); have HRX := Lib.hid ((HR0.out.below hb1).below hb2); obtain ⟨c0, c1, c2, c3, c4, c5, c6, c7, c8, c9⟩ := hrow10 HRX.out; have f0 := HRX.out.free 0; have f1 := HRX.out.free 1; have f2 := HRX.out.free 2; have f3 := HRX.out.free 3; have f4 := HRX.out.free 4; have f5 := HRX.out.free 5; have f6 := HRX.out.free 6; have f7 := HRX.out.free 7; have f8 := HRX.out.free 8; have f9 := HRX.out.free 9)
        | (go_at_call 238; refine (HWd.out _).mono ?_; rintro e w3 ⟨rfl, rfl⟩))
      have HST := Lib.hid (store10 HRX.out HB2.out (Nat.le_refl _) (.int .i64 1) (.string kk) (.string vv) (.bool false) (.string ⟨#[]⟩) (.string ⟨#[]⟩) (.string ⟨#[]⟩) (.string ⟨#[]⟩) (.bool false) (.bool false))
      clear c0 c1 c2 c3 c4 c5 c6 c7 c8 c9 f0 f1 f2 f3 f4 f5 f6 f7 f8 f9
      obtain ⟨d0, d1, d2, d3, d4, d5, d6, d7, d8, d9⟩ := hrow10 HST.out.1
      refine bodyPost_ret (v := .tuple #[.agg #[.int .i64 1, .string kk, .string vv, .bool false, .string ⟨#[]⟩, .string ⟨#[]⟩, .string ⟨#[]⟩, .string ⟨#[]⟩, .bool false, .bool false], .bool p]) ?_ rfl ⟨rfl, HST.out.2⟩
      simp [results, Tryz.results164, go_sem, d0, d1, d2, d3, d4, d5, d6, d7, d8, d9]
    | false =>
      have hz2 := ne_of hz
      go_enter Tryz.func164, Tryz.ntmps164
      go_wp2_with (first
        | (go_at_call 155; refine (HC.out _ (Hw.out.mono HB0.out)).mono ?_; rintro e w1 ⟨rfl, hb1⟩; have HB1 := Lib.hid (bstep HB0.out hb1))
        | (go_at_call 157; refine (HP.out _ (Hw.out.mono HB1.out)).mono ?_; rintro e w2 ⟨rfl, hb2⟩; have HB2 := Lib.hid (bstep HB1.out hb2); have HRX := Lib.hid ((HR0.out.below hb1).below hb2); obtain ⟨c0, c1, c2, c3, c4, c5, c6, c7, c8, c9⟩ := hrow10 HRX.out; have f0 := HRX.out.free 0; have f1 := HRX.out.free 1; have f2 := HRX.out.free 2; have f3 := HRX.out.free 3; have f4 := HRX.out.free 4; have f5 := HRX.out.free 5; have f6 := HRX.out.free 6; have f7 := HRX.out.free 7; have f8 := HRX.out.free 8; have f9 := HRX.out.free 9)
        | (go_at_call 238; refine (HWd.out _).mono ?_; rintro e w3 ⟨rfl, rfl⟩))
      have HST := Lib.hid (store10 HRX.out HB2.out (Nat.le_refl _) (.int .i64 1) (.string kk) (.string vv) (.bool false) (.string ⟨#[]⟩) (.string ⟨#[]⟩) (.string ⟨#[]⟩) (.string ⟨#[]⟩) (.bool false) (.bool false))
      clear c0 c1 c2 c3 c4 c5 c6 c7 c8 c9 f0 f1 f2 f3 f4 f5 f6 f7 f8 f9
      obtain ⟨d0, d1, d2, d3, d4, d5, d6, d7, d8, d9⟩ := hrow10 HST.out.1
      refine bodyPost_ret (v := .tuple #[.agg #[.int .i64 1, .string kk, .string vv, .bool false, .string ⟨#[]⟩, .string ⟨#[]⟩, .string ⟨#[]⟩, .string ⟨#[]⟩, .bool false, .bool false], .bool p]) ?_ rfl ⟨rfl, HST.out.2⟩
      simp [results, Tryz.results164, go_sem, d0, d1, d2, d3, d4, d5, d6, d7, d8, d9]
  rw [if_neg hc0]
  by_cases hc1 : (P.cutA line 32).toList = P.wPutrun
  · rw [if_pos hc1]
    have hc := hc1
    clear hc1
    unfold P.wPutrun at hc
    generalize P.cutA line 32 = wd at *
    generalize P.cutB line 32 = r at *
    generalize P.pairK r = kk at *
    generalize P.pairV r = vv at *
    generalize P.rq r = p at *
    cases hz : r.toList.isEmpty with
    | true =>
      have hz2 := eq_of hz
      go_enter Tryz.func164, Tryz.ntmps164
      go_wp2_with (first
        | (go_at_call 155; refine (HC.out _ (Hw.out.mono HB0.out)).mono ?_; rintro e w1 ⟨rfl, hb1⟩; have HB1 := Lib.hid (bstep HB0.out hb1))
        | (go_at_call 157; refine (HP.out _ (Hw.out.mono HB1.out)).mono ?_; rintro e w2 ⟨rfl, hb2⟩; have HB2 := Lib.hid (bstep HB1.out hb2); have HRX := Lib.hid ((HR0.out.below hb1).below hb2); obtain ⟨c0, c1, c2, c3, c4, c5, c6, c7, c8, c9⟩ := hrow10 HRX.out; have f0 := HRX.out.free 0; have f1 := HRX.out.free 1; have f2 := HRX.out.free 2; have f3 := HRX.out.free 3; have f4 := HRX.out.free 4; have f5 := HRX.out.free 5; have f6 := HRX.out.free 6; have f7 := HRX.out.free 7; have f8 := HRX.out.free 8; have f9 := HRX.out.free 9)
        | (go_at_call 238; refine (HWd.out _).mono ?_; rintro e w3 ⟨rfl, rfl⟩))
      have HST := Lib.hid (store10 HRX.out HB2.out (Nat.le_refl _) (.int .i64 1) (.string kk) (.string vv) (.bool true) (.string ⟨#[]⟩) (.string ⟨#[]⟩) (.string ⟨#[]⟩) (.string ⟨#[]⟩) (.bool false) (.bool false))
      clear c0 c1 c2 c3 c4 c5 c6 c7 c8 c9 f0 f1 f2 f3 f4 f5 f6 f7 f8 f9
      obtain ⟨d0, d1, d2, d3, d4, d5, d6, d7, d8, d9⟩ := hrow10 HST.out.1
      refine bodyPost_ret (v := .tuple #[.agg #[.int .i64 1, .string kk, .string vv, .bool true, .string ⟨#[]⟩, .string ⟨#[]⟩, .string ⟨#[]⟩, .string ⟨#[]⟩, .bool false, .bool false], .bool p]) ?_ rfl ⟨rfl, HST.out.2⟩
      simp [results, Tryz.results164, go_sem, d0, d1, d2, d3, d4, d5, d6, d7, d8, d9]
    | false =>
      have hz2 := ne_of hz
      go_enter Tryz.func164, Tryz.ntmps164
      go_wp2_with (first
        | (go_at_call 155; refine (HC.out _ (Hw.out.mono HB0.out)).mono ?_; rintro e w1 ⟨rfl, hb1⟩; have HB1 := Lib.hid (bstep HB0.out hb1))
        | (go_at_call 157; refine (HP.out _ (Hw.out.mono HB1.out)).mono ?_; rintro e w2 ⟨rfl, hb2⟩; have HB2 := Lib.hid (bstep HB1.out hb2); have HRX := Lib.hid ((HR0.out.below hb1).below hb2); obtain ⟨c0, c1, c2, c3, c4, c5, c6, c7, c8, c9⟩ := hrow10 HRX.out; have f0 := HRX.out.free 0; have f1 := HRX.out.free 1; have f2 := HRX.out.free 2; have f3 := HRX.out.free 3; have f4 := HRX.out.free 4; have f5 := HRX.out.free 5; have f6 := HRX.out.free 6; have f7 := HRX.out.free 7; have f8 := HRX.out.free 8; have f9 := HRX.out.free 9)
        | (go_at_call 238; refine (HWd.out _).mono ?_; rintro e w3 ⟨rfl, rfl⟩))
      have HST := Lib.hid (store10 HRX.out HB2.out (Nat.le_refl _) (.int .i64 1) (.string kk) (.string vv) (.bool true) (.string ⟨#[]⟩) (.string ⟨#[]⟩) (.string ⟨#[]⟩) (.string ⟨#[]⟩) (.bool false) (.bool false))
      clear c0 c1 c2 c3 c4 c5 c6 c7 c8 c9 f0 f1 f2 f3 f4 f5 f6 f7 f8 f9
      obtain ⟨d0, d1, d2, d3, d4, d5, d6, d7, d8, d9⟩ := hrow10 HST.out.1
      refine bodyPost_ret (v := .tuple #[.agg #[.int .i64 1, .string kk, .string vv, .bool true, .string ⟨#[]⟩, .string ⟨#[]⟩, .string ⟨#[]⟩, .string ⟨#[]⟩, .bool false, .bool false], .bool p]) ?_ rfl ⟨rfl, HST.out.2⟩
      simp [results, Tryz.results164, go_sem, d0, d1, d2, d3, d4, d5, d6, d7, d8, d9]
  rw [if_neg hc1]
  by_cases hc2 : (P.cutA line 32).toList = P.wRemove
  · rw [if_pos hc2]
    have hc := hc2
    clear hc2
    unfold P.wRemove at hc
    generalize P.cutA line 32 = wd at *
    generalize P.cutB line 32 = r at *
    generalize P.pairK r = kk at *
    generalize P.pairV r = vv at *
    generalize P.rq r = p at *
    rw [hb]
    clear hb
    cases hz : r.toList.isEmpty with
    | true =>
      have hz2 := eq_of hz
      go_enter Tryz.func164, Tryz.ntmps164
      go_wp2_with (first
        | (go_at_call 155; refine (HC.out _ (Hw.out.mono HB0.out)).mono ?_; rintro e w1 ⟨rfl, hb1⟩; have HB1 := Lib.hid (bstep HB0.out hb1))
        | (go_at_call 157; refine (HP.out _ (Hw.out.mono HB1.out)).mono ?_; rintro e w2 ⟨rfl, hb2⟩; have HB2 := Lib.hid (bstep HB1.out hb2); have HRX := Lib.hid ((HR0.out.below hb1).below hb2); obtain ⟨c0, c1, c2, c3, c4, c5, c6, c7, c8, c9⟩ := hrow10 HRX.out; have f0 := HRX.out.free 0; have f1 := HRX.out.free 1; have f2 := HRX.out.free 2; have f3 := HRX.out.free 3; have f4 := HRX.out.free 4; have f5 := HRX.out.free 5; have f6 := HRX.out.free 6; have f7 := HRX.out.free 7; have f8 := HRX.out.free 8; have f9 := HRX.out.free 9)
        | (go_at_call 238; refine (HWd.out _).mono ?_; rintro e w3 ⟨rfl, rfl⟩))
      have HST := Lib.hid (store10 HRX.out HB2.out (Nat.le_refl _) (.int .i64 2) (.string r) (.string ⟨#[]⟩) (.bool false) (.string ⟨#[]⟩) (.string ⟨#[]⟩) (.string ⟨#[]⟩) (.string ⟨#[]⟩) (.bool false) (.bool false))
      clear c0 c1 c2 c3 c4 c5 c6 c7 c8 c9 f0 f1 f2 f3 f4 f5 f6 f7 f8 f9
      obtain ⟨d0, d1, d2, d3, d4, d5, d6, d7, d8, d9⟩ := hrow10 HST.out.1
      refine bodyPost_ret (v := .tuple #[.agg #[.int .i64 2, .string r, .string ⟨#[]⟩, .bool false, .string ⟨#[]⟩, .string ⟨#[]⟩, .string ⟨#[]⟩, .string ⟨#[]⟩, .bool false, .bool false], .bool false]) ?_ rfl ⟨rfl, HST.out.2⟩
      simp [results, Tryz.results164, go_sem, d0, d1, d2, d3, d4, d5, d6, d7, d8, d9]
    | false =>
      have hz2 := ne_of hz
      go_enter Tryz.func164, Tryz.ntmps164
      go_wp2_with (first
        | (go_at_call 155; refine (HC.out _ (Hw.out.mono HB0.out)).mono ?_; rintro e w1 ⟨rfl, hb1⟩; have HB1 := Lib.hid (bstep HB0.out hb1))
        | (go_at_call 157; refine (HP.out _ (Hw.out.mono HB1.out)).mono ?_; rintro e w2 ⟨rfl, hb2⟩; have HB2 := Lib.hid (bstep HB1.out hb2); have HRX := Lib.hid ((HR0.out.below hb1).below hb2); obtain ⟨c0, c1, c2, c3, c4, c5, c6, c7, c8, c9⟩ := hrow10 HRX.out; have f0 := HRX.out.free 0; have f1 := HRX.out.free 1; have f2 := HRX.out.free 2; have f3 := HRX.out.free 3; have f4 := HRX.out.free 4; have f5 := HRX.out.free 5; have f6 := HRX.out.free 6; have f7 := HRX.out.free 7; have f8 := HRX.out.free 8; have f9 := HRX.out.free 9)
        | (go_at_call 238; refine (HWd.out _).mono ?_; rintro e w3 ⟨rfl, rfl⟩))
      have HST := Lib.hid (store10 HRX.out HB2.out (Nat.le_refl _) (.int .i64 2) (.string r) (.string ⟨#[]⟩) (.bool false) (.string ⟨#[]⟩) (.string ⟨#[]⟩) (.string ⟨#[]⟩) (.string ⟨#[]⟩) (.bool false) (.bool false))
      clear c0 c1 c2 c3 c4 c5 c6 c7 c8 c9 f0 f1 f2 f3 f4 f5 f6 f7 f8 f9
      obtain ⟨d0, d1, d2, d3, d4, d5, d6, d7, d8, d9⟩ := hrow10 HST.out.1
      refine bodyPost_ret (v := .tuple #[.agg #[.int .i64 2, .string r, .string ⟨#[]⟩, .bool false, .string ⟨#[]⟩, .string ⟨#[]⟩, .string ⟨#[]⟩, .string ⟨#[]⟩, .bool false, .bool false], .bool (!b)]) ?_ rfl ⟨rfl, HST.out.2⟩
      simp [results, Tryz.results164, go_sem, d0, d1, d2, d3, d4, d5, d6, d7, d8, d9]
  rw [if_neg hc2]
  by_cases hc3 : (P.cutA line 32).toList = P.wSet
  · rw [if_pos hc3]
    have hc := hc3
    clear hc3
    unfold P.wSet at hc
    generalize P.cutA line 32 = wd at *
    generalize P.cutB line 32 = r at *
    generalize P.pairK r = kk at *
    generalize P.pairV r = vv at *
    generalize P.rq r = p at *
    cases hz : r.toList.isEmpty with
    | true =>
      have hz2 := eq_of hz
      go_enter Tryz.func164, Tryz.ntmps164
      go_wp2_with (first
        | (go_at_call 155; refine (HC.out _ (Hw.out.mono HB0.out)).mono ?_; rintro e w1 ⟨rfl, hb1⟩; have HB1 := Lib.hid (bstep HB0.out hb1))
        | (go_at_call 157; refine (HP.out _ (Hw.out.mono HB1.out)).mono ?_; rintro e w2 ⟨rfl, hb2⟩; have HB2 := Lib.hid (bstep HB1.out hb2); have HRX := Lib.hid ((HR0.out.below hb1).below hb2); obtain ⟨c0, c1, c2, c3, c4, c5, c6, c7, c8, c9⟩ := hrow10 HRX.out; have f0 := HRX.out.free 0; have f1 := HRX.out.free 1; have f2 := HRX.out.free 2; have f3 := HRX.out.free 3; have f4 := HRX.out.free 4; have f5 := HRX.out.free 5; have f6 := HRX.out.free 6; have f7 := HRX.out.free 7; have f8 := HRX.out.free 8; have f9 := HRX.out.free 9)
        | (go_at_call 238; refine (HWd.out _).mono ?_; rintro e w3 ⟨rfl, rfl⟩))
      have HST := Lib.hid (store10 HRX.out HB2.out (Nat.le_refl _) (.int .i64 3) (.string ⟨#[]⟩) (.string ⟨#[]⟩) (.bool false) (.string kk) (.string vv) (.string ⟨#[]⟩) (.string ⟨#[]⟩) (.bool false) (.bool false))
      clear c0 c1 c2 c3 c4 c5 c6 c7 c8 c9 f0 f1 f2 f3 f4 f5 f6 f7 f8 f9
      obtain ⟨d0, d1, d2, d3, d4, d5, d6, d7, d8, d9⟩ := hrow10 HST.out.1
      refine bodyPost_ret (v := .tuple #[.agg #[.int .i64 3, .string ⟨#[]⟩, .string ⟨#[]⟩, .bool false, .string kk, .string vv, .string ⟨#[]⟩, .string ⟨#[]⟩, .bool false, .bool false], .bool p]) ?_ rfl ⟨rfl, HST.out.2⟩
      simp [results, Tryz.results164, go_sem, d0, d1, d2, d3, d4, d5, d6, d7, d8, d9]
    | false =>
      have hz2 := ne_of hz
      go_enter Tryz.func164, Tryz.ntmps164
      go_wp2_with (first
        | (go_at_call 155; refine (HC.out _ (Hw.out.mono HB0.out)).mono ?_; rintro e w1 ⟨rfl, hb1⟩; have HB1 := Lib.hid (bstep HB0.out hb1))
        | (go_at_call 157; refine (HP.out _ (Hw.out.mono HB1.out)).mono ?_; rintro e w2 ⟨rfl, hb2⟩; have HB2 := Lib.hid (bstep HB1.out hb2); have HRX := Lib.hid ((HR0.out.below hb1).below hb2); obtain ⟨c0, c1, c2, c3, c4, c5, c6, c7, c8, c9⟩ := hrow10 HRX.out; have f0 := HRX.out.free 0; have f1 := HRX.out.free 1; have f2 := HRX.out.free 2; have f3 := HRX.out.free 3; have f4 := HRX.out.free 4; have f5 := HRX.out.free 5; have f6 := HRX.out.free 6; have f7 := HRX.out.free 7; have f8 := HRX.out.free 8; have f9 := HRX.out.free 9)
        | (go_at_call 238; refine (HWd.out _).mono ?_; rintro e w3 ⟨rfl, rfl⟩))
      have HST := Lib.hid (store10 HRX.out HB2.out (Nat.le_refl _) (.int .i64 3) (.string ⟨#[]⟩) (.string ⟨#[]⟩) (.bool false) (.string kk) (.string vv) (.string ⟨#[]⟩) (.string ⟨#[]⟩) (.bool false) (.bool false))
      clear c0 c1 c2 c3 c4 c5 c6 c7 c8 c9 f0 f1 f2 f3 f4 f5 f6 f7 f8 f9
      obtain ⟨d0, d1, d2, d3, d4, d5, d6, d7, d8, d9⟩ := hrow10 HST.out.1
      refine bodyPost_ret (v := .tuple #[.agg #[.int .i64 3, .string ⟨#[]⟩, .string ⟨#[]⟩, .bool false, .string kk, .string vv, .string ⟨#[]⟩, .string ⟨#[]⟩, .bool false, .bool false], .bool p]) ?_ rfl ⟨rfl, HST.out.2⟩
      simp [results, Tryz.results164, go_sem, d0, d1, d2, d3, d4, d5, d6, d7, d8, d9]
  rw [if_neg hc3]
  by_cases hc4 : (P.cutA line 32).toList = P.wUnset
  · rw [if_pos hc4]
    have hc := hc4
    clear hc4
    unfold P.wUnset at hc
    generalize P.cutA line 32 = wd at *
    generalize P.cutB line 32 = r at *
    generalize P.pairK r = kk at *
    generalize P.pairV r = vv at *
    generalize P.rq r = p at *
    rw [hb]
    clear hb
    cases hz : r.toList.isEmpty with
    | true =>
      have hz2 := eq_of hz
      go_enter Tryz.func164, Tryz.ntmps164
      go_wp2_with (first
        | (go_at_call 155; refine (HC.out _ (Hw.out.mono HB0.out)).mono ?_; rintro e w1 ⟨rfl, hb1⟩; have HB1 := Lib.hid (bstep HB0.out hb1))
        | (go_at_call 157; refine (HP.out _ (Hw.out.mono HB1.out)).mono ?_; rintro e w2 ⟨rfl, hb2⟩; have HB2 := Lib.hid (bstep HB1.out hb2); have HRX := Lib.hid ((HR0.out.below hb1).below hb2); obtain ⟨c0, c1, c2, c3, c4, c5, c6, c7, c8, c9⟩ := hrow10 HRX.out; have f0 := HRX.out.free 0; have f1 := HRX.out.free 1; have f2 := HRX.out.free 2; have f3 := HRX.out.free 3; have f4 := HRX.out.free 4; have f5 := HRX.out.free 5; have f6 := HRX.out.free 6; have f7 := HRX.out.free 7; have f8 := HRX.out.free 8; have f9 := HRX.out.free 9)
        | (go_at_call 238; refine (HWd.out _).mono ?_; rintro e w3 ⟨rfl, rfl⟩))
      have HST := Lib.hid (store10 HRX.out HB2.out (Nat.le_refl _) (.int .i64 4) (.string ⟨#[]⟩) (.string ⟨#[]⟩) (.bool false) (.string r) (.string ⟨#[]⟩) (.string ⟨#[]⟩) (.string ⟨#[]⟩) (.bool false) (.bool false))
      clear c0 c1 c2 c3 c4 c5 c6 c7 c8 c9 f0 f1 f2 f3 f4 f5 f6 f7 f8 f9
      obtain ⟨d0, d1, d2, d3, d4, d5, d6, d7, d8, d9⟩ := hrow10 HST.out.1
      refine bodyPost_ret (v := .tuple #[.agg #[.int .i64 4, .string ⟨#[]⟩, .string ⟨#[]⟩, .bool false, .string r, .string ⟨#[]⟩, .string ⟨#[]⟩, .string ⟨#[]⟩, .bool false, .bool false], .bool false]) ?_ rfl ⟨rfl, HST.out.2⟩
      simp [results, Tryz.results164, go_sem, d0, d1, d2, d3, d4, d5, d6, d7, d8, d9]
    | false =>
      have hz2 := ne_of hz
      go_enter Tryz.func164, Tryz.ntmps164
      go_wp2_with (first
        | (go_at_call 155; refine (HC.out _ (Hw.out.mono HB0.out)).mono ?_; rintro e w1 ⟨rfl, hb1⟩; have HB1 := Lib.hid (bstep HB0.out hb1))
        | (go_at_call 157; refine (HP.out _ (Hw.out.mono HB1.out)).mono ?_; rintro e w2 ⟨rfl, hb2⟩; have HB2 := Lib.hid (bstep HB1.out hb2); have HRX := Lib.hid ((HR0.out.below hb1).below hb2); obtain ⟨c0, c1, c2, c3, c4, c5, c6, c7, c8, c9⟩ := hrow10 HRX.out; have f0 := HRX.out.free 0; have f1 := HRX.out.free 1; have f2 := HRX.out.free 2; have f3 := HRX.out.free 3; have f4 := HRX.out.free 4; have f5 := HRX.out.free 5; have f6 := HRX.out.free 6; have f7 := HRX.out.free 7; have f8 := HRX.out.free 8; have f9 := HRX.out.free 9)
        | (go_at_call 238; refine (HWd.out _).mono ?_; rintro e w3 ⟨rfl, rfl⟩))
      have HST := Lib.hid (store10 HRX.out HB2.out (Nat.le_refl _) (.int .i64 4) (.string ⟨#[]⟩) (.string ⟨#[]⟩) (.bool false) (.string r) (.string ⟨#[]⟩) (.string ⟨#[]⟩) (.string ⟨#[]⟩) (.bool false) (.bool false))
      clear c0 c1 c2 c3 c4 c5 c6 c7 c8 c9 f0 f1 f2 f3 f4 f5 f6 f7 f8 f9
      obtain ⟨d0, d1, d2, d3, d4, d5, d6, d7, d8, d9⟩ := hrow10 HST.out.1
      refine bodyPost_ret (v := .tuple #[.agg #[.int .i64 4, .string ⟨#[]⟩, .string ⟨#[]⟩, .bool false, .string r, .string ⟨#[]⟩, .string ⟨#[]⟩, .string ⟨#[]⟩, .bool false, .bool false], .bool (!b)]) ?_ rfl ⟨rfl, HST.out.2⟩
      simp [results, Tryz.results164, go_sem, d0, d1, d2, d3, d4, d5, d6, d7, d8, d9]
  rw [if_neg hc4]
  by_cases hc5 : (P.cutA line 32).toList = P.wSvc
  · rw [if_pos hc5]
    have hc := hc5
    clear hc5
    unfold P.wSvc at hc
    generalize P.parts 32 (P.cutB line 32) = pl at *
    generalize P.rsvc pl = y at *
    obtain ⟨⟨sn, sp, sa, so⟩, q⟩ := y
    unfold svcAgg at HSv
    simp only at HSv
    generalize P.cutA line 32 = wd at *
    generalize P.cutB line 32 = r at *
    generalize P.pairK r = kk at *
    generalize P.pairV r = vv at *
    generalize P.rq r = p at *
    cases hz : r.toList.isEmpty with
    | true =>
      have hz2 := eq_of hz
      go_enter Tryz.func164, Tryz.ntmps164
      go_wp2_with (first
        | (go_at_call 155; refine (HC.out _ (Hw.out.mono HB0.out)).mono ?_; rintro e w1 ⟨rfl, hb1⟩; have HB1 := Lib.hid (bstep HB0.out hb1))
        | (go_at_call 157; refine (HP.out _ (Hw.out.mono HB1.out)).mono ?_; rintro e w2 ⟨rfl, hb2⟩; have HB2 := Lib.hid (bstep HB1.out hb2); have HR2 := Lib.hid ((HR0.out.below hb1).below hb2))
        | (go_at_call 238; refine (HWd.out _).mono ?_; rintro e w3 ⟨rfl, rfl⟩)
        | (go_at_call 129; refine (HSp.out w2.heap.size _ rfl (Hw.out.mono HB2.out)).mono ?_; rintro e w5 ⟨rfl, hrow5, hb5⟩; have HB5 := Lib.hid (bstep HB2.out hb5); have HW5 := Lib.hid hrow5)
        | (go_at_call 158; refine (HSv.out _ _ w5 HW5.out).mono ?_; rintro e w6 ⟨rfl, hb6⟩; have HRX := Lib.hid (((HR2.out.below hb5).below hb6).alloc (.cells #[.string sn, .string sp, .bool sa, .bool so] 46)); obtain ⟨c0, c1, c2, c3, c4, c5, c6, c7, c8, c9⟩ := hrow10 HRX.out; have f0 := HRX.out.free 0; have f1 := HRX.out.free 1; have f2 := HRX.out.free 2; have f3 := HRX.out.free 3; have f4 := HRX.out.free 4; have f5 := HRX.out.free 5; have f6 := HRX.out.free 6; have f7 := HRX.out.free 7; have f8 := HRX.out.free 8; have f9 := HRX.out.free 9; have HB6 := Lib.hid (bstep (bstep HB5.out hb6) (below_alloc w6 (.cells #[.string sn, .string sp, .bool sa, .bool so] 46)))))
      have HST := Lib.hid (store10 HRX.out HB6.out (Nat.le_refl _) (.int .i64 5) (.string ⟨#[]⟩) (.string ⟨#[]⟩) (.bool false) (.string ⟨#[]⟩) (.string ⟨#[]⟩) (.string sn) (.string sp) (.bool sa) (.bool so))
      clear c0 c1 c2 c3 c4 c5 c6 c7 c8 c9 f0 f1 f2 f3 f4 f5 f6 f7 f8 f9
      obtain ⟨d0, d1, d2, d3, d4, d5, d6, d7, d8, d9⟩ := hrow10 HST.out.1
      refine bodyPost_ret (v := .tuple #[.agg #[.int .i64 5, .string ⟨#[]⟩, .string ⟨#[]⟩, .bool false, .string ⟨#[]⟩, .string ⟨#[]⟩, .string sn, .string sp, .bool sa, .bool so], .bool q]) ?_ rfl ⟨rfl, HST.out.2⟩
      simp [results, Tryz.results164, go_sem, d0, d1, d2, d3, d4, d5, d6, d7, d8, d9]
    | false =>
      have hz2 := ne_of hz
      go_enter Tryz.func164, Tryz.ntmps164
      go_wp2_with (first
        | (go_at_call 155; refine (HC.out _ (Hw.out.mono HB0.out)).mono ?_; rintro e w1 ⟨rfl, hb1⟩; have HB1 := Lib.hid (bstep HB0.out hb1))
        | (go_at_call 157; refine (HP.out _ (Hw.out.mono HB1.out)).mono ?_; rintro e w2 ⟨rfl, hb2⟩; have HB2 := Lib.hid (bstep HB1.out hb2); have HR2 := Lib.hid ((HR0.out.below hb1).below hb2))
        | (go_at_call 238; refine (HWd.out _).mono ?_; rintro e w3 ⟨rfl, rfl⟩)
        | (go_at_call 129; refine (HSp.out w2.heap.size _ rfl (Hw.out.mono HB2.out)).mono ?_; rintro e w5 ⟨rfl, hrow5, hb5⟩; have HB5 := Lib.hid (bstep HB2.out hb5); have HW5 := Lib.hid hrow5)
        | (go_at_call 158; refine (HSv.out _ _ w5 HW5.out).mono ?_; rintro e w6 ⟨rfl, hb6⟩; have HRX := Lib.hid (((HR2.out.below hb5).below hb6).alloc (.cells #[.string sn, .string sp, .bool sa, .bool so] 46)); obtain ⟨c0, c1, c2, c3, c4, c5, c6, c7, c8, c9⟩ := hrow10 HRX.out; have f0 := HRX.out.free 0; have f1 := HRX.out.free 1; have f2 := HRX.out.free 2; have f3 := HRX.out.free 3; have f4 := HRX.out.free 4; have f5 := HRX.out.free 5; have f6 := HRX.out.free 6; have f7 := HRX.out.free 7; have f8 := HRX.out.free 8; have f9 := HRX.out.free 9; have HB6 := Lib.hid (bstep (bstep HB5.out hb6) (below_alloc w6 (.cells #[.string sn, .string sp, .bool sa, .bool so] 46)))))
      have HST := Lib.hid (store10 HRX.out HB6.out (Nat.le_refl _) (.int .i64 5) (.string ⟨#[]⟩) (.string ⟨#[]⟩) (.bool false) (.string ⟨#[]⟩) (.string ⟨#[]⟩) (.string sn) (.string sp) (.bool sa) (.bool so))
      clear c0 c1 c2 c3 c4 c5 c6 c7 c8 c9 f0 f1 f2 f3 f4 f5 f6 f7 f8 f9
      obtain ⟨d0, d1, d2, d3, d4, d5, d6, d7, d8, d9⟩ := hrow10 HST.out.1
      refine bodyPost_ret (v := .tuple #[.agg #[.int .i64 5, .string ⟨#[]⟩, .string ⟨#[]⟩, .bool false, .string ⟨#[]⟩, .string ⟨#[]⟩, .string sn, .string sp, .bool sa, .bool so], .bool q]) ?_ rfl ⟨rfl, HST.out.2⟩
      simp [results, Tryz.results164, go_sem, d0, d1, d2, d3, d4, d5, d6, d7, d8, d9]
  rw [if_neg hc5]
  by_cases hc6 : (P.cutA line 32).toList = P.wDrop
  · rw [if_pos hc6]
    have hc := hc6
    clear hc6
    unfold P.wDrop at hc
    generalize P.cutA line 32 = wd at *
    generalize P.cutB line 32 = r at *
    generalize P.pairK r = kk at *
    generalize P.pairV r = vv at *
    generalize P.rq r = p at *
    rw [hb]
    clear hb
    cases hz : r.toList.isEmpty with
    | true =>
      have hz2 := eq_of hz
      go_enter Tryz.func164, Tryz.ntmps164
      go_wp2_with (first
        | (go_at_call 155; refine (HC.out _ (Hw.out.mono HB0.out)).mono ?_; rintro e w1 ⟨rfl, hb1⟩; have HB1 := Lib.hid (bstep HB0.out hb1))
        | (go_at_call 157; refine (HP.out _ (Hw.out.mono HB1.out)).mono ?_; rintro e w2 ⟨rfl, hb2⟩; have HB2 := Lib.hid (bstep HB1.out hb2); have HRX := Lib.hid ((HR0.out.below hb1).below hb2); obtain ⟨c0, c1, c2, c3, c4, c5, c6, c7, c8, c9⟩ := hrow10 HRX.out; have f0 := HRX.out.free 0; have f1 := HRX.out.free 1; have f2 := HRX.out.free 2; have f3 := HRX.out.free 3; have f4 := HRX.out.free 4; have f5 := HRX.out.free 5; have f6 := HRX.out.free 6; have f7 := HRX.out.free 7; have f8 := HRX.out.free 8; have f9 := HRX.out.free 9)
        | (go_at_call 238; refine (HWd.out _).mono ?_; rintro e w3 ⟨rfl, rfl⟩))
      have HST := Lib.hid (store10 HRX.out HB2.out (Nat.le_refl _) (.int .i64 6) (.string ⟨#[]⟩) (.string ⟨#[]⟩) (.bool false) (.string ⟨#[]⟩) (.string ⟨#[]⟩) (.string r) (.string ⟨#[]⟩) (.bool false) (.bool false))
      clear c0 c1 c2 c3 c4 c5 c6 c7 c8 c9 f0 f1 f2 f3 f4 f5 f6 f7 f8 f9
      obtain ⟨d0, d1, d2, d3, d4, d5, d6, d7, d8, d9⟩ := hrow10 HST.out.1
      refine bodyPost_ret (v := .tuple #[.agg #[.int .i64 6, .string ⟨#[]⟩, .string ⟨#[]⟩, .bool false, .string ⟨#[]⟩, .string ⟨#[]⟩, .string r, .string ⟨#[]⟩, .bool false, .bool false], .bool false]) ?_ rfl ⟨rfl, HST.out.2⟩
      simp [results, Tryz.results164, go_sem, d0, d1, d2, d3, d4, d5, d6, d7, d8, d9]
    | false =>
      have hz2 := ne_of hz
      go_enter Tryz.func164, Tryz.ntmps164
      go_wp2_with (first
        | (go_at_call 155; refine (HC.out _ (Hw.out.mono HB0.out)).mono ?_; rintro e w1 ⟨rfl, hb1⟩; have HB1 := Lib.hid (bstep HB0.out hb1))
        | (go_at_call 157; refine (HP.out _ (Hw.out.mono HB1.out)).mono ?_; rintro e w2 ⟨rfl, hb2⟩; have HB2 := Lib.hid (bstep HB1.out hb2); have HRX := Lib.hid ((HR0.out.below hb1).below hb2); obtain ⟨c0, c1, c2, c3, c4, c5, c6, c7, c8, c9⟩ := hrow10 HRX.out; have f0 := HRX.out.free 0; have f1 := HRX.out.free 1; have f2 := HRX.out.free 2; have f3 := HRX.out.free 3; have f4 := HRX.out.free 4; have f5 := HRX.out.free 5; have f6 := HRX.out.free 6; have f7 := HRX.out.free 7; have f8 := HRX.out.free 8; have f9 := HRX.out.free 9)
        | (go_at_call 238; refine (HWd.out _).mono ?_; rintro e w3 ⟨rfl, rfl⟩))
      have HST := Lib.hid (store10 HRX.out HB2.out (Nat.le_refl _) (.int .i64 6) (.string ⟨#[]⟩) (.string ⟨#[]⟩) (.bool false) (.string ⟨#[]⟩) (.string ⟨#[]⟩) (.string r) (.string ⟨#[]⟩) (.bool false) (.bool false))
      clear c0 c1 c2 c3 c4 c5 c6 c7 c8 c9 f0 f1 f2 f3 f4 f5 f6 f7 f8 f9
      obtain ⟨d0, d1, d2, d3, d4, d5, d6, d7, d8, d9⟩ := hrow10 HST.out.1
      refine bodyPost_ret (v := .tuple #[.agg #[.int .i64 6, .string ⟨#[]⟩, .string ⟨#[]⟩, .bool false, .string ⟨#[]⟩, .string ⟨#[]⟩, .string r, .string ⟨#[]⟩, .bool false, .bool false], .bool (!b)]) ?_ rfl ⟨rfl, HST.out.2⟩
      simp [results, Tryz.results164, go_sem, d0, d1, d2, d3, d4, d5, d6, d7, d8, d9]
  rw [if_neg hc6]
  unfold P.wPut P.wPutrun P.wRemove P.wSet P.wUnset P.wSvc P.wDrop at *
  generalize P.cutA line 32 = wd at *
  generalize P.cutB line 32 = r at *
  generalize P.pairK r = kk at *
  generalize P.pairV r = vv at *
  generalize P.rq r = p at *
  have g0 := bne_of hc0
  have g1 := bne_of hc1
  have g2 := bne_of hc2
  have g3 := bne_of hc3
  have g4 := bne_of hc4
  have g5 := bne_of hc5
  have g6 := bne_of hc6
  clear hc0 hc1 hc2 hc3 hc4 hc5 hc6 HSv HSp
  cases hz : r.toList.isEmpty with
  | true =>
    have hz2 := eq_of hz
    go_enter Tryz.func164, Tryz.ntmps164
    go_wp2_with (first
      | (go_at_call 155; refine (HC.out _ (Hw.out.mono HB0.out)).mono ?_; rintro e w1 ⟨rfl, hb1⟩; have HB1 := Lib.hid (bstep HB0.out hb1))
      | (go_at_call 157; refine (HP.out _ (Hw.out.mono HB1.out)).mono ?_; rintro e w2 ⟨rfl, hb2⟩; have HB2 := Lib.hid (bstep HB1.out hb2); have HRX := Lib.hid ((HR0.out.below hb1).below hb2); obtain ⟨c0, c1, c2, c3, c4, c5, c6, c7, c8, c9⟩ := hrow10 HRX.out; have f0 := HRX.out.free 0; have f1 := HRX.out.free 1; have f2 := HRX.out.free 2; have f3 := HRX.out.free 3; have f4 := HRX.out.free 4; have f5 := HRX.out.free 5; have f6 := HRX.out.free 6; have f7 := HRX.out.free 7; have f8 := HRX.out.free 8; have f9 := HRX.out.free 9)
      | (go_at_call 238; refine (HWd.out _).mono ?_; rintro e w3 ⟨rfl, rfl⟩))
    have HST := Lib.hid (store10 HRX.out HB2.out (Nat.le_refl _) (.int .i64 0) (.string ⟨#[]⟩) (.string ⟨#[]⟩) (.bool false) (.string ⟨#[]⟩) (.string ⟨#[]⟩) (.string ⟨#[]⟩) (.string ⟨#[]⟩) (.bool false) (.bool false))
    clear c0 c1 c2 c3 c4 c5 c6 c7 c8 c9 f0 f1 f2 f3 f4 f5 f6 f7 f8 f9
    obtain ⟨d0, d1, d2, d3, d4, d5, d6, d7, d8, d9⟩ := hrow10 HST.out.1
    refine bodyPost_ret (v := .tuple #[.agg #[.int .i64 0, .string ⟨#[]⟩, .string ⟨#[]⟩, .bool false, .string ⟨#[]⟩, .string ⟨#[]⟩, .string ⟨#[]⟩, .string ⟨#[]⟩, .bool false, .bool false], .bool false]) ?_ rfl ⟨rfl, HST.out.2⟩
    simp [results, Tryz.results164, go_sem, d0, d1, d2, d3, d4, d5, d6, d7, d8, d9]
  | false =>
    have hz2 := ne_of hz
    go_enter Tryz.func164, Tryz.ntmps164
    go_wp2_with (first
      | (go_at_call 155; refine (HC.out _ (Hw.out.mono HB0.out)).mono ?_; rintro e w1 ⟨rfl, hb1⟩; have HB1 := Lib.hid (bstep HB0.out hb1))
      | (go_at_call 157; refine (HP.out _ (Hw.out.mono HB1.out)).mono ?_; rintro e w2 ⟨rfl, hb2⟩; have HB2 := Lib.hid (bstep HB1.out hb2); have HRX := Lib.hid ((HR0.out.below hb1).below hb2); obtain ⟨c0, c1, c2, c3, c4, c5, c6, c7, c8, c9⟩ := hrow10 HRX.out; have f0 := HRX.out.free 0; have f1 := HRX.out.free 1; have f2 := HRX.out.free 2; have f3 := HRX.out.free 3; have f4 := HRX.out.free 4; have f5 := HRX.out.free 5; have f6 := HRX.out.free 6; have f7 := HRX.out.free 7; have f8 := HRX.out.free 8; have f9 := HRX.out.free 9)
      | (go_at_call 238; refine (HWd.out _).mono ?_; rintro e w3 ⟨rfl, rfl⟩))
    have HST := Lib.hid (store10 HRX.out HB2.out (Nat.le_refl _) (.int .i64 0) (.string ⟨#[]⟩) (.string ⟨#[]⟩) (.bool false) (.string ⟨#[]⟩) (.string ⟨#[]⟩) (.string ⟨#[]⟩) (.string ⟨#[]⟩) (.bool false) (.bool false))
    clear c0 c1 c2 c3 c4 c5 c6 c7 c8 c9 f0 f1 f2 f3 f4 f5 f6 f7 f8 f9
    obtain ⟨d0, d1, d2, d3, d4, d5, d6, d7, d8, d9⟩ := hrow10 HST.out.1
    refine bodyPost_ret (v := .tuple #[.agg #[.int .i64 0, .string ⟨#[]⟩, .string ⟨#[]⟩, .bool false, .string ⟨#[]⟩, .string ⟨#[]⟩, .string ⟨#[]⟩, .string ⟨#[]⟩, .bool false, .bool false], .bool false]) ?_ rfl ⟨rfl, HST.out.2⟩
    simp [results, Tryz.results164, go_sem, d0, d1, d2, d3, d4, d5, d6, d7, d8, d9]
end Go.Proofs.YtomikcemiacjmaaGreatDoor
