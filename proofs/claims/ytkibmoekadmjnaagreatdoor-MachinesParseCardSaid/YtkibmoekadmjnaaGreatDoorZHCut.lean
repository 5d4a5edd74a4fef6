/- Walks: outref1's cutLines, quoted, serviceOf; slices.Index of strings. -/
import Derived.Test.YtkibmoekadmjnaaGreatDoorZHParts

namespace Go.Proofs.YtkibmoekadmjnaaGreatDoor
open Go.RowKit Go.Lib Go.Shelf

theorem split_row (c : UInt8) (s : ByteArray) (hs : s.size ≤ 1000000000) (nb : Nat) (w : World) (hn : nb = w.heap.size) (hw : Good w) :
    Calls Tryz.prog 123 #[.string s, .string ⟨#[c]⟩] w fun e w' =>
      e = .returned (.slice (some ⟨nb, 0, none⟩) (P.parts c s).length (P.parts c s).length) ∧ HasRow w' nb ((P.parts c s).map Value.string).toArray ∧ Below w.heap.size w w' := by
  subst hn
  refine (split_any s c (by omega) w hw).mono fun e w' h => ⟨h.1, ?_, ?_⟩
  · rw [h.2]; exact HasRow.new _ _ _
  · rw [h.2]; exact below_alloc _ _
theorem row_cell {W : World} {b : Nat} {L : List ByteArray} (h : HasRow W b (L.map Value.string).toArray) (k : Nat) (hk : k < L.length) : W.cell? ⟨b, k, none⟩ = some (.string L[k]) := by
  rw [h.cell k]; simp [hk]
theorem lns_len (t : ByteArray) : (P.lns t).length = if ((P.parts 10 t).getLast (P.parts_ne 10 t)).toList = [] then (P.parts 10 t).length - 1 else (P.parts 10 t).length := by
  unfold P.lns; split <;> simp

set_option maxRecDepth 100000 in
theorem cutLines_any (t : ByteArray) (hs : t.size ≤ 1000000000) (nb : Nat) (w : World) (hn : nb = w.heap.size) (hw : Good w) :
    Calls Tryz.prog 148 #[.string t] w fun e w' => (∃ cap, e = .returned (.tuple #[.slice (some ⟨nb, 0, none⟩) (P.lns t).length cap, .int .i64 (P.torn t)])) ∧ HasRow w' nb ((P.parts 10 t).map Value.string).toArray ∧ Below w.heap.size w w' := by
  have HS := Lib.hid (split_row 10 t hs nb w hn hw)
  have hlen := P.parts_len 10 t
  have hcnt : Lib.countB t ⟨#[10]⟩ ≤ t.size := Lib.countB_le _ (Nat.le_refl _) _ t (Nat.le_refl _)
  have hln := lns_len t
  have htn : P.torn t = if ((P.parts 10 t).getLast (P.parts_ne 10 t)).toList = [] then -1 else (Lib.countB t ⟨#[10]⟩ : Int) := rfl
  obtain ⟨x, hx⟩ : ∃ x, (P.parts 10 t).getLast (P.parts_ne 10 t) = x := ⟨_, rfl⟩
  have hx2 : (P.parts 10 t)[Lib.countB t ⟨#[10]⟩]'(by omega) = x := by
    rw [← hx, List.getLast_eq_getElem]
    congr 1; omega
  rw [hx] at hln htn
  have hcell : Hid (∀ W, HasRow W nb ((P.parts 10 t).map Value.string).toArray → W.cell? ⟨nb, Lib.countB t ⟨#[10]⟩, none⟩ = some (.string x)) := Lib.hid fun W h => by rw [← hx2]; exact row_cell h _ (by omega)
  clear hx hx2 hw
  generalize P.lns t = M at *
  generalize P.torn t = tn at *
  generalize P.parts 10 t = L at *
  generalize Lib.countB t ⟨#[10]⟩ = n at *
  have hw1 : IntKind.i64.wrap ((L.length : Int) - 1) = (n : Int) := by rw [IntKind.wrap_i64]; omega
  have hb1 : n < L.length := by omega
  have hb2 : (n : Int) < (L.length : Int) := by omega
  have hb3 : (0 : Int) ≤ (n : Int) := by omega
  cases hz : x.toList.isEmpty with
  | true =>
    have hz' := eq_of hz
    rw [if_pos hz'] at hln htn
    have hM : M.length = n := by omega
    subst htn
    rw [hM]
    clear hln hn hlen
    go_enter Tryz.func148, Tryz.ntmps148
    go_wp2_with (go_at_call 123; refine HS.out.mono ?_; rintro e w' ⟨rfl, hrow, hb⟩; have k0 := hcell.out _ hrow)
    go_ret2
    exact ⟨⟨_, rfl⟩, hrow, hb⟩
  | false =>
    have hz' := ne_of hz
    rw [if_neg hz'] at hln htn
    subst htn
    rw [hln]
    clear hln hn hlen
    go_enter Tryz.func148, Tryz.ntmps148
    go_wp2_with (go_at_call 123; refine HS.out.mono ?_; rintro e w' ⟨rfl, hrow, hb⟩; have k0 := hcell.out _ hrow)
    go_ret2
    exact ⟨⟨_, rfl⟩, hrow, hb⟩

namespace P
/-- the first place of a string -/
def idxF (v : B) : List B → Nat → Int
  | [], _ => -1
  | x :: l, k => if v = x then (k : Int) else idxF v l (k + 1)
theorem idxF_end (v : B) (L : List B) (k : Nat) (h : L.length ≤ k) : idxF v (L.drop k) k = -1 := by rw [List.drop_eq_nil_of_le h]; rfl
theorem idxF_hit {v : B} {L : List B} {k : Nat} (h : k < L.length) (e : v = L[k]) : idxF v (L.drop k) k = k := by
  rw [List.drop_eq_getElem_cons h]; exact if_pos e
theorem idxF_step {v : B} {L : List B} {k : Nat} (h : k < L.length) (e : ¬ v = L[k]) : idxF v (L.drop k) k = idxF v (L.drop (k + 1)) (k + 1) := by
  rw [List.drop_eq_getElem_cons h]; exact if_neg e
end P
theorem indexS_any (L : List ByteArray) (hL : L.length ≤ 1000) (v : ByteArray) (b cap : Nat) (w : World) (h : HasRow w b (L.map Value.string).toArray) :
    Calls Tryz.prog 150 #[.slice (some ⟨b, 0, none⟩) L.length cap, .string v] w fun e w' => e = .returned (.int .i64 (P.idxF v.toList (L.map ByteArray.toList) 0)) ∧ w = w' := by
  have HR := Lib.hid h
  clear h
  obtain ⟨R, hR⟩ : ∃ R, P.idxF v.toList (L.map ByteArray.toList) 0 = R := ⟨_, rfl⟩
  rw [hR]
  replace hR : Hid (P.idxF v.toList ((L.map ByteArray.toList).drop 0) 0 = R) := Lib.hid hR
  go_enter Tryz.func150, Tryz.ntmps150
  go_wp2
  go_loop [8] (fun i => ∃ k : Nat, k ≤ L.length ∧ i = .int .i64 k ∧ Hid (P.idxF v.toList ((L.map ByteArray.toList).drop k) k = R)) (fun i => L.length - (RowKit.intOf i).toNat)
  case atStart => exact ⟨0, Nat.zero_le _, rfl, hR⟩
  case round =>
    obtain ⟨k, hk, rfl, A⟩ := hrel
    by_cases hlt : k < L.length
    · have hcell := row_cell HR.out k hlt
      by_cases hz : v.toList = (L[k]).toList
      · have hr := Lib.hid (P.idxF_hit (v := v.toList) (L := L.map ByteArray.toList) (k := k) (by simpa using hlt) (by simpa using hz))
        generalize L[k] = x at *
        go_wp2
        go_ret
        exact ⟨by rw [← A.out, hr.out]; rfl, rfl⟩
      · have hz2 : (v.toList == (L[k]).toList) = false := by simpa using hz
        have hr := Lib.hid (P.idxF_step (v := v.toList) (L := L.map ByteArray.toList) (k := k) (by simpa using hlt) (by simpa using hz))
        generalize L[k] = x at *
        go_wp2
        go_round
        case rel => exact ⟨k + 1, by omega, by go_num, Lib.hid (hr.out.symm.trans A.out)⟩
        case measure => simp [RowKit.intOf]; omega
    · have hr := Lib.hid (P.idxF_end v.toList (L.map ByteArray.toList) k (by simpa using (show L.length ≤ k by omega)))
      go_wp2
      go_ret
      exact ⟨by rw [← A.out, hr.out]; rfl, rfl⟩

namespace P
abbrev tFact : ByteArray := ⟨#[102, 97, 99, 116]⟩
abbrev tFile : ByteArray := ⟨#[102, 105, 108, 101]⟩
abbrev tSet : ByteArray := ⟨#[115, 101, 116]⟩
abbrev tSvc : ByteArray := ⟨#[115, 101, 114, 118, 105, 99, 101]⟩
abbrev tRun : ByteArray := ⟨#[114, 117, 110]⟩
/-- the word's number, 4 for "run" -/
def idx5 (w : B) : Int := idxF w [wFact, wFile, wSet, wSvc, wRun] 0
theorem idx5_rat (w : B) : rat w = if idx5 w = 4 then 1 else idx5 w := by
  unfold rat idx5 idxF idxF idxF idxF idxF idxF
  by_cases c1 : w = wFact
  · rw [if_pos c1, if_pos c1]; rfl
  · rw [if_neg c1, if_neg c1]
    by_cases c2 : w = wFile
    · rw [if_pos c2, if_pos c2]; rfl
    · rw [if_neg c2, if_neg c2]
      by_cases c3 : w = wSet
      · rw [if_pos c3, if_pos c3]; rfl
      · rw [if_neg c3, if_neg c3]
        by_cases c4 : w = wSvc
        · rw [if_pos c4, if_pos c4]; rfl
        · rw [if_neg c4, if_neg c4]
          by_cases c5 : w = wRun
          · rw [if_pos c5, if_pos c5]; rfl
          · rw [if_neg c5, if_neg c5]; rfl
theorem idx5_run {w : B} : idx5 w = 4 ↔ w = wRun := by
  constructor
  · intro h
    unfold idx5 idxF idxF idxF idxF idxF idxF at h
    split at h
    · cases h
    · split at h
      · cases h
      · split at h
        · cases h
        · split at h
          · cases h
          · split at h
            · assumption
            · cases h
  · intro h; subst h; decide +kernel
end P
theorem index5_any (v : ByteArray) (nb : Nat) (W : World) (hn : nb = W.heap.size) :
    Calls Tryz.prog 150 #[.slice (some ⟨nb, 0, none⟩) 5 5, .string v] (W.alloc (.cells #[.string P.tFact, .string P.tFile, .string P.tSet, .string P.tSvc, .string P.tRun] 9)) fun e w' =>
      e = .returned (.int .i64 (P.idx5 v.toList)) ∧ W.alloc (.cells #[.string P.tFact, .string P.tFile, .string P.tSet, .string P.tSvc, .string P.tRun] 9) = w' := by
  subst hn
  have h := indexS_any [P.tFact, P.tFile, P.tSet, P.tSvc, P.tRun] (by simp) v W.heap.size 5 _ (HasRow.new W #[.string P.tFact, .string P.tFile, .string P.tSet, .string P.tSvc, .string P.tRun] 9)
  have e : ([P.tFact, P.tFile, P.tSet, P.tSvc, P.tRun] : List ByteArray).map ByteArray.toList = [P.wFact, P.wFile, P.wSet, P.wSvc, P.wRun] := by
    simp only [List.map_cons, List.map_nil, Lib.toList_data]; rfl
  rw [e] at h
  exact h

theorem quoted_any (s : ByteArray) (hs : s.size ≤ 1000000000) (w : World) (hw : Good w) :
    Calls Tryz.prog 151 #[.string s] w fun e w' => e = .returned (.tuple #[.string (P.pairK s), .string (P.pairV s), .bool (P.rq s)]) ∧ Below w.heap.size w w' := by
  have HC := Lib.hid (fun W hW => cut_any s 32 hs W hW)
  have HU := Lib.hid (fun W hW => runquote_any (P.cutB s 32) (Nat.le_trans (cutB_le s 32) hs) W hW)
  have Hw := Lib.hid hw
  clear hw
  unfold P.pairK P.pairV P.rq
  unfold unquoteOut at HU
  generalize P.cutA s 32 = k at *
  generalize P.cutB s 32 = q at *
  generalize P.cutOk s 32 = c at *
  generalize P.unquote q = u at *
  obtain ⟨v, n⟩ := u
  simp only at HU ⊢
  cases c with
  | false =>
    go_enter Tryz.func151, Tryz.ntmps151
    go_wp2_with (first
      | (go_at_call 149; refine (HC.out _ Hw.out).mono ?_; rintro e w1 ⟨rfl, hb1⟩; have HB1 := Lib.hid hb1)
      | (go_at_call 58; refine (HU.out _ (Hw.out.mono HB1.out)).mono ?_; rintro e w2 ⟨rfl, hb2⟩))
    go_ret3
    exact ⟨rfl, bstep HB1.out hb2⟩
  | true =>
    cases hz : k.toList.isEmpty with
    | true =>
      have hz' := eq_of hz
      clear hz
      go_enter Tryz.func151, Tryz.ntmps151
      go_wp2_with (first
        | (go_at_call 149; refine (HC.out _ Hw.out).mono ?_; rintro e w1 ⟨rfl, hb1⟩; have HB1 := Lib.hid hb1)
        | (go_at_call 58; refine (HU.out _ (Hw.out.mono HB1.out)).mono ?_; rintro e w2 ⟨rfl, hb2⟩))
      go_ret3
      exact ⟨by simp, bstep HB1.out hb2⟩
    | false =>
      have hz' := ne_of hz
      clear hz
      go_enter Tryz.func151, Tryz.ntmps151
      go_wp2_with (first
        | (go_at_call 149; refine (HC.out _ Hw.out).mono ?_; rintro e w1 ⟨rfl, hb1⟩; have HB1 := Lib.hid hb1)
        | (go_at_call 58; refine (HU.out _ (Hw.out.mono HB1.out)).mono ?_; rintro e w2 ⟨rfl, hb2⟩))
      go_ret3
      exact ⟨by simp [hz'], bstep HB1.out hb2⟩
end Go.Proofs.YtkibmoekadmjnaaGreatDoor
