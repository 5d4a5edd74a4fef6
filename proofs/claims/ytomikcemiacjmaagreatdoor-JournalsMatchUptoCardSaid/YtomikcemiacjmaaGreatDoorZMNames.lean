/- Walks: bytes and the closures over them; package ver's all; names, parts, values, numbers, words of package ver. -/
/- Walks: names, parts, values, numbers, words of package ver. -/
/- The world that every contract of this seat asks for: the library's variables as the rows list them. The library's contracts in the forms that the walks take. -/
/- Walks: paths and early tails of package ver: the loops over the pieces of a text. -/
/- Rows of memory that a call keeps; steps of worlds. -/
import Derived.Test.YtomikcemiacjmaaGreatDoorZPure
import Derived.Test.YtomikcemiacjmaaGreatDoorRows
import Derived.WalkKit
import Derived.WalkSpells
import Derived.WalkLawsBesides
import Derived.BigQuiet
import Derived.Outline
import Derived.Lib.Hide
import Derived.Deep.LoopGhost
import Derived.Shelf.Abstract
import Derived.Test.YtomikcemiacjmaaGreatDoorZMShelf
import Derived.Lib.AppendIntMem

namespace Go.Proofs.YtomikcemiacjmaaGreatDoor
open Go.RowKit Go.Lib Go.Shelf

theorem aside {p : Prop} (h : p) : Aside p := h
theorem dF {a b : Int} (h : b < a) : decide (a ≤ b) = false := decide_eq_false (by omega)

theorem isSmall_any (c : UInt8) (w : World) :
    Calls Tryz.prog 178 #[.int .u8 (c.toNat : Int)] w fun e w' => e = .returned (.bool (P.sml c)) ∧ w = w' := by
  by_cases h : (97 : Int) ≤ c.toNat
  · go_enter Tryz.func178, Tryz.ntmps178
    go_wp2
    go_ret
    exact ⟨by rw [P.sml, decide_eq_true h]; rfl, rfl⟩
  · go_enter Tryz.func178, Tryz.ntmps178
    go_wp2
    go_ret
    exact ⟨by rw [P.sml, dF (by omega)]; rfl, rfl⟩

theorem isDigit_any (c : UInt8) (w : World) :
    Calls Tryz.prog 181 #[.int .u8 (c.toNat : Int)] w fun e w' => e = .returned (.bool (P.dig c)) ∧ w = w' := by
  by_cases h : (48 : Int) ≤ c.toNat
  · go_enter Tryz.func181, Tryz.ntmps181
    go_wp2
    go_ret
    exact ⟨by rw [P.dig, decide_eq_true h]; rfl, rfl⟩
  · go_enter Tryz.func181, Tryz.ntmps181
    go_wp2
    go_ret
    exact ⟨by rw [P.dig, dF (by omega)]; rfl, rfl⟩

theorem nameC_any (c : UInt8) (w : World) :
    Calls Tryz.prog 180 #[.int .u8 (c.toNat : Int)] w fun e w' => e = .returned (.bool (P.nameC c)) ∧ w = w' := by
  have hs := isSmall_any c
  have hd := isDigit_any c
  unfold P.nameC
  cases h1 : P.sml c <;> cases h2 : P.dig c <;> rw [h1] at hs <;> rw [h2] at hd <;> cases h3 : ((c.toNat : Int) == 45) <;> clear h1 h2
  all_goals
    have Hs := Lib.hid hs
    have Hd := Lib.hid hd
    clear hs hd
    go_enter Tryz.func180, Tryz.ntmps180
    go_wp2_with (first | (go_at_call 178; refine (Hs.out _).mono ?_; rintro e w' ⟨rfl, rfl⟩) | (go_at_call 181; refine (Hd.out _).mono ?_; rintro e w' ⟨rfl, rfl⟩))
    go_ret
    exact ⟨rfl, rfl⟩

theorem valC_any (c : UInt8) (w : World) :
    Calls Tryz.prog 301 #[.int .u8 (c.toNat : Int)] w fun e w' => e = .returned (.bool (P.valC c)) ∧ w = w' := by
  by_cases h : (32 : Int) ≤ c.toNat
  · go_enter Tryz.func301, Tryz.ntmps301
    go_wp2
    go_ret
    exact ⟨by rw [P.valC, decide_eq_true h]; rfl, rfl⟩
  · go_enter Tryz.func301, Tryz.ntmps301
    go_wp2
    go_ret
    exact ⟨by rw [P.valC, dF (by omega)]; rfl, rfl⟩

theorem partC_any (c : UInt8) (w : World) :
    Calls Tryz.prog 258 #[.int .u8 (c.toNat : Int)] w fun e w' => e = .returned (.bool (P.partC c)) ∧ w = w' := by
  have hs := isSmall_any c
  have hd := isDigit_any c
  unfold P.partC P.grt
  cases h1 : P.sml c <;> cases h2 : P.dig c <;> rw [h1] at hs <;> rw [h2] at hd <;> clear h1 h2
  all_goals
    have Hs := Lib.hid hs
    have Hd := Lib.hid hd
    clear hs hd
    by_cases h5 : (65 : Int) ≤ c.toNat <;> by_cases h6 : (c.toNat : Int) ≤ 90 <;> cases h3 : ((c.toNat : Int) == 45) <;> cases h4 : ((c.toNat : Int) == 46)
  all_goals first
    | (exfalso; simp only [beq_iff_eq, beq_eq_false_iff_ne] at h3 h4; omega)
    | (go_enter Tryz.func258, Tryz.ntmps258
       go_wp2_with (first | (go_at_call 178; refine (Hs.out _).mono ?_; rintro e w' ⟨rfl, rfl⟩) | (go_at_call 181; refine (Hd.out _).mono ?_; rintro e w' ⟨rfl, rfl⟩))
       go_ret
       exact ⟨by first | rfl | (simp only [decide_eq_true (show (65 : Int) ≤ c.toNat by omega), decide_eq_true (show (c.toNat : Int) ≤ 90 by omega)]; rfl) | (simp only [dF (show (c.toNat : Int) < 65 by omega)]; rfl) | (simp only [dF (show (90 : Int) < c.toNat by omega), Bool.and_false]; rfl), rfl⟩)

/-- A closure on bytes that answers p. -/
def ByteFn (g : Nat) (p : UInt8 → Bool) : Prop :=
  (∀ args w, (callFunc g args).run Tryz.prog w = .ok (.enter g args) w) ∧
  ∀ (c : UInt8) (w : World), Calls Tryz.prog g #[.int .u8 (c.toNat : Int)] w fun e w' => e = .returned (.bool (p c)) ∧ w = w'

theorem ByteFn.name : ByteFn 180 P.nameC := ⟨enters_of Tryz.func180 (by kernel_rfl) rfl, nameC_any⟩
theorem ByteFn.val : ByteFn 301 P.valC := ⟨enters_of Tryz.func301 (by kernel_rfl) rfl, valC_any⟩
theorem ByteFn.part : ByteFn 258 P.partC := ⟨enters_of Tryz.func258 (by kernel_rfl) rfl, partC_any⟩

theorem all_any (g : Nat) (p : UInt8 → Bool) (hf : ByteFn g p) (s : ByteArray) (hs : s.size ≤ 9223372036854775807) (w : World) :
    Calls Tryz.prog 179 #[.string s, .func (.func g) #[] #[]] w fun e w' => e = .returned (.bool (P.allS p s)) ∧ w = w' := by
  obtain ⟨eg, hp⟩ := hf
  have Hp := Lib.hid hp
  clear hp
  go_enter Tryz.func179, Tryz.ntmps179
  go_wp2
  go_loop [8] (fun i => ∃ k : Nat, k ≤ s.size ∧ i = .int .i64 k ∧ Aside ((s.data.toList.take k).all p = true)) (fun i => s.size - (intOf i).toNat)
  case atStart => exact ⟨0, Nat.zero_le _, rfl, aside (by simp)⟩
  case round =>
    obtain ⟨k, hk, rfl, A⟩ := hrel
    by_cases hlt : k < s.size
    · have hc := Hp.out s[k]
      have hstep : (s.data.toList.take (k + 1)).all p = p s[k] := by
        rw [List.take_succ_eq_append_getElem (by simpa using hlt), List.all_append, A.out]; simp; rfl
      have hall : s.data.toList.all p = true → p s[k] = true := fun h => List.all_eq_true.1 h _ (by simp [ByteArray.getElem_eq_getElem_data])
      have Hs := Lib.hid hstep
      have Ha := Lib.hid hall
      clear hstep hall A
      cases hq : p s[k] with
      | true =>
        rw [hq] at hc
        have Hc := Lib.hid hc
        have Hq := Lib.hid hq
        clear hc hq
        go_wp2_with (go_at_fn g; refine (Hc.out _).mono ?_; rintro e w' ⟨rfl, rfl⟩)
        go_round
        case rel => exact ⟨k + 1, by omega, by go_num, aside (by rw [Hs.out, Hq.out])⟩
        case measure => simp [intOf]; omega
      | false =>
        rw [hq] at hc
        have Hc := Lib.hid hc
        have Hq := Lib.hid hq
        clear hc hq
        go_wp2_with (go_at_fn g; refine (Hc.out _).mono ?_; rintro e w' ⟨rfl, rfl⟩)
        go_ret
        refine ⟨?_, rfl⟩
        show Ending.returned (.bool false) = _
        unfold P.allS
        cases h : s.data.toList.all p with
        | true => have := Ha.out h; rw [Hq.out] at this; cases this
        | false => rfl
    · have hk' : k = s.size := by omega
      have hA : s.data.toList.all p = true := by
        have := A.out; rw [hk', List.take_of_length_le (by simp)] at this; exact this
      have HA := Lib.hid hA
      clear hA hk' A
      go_wp2
      go_ret
      exact ⟨by unfold P.allS; rw [HA.out]; rfl, rfl⟩
end Go.Proofs.YtomikcemiacjmaaGreatDoor

namespace Go.Proofs.YtomikcemiacjmaaGreatDoor
open Go.RowKit Go.Lib Go.Shelf

theorem ne_of {s : ByteArray} (h : s.toList.isEmpty = false) : ¬ s.toList = [] := by simpa using h
theorem eq_of {s : ByteArray} (h : s.toList.isEmpty = true) : s.toList = [] := by simpa using h
theorem pos_of {s : ByteArray} (h : s.toList.isEmpty = false) : 0 < s.size := by
  rw [P.nonempty_iff] at h; rw [← P.size_len]; exact List.length_pos_iff.2 h
theorem part_false {s : ByteArray} (h : s.toList.isEmpty = true ∨ 40 < s.size ∨ s.toList = [46] ∨ s.toList = [46, 46]) : P.partS s = false := by
  unfold P.partS P.part
  rw [P.size_len]
  rcases h with h | h | h | h
  · rw [P.empty_iff] at h; simp [h]
  · simp; omega
  · rw [Lib.toList_data] at h; simp [h]
  · rw [Lib.toList_data] at h; simp [h]
theorem part_true {s : ByteArray} (h1 : s.toList.isEmpty = false) (h2 : s.size ≤ 40) (h3 : (s.toList == [46]) = false) (h4 : (s.toList == [46, 46]) = false) : P.partS s = P.allS P.partC s := by
  unfold P.partS P.part P.allS
  rw [P.size_len]
  rw [P.nonempty_iff] at h1
  rw [Lib.toList_data] at h3 h4
  generalize s.data.toList = l at *
  cases l with
  | nil => exact absurd rfl h1
  | cons c t => simp [bne, h2, h3, h4]

theorem isPart_any (s : ByteArray) (hs : s.size ≤ 4294967280) (w : World) :
    Calls Tryz.prog 202 #[.string s] w fun e w' => e = .returned (.bool (P.partS s)) ∧ w = w' := by
  cases h1 : s.toList.isEmpty with
  | true =>
    have hr := Lib.hid (part_false (.inl h1))
    have h1' := eq_of h1
    clear h1
    go_enter Tryz.func202, Tryz.ntmps202
    go_wp2_with fail
    go_ret
    exact ⟨by rw [hr.out]; rfl, rfl⟩
  | false =>
    have h1' := ne_of h1
    by_cases h2 : s.size ≤ 40
    · cases h3 : (s.toList == [46]) with
      | true =>
        have hr := Lib.hid (part_false (.inr (.inr (.inl (by simpa using h3)))))
        have h3' : s.toList = [46] := by simpa using h3
        clear h3 h1 h1'
        go_enter Tryz.func202, Tryz.ntmps202
        go_wp2_with fail
        go_ret
        exact ⟨by rw [hr.out]; rfl, rfl⟩
      | false =>
        have h3' : ¬ s.toList = [46] := by simpa using h3
        cases h4 : (s.toList == [46, 46]) with
        | true =>
          have hr := Lib.hid (part_false (.inr (.inr (.inr (by simpa using h4)))))
          go_enter Tryz.func202, Tryz.ntmps202
          go_wp2_with fail
          go_ret
          exact ⟨by rw [hr.out]; rfl, rfl⟩
        | false =>
          have hr := Lib.hid (part_true h1 h2 h3 h4)
          go_enter Tryz.func202, Tryz.ntmps202
          go_wp2_with (go_at_call 179; refine (all_any _ _ ByteFn.part s (by omega) _).mono ?_; rintro e w' ⟨rfl, rfl⟩)
          go_ret
          exact ⟨by rw [hr.out]; rfl, rfl⟩
    · have hr := Lib.hid (part_false (.inr (.inl (by omega : 40 < s.size))))
      go_enter Tryz.func202, Tryz.ntmps202
      go_wp2_with fail
      go_ret
      exact ⟨by rw [hr.out]; rfl, rfl⟩

theorem isName_any (s : ByteArray) (hs : s.size ≤ 4294967280) (w : World) :
    Calls Tryz.prog 85 #[.string s] w fun e w' => e = .returned (.bool (P.nameS s)) ∧ w = w' := by
  cases h1 : s.toList.isEmpty with
  | true =>
    have hr : Hid (P.nameS s = false) := Lib.hid (by rw [P.empty_iff] at h1; unfold P.nameS; rw [h1]; rfl)
    have h1' := eq_of h1
    clear h1
    go_enter Tryz.func85, Tryz.ntmps85
    go_wp2_with fail
    go_ret
    exact ⟨by rw [hr.out]; rfl, rfl⟩
  | false =>
    have h1' := ne_of h1
    have h0 := pos_of h1
    have hh := P.head_get s h0
    have hcase : P.nameS s = (decide (s.size ≤ 40) && P.sml s[0] && P.allS P.nameC s) := by
      have hl := P.size_len s
      unfold P.nameS P.allS
      generalize s.data.toList = l at hh hl
      rw [← hl]
      cases l with
      | nil => cases hh
      | cons c t => injection hh with hc _; rw [← hc]; rfl
    clear hh
    by_cases h2 : s.size ≤ 40
    · have hs0 := isSmall_any s[0]
      cases h3 : P.sml s[0] with
      | true =>
        rw [h3] at hs0 hcase
        rw [decide_eq_true h2] at hcase
        have Hs := Lib.hid hs0
        have Hc := Lib.hid hcase
        clear hs0 hcase h3
        go_enter Tryz.func85, Tryz.ntmps85
        go_wp2_with (first | (go_at_call 178; refine (Hs.out _).mono ?_; rintro e w' ⟨rfl, rfl⟩) | (go_at_call 179; refine (all_any _ _ ByteFn.name s (by omega) _).mono ?_; rintro e w' ⟨rfl, rfl⟩))
        go_ret
        exact ⟨by rw [Hc.out]; simp, rfl⟩
      | false =>
        rw [h3] at hs0 hcase
        have Hs := Lib.hid hs0
        have Hc := Lib.hid hcase
        clear hs0 hcase h3
        go_enter Tryz.func85, Tryz.ntmps85
        go_wp2_with (first | (go_at_call 178; refine (Hs.out _).mono ?_; rintro e w' ⟨rfl, rfl⟩) | (go_at_call 179; refine (all_any _ _ ByteFn.name s (by omega) _).mono ?_; rintro e w' ⟨rfl, rfl⟩))
        go_ret
        exact ⟨by rw [Hc.out]; simp, rfl⟩
    · rw [decide_eq_false h2] at hcase
      have Hc := Lib.hid hcase
      clear hcase
      go_enter Tryz.func85, Tryz.ntmps85
      go_wp2_with fail
      go_ret
      exact ⟨by rw [Hc.out]; simp, rfl⟩

theorem isValue_any (s : ByteArray) (hs : s.size ≤ 4294967280) (w : World) :
    Calls Tryz.prog 247 #[.string s] w fun e w' => e = .returned (.bool (P.valueS s)) ∧ w = w' := by
  have hc : P.valueS s = (decide (s.size ≤ 1000) && P.allS P.valC s) := by unfold P.valueS P.value P.allS; rw [P.size_len]
  by_cases h2 : s.size ≤ 1000
  · rw [decide_eq_true h2] at hc
    have Hc := Lib.hid hc
    clear hc
    go_enter Tryz.func247, Tryz.ntmps247
    go_wp2_with (go_at_call 179; refine (all_any _ _ ByteFn.val s (by omega) _).mono ?_; rintro e w' ⟨rfl, rfl⟩)
    go_ret
    exact ⟨by rw [Hc.out]; simp, rfl⟩
  · rw [decide_eq_false h2] at hc
    have Hc := Lib.hid hc
    clear hc
    go_enter Tryz.func247, Tryz.ntmps247
    go_wp2_with fail
    go_ret
    exact ⟨by rw [Hc.out]; simp, rfl⟩
end Go.Proofs.YtomikcemiacjmaaGreatDoor

namespace Go.Proofs.YtomikcemiacjmaaGreatDoor
open Go.RowKit Go.Lib Go.Shelf

structure Good (w : World) : Prop where
  m : ∃ m, w.cell? ⟨0, 0, none⟩ = some (.int .i64 m)
  sz : 8 ≤ w.heap.size

theorem Good.mono {w w' : World} (h : Good w) (hb : Below w.heap.size w w') : Good w' where
  m := let ⟨m, e⟩ := h.m; ⟨m, by rw [hb.cell (p := ⟨0, 0, none⟩) (by have := h.sz; show 0 < _; omega)]; exact e⟩
  sz := Nat.le_trans h.sz hb.size

theorem split_any (s : ByteArray) (c : UInt8) (hs : s.size ≤ 4294967280) (w : World) (hw : Good w) :
    Calls Tryz.prog 129 #[.string s, .string ⟨#[c]⟩] w fun e w' =>
      e = .returned (.slice (some ⟨w.heap.size, 0, none⟩) (P.splitS s c).length (P.splitS s c).length) ∧ w' = w.alloc (.cells ((P.splitS s c).map Value.string).toArray 9) := by
  obtain ⟨m, hm⟩ := hw.m
  have h := Tryz.strings_Split s ⟨#[c]⟩ m w (by omega) hm (P.one_le c)
  rw [← P.splitS_length] at h
  exact h

/-- a cell of the new block of pieces -/
theorem pieces_cell (w : World) (l : List ByteArray) (t : TypeId) (k : Nat) (h : k < l.length) :
    (w.alloc (.cells (l.map Value.string).toArray t)).cell? ⟨w.heap.size, k, none⟩ = some (.string l[k]) := by
  rw [World.cell?_alloc_at _ _ _ _ rfl]
  simp [h]
theorem below_alloc (w : World) (o : Obj) : Below w.heap.size w (w.alloc o) := (Below.refl _ _).alloc (Nat.le_refl _) o

end Go.Proofs.YtomikcemiacjmaaGreatDoor

namespace Go.Proofs.YtomikcemiacjmaaGreatDoor
open Go.RowKit Go.Shelf

theorem path_long {s : ByteArray} (h : 200 < s.size) : P.pathS s = false := by unfold P.pathS P.path; rw [P.size_len]; simp; omega
theorem path_short {s : ByteArray} (h : s.size ≤ 200) : P.pathS s = (P.splitS s 47).all P.partS := by
  unfold P.pathS P.path
  rw [P.size_len, ← P.splitS_all, decide_eq_true h]; rfl

theorem isPath_any (s : ByteArray) (hs : s.size ≤ 4294967280) (w : World) (hw : Good w) :
    Calls Tryz.prog 117 #[.string s] w fun e w' => e = .returned (.bool (P.pathS s)) ∧ Below w.heap.size w w' := by
  by_cases h2 : s.size ≤ 200
  · have hr := Lib.hid (path_short h2)
    have hsz := P.splitS_size s 47
    have Hsplit := Lib.hid (split_any s 47 (by omega) w hw)
    have hb := below_alloc w (.cells ((P.splitS s 47).map Value.string).toArray 9)
    have hcells := fun k h => pieces_cell w (P.splitS s 47) 9 k h
    have hlen : (P.splitS s 47).length ≤ 4294967281 := by rw [P.splitS_length]; have := Lib.countB_le ⟨#[47]⟩ (P.one_le 47) _ s (Nat.le_refl _); omega
    generalize P.splitS s 47 = l at *
    have HB := Lib.hid hb
    have HC := Lib.hid hcells
    have HZ := Lib.hid hsz
    clear hb hcells hsz
    go_enter Tryz.func117, Tryz.ntmps117
    go_wp2_with fail
    refine (Hsplit.out).mono ?_
    rintro e w1 ⟨rfl, hw1⟩
    have hc1 : ∀ k (h : k < l.length), w1.cell? ⟨w.heap.size, k, none⟩ = some (.string l[k]) := fun k h => by rw [hw1]; exact HC.out k h
    have hb1 : Below w.heap.size w w1 := by rw [hw1]; exact HB.out
    have HC1 := Lib.hid hc1
    have HB1 := Lib.hid hb1
    clear hc1 hb1 hw1 HC HB Hsplit
    go_wp2
    go_loop [11] (fun i => ∃ k : Nat, k ≤ l.length ∧ i = .int .i64 k ∧ Aside ((l.take k).all P.partS = true)) (fun i => l.length - (intOf i).toNat)
    case atStart => exact ⟨0, Nat.zero_le _, rfl, aside (by simp)⟩
    case round =>
      obtain ⟨k, hk, rfl, A⟩ := hrel
      by_cases hlt : k < l.length
      · have hcell := HC1.out k hlt
        have hp := isPart_any l[k] (by have := HZ.out k hlt; omega)
        have hstep : (l.take (k + 1)).all P.partS = P.partS l[k] := by
          rw [List.take_succ_eq_append_getElem hlt, List.all_append, A.out]; simp
        have hall : l.all P.partS = true → P.partS l[k] = true := fun h => List.all_eq_true.1 h _ (List.getElem_mem hlt)
        have Hs := Lib.hid hstep
        have Ha := Lib.hid hall
        clear hstep hall A
        generalize l[k] = x at *
        cases hq : P.partS x <;> rw [hq] at hp
        all_goals
          have Hp := Lib.hid hp
          have Hq := Lib.hid hq
          clear hp hq
          go_wp2_with (go_at_call 202; refine (Hp.out _).mono ?_; rintro e w' ⟨rfl, rfl⟩)
        · go_ret
          refine ⟨?_, HB1.out⟩
          show Ending.returned (.bool false) = _
          rw [hr.out]
          cases h : l.all P.partS with
          | true => have := Ha.out h; rw [Hq.out] at this; cases this
          | false => rfl
        · go_round
          case rel => exact ⟨k + 1, by omega, by go_num, aside (by rw [Hs.out, Hq.out])⟩
          case measure => simp [intOf]; omega
      · have hk' : k = l.length := by omega
        have hA : l.all P.partS = true := by have := A.out; rw [hk', List.take_of_length_le (Nat.le_refl _)] at this; exact this
        have HA := Lib.hid hA
        clear hA hk' A
        go_wp2
        go_ret
        exact ⟨by rw [hr.out, HA.out]; rfl, HB1.out⟩
  · have hr := Lib.hid (path_long (by omega : 200 < s.size))
    go_enter Tryz.func117, Tryz.ntmps117
    go_wp2_with fail
    go_ret
    exact ⟨by rw [hr.out]; rfl, Below.refl _ _⟩
end Go.Proofs.YtomikcemiacjmaaGreatDoor

namespace Go.Proofs.YtomikcemiacjmaaGreatDoor
open Go.RowKit Go.Shelf

/-- Block k holds vs, and may be written. -/
structure HasRow (W : World) (k : Nat) (vs : Array Value) : Prop where
  cell : ∀ i, W.cell? ⟨k, i, none⟩ = vs[i]?
  free : ∀ i, W.frozen? ⟨k, i, none⟩ = false
  lt : k < W.heap.size
theorem HasRow.new (w : World) (vs : Array Value) (t : TypeId) : HasRow (w.alloc (.cells vs t)) w.heap.size vs :=
  ⟨fun i => World.cell?_alloc_at _ _ _ _ rfl, fun i => World.frozen?_alloc_at _ _ _ _ rfl, by simp⟩
theorem HasRow.below {W W' : World} {k : Nat} {vs : Array Value} (h : HasRow W k vs) (hb : Below W.heap.size W W') : HasRow W' k vs :=
  ⟨fun i => by rw [hb.cell (p := ⟨k, i, none⟩) h.lt]; exact h.cell i, fun i => by rw [hb.frozen (p := ⟨k, i, none⟩) h.lt]; exact h.free i, Nat.lt_of_lt_of_le h.lt hb.size⟩
theorem HasRow.alloc {W : World} {k : Nat} {vs : Array Value} (h : HasRow W k vs) (o : Obj) : HasRow (W.alloc o) k vs := h.below (below_alloc _ _)
theorem HasRow.set {W : World} {k : Nat} {vs : Array Value} (h : HasRow W k vs) (j : Nat) (v : Value) (hj : j < vs.size) : HasRow (W.setCell ⟨k, j, none⟩ v) k (vs.setIfInBounds j v) := by
  refine ⟨fun i => ?_, fun i => ?_, by simpa [World.setCell] using h.lt⟩
  · by_cases e : i = j
    · subst e
      rw [World.cell?_setCell_same' _ _ _ (by rw [h.cell]; simp [hj])]
      simp [hj]
    · rw [World.cell?_setCell_other (h := show (⟨k, j, none⟩ : Addr) ≠ ⟨k, i, none⟩ from fun h' => e (by injection h' with _ h2; exact h2.symm)), h.cell]
      rw [Array.getElem?_setIfInBounds_ne (by omega)]
  · rw [World.frozen?_setCell]; exact h.free i
theorem HasRow.other {W : World} {k k' : Nat} {vs : Array Value} (h : HasRow W k vs) (j : Nat) (v : Value) (hne : k ≠ k') : HasRow (W.setCell ⟨k', j, none⟩ v) k vs := by
  refine ⟨fun i => ?_, fun i => ?_, by simpa [World.setCell] using h.lt⟩
  · rw [World.cell?_setCell_other (h := show (⟨k', j, none⟩ : Addr) ≠ ⟨k, i, none⟩ from fun h' => hne (by injection h' with h1 _; exact h1.symm))]; exact h.cell i
  · rw [World.frozen?_setCell]; exact h.free i

/-- .. it stays while another block is written -/
theorem HasRow.grown {W W' : World} {k : Nat} {vs : Array Value} {row : Option Nat} (h : HasRow W k vs) (hg : W.grownBy W' row) (hne : some k ≠ row) : HasRow W' k vs :=
  ⟨fun i => by rw [World.cell?_of_block (w := W) (a := ⟨k, i, none⟩) (hg.block k h.lt hne)]; exact h.cell i, fun i => by rw [World.frozen?_of_block (w := W) (a := ⟨k, i, none⟩) (hg.block k h.lt hne)]; exact h.free i, Nat.lt_of_lt_of_le h.lt hg.size⟩
theorem bstep {w w1 w2 : World} (h : Below w.heap.size w w1) (k : Below w1.heap.size w1 w2) : Below w.heap.size w w2 := h.trans (k.mono h.size)
theorem hrow1 {W : World} {k : Nat} {a : Value} (h : HasRow W k #[a]) : W.cell? ⟨k, 0, none⟩ = some a ∧ W.frozen? ⟨k, 0, none⟩ = false ∧ k < W.heap.size := ⟨h.cell 0, h.free 0, h.lt⟩
theorem hrow2 {W : World} {k : Nat} {a b : Value} (h : HasRow W k #[a, b]) : W.cell? ⟨k, 0, none⟩ = some a ∧ W.cell? ⟨k, 1, none⟩ = some b ∧ k < W.heap.size := ⟨h.cell 0, h.cell 1, h.lt⟩
theorem hrow3 {W : World} {k : Nat} {a b c : Value} (h : HasRow W k #[a, b, c]) : W.cell? ⟨k, 0, none⟩ = some a ∧ W.cell? ⟨k, 1, none⟩ = some b ∧ W.cell? ⟨k, 2, none⟩ = some c ∧ k < W.heap.size := ⟨h.cell 0, h.cell 1, h.cell 2, h.lt⟩
theorem hrow4 {W : World} {k : Nat} {a b c d : Value} (h : HasRow W k #[a, b, c, d]) : W.cell? ⟨k, 0, none⟩ = some a ∧ W.cell? ⟨k, 1, none⟩ = some b ∧ W.cell? ⟨k, 2, none⟩ = some c ∧ W.cell? ⟨k, 3, none⟩ = some d ∧ k < W.heap.size := ⟨h.cell 0, h.cell 1, h.cell 2, h.cell 3, h.lt⟩
theorem cell_keep {W W' : World} {p : Addr} {v : Value} (hb : Below W.heap.size W W') (h : W.cell? p = some v) : W'.cell? p = some v := by
  have hlt : p.block < W.heap.size := by
    unfold World.cell? at h
    split at h
    · rename_i hh; exact (Array.getElem?_eq_some_iff.1 hh).1
    · cases h
  rw [hb.cell hlt]; exact h
theorem grown_set (W : World) (b : Nat) (v : Value) : W.grownBy (W.setCell ⟨b, 0, none⟩ v) (some b) :=
  ⟨rfl, rfl, rfl, by simp [World.setCell], fun k _ hk => Below.heap_setCell W _ v k (fun e => hk (by rw [e]))⟩
theorem HasRow.drew {W : World} {k : Nat} {vs : Array Value} (h : HasRow W k vs) : HasRow W.drew k vs := ⟨h.cell, h.free, h.lt⟩
end Go.Proofs.YtomikcemiacjmaaGreatDoor
