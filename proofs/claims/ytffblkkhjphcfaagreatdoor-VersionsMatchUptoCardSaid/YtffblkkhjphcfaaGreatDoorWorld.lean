/- The world that every contract of this seat asks for: the library's variables as the rows list them. The library's contracts in the forms that the walks take. -/
import Derived.Test.YtffblkkhjphcfaaGreatDoorNames2
import Derived.Test.YtffblkkhjphcfaaGreatDoorShelf
import Derived.Lib.AppendIntMem
namespace Go.Proofs.YtffblkkhjphcfaaGreatDoor
open Go.RowKit Go.Lib Go.Shelf

structure Good (w : World) : Prop where
  m : ∃ m, w.cell? ⟨0, 0, none⟩ = some (.int .i64 m)
  es : ∃ te pe, w.cell? ⟨1, 0, none⟩ = some (.iface te pe)
  er : ∃ te pe, w.cell? ⟨2, 0, none⟩ = some (.iface te pe)
  pow : Lib.TabIs Tryz.prog w "internal/strconv.uint64pow10" .u64 Lib.pow10Tab
  sz : 8 ≤ w.heap.size

theorem Good.mono {w w' : World} (h : Good w) (hb : Below w.heap.size w w') : Good w' where
  m := let ⟨m, e⟩ := h.m; ⟨m, by rw [hb.cell (p := ⟨0, 0, none⟩) (by have := h.sz; show 0 < _; omega)]; exact e⟩
  es := let ⟨te, pe, e⟩ := h.es; ⟨te, pe, by rw [hb.cell (p := ⟨1, 0, none⟩) (by have := h.sz; show 1 < _; omega)]; exact e⟩
  er := let ⟨te, pe, e⟩ := h.er; ⟨te, pe, by rw [hb.cell (p := ⟨2, 0, none⟩) (by have := h.sz; show 2 < _; omega)]; exact e⟩
  pow := tabBelow_of_tabIs h.pow w' hb
  sz := Nat.le_trans h.sz hb.size

theorem split_any (s : ByteArray) (c : UInt8) (hs : s.size ≤ 4294967280) (w : World) (hw : Good w) :
    Calls Tryz.prog 60 #[.string s, .string ⟨#[c]⟩] w fun e w' =>
      e = .returned (.slice (some ⟨w.heap.size, 0, none⟩) (P.splitS s c).length (P.splitS s c).length) ∧ w' = w.alloc (.cells ((P.splitS s c).map Value.string).toArray 9) := by
  obtain ⟨m, hm⟩ := hw.m
  have h := Tryz.strings_Split s ⟨#[c]⟩ m w (by omega) hm (P.one_le c)
  rw [← P.splitS_length] at h
  exact h

/-- a cell of the new block of pieces -/
theorem pieces_cell (w : World) (l : List ByteArray) (t : TypeId) (k : Nat) (h : k < l.length) :
    (w.alloc (.cells (l.map Value.string).toArray t)).cell? ⟨w.heap.size, k, none⟩ = some (.string l[k]) := by
  rw [World.cell?_alloc_at _ _ _ _ rfl]
  simp [h]
theorem below_alloc (w : World) (o : Obj) : Below w.heap.size w (w.alloc o) := (Below.refl _ _).alloc (Nat.le_refl _) o

theorem number_true {s : ByteArray} (h0 : 0 < s.size) (h : P.allS P.dig s = true) : P.numberS s = (s.toList == [48] || ((s[0].toNat : Int) != 48)) := by
  have hh := P.head_get s h0
  unfold P.numberS
  unfold P.allS at h
  rw [Lib.toList_data]
  generalize s.data.toList = l at *
  cases l with
  | nil => cases hh
  | cons c t =>
    injection hh with hc _
    rw [← hc]
    show ((c :: t).all P.dig && (t.isEmpty || (c.toNat : Int) != 48)) = _
    rw [h]
    cases t with
    | nil =>
      by_cases e : c = 48
      · subst e; rfl
      · have : (c.toNat : Int) ≠ 48 := fun h => e (UInt8.toNat_inj.1 (show c.toNat = 48 by omega))
        simp [this]
    | cons d r => simp
theorem number_false {s : ByteArray} (h : P.allS P.dig s = false) : P.numberS s = false := by
  unfold P.numberS
  unfold P.allS at h
  generalize s.data.toList = l at *
  cases l with
  | nil => rfl
  | cons c t => show ((c :: t).all P.dig && (t.isEmpty || (c.toNat : Int) != 48)) = _; rw [h]; rfl

theorem isNumber_any (s : ByteArray) (hs : s.size ≤ 4294967280) (w : World) :
    Calls Tryz.prog 140 #[.string s] w fun e w' => e = .returned (.bool (P.numberS s)) ∧ w = w' := by
  cases h1 : s.toList.isEmpty with
  | true =>
    have hr : Hid (P.numberS s = false) := Lib.hid (by rw [P.empty_iff] at h1; unfold P.numberS; rw [h1]; rfl)
    have h1' := eq_of h1
    clear h1
    go_enter Tryz.func140, Tryz.ntmps140
    go_wp2_with fail
    go_ret
    exact ⟨by rw [hr.out]; rfl, rfl⟩
  | false =>
    have h1' := ne_of h1
    have h0 := pos_of h1
    have ha := all_any _ _ ByteFn.digit s (by omega)
    cases h2 : P.allS P.dig s
    · rw [h2] at ha
      have Ha := Lib.hid ha
      have hr := Lib.hid (number_false h2)
      clear ha h2
      go_enter Tryz.func140, Tryz.ntmps140
      go_wp2_with (go_at_call 66; refine (Ha.out _).mono ?_; rintro e w' ⟨rfl, rfl⟩)
      go_ret
      exact ⟨by rw [hr.out]; rfl, rfl⟩
    · rw [h2] at ha
      have Ha := Lib.hid ha
      have hr := Lib.hid (number_true h0 h2)
      clear ha h2
      go_enter Tryz.func140, Tryz.ntmps140
      go_wp2_with (go_at_call 66; refine (Ha.out _).mono ?_; rintro e w' ⟨rfl, rfl⟩)
      · go_ret
        refine ⟨?_, rfl⟩
        have h : s.toList = [48] := by assumption
        rw [hr.out, h]; rfl
      · go_ret
        refine ⟨?_, rfl⟩
        rw [hr.out]; rfl

theorem word_len {s : ByteArray} (h : 10 < s.size) : P.wordS s = false := by unfold P.wordS P.word; rw [P.size_len]; simp; omega
theorem word_empty {s : ByteArray} (h : s.toList.isEmpty = true) : P.wordS s = false := by rw [P.empty_iff] at h; unfold P.wordS; rw [h]; rfl
theorem word_else {s : ByteArray} (h1 : s.toList.isEmpty = false) (h2 : s.size ≤ 10) : P.wordS s = if P.allS P.dig s then P.numberS s else P.allS P.wordC s := by
  unfold P.wordS P.word P.allS P.numberS
  rw [P.size_len]
  rw [P.nonempty_iff] at h1
  generalize s.data.toList = l at *
  cases l with
  | nil => exact absurd rfl h1
  | cons c t => simp [h2]

theorem isWord_any (s : ByteArray) (hs : s.size ≤ 4294967280) (w : World) :
    Calls Tryz.prog 132 #[.string s] w fun e w' => e = .returned (.bool (P.wordS s)) ∧ w = w' := by
  cases h1 : s.toList.isEmpty with
  | true =>
    have hr := Lib.hid (word_empty h1)
    have h1' := eq_of h1
    clear h1
    go_enter Tryz.func132, Tryz.ntmps132
    go_wp2_with fail
    go_ret
    exact ⟨by rw [hr.out]; rfl, rfl⟩
  | false =>
    have h1' := ne_of h1
    by_cases h2 : s.size ≤ 10
    · have ha := all_any _ _ ByteFn.digit s (by omega)
      have hb := all_any _ _ ByteFn.word s (by omega)
      have hr := word_else h1 h2
      have hn := Lib.hid (isNumber_any s (by omega))
      cases h3 : P.allS P.dig s <;> rw [h3] at hr ha
      all_goals
        have Ha := Lib.hid ha
        have Hb := Lib.hid hb
        have Hr := Lib.hid hr
        clear ha hb hr h3
        go_enter Tryz.func132, Tryz.ntmps132
        go_wp2_with fail
        refine (Ha.out _).mono ?_
        rintro e w' ⟨rfl, rfl⟩
        go_wp2_with (first | (go_at_call 140; refine (hn.out _).mono ?_; rintro e w' ⟨rfl, rfl⟩) | (go_at_call 66; refine (Hb.out _).mono ?_; rintro e w' ⟨rfl, rfl⟩))
        go_ret
        exact ⟨by rw [Hr.out]; rfl, rfl⟩
    · have hr := Lib.hid (word_len (by omega : 10 < s.size))
      go_enter Tryz.func132, Tryz.ntmps132
      go_wp2_with fail
      go_ret
      exact ⟨by rw [hr.out]; rfl, rfl⟩
end Go.Proofs.YtffblkkhjphcfaaGreatDoor
