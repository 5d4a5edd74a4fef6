/- Walks: the order of versions of package outref2. -/
import Derived.Test.YtffblkkhjphcfaaGreatDoorRefH
import Derived.Test.YtffblkkhjphcfaaGreatDoorPure5
namespace Go.Proofs.YtffblkkhjphcfaaGreatDoor
open Go.RowKit Go.Shelf

theorem atoi_word (x : ByteArray) (hx : x.size ≤ 18) (w : World) (hw : Good w) :
    Calls Tryz.prog 74 #[.string x] w fun e w' => ∃ ev, e = .returned (.tuple #[.int .i64 (P.atoiV x), ev]) ∧ Below w.heap.size w w' := by
  have hs := Lib.atoiAll_short x.data.toList (by rw [P.size_len]; exact hx)
  unfold P.atoiV
  cases h : Lib.atoi x.data.toList with
  | some v =>
    rw [h] at hs
    refine (Tryz.strconv_Atoi_ok x (by omega) v hs w).mono fun e w' ⟨he, hw'⟩ => ⟨_, he, ?_⟩
    rcases hw' with rfl | ⟨t, rfl⟩
    · exact Below.refl _ _
    · exact Lib.bytesWorld_below _ _ _
  | none =>
    rw [h] at hs
    obtain ⟨te, pe, he⟩ := hw.es
    refine (Tryz.strconv_Atoi_syntax x (by omega) hs (.iface te pe) w he (.inr ⟨te, pe, rfl⟩)).mono fun e w' ⟨N, he, _, _, hb⟩ => ⟨_, he, hb⟩

theorem three_cmp (x y z : Int) (nb : Nat) (W : World) (hn : nb = W.heap.size) :
    Calls Tryz.prog 72 #[.slice (some ⟨nb, 0, none⟩) 3 3] (W.alloc (.cells #[.int .i64 x, .int .i64 y, .int .i64 z] 3)).drew fun e w' => e = .returned (.int .i64 (P.orI [x, y, z])) ∧ (W.alloc (.cells #[.int .i64 x, .int .i64 y, .int .i64 z] 3)).drew = w' := by
  subst hn
  exact or_any W.heap.size [x, y, z] (by simp) (W.alloc (.cells #[.int .i64 x, .int .i64 y, .int .i64 z] 3)).drew (fun j hj => by
    rw [World.cell?_drew, World.cell?_alloc_at _ _ _ _ rfl]
    match j, hj with
    | 0, _ => rfl
    | 1, _ => rfl
    | 2, _ => rfl)

/-- What was there when the call began is there, and the two boxes that it has laid. -/
def Frm2 (w W : World) : Prop := Below w.heap.size w W ∧ w.heap.size + 1 < W.heap.size
theorem two_start {w W : World} {v v' : Value} (h : W.cell? ⟨w.heap.size, 3, none⟩ = some v) (h' : W.cell? ⟨w.heap.size + 1, 3, none⟩ = some v') (hs : w.heap.size + 1 < W.heap.size) (hb : Below w.heap.size w W) :
    W.drew.cell? ⟨w.heap.size, 3, none⟩ = some v ∧ W.drew.cell? ⟨w.heap.size + 1, 3, none⟩ = some v' ∧ Frm2 w W.drew := ⟨h, h', hb.drew, hs⟩
theorem two_step {w W W' : World} {v v' : Value} (h : W.cell? ⟨w.heap.size, 3, none⟩ = some v ∧ W.cell? ⟨w.heap.size + 1, 3, none⟩ = some v' ∧ Frm2 w W) (hb : Below W.heap.size W W') :
    W'.cell? ⟨w.heap.size, 3, none⟩ = some v ∧ W'.cell? ⟨w.heap.size + 1, 3, none⟩ = some v' ∧ Frm2 w W' := by
  obtain ⟨h1, h2, h3, h4⟩ := h
  exact ⟨(hb.cell (p := ⟨w.heap.size, 3, none⟩) (by show w.heap.size < _; omega)).trans h1, (hb.cell (p := ⟨w.heap.size + 1, 3, none⟩) h4).trans h2, h3.trans (hb.mono h3.size), Nat.lt_of_lt_of_le h4 hb.size⟩
theorem held_good2 {w W : World} {A B : Prop} (h : A ∧ B ∧ Frm2 w W) (hw : Good w) : Good W := hw.mono h.2.2.1

def FrmB (w W : World) : Prop := Below w.heap.size w W
theorem pair_step {w W W' : World} {c1 c2 k : Nat} {v v' : Value} (l1 : c1 < w.heap.size) (l2 : c2 < w.heap.size) (h : W.cell? ⟨c1, k, none⟩ = some v ∧ W.cell? ⟨c2, k, none⟩ = some v' ∧ FrmB w W) (hb : Below W.heap.size W W') :
    W'.cell? ⟨c1, k, none⟩ = some v ∧ W'.cell? ⟨c2, k, none⟩ = some v' ∧ FrmB w W' := by
  obtain ⟨h1, h2, h3⟩ := h
  have hs := h3.size
  exact ⟨(hb.cell (p := ⟨c1, k, none⟩) (by show c1 < _; omega)).trans h1, (hb.cell (p := ⟨c2, k, none⟩) (by show c2 < _; omega)).trans h2, h3.trans (hb.mono h3.size)⟩
theorem pair_start {w W : World} {c1 c2 k : Nat} {v v' : Value} (h : W.cell? ⟨c1, k, none⟩ = some v) (h' : W.cell? ⟨c2, k, none⟩ = some v') (hb : Below w.heap.size w W) :
    W.drew.cell? ⟨c1, k, none⟩ = some v ∧ W.drew.cell? ⟨c2, k, none⟩ = some v' ∧ FrmB w W.drew := ⟨h, h', hb.drew⟩
theorem listCmp_ref {l m : List ByteArray} {k : Nat} (h1 : k < l.length) (h2 : k < m.length) (hl : ∀ j (hj : j < l.length), P.wordS l[j] = true) (hm : ∀ j (hj : j < m.length), P.wordS m[j] = true) :
    P.listCmp (l.drop k) (m.drop k) = if P.refCmp l[k] m[k] = 0 then P.listCmp (l.drop (k + 1)) (m.drop (k + 1)) else P.refCmp l[k] m[k] := by
  rw [listCmp_step h1 h2, P.refCmp_word (hl k h1) (hm k h2)]
theorem listCmp_rest {l m : List ByteArray} {k : Nat} (h : ¬ (k < l.length ∧ k < m.length)) (hl : k ≤ l.length) (hm : k ≤ m.length) : P.listCmp (l.drop k) (m.drop k) = Lib.compareInt l.length m.length := by
  by_cases h1 : k < l.length
  · rw [listCmp_long h1 (by omega), P.compareInt_gt (by omega)]
  · by_cases h2 : k < m.length
    · rw [listCmp_short (by omega) h2, P.compareInt_lt (by omega)]
    · rw [listCmp_end (by omega) (by omega), show l.length = m.length by omega, P.compareInt_eq]

set_option maxHeartbeats 8000000 in
set_option maxRecDepth 100000 in
theorem compareOf_words (a1 a2 a3 b1 b2 b3 : Int) (a4 b4 : ByteArray) (ha : P.verr a1 a2 a3 a4 = 0) (hb : P.verr b1 b2 b3 b4 = 0) (g1 : a4.toList.isEmpty = false) (g2 : b4.toList.isEmpty = false) (hz : P.orI [Lib.compareInt a1 b1, Lib.compareInt a2 b2, Lib.compareInt a3 b3] = 0) (w : World) (hw : Good w) :
    Calls Tryz.prog 24 #[.agg #[.int .i64 a1, .int .i64 a2, .int .i64 a3, .string a4], .agg #[.int .i64 b1, .int .i64 b2, .int .i64 b3, .string b4]] w fun e w' =>
      e = .returned (.int .i64 (P.listCmp (P.splitS a4 46) (P.splitS b4 46))) ∧ Below w.heap.size w w' := by
  obtain ⟨za, wa⟩ := P.verr_words ha g1
  obtain ⟨zb, wb⟩ := P.verr_words hb g2
  clear ha hb
  have H1 := Lib.hid (Tryz.cmp_Compare_int a1 b1)
  have H2 := Lib.hid (Tryz.cmp_Compare_int a2 b2)
  have H3 := Lib.hid (Tryz.cmp_Compare_int a3 b3)
  generalize Lib.compareInt a1 b1 = x1 at *
  generalize Lib.compareInt a2 b2 = x2 at *
  generalize Lib.compareInt a3 b3 = x3 at *
  have hO := fun nb W hn => three_cmp x1 x2 x3 nb W hn
  rw [hz] at hO
  have HO := Lib.hid hO
  have cl := splitS_count a4 46 (by omega)
  have cm := splitS_count b4 46 (by omega)
  have S1 := Lib.hid (fun W hW => split_at a4 46 (by omega) W hW)
  have S2 := Lib.hid (fun W hW => split_at b4 46 (by omega) W hW)
  generalize P.splitS a4 46 = l at *
  generalize P.splitS b4 46 = m at *
  clear hO hz
  have HL := Lib.hid wa
  have HM := Lib.hid wb
  clear wa wb
  have Hw := Lib.hid hw
  clear hw
  have g1' := ne_of g1
  have g2' := ne_of g2
  go_enter Tryz.func24, Tryz.ntmps24
  go_wp2_with fail
  go_region_held3 (fun W => W.cell? ⟨w.heap.size, 0, none⟩ = some (.int .i64 a1) ∧ W.cell? ⟨w.heap.size, 1, none⟩ = some (.int .i64 a2) ∧ W.cell? ⟨w.heap.size, 2, none⟩ = some (.int .i64 a3) ∧ W.cell? ⟨w.heap.size, 3, none⟩ = some (.string a4) ∧
      W.cell? ⟨w.heap.size + 1, 0, none⟩ = some (.int .i64 b1) ∧ W.cell? ⟨w.heap.size + 1, 1, none⟩ = some (.int .i64 b2) ∧ W.cell? ⟨w.heap.size + 1, 2, none⟩ = some (.int .i64 b3) ∧ W.cell? ⟨w.heap.size + 1, 3, none⟩ = some (.string b4) ∧ Frm w W ∧ w.heap.size + 1 < W.heap.size)
    (first | exact box2_start _ _ _ _ _ _ _ _ _ _ _ rfl | with_reducible assumption | exact box2_step (by with_reducible assumption) (by with_reducible assumption) | exact box2_step (by with_reducible assumption) (below_alloc _ _))
    (first
      | (go_at_call_of 73 (Value.int IntKind.i64 a1); refine (H1.out _).mono ?_; rintro e w' ⟨rfl, rfl⟩)
      | (go_at_call_of 73 (Value.int IntKind.i64 a2); refine (H2.out _).mono ?_; rintro e w' ⟨rfl, rfl⟩)
      | (go_at_call_of 73 (Value.int IntKind.i64 a3); refine (H3.out _).mono ?_; rintro e w' ⟨rfl, rfl⟩)
      | (go_at_call 72; refine (HO.out _ _ (by simp)).mono ?_; rintro e w' ⟨rfl, rfl⟩))
  obtain ⟨W1, hW1, hS1⟩ : ∃ W1, W1 = (((w.alloc (.cells #[.int .i64 a1, .int .i64 a2, .int .i64 a3, .string a4] 23)).alloc (.cells #[.int .i64 b1, .int .i64 b2, .int .i64 b3, .string b4] 23)).alloc (.cells #[.int .i64 x1, .int .i64 x2, .int .i64 x3] 3)).drew ∧ (W1.cell? ⟨w.heap.size, 3, none⟩ = some (.string a4) ∧ W1.cell? ⟨w.heap.size + 1, 3, none⟩ = some (.string b4) ∧ w.heap.size + 1 < W1.heap.size ∧ Below w.heap.size w W1) :=
    ⟨_, rfl, (by assumption : _ ∧ _ ∧ _ ∧ _ ∧ _ ∧ _ ∧ _ ∧ _ ∧ _ ∧ _).2.2.2.1, (by assumption : _ ∧ _ ∧ _ ∧ _ ∧ _ ∧ _ ∧ _ ∧ _ ∧ _ ∧ _).2.2.2.2.2.2.2.1, (by assumption : _ ∧ _ ∧ _ ∧ _ ∧ _ ∧ _ ∧ _ ∧ _ ∧ _ ∧ _).2.2.2.2.2.2.2.2.2, (held2_frm (by assumption)).1⟩
  rw [← hW1]
  obtain ⟨p1, p2, p3, p4⟩ := hS1
  have HB1 := Lib.hid p4
  clear p4 hW1 H1 H2 H3 HO
  go_wp2_with fail
  go_region_held3 (fun W => W.cell? ⟨w.heap.size, 3, none⟩ = some (.string a4) ∧ W.cell? ⟨w.heap.size + 1, 3, none⟩ = some (.string b4) ∧ Frm2 w W)
    (first | exact two_start (by with_reducible assumption) (by with_reducible assumption) (by with_reducible assumption) HB1.out | with_reducible assumption | exact two_step (by with_reducible assumption) (by with_reducible assumption))
    (first
      | (go_at_call_of 60 (Value.string a4); refine (S1.out _ (held_good2 (by with_reducible assumption) Hw.out)).mono ?_; rintro e w' ⟨c1, rfl, hs1⟩; have hb1 := hs1.2.2.2.2)
      | (go_at_call_of 60 (Value.string b4); refine (S2.out _ (held_good2 (by with_reducible assumption) Hw.out)).mono ?_; rintro e w' ⟨c2, rfl, hs2⟩; have hb2 := hs2.2.2.2.2))
  obtain ⟨hc1, hl1, _, hx1, _⟩ := hs1
  obtain ⟨hc2, hl2, _, hx2, _⟩ := hs2
  have l1 : c1 < w'.heap.size := Nat.lt_of_lt_of_le hl1 hb2.size
  have X1 : Hid (∀ j (hj : j < l.length), w'.cell? ⟨c1, j, none⟩ = some (.string l[j])) := Lib.hid fun j hj => (hb2.cell (p := ⟨c1, j, none⟩) hl1).trans (hx1 j hj)
  have X2 := Lib.hid hx2
  have HW : Hid (Below w.heap.size w w') := Lib.hid ((by with_reducible assumption : _ ∧ _ ∧ Frm2 w w').2.2.1)
  clear hx1 hx2 hc1 hc2 hb1 hb2 hl1 p1 p2 p3 HB1 S1 S2
  have HWS := Lib.hid (Hw.out.mono HW.out)
  have HI := Lib.hid (Tryz.cmp_Compare_int (l.length : Int) (m.length : Int))
  clear Hw
  go_wp2
  go_loopw [64] (fun i wr => ∃ k : Nat, k ≤ l.length ∧ k ≤ m.length ∧ i = .int .i64 k ∧ Aside (P.listCmp l m = P.listCmp (l.drop k) (m.drop k)) ∧ Below w'.heap.size w' wr) (fun i _ => l.length - (intOf i).toNat)
  case atStart => exact ⟨0, Nat.zero_le _, Nat.zero_le _, rfl, aside (by simp), Below.refl _ _⟩
  case round =>
    obtain ⟨k, hk1, hk2, rfl, A, hbw⟩ := hrel
    have HB := Lib.hid hbw
    clear hbw
    by_cases hlt : k < l.length ∧ k < m.length
    · obtain ⟨q1, q2⟩ := hlt
      have hmin : (k : Int) < min (l.length : Int) (m.length : Int) := by omega
      have q1' : (k : Int) < (l.length : Int) := by omega
      have q2' : (k : Int) < (m.length : Int) := by omega
      have cellx := (HB.out.cell (p := ⟨c1, k, none⟩) l1).trans (X1.out k q1)
      have celly := (HB.out.cell (p := ⟨c2, k, none⟩) hl2).trans (X2.out k q2)
      have hstep := A.out.trans (listCmp_ref q1 q2 HL.out HM.out)
      have sx := P.word_size (HL.out k q1)
      have sy := P.word_size (HM.out k q2)
      clear A
      generalize l[k] = x at *
      generalize m[k] = y at *
      have hx := fun W => of_any x _ P.dig setDigits (by omega) W
      have hy := fun W => of_any y _ P.dig setDigits (by omega) W
      have HA := Lib.hid (fun W hW => atoi_word x (by omega) W hW)
      have HB2 := Lib.hid (fun W hW => atoi_word y (by omega) W hW)
      have HC := Lib.hid (Tryz.strings_Compare x y)
      have HN := Lib.hid (Tryz.cmp_Compare_int (P.atoiV x) (P.atoiV y))
      have hdef : P.refCmp x y = if P.allS P.dig x then (if P.allS P.dig y then Lib.compareInt (P.atoiV x) (P.atoiV y) else -1) else if P.allS P.dig y then 1 else Lib.compareBytes x.data.toList y.data.toList := rfl
      generalize P.refCmp x y = rc at *
      generalize P.atoiV x = vx at *
      generalize P.atoiV y = vy at *
      generalize Lib.compareInt vx vy = ni at *
      generalize Lib.compareBytes x.data.toList y.data.toList = cb at *
      cases d1 : P.allS P.dig x <;> cases d2 : P.allS P.dig y <;> rw [d1, d2] at hdef <;> rw [d1] at hx <;> rw [d2] at hy <;> simp only [if_true, Bool.false_eq_true, if_false] at hdef <;> subst hdef <;> clear d1 d2
      all_goals
        have HX := Lib.hid hx
        have HY := Lib.hid hy
        clear hx hy
        have hstep' := Lib.hid hstep
        clear hstep
        go_wp2_with fail
        go_region_held3 (fun W => W.cell? ⟨c1, k, none⟩ = some (.string x) ∧ W.cell? ⟨c2, k, none⟩ = some (.string y) ∧ FrmB w' W)
          (first | exact pair_start (by with_reducible assumption) (by with_reducible assumption) HB.out | with_reducible assumption | exact pair_step l1 hl2 (by with_reducible assumption) (by with_reducible assumption))
          (first
            | (go_at_call_of 61 (Value.string x); refine (HX.out _).mono ?_; rintro e u ⟨rfl, hb1⟩)
            | (go_at_call_of 61 (Value.string y); refine (HY.out _).mono ?_; rintro e u ⟨rfl, hb2⟩))
        have hS := (by with_reducible assumption : _ ∧ _ ∧ FrmB w' u)
        obtain ⟨cx, cy, hf⟩ := hS
        have HF := Lib.hid hf
        clear hf
        go_wp2_with fail
        refine (HA.out _ (HWS.out.mono HF.out)).mono ?_
        rintro e u2 ⟨ev, rfl, hb3⟩
        obtain ⟨cx2, cy2, hf2⟩ := pair_step l1 hl2 ⟨cx, cy, HF.out⟩ hb3
        have HF2 := Lib.hid hf2
        clear hb3 hf2 cx cy
        go_wp2_with fail
        refine (HB2.out _ (HWS.out.mono HF2.out)).mono ?_
        rintro e u3 ⟨ev2, rfl, hb4⟩
        obtain ⟨cx3, cy3, hf3⟩ := pair_step l1 hl2 ⟨cx2, cy2, HF2.out⟩ hb4
        have HF3 := Lib.hid hf3
        clear hb4 hf3 cx2 cy2
        go_wp2_with fail
        go_quiet ((go_at_call 75; exact Calls.quiet_of_same (HC.out _)))
      · by_cases hz : rc = 0
        · subst hz
          go_wp2
          go_roundw
          case rel => exact ⟨k + 1, by omega, by omega, by go_num, aside (by rw [hstep'.out]; simp), (below_drewN' HF3.out _)⟩
          case measure => simp [intOf]; omega
        · have hz' : (rc != 0) = true := by simpa using hz
          have hstep2 := Lib.hid (hstep'.out.trans (if_neg hz))
          clear hz
          go_wp2
          go_ret
          exact ⟨by rw [hstep2.out]; rfl, HW.out.trans (below_drewN' (HF3.out.mono HW.out.size) _)⟩
      · have hstep2 := Lib.hid (hstep'.out.trans (if_neg (by decide)))
        go_wp2
        go_ret
        exact ⟨by rw [hstep2.out]; rfl, HW.out.trans (below_drewN' (HF3.out.mono HW.out.size) _)⟩
      · have hstep2 := Lib.hid (hstep'.out.trans (if_neg (by decide)))
        go_wp2
        go_ret
        exact ⟨by rw [hstep2.out]; rfl, HW.out.trans (below_drewN' (HF3.out.mono HW.out.size) _)⟩
      · by_cases hz : rc = 0
        · subst hz
          go_wp2_with (go_at_call 73; refine (HN.out _).mono ?_; rintro e w' ⟨rfl, rfl⟩)
          go_roundw
          case rel => exact ⟨k + 1, by omega, by omega, by go_num, aside (by rw [hstep'.out]; simp), (below_drewN' HF3.out _)⟩
          case measure => simp [intOf]; omega
        · have hz' : (rc != 0) = true := by simpa using hz
          have hstep2 := Lib.hid (hstep'.out.trans (if_neg hz))
          clear hz
          go_wp2_with (go_at_call 73; refine (HN.out _).mono ?_; rintro e w' ⟨rfl, rfl⟩)
          go_ret
          exact ⟨by rw [hstep2.out]; rfl, HW.out.trans (below_drewN' (HF3.out.mono HW.out.size) _)⟩
    · have hmin : ¬ (k : Int) < min (l.length : Int) (m.length : Int) := by omega
      have hend := Lib.hid (A.out.trans (listCmp_rest hlt hk1 hk2))
      clear A
      go_wp2_with (go_at_call 73; refine (HI.out _).mono ?_; rintro e w' ⟨rfl, rfl⟩)
      go_ret
      exact ⟨by rw [hend.out]; rfl, HW.out.trans (HB.out.mono HW.out.size)⟩
end Go.Proofs.YtffblkkhjphcfaaGreatDoor
