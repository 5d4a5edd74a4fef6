/- Walks: the law TextsMatch. -/
import Derived.Test.YtgdpbdgaldiggaaGreatDoorZMOpen
import Derived.Test.YtgdpbdgaldiggaaGreatDoorZMWCompact
import Derived.Test.YtgdpbdgaldiggaaGreatDoorZTWrite
import Derived.Test.YtgdpbdgaldiggaaGreatDoorZUSvc
import Derived.Test.YtgdpbdgaldiggaaGreatDoorZUPure

namespace Go.Proofs.YtgdpbdgaldiggaaGreatDoor
open Go.RowKit Go.Shelf

/-- the law's box and its fitted machine -/
structure UM (w W : World) (ra : Array Value) (A : Ad) (a : P.Mach) : Prop where
  m : HasRow W w.heap.size ra
  z : Below w.heap.size w W
  l : Lies W.heap.size W A a
theorem UM.below {w W W' : World} {ra : Array Value} {A : Ad} {a : P.Mach} (h : UM w W ra A a) (hb : Below W.heap.size W W') : UM w W' ra A a := ⟨h.m.below hb, bstep h.z hb, (h.l.below hb).up hb.size⟩
theorem UM.cells {w W : World} {u0 u1 u2 u3 : Value} {A : Ad} {a : P.Mach} (h : UM w W #[u0, u1, u2, u3] A a) : W.cell? ⟨w.heap.size, 0, none⟩ = some u0 ∧ W.cell? ⟨w.heap.size, 1, none⟩ = some u1 ∧ W.cell? ⟨w.heap.size, 2, none⟩ = some u2 ∧ W.cell? ⟨w.heap.size, 3, none⟩ = some u3 :=
  ⟨h.m.cell 0, h.m.cell 1, h.m.cell 2, h.m.cell 3⟩
theorem Lies.alloc {w : World} {A : Ad} {m : P.Mach} (h : Lies w.heap.size w A m) (o : Obj) : Lies (w.alloc o).heap.size (w.alloc o) A m := (h.below (below_alloc w o)).up (below_alloc w o).size
theorem quote_le (s : ByteArray) : (P.quote s).size ≤ 4 * s.size + 2 := by
  have := P.quoteL_le s.data.toList
  rw [P.size_len] at this
  unfold P.quote
  rw [P.txt_size]; exact this

set_option maxRecDepth 100000 in
set_option maxHeartbeats 16000000 in
theorem law_texts (s t : ByteArray) (hs : s.size ≤ 2000000) (ht : t.size ≤ 2000000) (A : Ad) (a : P.Mach) (hfa : a.fit) (w : World) (hw : Good w) (he : Es w) (hl : Lies w.heap.size w A a) :
    Calls Tryz.prog 8 #[.string s, .string t, machV A a] w fun e w' => e = .returned (.bool true) ∧ Below w.heap.size w w' := by
  have HL0 := Lib.hid landed_any
  have HFit := Lib.hid (fun W hW hL => fit_any A a hfa W hW hL)
  have hq := quote_le s
  have HQ := Lib.hid (fun W => dquote_any s (by omega) W)
  have HRQ := Lib.hid (fun W => rquote_any s (by omega) W)
  have HU1 := Lib.hid (fun W hW hE => dunquote_any (P.quote s) (by omega) W hW hE)
  have HU2 := Lib.hid (fun W hW hE => dunquote_any t (by omega) W hW hE)
  have HRU := Lib.hid (fun W hW => runquote_any t (by omega) W hW)
  have HW := Lib.hid hw
  have HE := Lib.hid he
  have HL := Lib.hid hl
  rw [P.unquote_quote] at HU1
  generalize P.quote s = q at *
  generalize P.unquote t = u at *
  obtain ⟨uv, un⟩ := u
  unfold unquoteOut at HU1 HU2 HRU
  simp only at HU1 HU2 HRU
  unfold FitPost at HFit
  clear hw hl hfa he hq hs ht
  obtain ⟨x1, x2, x3, x4, k1, k2, k3, k4⟩ := A
  obtain ⟨X1, X2, X3, X4⟩ := a
  unfold machV at HFit ⊢
  simp only at HFit ⊢
  have HT0 : Hid (UM w (w.alloc (.cells #[.slice x1 X1.length k1, .slice x2 X2.length k2, .slice x3 X3.length k3, .slice x4 X4.length k4] 26)) #[.slice x1 X1.length k1, .slice x2 X2.length k2, .slice x3 X3.length k3, .slice x4 X4.length k4] ⟨x1, x2, x3, x4, k1, k2, k3, k4⟩ ⟨X1, X2, X3, X4⟩) :=
    Lib.hid ⟨HasRow.new w _ 26, below_alloc w _, (HL.out.below (below_alloc w _)).up (below_alloc w _).size⟩
  have HG : Hid (∀ W, UM w W #[.slice x1 X1.length k1, .slice x2 X2.length k2, .slice x3 X3.length k3, .slice x4 X4.length k4] ⟨x1, x2, x3, x4, k1, k2, k3, k4⟩ ⟨X1, X2, X3, X4⟩ → Good W ∧ Es W) := Lib.hid (fun W h => ⟨HW.out.mono h.z, HE.out.mono HW.out h.z⟩)
  go_enter Tryz.func8, Tryz.ntmps8
  go_wp2_with (first
    | (go_at_call 9; refine (HL0.out _).mono ?_; rintro e w0 ⟨rfl, hw0⟩; rw [hw0] at HT0; clear hw0)
    | (go_at_call 52; refine (HQ.out _).mono ?_; rintro e w1 ⟨rfl, hb1⟩; have HT1 := Lib.hid (HT0.out.below hb1))
    | (go_at_call_of 53 (Value.string q); refine (HU1.out _ (HG.out _ HT1.out).1 (HG.out _ HT1.out).2).mono ?_; rintro e w2 ⟨rfl, hb2⟩; have HT2 := Lib.hid (HT1.out.below hb2))
    | (go_at_call 54; refine (HRQ.out _).mono ?_; rintro e w3 ⟨rfl, hb3⟩; have HT3 := Lib.hid (HT2.out.below hb3))
    | (go_at_call_of 53 (Value.string t); refine (HU2.out _ (HG.out _ HT3.out).1 (HG.out _ HT3.out).2).mono ?_; rintro e w4 ⟨rfl, hb4⟩; have HT4 := Lib.hid (HT3.out.below hb4))
    | (go_at_call 55; refine (HRU.out _ (HG.out _ HT4.out).1).mono ?_; rintro e w5 ⟨rfl, hb5⟩; have HT5 := Lib.hid (HT4.out.below hb5); obtain ⟨d0, d1, d2, d3⟩ := HT5.out.cells))
  refine (HFit.out _ (HG.out _ HT5.out).1 HT5.out.l).mono ?_
  rintro e w6 ⟨A', m', rfl, hright, hlies, hb6, hor⟩
  have hR := HT5.out.m.below hb6
  have HB6 := Lib.hid (bstep HT5.out.z hb6)
  obtain ⟨a1, a2, a3, a4, c1, c2, c3, c4⟩ := A'
  obtain ⟨F, I, S, V⟩ := m'
  simp only at hlies hor ⊢
  obtain ⟨g0, g1, g2, g3, _⟩ := hrow4 hR
  have f0 := hR.free 0
  have f1 := hR.free 1
  have f2 := hR.free 2
  have f3 := hR.free 3
  have hg4 := grown_set4 w6 w.heap.size (.slice a1 F.length c1) (.slice a2 I.length c2) (.slice a3 S.length c3) (.slice a4 V.length c4)
  have HT6 : Hid (UM w _ #[.slice a1 F.length c1, .slice a2 I.length c2, .slice a3 S.length c3, .slice a4 V.length c4] ⟨a1, a2, a3, a4, c1, c2, c3, c4⟩ ⟨F, I, S, V⟩) := Lib.hid ⟨(store4 hR HB6.out (Nat.le_refl _) (.slice a1 F.length c1) (.slice a2 I.length c2) (.slice a3 S.length c3) (.slice a4 V.length c4)).1, (store4 hR HB6.out (Nat.le_refl _) (.slice a1 F.length c1) (.slice a2 I.length c2) (.slice a3 S.length c3) (.slice a4 V.length c4)).2, by
    rcases hor with ⟨e1, e2⟩ | hup
    · rw [e1, e2]
      exact (HL.out.below (store4 hR HB6.out (Nat.le_refl _) (.slice a1 F.length c1) (.slice a2 I.length c2) (.slice a3 S.length c3) (.slice a4 V.length c4)).2).up (by simpa [World.setCell] using HB6.out.size)
    · exact (hup.grown hg4 HT5.out.m.lt).l⟩
  have HRi := Lib.hid hright
  clear hR hright hlies hb6 hor hg4 HFit HT5 HB6 d0 d1 d2 d3 HG HL HT0 HT1 HT2 HT3 HT4 hb1 hb2 hb3 hb4 hb5 HQ HRQ HU1 HU2 HRU
  have HG : Hid (∀ W, UM w W #[.slice a1 F.length c1, .slice a2 I.length c2, .slice a3 S.length c3, .slice a4 V.length c4] ⟨a1, a2, a3, a4, c1, c2, c3, c4⟩ ⟨F, I, S, V⟩ → Good W ∧ Es W) := Lib.hid (fun W h => ⟨HW.out.mono h.z, HE.out.mono HW.out h.z⟩)
  go_wp2_with fail
  clear g0 g1 g2 g3 f0 f1 f2 f3
  generalize (((w6.setCell ⟨w.heap.size, 0, none⟩ (.slice a1 F.length c1)).setCell ⟨w.heap.size, 1, none⟩ (.slice a2 I.length c2)).setCell ⟨w.heap.size, 2, none⟩ (.slice a3 S.length c3)).setCell ⟨w.heap.size, 3, none⟩ (.slice a4 V.length c4) = w7 at *
  have HP := Lib.hid (fun W hL => rprint_any ⟨a1, a2, a3, a4, c1, c2, c3, c4⟩ ⟨F, I, S, V⟩ HRi.out W hL)
  have HD := Lib.hid (fun W hW hL => dprint_any ⟨a1, a2, a3, a4, c1, c2, c3, c4⟩ ⟨F, I, S, V⟩ HRi.out W hW hL)
  have hread := P.read_print HRi.out
  have hsz := P.txt_size (P.printL ⟨F, I, S, V⟩)
  unfold machV at HP HD
  simp only at HP HD
  unfold joinOut at HD
  by_cases hlen : (P.printL ⟨F, I, S, V⟩).length ≤ 4194304
  · have HPa : Hid (∀ W, Good W → Es W → Calls Tryz.prog 56 #[.string (P.txt (P.printL ⟨F, I, S, V⟩))] W fun e w' => ∃ b1 b2 b3 b4 e1 e2 e3 e4, e = .returned (.tuple #[.agg #[.slice b1 F.length e1, .slice b2 I.length e2, .slice b3 S.length e3, .slice b4 V.length e4], .int .i64 0, .int .i64 0]) ∧
        Lies w'.heap.size w' ⟨b1, b2, b3, b4, e1, e2, e3, e4⟩ ⟨F, I, S, V⟩ ∧ Below W.heap.size W w') := Lib.hid (fun W hW hE => (dparse_ok (P.txt (P.printL ⟨F, I, S, V⟩)) 4194304 (by rw [hsz]; exact hlen) (Nat.le_refl _) ⟨F, I, S, V⟩ HRi.out hread W hW hE).mono (fun e w' h => by
          obtain ⟨⟨b1, b2, b3, b4, e1, e2, e3, e4⟩, h1, h2, h3⟩ := h
          exact ⟨b1, b2, b3, b4, e1, e2, e3, e4, h1, h2, h3⟩))
    have HSm : Hid (∀ b1 b2 b3 b4 e1 e2 e3 e4 W, Lies W.heap.size W ⟨b1, b2, b3, b4, e1, e2, e3, e4⟩ ⟨F, I, S, V⟩ → Lies W.heap.size W ⟨a1, a2, a3, a4, c1, c2, c3, c4⟩ ⟨F, I, S, V⟩ →
        Calls Tryz.prog 43 #[.agg #[.slice b1 F.length e1, .slice b2 I.length e2, .slice b3 S.length e3, .slice b4 V.length e4], .agg #[.slice a1 F.length c1, .slice a2 I.length c2, .slice a3 S.length c3, .slice a4 V.length c4]] W fun e w' => e = .returned (.bool true) ∧ Below W.heap.size W w') := Lib.hid (fun b1 b2 b3 b4 e1 e2 e3 e4 W h1 h2 => (rsame_any ⟨b1, b2, b3, b4, e1, e2, e3, e4⟩ ⟨a1, a2, a3, a4, c1, c2, c3, c4⟩ ⟨F, I, S, V⟩ ⟨F, I, S, V⟩ HRi.out.fit W h1 h2).mono (fun e w' h => by
          obtain ⟨⟨x, h1, h2⟩, h3⟩ := h
          exact ⟨by rw [h1, h2.2 rfl], h3⟩))
    rw [if_pos hlen] at HD
    have g : decide ((4194304 : Int) < ((P.txt (P.printL ⟨F, I, S, V⟩)).size : Int)) = false := decide_eq_false (by rw [hsz]; omega)
    clear hlen hread hsz
    generalize P.txt (P.printL ⟨F, I, S, V⟩) = tx at *
    clear HRi
    obtain ⟨d0, d1, d2, d3⟩ := HT6.out.cells
    go_wp2_with (first
      | (go_at_call 50; refine (HP.out _ HT6.out.l).mono ?_; rintro e w8 ⟨rfl, hb8⟩; have HT8 := Lib.hid (HT6.out.below hb8); obtain ⟨p0, p1, p2, p3⟩ := HT8.out.cells)
      | (go_at_call 15; refine (HD.out _ (HG.out _ HT8.out).1 HT8.out.l).mono ?_; rintro e w9 ⟨rfl, hb9⟩; have HT9 := Lib.hid (HT8.out.below hb9))
      | (go_at_call 56; refine (HPa.out _ (HG.out _ HT9.out).1 (HG.out _ HT9.out).2).mono ?_; rintro e w10 ⟨b1, b2, b3, b4, e1, e2, e3, e4, rfl, hl10, hb10⟩; have HT11 := Lib.hid ((HT9.out.below hb10).below (below_alloc w10 (.cells #[.slice b1 F.length e1, .slice b2 I.length e2, .slice b3 S.length e3, .slice b4 V.length e4] 26))); obtain ⟨q0, q1, q2, q3⟩ := HT11.out.cells; have HL11 := Lib.hid (hl10.alloc (.cells #[.slice b1 F.length e1, .slice b2 I.length e2, .slice b3 S.length e3, .slice b4 V.length e4] 26)))
      | (go_at_call 43; refine (HSm.out _ _ _ _ _ _ _ _ _ HL11.out HT11.out.l).mono ?_; rintro e w12 ⟨rfl, hb12⟩))
    have HZ := Lib.hid (bstep HT11.out.z hb12)
    go_ret
    exact ⟨rfl, HZ.out⟩
  · rw [if_neg hlen] at HD
    have g : decide ((4194304 : Int) < ((P.txt (P.printL ⟨F, I, S, V⟩)).size : Int)) = true := decide_eq_true (by rw [hsz]; omega)
    clear hlen hread hsz
    generalize P.txt (P.printL ⟨F, I, S, V⟩) = tx at *
    clear HRi
    obtain ⟨d0, d1, d2, d3⟩ := HT6.out.cells
    go_wp2_with (first
      | (go_at_call 50; refine (HP.out _ HT6.out.l).mono ?_; rintro e w8 ⟨rfl, hb8⟩; have HT8 := Lib.hid (HT6.out.below hb8); obtain ⟨p0, p1, p2, p3⟩ := HT8.out.cells)
      | (go_at_call 15; refine (HD.out _ (HG.out _ HT8.out).1 HT8.out.l).mono ?_; rintro e w9 ⟨rfl, hb9⟩; have HT9 := Lib.hid (HT8.out.below hb9)))
    have HZ := Lib.hid HT9.out.z
    go_ret
    exact ⟨rfl, HZ.out⟩
end Go.Proofs.YtgdpbdgaldiggaaGreatDoor
