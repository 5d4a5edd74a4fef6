/- Walks: the law MachinesParse. -/
import Derived.Test.YtkibmoekadmjnaaGreatDoorZHParse
import Derived.Test.YtkibmoekadmjnaaGreatDoorZMOpen
import Derived.Test.YtkibmoekadmjnaaGreatDoorZTSame

namespace Go.Proofs.YtkibmoekadmjnaaGreatDoor
open Go.RowKit Go.Shelf

namespace P
theorem parse_fit (t : ByteArray) : (parse t).1.fit := by
  have h0 : m0.fit := ⟨by simp, by simp, by simp, by simp, fun k hk => absurd hk (Nat.not_lt_zero k), fun k hk => absurd hk (Nat.not_lt_zero k), fun k hk => absurd hk (Nat.not_lt_zero k), fun k hk => absurd hk (Nat.not_lt_zero k)⟩
  unfold parse
  split
  · exact h0
  · split
    · exact h0
    · split
      · exact h0
      · have hsm := readAll_small t
        exact hsm.1.fit (by omega) (by omega)
end P
theorem lies_alloc {w : World} {A : Ad} {m : P.Mach} (h : Lies w.heap.size w A m) (o : Obj) : Lies (w.alloc o).heap.size (w.alloc o) A m := (h.below (below_alloc w o)).up (below_alloc w o).size

set_option maxRecDepth 100000 in
set_option maxHeartbeats 4000000 in
theorem law_mparse (t : ByteArray) (w : World) (hw : Good w) (he : Es w) :
    Calls Tryz.prog 9 #[.string t] w fun e w' => e = .returned (.bool true) ∧ Below w.heap.size w w' := by
  have HL0 := Lib.hid landed_any
  have HD := Lib.hid (dparse_any t w hw he)
  have HR := Lib.hid (fun W (hW : Good W) (_ : Es W) => rrparse_any t W hW)
  have HSm := Lib.hid (fun A B W hl hm => rsame_any A B (P.parse t).1 (P.parse t).1 (P.parse_fit t) W hl hm)
  have HW := Lib.hid hw
  have HE := Lib.hid he
  unfold PA at HD HR
  clear hw he
  generalize P.parse t = r at *
  obtain ⟨⟨F, I, S, V⟩, k, e⟩ := r
  simp only at HD HR HSm
  replace HD : Hid (Calls Tryz.prog 59 #[.string t] w fun e' w' => ∃ a1 a2 a3 a4 c1 c2 c3 c4, e' = .returned (.tuple #[.agg #[.slice a1 F.length c1, .slice a2 I.length c2, .slice a3 S.length c3, .slice a4 V.length c4], .int .i64 (k : Int), .int .i64 e]) ∧ Lies w'.heap.size w' ⟨a1, a2, a3, a4, c1, c2, c3, c4⟩ ⟨F, I, S, V⟩ ∧ Below w.heap.size w w') :=
    Lib.hid (HD.out.mono fun e' w' h => by
      obtain ⟨⟨b1, b2, b3, b4, e1, e2, e3, e4⟩, h1, h2, h3⟩ := h
      exact ⟨b1, b2, b3, b4, e1, e2, e3, e4, h1, h2, h3⟩)
  replace HR : Hid (∀ W, Good W → Es W → Calls Tryz.prog 60 #[.string t] W fun e' w' => ∃ a1 a2 a3 a4 c1 c2 c3 c4, e' = .returned (.tuple #[.agg #[.slice a1 F.length c1, .slice a2 I.length c2, .slice a3 S.length c3, .slice a4 V.length c4], .int .i64 (k : Int), .int .i64 e]) ∧ Lies w'.heap.size w' ⟨a1, a2, a3, a4, c1, c2, c3, c4⟩ ⟨F, I, S, V⟩ ∧ Below W.heap.size W w') :=
    Lib.hid (fun W hW hE => (HR.out W hW hE).mono fun e' w' h => by
      obtain ⟨⟨b1, b2, b3, b4, e1, e2, e3, e4⟩, h1, h2, h3⟩ := h
      exact ⟨b1, b2, b3, b4, e1, e2, e3, e4, h1, h2, h3⟩)
  replace HSm : Hid (∀ a1 a2 a3 a4 c1 c2 c3 c4 b1 b2 b3 b4 e1 e2 e3 e4 W, Lies W.heap.size W ⟨a1, a2, a3, a4, c1, c2, c3, c4⟩ ⟨F, I, S, V⟩ → Lies W.heap.size W ⟨b1, b2, b3, b4, e1, e2, e3, e4⟩ ⟨F, I, S, V⟩ →
      Calls Tryz.prog 46 #[.agg #[.slice a1 F.length c1, .slice a2 I.length c2, .slice a3 S.length c3, .slice a4 V.length c4], .agg #[.slice b1 F.length e1, .slice b2 I.length e2, .slice b3 S.length e3, .slice b4 V.length e4]] W fun e w' => e = .returned (.bool true) ∧ Below W.heap.size W w') :=
    Lib.hid (fun a1 a2 a3 a4 c1 c2 c3 c4 b1 b2 b3 b4 e1 e2 e3 e4 W h1 h2 => (HSm.out ⟨a1, a2, a3, a4, c1, c2, c3, c4⟩ ⟨b1, b2, b3, b4, e1, e2, e3, e4⟩ W h1 h2).mono fun e w' h => by
      obtain ⟨⟨x, h1, h2⟩, h3⟩ := h
      exact ⟨by rw [h1, h2.2 trivial], h3⟩)
  go_enter Tryz.func9, Tryz.ntmps9
  go_wp2_with (first
    | (go_at_call 12; refine (HL0.out _).mono ?_; rintro e w0 ⟨rfl, rfl⟩)
    | (go_at_call 59; refine HD.out.mono ?_; rintro e w1 ⟨a1, a2, a3, a4, c1, c2, c3, c4, rfl, hl1, hb1⟩; have HB1 := Lib.hid (bstep hb1 (below_alloc w1 (.cells #[.slice a1 F.length c1, .slice a2 I.length c2, .slice a3 S.length c3, .slice a4 V.length c4] 26))); have HL1 := Lib.hid (lies_alloc hl1 (.cells #[.slice a1 F.length c1, .slice a2 I.length c2, .slice a3 S.length c3, .slice a4 V.length c4] 26)); have HM1 := Lib.hid (HasRow.new w1 #[.slice a1 F.length c1, .slice a2 I.length c2, .slice a3 S.length c3, .slice a4 V.length c4] 26))
    | (go_at_call 60; refine (HR.out _ (HW.out.mono HB1.out) (HE.out.mono HW.out HB1.out)).mono ?_; rintro e w2 ⟨b1, b2, b3, b4, e1, e2, e3, e4, rfl, hl2, hb2⟩; have HB2 := Lib.hid (bstep HB1.out (bstep hb2 (below_alloc w2 (.cells #[.slice b1 F.length e1, .slice b2 I.length e2, .slice b3 S.length e3, .slice b4 V.length e4] 26)))); obtain ⟨p0, p1, p2, p3, _⟩ := hrow4 ((HM1.out.below hb2).alloc (.cells #[.slice b1 F.length e1, .slice b2 I.length e2, .slice b3 S.length e3, .slice b4 V.length e4] 26)); obtain ⟨n0, n1, n2, n3, _⟩ := hrow4 (HasRow.new w2 #[.slice b1 F.length e1, .slice b2 I.length e2, .slice b3 S.length e3, .slice b4 V.length e4] 26); have HLa := Lib.hid ((HL1.out.below (bstep hb2 (below_alloc w2 (.cells #[.slice b1 F.length e1, .slice b2 I.length e2, .slice b3 S.length e3, .slice b4 V.length e4] 26)))).up (bstep hb2 (below_alloc w2 (.cells #[.slice b1 F.length e1, .slice b2 I.length e2, .slice b3 S.length e3, .slice b4 V.length e4] 26))).size); have HLb := Lib.hid (lies_alloc hl2 (.cells #[.slice b1 F.length e1, .slice b2 I.length e2, .slice b3 S.length e3, .slice b4 V.length e4] 26)))
    | (go_at_call 46; refine (HSm.out _ _ _ _ _ _ _ _ _ _ _ _ _ _ _ _ _ HLa.out HLb.out).mono ?_; rintro e w3 ⟨rfl, hb3⟩))
  have HZ := Lib.hid (bstep HB2.out hb3)
  go_ret
  exact ⟨rfl, HZ.out⟩
end Go.Proofs.YtkibmoekadmjnaaGreatDoor
