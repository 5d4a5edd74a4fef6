/- Walks: the law SumsMatch. (Written by wip/gen/genlaw.py.) -/
import Derived.Test.YtgdpbdgaldiggaaGreatDoorZMLaw1
import Derived.Test.YtgdpbdgaldiggaaGreatDoorZMWFitA
import Derived.Test.YtgdpbdgaldiggaaGreatDoorZTJoin
import Derived.Test.YtgdpbdgaldiggaaGreatDoorZTSame
import Derived.Test.YtgdpbdgaldiggaaGreatDoorZTBoot
import Derived.Deep.RegionHeld3

namespace Go.Proofs.YtgdpbdgaldiggaaGreatDoor
open Go.RowKit Go.Shelf

/-- the law's two boxes -/
structure TL (w W : World) (ra rb : Array Value) (A B : Ad) (a b : P.Mach) : Prop where
  m : HasRow W w.heap.size ra
  n : HasRow W (w.heap.size + 1) rb
  z : Below w.heap.size w W
  l : Lies W.heap.size W A a
  k : Lies W.heap.size W B b
theorem TL.below {w W W' : World} {ra rb : Array Value} {A B : Ad} {a b : P.Mach} (h : TL w W ra rb A B a b) (hb : Below W.heap.size W W') : TL w W' ra rb A B a b := ⟨h.m.below hb, h.n.below hb, bstep h.z hb, (h.l.below hb).up hb.size, (h.k.below hb).up hb.size⟩
theorem TL.drew {w W : World} {ra rb : Array Value} {A B : Ad} {a b : P.Mach} (h : TL w W ra rb A B a b) : TL w W.drew ra rb A B a b := ⟨h.m.drew, h.n.drew, h.z.drew, h.l.below (Below.refl _ _).drew, h.k.below (Below.refl _ _).drew⟩
theorem TL.cells {w W : World} {u0 u1 u2 u3 v0 v1 v2 v3 : Value} {A B : Ad} {a b : P.Mach} (h : TL w W #[u0, u1, u2, u3] #[v0, v1, v2, v3] A B a b) : W.cell? ⟨w.heap.size, 0, none⟩ = some u0 ∧ W.cell? ⟨w.heap.size, 1, none⟩ = some u1 ∧ W.cell? ⟨w.heap.size, 2, none⟩ = some u2 ∧ W.cell? ⟨w.heap.size, 3, none⟩ = some u3 ∧ W.cell? ⟨w.heap.size + 1, 0, none⟩ = some v0 ∧ W.cell? ⟨w.heap.size + 1, 1, none⟩ = some v1 ∧ W.cell? ⟨w.heap.size + 1, 2, none⟩ = some v2 ∧ W.cell? ⟨w.heap.size + 1, 3, none⟩ = some v3 :=
  ⟨h.m.cell 0, h.m.cell 1, h.m.cell 2, h.m.cell 3, h.n.cell 0, h.n.cell 1, h.n.cell 2, h.n.cell 3⟩
/-- the law's box and its fitted machine -/
structure TM (w W : World) (ra : Array Value) (A : Ad) (a : P.Mach) : Prop where
  m : HasRow W w.heap.size ra
  z : Below w.heap.size w W
  l : Lies W.heap.size W A a
theorem TM.below {w W W' : World} {ra : Array Value} {A : Ad} {a : P.Mach} (h : TM w W ra A a) (hb : Below W.heap.size W W') : TM w W' ra A a := ⟨h.m.below hb, bstep h.z hb, (h.l.below hb).up hb.size⟩
theorem TM.drew {w W : World} {ra : Array Value} {A : Ad} {a : P.Mach} (h : TM w W ra A a) : TM w W.drew ra A a := ⟨h.m.drew, h.z.drew, h.l.below (Below.refl _ _).drew⟩
theorem TM.cells {w W : World} {u0 u1 u2 u3 : Value} {A : Ad} {a : P.Mach} (h : TM w W #[u0, u1, u2, u3] A a) : W.cell? ⟨w.heap.size, 0, none⟩ = some u0 ∧ W.cell? ⟨w.heap.size, 1, none⟩ = some u1 ∧ W.cell? ⟨w.heap.size, 2, none⟩ = some u2 ∧ W.cell? ⟨w.heap.size, 3, none⟩ = some u3 :=
  ⟨h.m.cell 0, h.m.cell 1, h.m.cell 2, h.m.cell 3⟩
/-- behind fit: with what was -/
structure TQ (w w6 W : World) (ra : Array Value) (A : Ad) (a : P.Mach) : Prop where
  t : TM w W ra A a
  u : Below w6.heap.size w6 W
theorem TQ.below {w w6 W W' : World} {ra : Array Value} {A : Ad} {a : P.Mach} (h : TQ w w6 W ra A a) (hb : Below W.heap.size W W') : TQ w w6 W' ra A a := ⟨h.t.below hb, bstep h.u hb⟩
/-- behind the reference's Print and Boot -/
structure TN (w W : World) (ra : Array Value) (A : Ad) (a : P.Mach) (N : Nat) (p : Option Addr) (c : Nat) : Prop where
  t : TM w W ra A a
  n : HasRow W N #[.slice A.a1 a.facts.length A.c1, .slice A.a2 a.files.length A.c2, .slice A.a3 a.sets.length A.c3, .slice p a.svcs.length c]
  k : Lies W.heap.size W { A with a4 := p, c4 := c } (P.boot a)
theorem TN.below {w W W' : World} {ra : Array Value} {A : Ad} {a : P.Mach} {N : Nat} {p : Option Addr} {c : Nat} (h : TN w W ra A a N p c) (hb : Below W.heap.size W W') : TN w W' ra A a N p c := ⟨h.t.below hb, h.n.below hb, (h.k.below hb).up hb.size⟩
theorem tn_alloc {w W : World} {ra : Array Value} {A : Ad} {a : P.Mach} {p : Option Addr} {c : Nat} (h : TM w W ra A a) (hk : Lies W.heap.size W { A with a4 := p, c4 := c } (P.boot a)) :
    TN w (W.alloc (.cells #[.slice A.a1 a.facts.length A.c1, .slice A.a2 a.files.length A.c2, .slice A.a3 a.sets.length A.c3, .slice p a.svcs.length c] 26)) ra A a W.heap.size p c :=
  ⟨h.below (below_alloc _ _), HasRow.new _ _ _, (hk.below (below_alloc _ _)).up (below_alloc W _).size⟩
theorem tn_set {w w6 W : World} {N : Nat} {ra : Array Value} {A : Ad} {a : P.Mach} {p : Option Addr} {c : Nat} (h : TQ w w6 W ra A a) (h6 : Lies w6.heap.size w6 A a) (hk : Lies W.heap.size W { A with a4 := p, c4 := c } (P.boot a)) (hp : ∀ q, p = some q → q.block ≠ N) (hn : HasRow W N mz) (hN : w6.heap.size ≤ N) (hw : w.heap.size < N) :
    TN w ((((W.setCell ⟨N, 0, none⟩ (.slice A.a1 a.facts.length A.c1)).setCell ⟨N, 1, none⟩ (.slice A.a2 a.files.length A.c2)).setCell ⟨N, 2, none⟩ (.slice A.a3 a.sets.length A.c3)).setCell ⟨N, 3, none⟩ (.slice p a.svcs.length c)) ra A a N p c := by
  have hg := grown_set4 W N (.slice A.a1 a.facts.length A.c1) (.slice A.a2 a.files.length A.c2) (.slice A.a3 a.sets.length A.c3) (.slice p a.svcs.length c)
  have hs := store4 hn h.t.z (Nat.le_of_lt hw) (.slice A.a1 a.facts.length A.c1) (.slice A.a2 a.files.length A.c2) (.slice A.a3 a.sets.length A.c3) (.slice p a.svcs.length c)
  have hu := store4 hn h.u hN (.slice A.a1 a.facts.length A.c1) (.slice A.a2 a.files.length A.c2) (.slice A.a3 a.sets.length A.c3) (.slice p a.svcs.length c)
  have hl := (h6.below hu.2).up hu.2.size
  exact ⟨⟨row_but h.t.m hg (Nat.ne_of_lt hw), hs.2, hl⟩, hs.1, hl.f, hl.i, hl.s, svs_but hk.v hg hp⟩
theorem boot_fit {m : P.Mach} (h : m.fit) : (P.boot m).fit := by
  have hv := h.v
  refine ⟨h.l1, h.l2, h.l3, ?_, h.f, h.i, h.s, ?_⟩
  · show (m.svcs.map P.bootV).length ≤ _
    rw [List.length_map]; exact h.l4
  · intro k hk
    have hk' : k < m.svcs.length := by have : k < (m.svcs.map P.bootV).length := hk; simpa using this
    have e : (P.boot m).svcs[k] = P.bootV m.svcs[k] := List.getElem_map _
    rw [e]; exact hv k hk'
theorem bool_of_iff {x d : Bool} {p : Prop} (h : x = true ↔ p) (k : d = true ↔ p) : x = d := Bool.eq_iff_iff.2 (h.trans k.symm)

set_option maxRecDepth 100000 in
set_option maxHeartbeats 16000000 in
theorem law_sums (text : ByteArray) (hs : text.size ≤ 4294967280) (A B : Ad) (a b : P.Mach) (hfa : a.fit) (_hfb : b.fit) (w : World) (hw : Good w) (hT : Tz w) (hl : Lies w.heap.size w A a) (hm : Lies w.heap.size w B b) :
    Calls Tryz.prog 7 #[.string text, machV A a, machV B b] w fun e w' => e = .returned (.bool true) ∧ Below w.heap.size w w' := by
  have HL0 := Lib.hid landed_any
  have HFit := Lib.hid (fun W hW hL => fit_any A a hfa W hW hL)
  have HW := Lib.hid hw
  have HTz := Lib.hid hT
  have HL := Lib.hid hl
  have HM := Lib.hid hm
  obtain ⟨d, hd⟩ : ∃ d : Bool, (d = true ↔ a = b) := by
    by_cases h : a = b
    · exact ⟨true, by simp [h]⟩
    · exact ⟨false, by simp [h]⟩
  have HSd := Lib.hid (fun W hL hM => (dsame_any A B a b hfa W hL hM).mono (fun e w' h => show e = .returned (.bool d) ∧ Below W.heap.size W w' from ⟨by obtain ⟨⟨x, h1, h2⟩, _⟩ := h; rw [h1, bool_of_iff h2 hd], h.2⟩))
  have HSr := Lib.hid (fun W hL hM => (rsame_any A B a b hfa W hL hM).mono (fun e w' h => show e = .returned (.bool d) ∧ Below W.heap.size W w' from ⟨by obtain ⟨⟨x, h1, h2⟩, _⟩ := h; rw [h1, bool_of_iff h2 hd], h.2⟩))
  have HSa := Lib.hid (fun W hL => (dsame_any A A a a hfa W hL hL).mono (fun e w' h => show e = .returned (.bool true) ∧ Below W.heap.size W w' from ⟨by obtain ⟨⟨x, h1, h2⟩, _⟩ := h; rw [h1, h2.2 rfl], h.2⟩))
  unfold FitPost at HFit
  clear hw hl hm hfa hT hd
  obtain ⟨x1, x2, x3, x4, k1, k2, k3, k4⟩ := A
  obtain ⟨X1, X2, X3, X4⟩ := a
  obtain ⟨y1, y2, y3, y4, j1, j2, j3, j4⟩ := B
  obtain ⟨Y1, Y2, Y3, Y4⟩ := b
  unfold machV at HFit HSd HSr HSa ⊢
  simp only at HFit HSd HSr HSa ⊢
  have HM0 := Lib.hid ((HasRow.new w #[.slice x1 X1.length k1, .slice x2 X2.length k2, .slice x3 X3.length k3, .slice x4 X4.length k4] 26).alloc (.cells #[.slice y1 Y1.length j1, .slice y2 Y2.length j2, .slice y3 Y3.length j3, .slice y4 Y4.length j4] 26))
  have HN0 := HasRow.new (w.alloc (.cells #[.slice x1 X1.length k1, .slice x2 X2.length k2, .slice x3 X3.length k3, .slice x4 X4.length k4] 26)) #[.slice y1 Y1.length j1, .slice y2 Y2.length j2, .slice y3 Y3.length j3, .slice y4 Y4.length j4] 26
  rw [World.size_alloc] at HN0
  have HB0 := Lib.hid (below2 w (.cells #[.slice x1 X1.length k1, .slice x2 X2.length k2, .slice x3 X3.length k3, .slice x4 X4.length k4] 26) (.cells #[.slice y1 Y1.length j1, .slice y2 Y2.length j2, .slice y3 Y3.length j3, .slice y4 Y4.length j4] 26))
  have HT0 : Hid (TL w ((w.alloc (.cells #[.slice x1 X1.length k1, .slice x2 X2.length k2, .slice x3 X3.length k3, .slice x4 X4.length k4] 26)).alloc (.cells #[.slice y1 Y1.length j1, .slice y2 Y2.length j2, .slice y3 Y3.length j3, .slice y4 Y4.length j4] 26)) #[.slice x1 X1.length k1, .slice x2 X2.length k2, .slice x3 X3.length k3, .slice x4 X4.length k4] #[.slice y1 Y1.length j1, .slice y2 Y2.length j2, .slice y3 Y3.length j3, .slice y4 Y4.length j4] ⟨x1, x2, x3, x4, k1, k2, k3, k4⟩ ⟨y1, y2, y3, y4, j1, j2, j3, j4⟩ ⟨X1, X2, X3, X4⟩ ⟨Y1, Y2, Y3, Y4⟩) := Lib.hid ⟨HM0.out, HN0, HB0.out, (HL.out.below HB0.out).up HB0.out.size, (HM.out.below HB0.out).up HB0.out.size⟩
  have HG : Hid (∀ W, TL w W #[.slice x1 X1.length k1, .slice x2 X2.length k2, .slice x3 X3.length k3, .slice x4 X4.length k4] #[.slice y1 Y1.length j1, .slice y2 Y2.length j2, .slice y3 Y3.length j3, .slice y4 Y4.length j4] ⟨x1, x2, x3, x4, k1, k2, k3, k4⟩ ⟨y1, y2, y3, y4, j1, j2, j3, j4⟩ ⟨X1, X2, X3, X4⟩ ⟨Y1, Y2, Y3, Y4⟩ → Good W ∧ Tz W) := Lib.hid (fun W h => ⟨HW.out.mono h.z, HTz.out.mono HW.out h.z⟩)
  clear HM0 HN0 HB0 HM
  go_enter Tryz.func7, Tryz.ntmps7
  go_wp2_with fail
  refine (HL0.out _).mono ?_
  rintro x w0 ⟨rfl, hw0⟩
  rw [hw0] at HT0
  clear hw0 HL0
  go_upto_region 3 with fail
  go_cut [41] (fun t wx => t = .bool false ∧ Hid (TL w wx #[.slice x1 X1.length k1, .slice x2 X2.length k2, .slice x3 X3.length k3, .slice x4 X4.length k4] #[.slice y1 Y1.length j1, .slice y2 Y2.length j2, .slice y3 Y3.length j3, .slice y4 Y4.length j4] ⟨x1, x2, x3, x4, k1, k2, k3, k4⟩ ⟨y1, y2, y3, y4, j1, j2, j3, j4⟩ ⟨X1, X2, X3, X4⟩ ⟨Y1, Y2, Y3, Y4⟩))
  case first =>
    as_aux_lemma =>
      have HD1 := Lib.hid (fun W (h : TL w W #[.slice x1 X1.length k1, .slice x2 X2.length k2, .slice x3 X3.length k3, .slice x4 X4.length k4] #[.slice y1 Y1.length j1, .slice y2 Y2.length j2, .slice y3 Y3.length j3, .slice y4 Y4.length j4] ⟨x1, x2, x3, x4, k1, k2, k3, k4⟩ ⟨y1, y2, y3, y4, j1, j2, j3, j4⟩ ⟨X1, X2, X3, X4⟩ ⟨Y1, Y2, Y3, Y4⟩) => dsumOf_any text hs W (HG.out W h).2 (HG.out W h).1)
      have HR1 := Lib.hid (fun W (h : TL w W #[.slice x1 X1.length k1, .slice x2 X2.length k2, .slice x3 X3.length k3, .slice x4 X4.length k4] #[.slice y1 Y1.length j1, .slice y2 Y2.length j2, .slice y3 Y3.length j3, .slice y4 Y4.length j4] ⟨x1, x2, x3, x4, k1, k2, k3, k4⟩ ⟨y1, y2, y3, y4, j1, j2, j3, j4⟩ ⟨X1, X2, X3, X4⟩ ⟨Y1, Y2, Y3, Y4⟩) => rsumOf_any text hs W (HG.out W h).2 (HG.out W h).1)
      have HD2 := Lib.hid (fun W (h : TL w W #[.slice x1 X1.length k1, .slice x2 X2.length k2, .slice x3 X3.length k3, .slice x4 X4.length k4] #[.slice y1 Y1.length j1, .slice y2 Y2.length j2, .slice y3 Y3.length j3, .slice y4 Y4.length j4] ⟨x1, x2, x3, x4, k1, k2, k3, k4⟩ ⟨y1, y2, y3, y4, j1, j2, j3, j4⟩ ⟨X1, X2, X3, X4⟩ ⟨Y1, Y2, Y3, Y4⟩) => HSd.out W h.l h.k)
      have HR2 := Lib.hid (fun W (h : TL w W #[.slice x1 X1.length k1, .slice x2 X2.length k2, .slice x3 X3.length k3, .slice x4 X4.length k4] #[.slice y1 Y1.length j1, .slice y2 Y2.length j2, .slice y3 Y3.length j3, .slice y4 Y4.length j4] ⟨x1, x2, x3, x4, k1, k2, k3, k4⟩ ⟨y1, y2, y3, y4, j1, j2, j3, j4⟩ ⟨X1, X2, X3, X4⟩ ⟨Y1, Y2, Y3, Y4⟩) => HSr.out W h.l h.k)
      have HD3 := Lib.hid (fun W (h : TL w W #[.slice x1 X1.length k1, .slice x2 X2.length k2, .slice x3 X3.length k3, .slice x4 X4.length k4] #[.slice y1 Y1.length j1, .slice y2 Y2.length j2, .slice y3 Y3.length j3, .slice y4 Y4.length j4] ⟨x1, x2, x3, x4, k1, k2, k3, k4⟩ ⟨y1, y2, y3, y4, j1, j2, j3, j4⟩ ⟨X1, X2, X3, X4⟩ ⟨Y1, Y2, Y3, Y4⟩) => HSa.out W h.l)
      clear HFit HSd HSr HSa HW HTz HG HL
      generalize P.sumOf text = sm at *
      have HT0d := Lib.hid HT0.out.drew
      have hS0 := HT0d.out.cells
      clear HT0
      cases d with
      | false =>
        go_region_held3 (fun W => W.cell? ⟨w.heap.size, 0, none⟩ = some (.slice x1 X1.length k1) ∧ W.cell? ⟨w.heap.size, 1, none⟩ = some (.slice x2 X2.length k2) ∧ W.cell? ⟨w.heap.size, 2, none⟩ = some (.slice x3 X3.length k3) ∧ W.cell? ⟨w.heap.size, 3, none⟩ = some (.slice x4 X4.length k4) ∧ W.cell? ⟨w.heap.size + 1, 0, none⟩ = some (.slice y1 Y1.length j1) ∧ W.cell? ⟨w.heap.size + 1, 1, none⟩ = some (.slice y2 Y2.length j2) ∧ W.cell? ⟨w.heap.size + 1, 2, none⟩ = some (.slice y3 Y3.length j3) ∧ W.cell? ⟨w.heap.size + 1, 3, none⟩ = some (.slice y4 Y4.length j4))
          (first | with_reducible assumption)
          (first
            | (go_at_call 49; refine (HD3.out _ HT4.out).mono ?_; rintro e w5 ⟨rfl, hb5⟩; have HT5 := Lib.hid (HT4.out.below hb5); have hS5 := HT5.out.cells)
            | (go_at_call 43; refine (HR2.out _ HT3.out).mono ?_; rintro e w4 ⟨rfl, hb4⟩; have HT4 := Lib.hid (HT3.out.below hb4); have hS4 := HT4.out.cells)
            | (go_at_call 49; refine (HD2.out _ HT2.out).mono ?_; rintro e w3 ⟨rfl, hb3⟩; have HT3 := Lib.hid (HT2.out.below hb3); have hS3 := HT3.out.cells)
            | (go_at_call 48; refine (HR1.out _ HT1.out).mono ?_; rintro e w2 ⟨rfl, hb2⟩; have HT2 := Lib.hid (HT1.out.below hb2); have hS2 := HT2.out.cells)
            | (go_at_call 47; refine (HD1.out _ HT0d.out).mono ?_; rintro e w1 ⟨rfl, hb1⟩; have HT1 := Lib.hid (HT0d.out.below hb1); have hS1 := HT1.out.cells))
        all_goals
          go_wp2_with fail
          go_meet
          exact ⟨rfl, HT5⟩
      | true =>
        go_region_held3 (fun W => W.cell? ⟨w.heap.size, 0, none⟩ = some (.slice x1 X1.length k1) ∧ W.cell? ⟨w.heap.size, 1, none⟩ = some (.slice x2 X2.length k2) ∧ W.cell? ⟨w.heap.size, 2, none⟩ = some (.slice x3 X3.length k3) ∧ W.cell? ⟨w.heap.size, 3, none⟩ = some (.slice x4 X4.length k4) ∧ W.cell? ⟨w.heap.size + 1, 0, none⟩ = some (.slice y1 Y1.length j1) ∧ W.cell? ⟨w.heap.size + 1, 1, none⟩ = some (.slice y2 Y2.length j2) ∧ W.cell? ⟨w.heap.size + 1, 2, none⟩ = some (.slice y3 Y3.length j3) ∧ W.cell? ⟨w.heap.size + 1, 3, none⟩ = some (.slice y4 Y4.length j4))
          (first | with_reducible assumption)
          (first
            | (go_at_call 49; refine (HD3.out _ HT4.out).mono ?_; rintro e w5 ⟨rfl, hb5⟩; have HT5 := Lib.hid (HT4.out.below hb5); have hS5 := HT5.out.cells)
            | (go_at_call 43; refine (HR2.out _ HT3.out).mono ?_; rintro e w4 ⟨rfl, hb4⟩; have HT4 := Lib.hid (HT3.out.below hb4); have hS4 := HT4.out.cells)
            | (go_at_call 49; refine (HD2.out _ HT2.out).mono ?_; rintro e w3 ⟨rfl, hb3⟩; have HT3 := Lib.hid (HT2.out.below hb3); have hS3 := HT3.out.cells)
            | (go_at_call 48; refine (HR1.out _ HT1.out).mono ?_; rintro e w2 ⟨rfl, hb2⟩; have HT2 := Lib.hid (HT1.out.below hb2); have hS2 := HT2.out.cells)
            | (go_at_call 47; refine (HD1.out _ HT0d.out).mono ?_; rintro e w1 ⟨rfl, hb1⟩; have HT1 := Lib.hid (HT0d.out.below hb1); have hS1 := HT1.out.cells))
        all_goals
          go_wp2_with fail
          go_meet
          exact ⟨rfl, HT5⟩
  case rest =>
    obtain ⟨rfl, HT5⟩ := hcut
    clear HSd HSr HSa HT0
    obtain ⟨d0, d1, d2, d3, _, _, _, _⟩ := HT5.out.cells
    go_wp2_with fail
    refine (HFit.out _ (HG.out _ HT5.out).1 HT5.out.l).mono ?_
    rintro e w2 ⟨A', m', rfl, hright, hlies, hb2, hor⟩
    have hR := HT5.out.m.below hb2
    have HB2 := Lib.hid (bstep HT5.out.z hb2)
    obtain ⟨a1, a2, a3, a4, c1, c2, c3, c4⟩ := A'
    obtain ⟨F, I, S, V⟩ := m'
    simp only at hlies hor ⊢
    obtain ⟨g0, g1, g2, g3, _⟩ := hrow4 hR
    have f0 := hR.free 0
    have f1 := hR.free 1
    have f2 := hR.free 2
    have f3 := hR.free 3
    have hg4 := grown_set4 w2 w.heap.size (.slice a1 F.length c1) (.slice a2 I.length c2) (.slice a3 S.length c3) (.slice a4 V.length c4)
    have HT6 : Hid (TM w _ #[.slice a1 F.length c1, .slice a2 I.length c2, .slice a3 S.length c3, .slice a4 V.length c4] ⟨a1, a2, a3, a4, c1, c2, c3, c4⟩ ⟨F, I, S, V⟩) := Lib.hid ⟨(store4 hR HB2.out (Nat.le_refl _) (.slice a1 F.length c1) (.slice a2 I.length c2) (.slice a3 S.length c3) (.slice a4 V.length c4)).1, (store4 hR HB2.out (Nat.le_refl _) (.slice a1 F.length c1) (.slice a2 I.length c2) (.slice a3 S.length c3) (.slice a4 V.length c4)).2, by
      rcases hor with ⟨e1, e2⟩ | hup
      · rw [e1, e2]
        exact (HL.out.below (store4 hR HB2.out (Nat.le_refl _) (.slice a1 F.length c1) (.slice a2 I.length c2) (.slice a3 S.length c3) (.slice a4 V.length c4)).2).up (by simpa [World.setCell] using HB2.out.size)
      · exact (hup.grown hg4 HT5.out.m.lt).l⟩
    have HRi := Lib.hid hright
    clear hR hright hlies hb2 hor hg4 HFit HT5 HB2 d0 d1 d2 d3 HG HL
    have HG : Hid (∀ W, TM w W #[.slice a1 F.length c1, .slice a2 I.length c2, .slice a3 S.length c3, .slice a4 V.length c4] ⟨a1, a2, a3, a4, c1, c2, c3, c4⟩ ⟨F, I, S, V⟩ → Good W ∧ Tz W) := Lib.hid (fun W h => ⟨HW.out.mono h.z, HTz.out.mono HW.out h.z⟩)
    go_wp2_with fail
    clear g0 g1 g2 g3 f0 f1 f2 f3
    generalize (((w2.setCell ⟨w.heap.size, 0, none⟩ (.slice a1 F.length c1)).setCell ⟨w.heap.size, 1, none⟩ (.slice a2 I.length c2)).setCell ⟨w.heap.size, 2, none⟩ (.slice a3 S.length c3)).setCell ⟨w.heap.size, 3, none⟩ (.slice a4 V.length c4) = w6 at *
    obtain ⟨TX, hTX⟩ : ∃ T, T = P.printL ⟨F, I, S, V⟩ := ⟨_, rfl⟩
    obtain ⟨tx, htx⟩ : ∃ T, T = P.txt TX := ⟨_, rfl⟩
    have HTX := Lib.hid hTX
    have Htx := Lib.hid htx
    clear hTX htx
    go_cut [7, 8, 9] (fun t7 t8 t9 wx => ∃ N p c, t7 = .string tx ∧ t8 = .pointer (some ⟨N, 0, none⟩) ∧ t9 = .int .i64 0 ∧ Hid (TN w wx #[.slice a1 F.length c1, .slice a2 I.length c2, .slice a3 S.length c3, .slice a4 V.length c4] ⟨a1, a2, a3, a4, c1, c2, c3, c4⟩ ⟨F, I, S, V⟩ N p c))
    case first =>
      as_aux_lemma =>
        rename_i J0 K0 hJ0 hK0
        have HP := Lib.hid (fun W (h : TQ w w6 W #[.slice a1 F.length c1, .slice a2 I.length c2, .slice a3 S.length c3, .slice a4 V.length c4] ⟨a1, a2, a3, a4, c1, c2, c3, c4⟩ ⟨F, I, S, V⟩) => rprint_any ⟨a1, a2, a3, a4, c1, c2, c3, c4⟩ ⟨F, I, S, V⟩ HRi.out W h.t.l)
        have HB := Lib.hid (fun W (h : TQ w w6 W #[.slice a1 F.length c1, .slice a2 I.length c2, .slice a3 S.length c3, .slice a4 V.length c4] ⟨a1, a2, a3, a4, c1, c2, c3, c4⟩ ⟨F, I, S, V⟩) => rboot_any ⟨a1, a2, a3, a4, c1, c2, c3, c4⟩ ⟨F, I, S, V⟩ HRi.out.fit W h.t.l)
        have H6 : Hid (TQ w w6 w6.drew #[.slice a1 F.length c1, .slice a2 I.length c2, .slice a3 S.length c3, .slice a4 V.length c4] ⟨a1, a2, a3, a4, c1, c2, c3, c4⟩ ⟨F, I, S, V⟩) := Lib.hid ⟨HT6.out.drew, (Below.refl _ _).drew⟩
        have HL6 := Lib.hid HT6.out.l
        have HLt := Lib.hid HT6.out.m.lt
        have hS6 := H6.out.t.cells
        have H6a : Hid (TQ w w6 (w6.alloc (.cells mz 26)).drew #[.slice a1 F.length c1, .slice a2 I.length c2, .slice a3 S.length c3, .slice a4 V.length c4] ⟨a1, a2, a3, a4, c1, c2, c3, c4⟩ ⟨F, I, S, V⟩) := Lib.hid ⟨(HT6.out.below (below_alloc w6 _)).drew, (below_alloc w6 _).drew⟩
        have hS6a := H6a.out.t.cells
        have HN6 := Lib.hid (HasRow.new w6 mz 26).drew
        clear HT6 HG HW HTz HRi
        unfold P.boot machV at HB
        unfold machV at HP
        simp only [List.length_map] at HB HP
        rw [← HTX.out, ← Htx.out] at HP
        clear HTX Htx
        go_region_held3 (fun W => W.cell? ⟨w.heap.size, 0, none⟩ = some (.slice a1 F.length c1) ∧ W.cell? ⟨w.heap.size, 1, none⟩ = some (.slice a2 I.length c2) ∧ W.cell? ⟨w.heap.size, 2, none⟩ = some (.slice a3 S.length c3) ∧ W.cell? ⟨w.heap.size, 3, none⟩ = some (.slice a4 V.length c4))
          (first | with_reducible assumption | with_reducible exact hS7b _ | with_reducible exact hS8b _ | with_reducible exact hS8s _ _ _ _ | with_reducible exact hS8n _ _ _ _)
          (first
            | (go_at_call 51; have hx := H7; with_reducible refine (HB.out _ H7.out).mono ?_; rintro e w8 ⟨p, c, rfl, h8, hb8⟩; have H8 := Lib.hid (H7.out.below hb8); have hS8 := H8.out.t.cells; have hS8b := fun o => keep4' hS8 (below_alloc w8 o); try replace HN0 := Lib.hid (And.intro (HN0.out.1.below hb8) HN0.out.2); (have hS8n := fun x y z u => keep4s (x := x) (y := y) (z := z) (u := u) (hS8b (.cells mz 26)) (Nat.ne_of_lt (lt_of_cell hS8.1))); try (have hS8s := fun x y z u => keep4s (x := x) (y := y) (z := z) (u := u) hS8 (Nat.ne_of_lt (Nat.lt_of_lt_of_le HLt.out HN0.out.2))); (first | (have f0 := HN0.out.1.free 0; have f1 := HN0.out.1.free 1; have f2 := HN0.out.1.free 2; have f3 := HN0.out.1.free 3; obtain ⟨e0, e1, e2, e3, _⟩ := hrow4 HN0.out.1) | (have hnew := HasRow.new w8 mz 26; have f0 := hnew.free 0; have f1 := hnew.free 1; have f2 := hnew.free 2; have f3 := hnew.free 3; obtain ⟨e0, e1, e2, e3, _⟩ := hrow4 hnew; clear hnew)))
            | (go_at_call 51; have hx := H7; with_reducible refine (HB.out _ (H7.out.below (below_alloc _ (.cells mz 26)))).mono ?_; rintro e w8 ⟨p, c, rfl, h8, hb8⟩; have H8 := Lib.hid ((H7.out.below (below_alloc _ (.cells mz 26))).below hb8); have hS8 := H8.out.t.cells; have hS8b := fun o => keep4' hS8 (below_alloc w8 o); have HN0 := Lib.hid (And.intro ((HasRow.new _ mz 26).below hb8) H7.out.u.size); (have hS8s := fun x y z u => keep4s (x := x) (y := y) (z := z) (u := u) hS8 (Nat.ne_of_lt (Nat.lt_of_lt_of_le HLt.out HN0.out.2))); (have f0 := HN0.out.1.free 0; have f1 := HN0.out.1.free 1; have f2 := HN0.out.1.free 2; have f3 := HN0.out.1.free 3; obtain ⟨e0, e1, e2, e3, _⟩ := hrow4 HN0.out.1))
            | (go_at_call 50; with_reducible refine (HP.out _ H6.out).mono ?_; rintro e w7 ⟨rfl, hb7⟩; have H7 := Lib.hid (H6.out.below hb7); have hS7 := H7.out.t.cells; have hS7b := fun o => keep4' hS7 (below_alloc w7 o))
            | (go_at_call 50; with_reducible refine (HP.out _ H6a.out).mono ?_; rintro e w7 ⟨rfl, hb7⟩; have H7 := Lib.hid (H6a.out.below hb7); have hS7 := H7.out.t.cells; have hS7b := fun o => keep4' hS7 (below_alloc w7 o); have HN0 := Lib.hid (And.intro (HN6.out.below hb7) (Nat.le_refl w6.heap.size))))
        · have HZ := Lib.hid (tn_alloc H8.out.t h8.1)
          refine hK0 _ _ (Met.intro (hJ0 _ _ ?_))
          repeat apply Exists.intro
          refine ⟨?_, rfl⟩
          exact ⟨_, p, c, rfl, rfl, rfl, HZ⟩
        · have HZ := Lib.hid (tn_set H8.out HL6.out h8.1 (fun q e => Nat.ne_of_gt (Nat.lt_of_lt_of_le (by simp) (h8.2 q e))) HN0.out.1 HN0.out.2 (Nat.lt_of_lt_of_le HLt.out HN0.out.2))
          refine hK0 _ _ (Met.intro (hJ0 _ _ ?_))
          repeat apply Exists.intro
          refine ⟨?_, rfl⟩
          exact ⟨_, p, c, rfl, rfl, rfl, HZ⟩
        · have HZ := Lib.hid (tn_set H8.out HL6.out h8.1 (fun q e => Nat.ne_of_gt (Nat.lt_of_lt_of_le (Nat.lt_of_lt_of_le HN6.out.lt hb7.size) (h8.2 q e))) HN0.out.1 HN0.out.2 (Nat.lt_of_lt_of_le HLt.out HN0.out.2))
          refine hK0 _ _ (Met.intro (hJ0 _ _ ?_))
          repeat apply Exists.intro
          refine ⟨?_, rfl⟩
          exact ⟨_, p, c, rfl, rfl, rfl, HZ⟩
    case rest =>
      obtain ⟨N, p, c, rfl, rfl, rfl, HT7⟩ := hcut
      clear HT6
      obtain ⟨m0, m1, m2, m3⟩ := HT7.out.t.cells
      have hlI : I.length ≤ 2000 := HRi.out.l2
      have HSz : Hid (∀ k, P.sizeOf (I.take k) ≤ 131072000) := Lib.hid (fun k => by
        have := P.sizeOf_le (L := I.take k) (n := 65536) (fun x hx => (P.fileErr_zero.1 (HRi.out.a2 x (List.mem_of_mem_take hx))).2)
        have := List.length_take_le' k I
        omega)
      have HX : Hid (∀ k (hk : k < I.length), I[k].d.size ≤ 65536) := Lib.hid (fun k hk => (P.fileErr_zero.1 (HRi.out.a2 _ (List.getElem_mem hk))).2)
      go_wp2_with fail
      clear m0 m1 m2 m3
      go_loopw [9, 51] (fun z i wr => ∃ k : Nat, k ≤ I.length ∧ i = .int .i64 k ∧ Hid (z = .int .i64 (P.sizeOf (I.take k))) ∧ Hid (TN w wr #[.slice a1 F.length c1, .slice a2 I.length c2, .slice a3 S.length c3, .slice a4 V.length c4] ⟨a1, a2, a3, a4, c1, c2, c3, c4⟩ ⟨F, I, S, V⟩ N p c)) (fun _ i _ => I.length - (intOf i).toNat)
      case atStart => exact ⟨0, Nat.zero_le _, rfl, Lib.hid rfl, HT7⟩
      case round =>
        obtain ⟨k, hk, rfl, HZ, HT8⟩ := hrel
        have hz := HZ.out
        clear HZ
        subst hz
        have hs0 := HSz.out k
        by_cases hlt : k < I.length
        · obtain ⟨b, off, ea, hbm, hc⟩ := HT8.out.t.l.i.at_ (ne_nil_of_lt hlt)
          simp only at ea
          subst ea
          obtain ⟨d0, d1, d2⟩ := hc k hlt
          have hx := HX.out k hlt
          have HS := Lib.hid (P.size_snoc I k hlt)
          clear hc
          generalize P.sizeOf (I.take k) = z at *
          generalize I[k] = x at *
          clear HW HTz HRi HG HTX Htx HT7 HSz HX
          go_wp2_with fail
          go_roundw
          case rel => exact ⟨k + 1, by omega, by go_num, Lib.hid (by rw [HS.out]; go_num), Lib.hid (HT8.out.below (below_alloc _ _))⟩
          case measure => simp [intOf]; omega
        · have hkl : k = I.length := by omega
          subst hkl
          rw [List.take_length] at hs0 ⊢
          have hb0 := P.print_le HRi.out
          rw [← HTX.out] at hb0
          have htl : tx.size = TX.length := by rw [Htx.out, P.txt_size]
          have HRs := Lib.hid (fun W (h : TN w W #[.slice a1 F.length c1, .slice a2 I.length c2, .slice a3 S.length c3, .slice a4 V.length c4] ⟨a1, a2, a3, a4, c1, c2, c3, c4⟩ ⟨F, I, S, V⟩ N p c) => rsumOf_any tx (by omega) W (HG.out W h.t).2 (HG.out W h.t).1)
          have HDs := Lib.hid (fun W (h : TN w W #[.slice a1 F.length c1, .slice a2 I.length c2, .slice a3 S.length c3, .slice a4 V.length c4] ⟨a1, a2, a3, a4, c1, c2, c3, c4⟩ ⟨F, I, S, V⟩ N p c) => dsum_any ⟨a1, a2, a3, a4, c1, c2, c3, c4⟩ ⟨F, I, S, V⟩ HRi.out W (HG.out W h.t).1 (HG.out W h.t).2 h.t.l)
          have HDz := Lib.hid (fun W (h : TN w W #[.slice a1 F.length c1, .slice a2 I.length c2, .slice a3 S.length c3, .slice a4 V.length c4] ⟨a1, a2, a3, a4, c1, c2, c3, c4⟩ ⟨F, I, S, V⟩ N p c) => dsize_any ⟨a1, a2, a3, a4, c1, c2, c3, c4⟩ ⟨F, I, S, V⟩ HRi.out W (HG.out W h.t).1 h.t.l)
          have HDb := Lib.hid (fun W (h : TN w W #[.slice a1 F.length c1, .slice a2 I.length c2, .slice a3 S.length c3, .slice a4 V.length c4] ⟨a1, a2, a3, a4, c1, c2, c3, c4⟩ ⟨F, I, S, V⟩ N p c) => dBoot_any ⟨a1, a2, a3, a4, c1, c2, c3, c4⟩ ⟨F, I, S, V⟩ HRi.out W (HG.out W h.t).1 h.t.l)
          have hfB : (P.boot ⟨F, I, S, V⟩).fit := boot_fit HRi.out.fit
          have HSm := Lib.hid (fun (A' : Ad) W (h : TN w W #[.slice a1 F.length c1, .slice a2 I.length c2, .slice a3 S.length c3, .slice a4 V.length c4] ⟨a1, a2, a3, a4, c1, c2, c3, c4⟩ ⟨F, I, S, V⟩ N p c) (hl : Lies W.heap.size W A' (P.boot ⟨F, I, S, V⟩)) => (rsame_any A' ⟨a1, a2, a3, p, c1, c2, c3, c⟩ (P.boot ⟨F, I, S, V⟩) (P.boot ⟨F, I, S, V⟩) hfB W hl h.k).mono (fun e w' h => show e = .returned (.bool true) ∧ Below W.heap.size W w' from ⟨by obtain ⟨⟨x, h1, h2⟩, _⟩ := h; rw [h1, h2.2 rfl], h.2⟩))
          rw [← HTX.out] at HDs
          unfold sumOut at HDs
          rw [← Htx.out] at HDs
          unfold P.boot at HDb HSm
          unfold machV at HDs HDz HDb HSm
          simp only [List.length_map] at HDs HDz HDb HSm
          clear HT7 HRi HTX Htx HG HSz HX hfB HW HTz hlI
          generalize P.sumOf tx = sm at *
          generalize P.sizeOf I = sz at *
          by_cases hT : TX.length ≤ 4194304
          · simp only [if_pos hT] at HDs
            have hq : ¬ (4194304 : Int) < (tx.size : Int) := by omega
            clear hT htl hb0
            go_wp2_with fail
            refine (HRs.out _ HT8.out).mono ?_
            rintro e w9 ⟨rfl, hb9⟩
            have HT9 := Lib.hid (HT8.out.below hb9)
            clear hb9 HT8
            obtain ⟨m0, m1, m2, m3⟩ := HT9.out.t.cells
            go_wp2_with fail
            clear m0 m1 m2 m3
            refine (HDs.out _ HT9.out).mono ?_
            rintro e w10 ⟨rfl, hb⟩
            have HT10 := Lib.hid (HT9.out.below hb)
            clear hb HT9
            obtain ⟨m0, m1, m2, m3⟩ := HT10.out.t.cells
            go_wp2_with fail
            clear m0 m1 m2 m3
            refine (HDz.out _ HT10.out).mono ?_
            rintro e w11 ⟨rfl, hb⟩
            have HT11 := Lib.hid (HT10.out.below hb)
            clear hb HT10
            obtain ⟨m0, m1, m2, m3⟩ := HT11.out.t.cells
            go_wp2_with fail
            clear m0 m1 m2 m3
            refine (HDb.out _ HT11.out).mono ?_
            rintro e w12 ⟨A', rfl, hl, hb⟩
            have HT12 := Lib.hid (HT11.out.below hb)
            have HL12 := Lib.hid hl
            clear hb hl HT11
            obtain ⟨b1, b2, b3, b4, n1, n2, n3, n4⟩ := A'
            obtain ⟨m0, m1, m2, m3, _⟩ := hrow4 HT12.out.n
            go_wp2_with fail
            refine (HSm.out ⟨b1, b2, b3, b4, n1, n2, n3, n4⟩ _ (HT12.out.below (below_alloc _ _)) ((HL12.out.below (below_alloc _ _)).up (below_alloc w12 _).size)).mono ?_
            rintro e w13 ⟨rfl, hb⟩
            have HE := Lib.hid ((HT12.out.below (below_alloc _ _)).below hb).t.z
            clear hb HT12 HL12 m0 m1 m2 m3
            go_wp2_with fail
            go_ret
            exact ⟨rfl, HE.out⟩
          · simp only [if_neg hT] at HDs
            have hq : (4194304 : Int) < (tx.size : Int) := by omega
            clear hT htl hb0
            go_wp2_with fail
            refine (HRs.out _ HT8.out).mono ?_
            rintro e w9 ⟨rfl, hb9⟩
            have HT9 := Lib.hid (HT8.out.below hb9)
            clear hb9 HT8
            obtain ⟨m0, m1, m2, m3⟩ := HT9.out.t.cells
            go_wp2_with fail
            clear m0 m1 m2 m3
            refine (HDs.out _ HT9.out).mono ?_
            rintro e w10 ⟨rfl, hb⟩
            have HT10 := Lib.hid (HT9.out.below hb)
            clear hb HT9
            obtain ⟨m0, m1, m2, m3⟩ := HT10.out.t.cells
            go_wp2_with fail
            clear m0 m1 m2 m3
            refine (HDz.out _ HT10.out).mono ?_
            rintro e w11 ⟨rfl, hb⟩
            have HT11 := Lib.hid (HT10.out.below hb)
            clear hb HT10
            obtain ⟨m0, m1, m2, m3⟩ := HT11.out.t.cells
            go_wp2_with fail
            clear m0 m1 m2 m3
            refine (HDb.out _ HT11.out).mono ?_
            rintro e w12 ⟨A', rfl, hl, hb⟩
            have HT12 := Lib.hid (HT11.out.below hb)
            have HL12 := Lib.hid hl
            clear hb hl HT11
            obtain ⟨b1, b2, b3, b4, n1, n2, n3, n4⟩ := A'
            obtain ⟨m0, m1, m2, m3, _⟩ := hrow4 HT12.out.n
            go_wp2_with fail
            refine (HSm.out ⟨b1, b2, b3, b4, n1, n2, n3, n4⟩ _ (HT12.out.below (below_alloc _ _)) ((HL12.out.below (below_alloc _ _)).up (below_alloc w12 _).size)).mono ?_
            rintro e w13 ⟨rfl, hb⟩
            have HE := Lib.hid ((HT12.out.below (below_alloc _ _)).below hb).t.z
            clear hb HT12 HL12 m0 m1 m2 m3
            go_wp2_with fail
            go_ret
            exact ⟨rfl, HE.out⟩
end Go.Proofs.YtgdpbdgaldiggaaGreatDoor
