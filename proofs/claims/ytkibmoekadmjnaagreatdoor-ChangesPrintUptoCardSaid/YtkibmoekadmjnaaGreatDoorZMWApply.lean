/- Walks: package outref1: Apply of one change to a right machine. -/
/- Walks: outlaw1's fit: what it puts into its machine. -/
import Derived.Test.YtkibmoekadmjnaaGreatDoorZMWDo2
import Derived.Test.YtkibmoekadmjnaaGreatDoorZMWMach
import Derived.Test.YtkibmoekadmjnaaGreatDoorZMRCheck2
import Derived.Test.YtkibmoekadmjnaaGreatDoorZMBad

namespace Go.Proofs.YtkibmoekadmjnaaGreatDoor
open Go.RowKit Go.Shelf Go.Maps

/-- what Apply of one change owes -/
def ApplyPost (m : P.Mach) (c : P.Chg) (w : World) (e : Ending) (w' : World) : Prop :=
  ∃ p1 n1 c1 p2 n2 c2 p3 n3 c3 p4 n4 c4, e = .returned (.tuple #[.agg #[.slice p1 n1 c1, .slice p2 n2 c2, .slice p3 n3 c3, .slice p4 n4 c4], .int .i64 (P.chgErr m c)]) ∧ (P.chgErr m c = 0 → ∃ A', .agg #[.slice p1 n1 c1, .slice p2 n2 c2, .slice p3 n3 c3, .slice p4 n4 c4] = machV A' (P.made m c) ∧ MOwn w.heap.size w' A' (P.made m c)) ∧ Below w.heap.size w w'

def ApSt (n₀ : Nat) (w w3 : World) (B b1 b2 b3 : Nat) (A : Ad) (m' : P.Mach) (r : Int) (k : Nat) (wr : World) : Prop :=
  (k = 0 ∧ wr = w3) ∨ (k = 1 ∧ r = 0 ∧ WAt n₀ wr B b1 b2 b3 A m' ∧ Below w.heap.size w wr ∧ HasRow wr (w.heap.size + 1) mz ∧ n₀ ≤ wr.heap.size)

set_option maxRecDepth 100000 in
set_option maxHeartbeats 8000000 in
theorem apply_core (c : P.Chg) (kd : Int) (q1 q2 : ByteArray) (q3 : Bool) (q4 q5 q6 q7 : ByteArray) (q8 q9 : Bool) (s1 s2 s3 s4 : Value) (A : Ad) (m : P.Mach) (hr : P.Right m) (b : Nat) (w : World) (hw : Good w) (hc : HasRow w b #[.int .i64 kd, .string q1, .string q2, .bool q3, .string q4, .string q5, .string q6, .string q7, .bool q8, .bool q9])
    (hE : ∀ W, Below w.heap.size w W → Calls Tryz.prog 13 #[.agg #[s1, s2, s3, s4]] W fun e w' => e = .returned (.int .i64 0) ∧ Below W.heap.size W w')
    (hW : ∀ W, Below w.heap.size w W → Calls Tryz.prog 128 #[.agg #[s1, s2, s3, s4]] W fun e w' => ∃ B b1 b2 b3, e = .returned (.pointer (some ⟨B, 0, none⟩)) ∧ WAt W.heap.size w' B b1 b2 b3 A m ∧ Below W.heap.size W w')
    (hD : ∀ (n₀ B b1 b2 b3 : Nat) W, Good W → n₀ ≤ W.heap.size → WAt n₀ W B b1 b2 b3 A m → Calls Tryz.prog 129 #[.pointer (some ⟨B, 0, none⟩), .agg #[.int .i64 kd, .string q1, .string q2, .bool q3, .string q4, .string q5, .string q6, .string q7, .bool q8, .bool q9]] W (DoPost n₀ B b1 b2 b3 A m c W)) :
    Calls Tryz.prog 44 #[.agg #[s1, s2, s3, s4], .slice (some ⟨b, 0, none⟩) 1 1] w (ApplyPost m c w) := by
  have HM := Lib.hid (fun h => hr.done (c := c) h)
  unfold ApplyPost
  unfold DoPost at hD
  generalize P.chgErr m c = r at *
  generalize P.made m c = m' at *
  have HE := Lib.hid hE
  have HV := Lib.hid hW
  have HD := Lib.hid hD
  have HC := Lib.hid hc
  have HW := Lib.hid hw
  clear hE hW hD hc hw hr
  have HR0 := Lib.hid (HasRow.new (w.alloc (.cells #[s1, s2, s3, s4] 26)) mz 26)
  have hR1 := (HasRow.new w #[s1, s2, s3, s4] 26).alloc (.cells mz 26)
  have HB1 := Lib.hid (below2 w (.cells #[s1, s2, s3, s4] 26) (.cells mz 26))
  rw [World.size_alloc] at HR0
  go_enter Tryz.func44, Tryz.ntmps44
  go_wp2_with fail
  refine (HE.out _ HB1.out).mono ?_
  rintro e w2 ⟨rfl, hb2⟩
  have hR2 := hR1.below hb2
  obtain ⟨d0, d1, d2, d3, _⟩ := hrow4 hR2
  have HR2 := Lib.hid (HR0.out.below hb2)
  have HB2 := Lib.hid (bstep HB1.out hb2)
  clear hb2 hR1 HR0 HB1 hR2 HE
  go_wp2_with fail
  refine (HV.out _ HB2.out).mono ?_
  rintro e w3 ⟨B, b1, b2, b3, rfl, hwat, hb3⟩
  have HG3 := Lib.hid hwat
  have HR3 := Lib.hid (HR2.out.below hb3)
  have HB3 := Lib.hid (bstep HB2.out hb3)
  have HN := Lib.hid hb3.size
  have HL := Lib.hid HR2.out.lt
  clear hb3 hwat HR2 HB2 HV d0 d1 d2 d3
  generalize w2.heap.size = n₀ at *
  have HMa : Hid (r = 0 → ∀ W, n₀ ≤ W.heap.size → WAt n₀ W B b1 b2 b3 A m' → Calls Tryz.prog 130 #[.pointer (some ⟨B, 0, none⟩)] W fun e w' => ∃ p1 n1 c1 p2 n2 c2 p3 n3 c3 p4 n4 c4 A', e = .returned (.agg #[.slice p1 n1 c1, .slice p2 n2 c2, .slice p3 n3 c3, .slice p4 n4 c4]) ∧ .agg #[.slice p1 n1 c1, .slice p2 n2 c2, .slice p3 n3 c3, .slice p4 n4 c4] = machV A' m' ∧ MOwn W.heap.size w' A' m' ∧ Below W.heap.size W w') := Lib.hid (fun h0 W hn hwt =>
    (machine_any n₀ B b1 b2 b3 A m' (HM.out h0) (HM.out h0).fit W hn hwt).mono (fun e w' ⟨A', he, hl, hb⟩ => ⟨_, _, _, _, _, _, _, _, _, _, _, _, A', he, rfl, hl, hb⟩))
  clear HM
  go_wp2_with fail
  go_loopw [21] (fun i wr => ∃ k : Nat, k ≤ 1 ∧ i = .int .i64 k ∧ Hid (ApSt n₀ w w3 B b1 b2 b3 A m' r k wr)) (fun i _ => 1 - (intOf i).toNat)
  case atStart => exact ⟨0, by omega, rfl, Lib.hid (.inl ⟨rfl, rfl⟩)⟩
  case round =>
    obtain ⟨k, hk, rfl, HS⟩ := hrel
    rcases HS.out with ⟨rfl, rfl⟩ | ⟨rfl, h0, hwat, hb, hres, hnn⟩
    · have hC3 := HC.out.below HB3.out
      obtain ⟨e0, e1, e2, e3, e4, e5, e6, e7, e8, e9⟩ := hrow10 hC3
      clear hC3 HS
      go_wp2_with fail
      refine (HD.out n₀ B b1 b2 b3 _ (HW.out.mono (bstep HB3.out (below_alloc _ _))) (Nat.le_trans HN.out (below_alloc _ _).size) (WAt.alloc HG3.out HN.out _)).mono ?_
      rintro e w4 ⟨rfl, hwat, hb4⟩
      have HR4 := Lib.hid ((HR3.out.alloc (.cells #[.int .i64 kd, .string q1, .string q2, .bool q3, .string q4, .string q5, .string q6, .string q7, .bool q8, .bool q9] 73)).below' hb4 HL.out)
      have HB4 := Lib.hid ((bstep HB3.out (below_alloc _ (.cells #[.int .i64 kd, .string q1, .string q2, .bool q3, .string q4, .string q5, .string q6, .string q7, .bool q8, .bool q9] 73))).trans (hb4.mono (Nat.le_of_lt (Nat.lt_of_succ_lt HL.out))))
      have HN4 := Lib.hid (Nat.le_trans (Nat.le_trans HN.out (below_alloc _ (.cells #[.int .i64 kd, .string q1, .string q2, .bool q3, .string q4, .string q5, .string q6, .string q7, .bool q8, .bool q9] 73)).size) hb4.size)
      have HT4 := Lib.hid hwat
      clear hwat hb4 e0 e1 e2 e3 e4 e5 e6 e7 e8 e9 HR3 HB3 HG3 HN
      by_cases h0 : r = 0
      · have HT5 := Lib.hid (HT4.out h0)
        have HZ := Lib.hid h0
        have hz : (r == 0) = true := by simpa using h0
        have hz2 : (r != 0) = false := by simpa using h0
        clear HT4 h0
        go_wp2_with fail
        go_roundw
        case rel => exact ⟨1, by omega, by go_num, Lib.hid (.inr ⟨rfl, HZ.out, HT5.out, HB4.out, HR4.out, HN4.out⟩)⟩
        case measure => simp [intOf]
      · have hz : (r == 0) = false := by simpa using h0
        have hz2 : (r != 0) = true := by simpa using h0
        have hR := HR4.out
        obtain ⟨g0, g1, g2, g3, _⟩ := hrow4 hR
        have f0 := hR.free 0
        have f1 := hR.free 1
        have f2 := hR.free 2
        have f3 := hR.free 3
        have HS4 := Lib.hid (store4 hR HB4.out (Nat.le_succ _) (.slice none 0 0) (.slice none 0 0) (.slice none 0 0) (.slice none 0 0))
        have HZ := Lib.hid h0
        clear hR h0
        go_wp2_with fail
        refine bodyPost_ret (v := .tuple #[.agg #[.slice none 0 0, .slice none 0 0, .slice none 0 0, .slice none 0 0], .int .i64 r]) ?_ rfl ⟨_, _, _, _, _, _, _, _, _, _, _, _, rfl, fun h => absurd h HZ.out, HS4.out.2⟩
        clear g0 g1 g2 g3 f0 f1 f2 f3
        obtain ⟨y0, y1, y2, y3, _⟩ := hrow4 HS4.out.1
        simp [results, Tryz.results44, go_sem, y0, y1, y2, y3]
    · have HT := Lib.hid hwat
      have HB5 := Lib.hid hb
      have HR5 := Lib.hid hres
      have HN5 := Lib.hid hnn
      have HZ := Lib.hid h0
      clear hwat hb hres hnn HS h0
      go_wp2_with fail
      refine (HMa.out HZ.out _ HN5.out HT.out).mono ?_
      rintro e w6 ⟨p1, n1, c1, p2, n2, c2, p3, n3, c3, p4, n4, c4, A', rfl, hA, hl, hb6⟩
      have hR := HR5.out.below hb6
      obtain ⟨g0, g1, g2, g3, _⟩ := hrow4 hR
      have f0 := hR.free 0
      have f1 := hR.free 1
      have f2 := hR.free 2
      have f3 := hR.free 3
      have HB6 := Lib.hid (bstep HB5.out hb6)
      have HS4 := Lib.hid (store4 hR HB6.out (Nat.le_succ _) (.slice p1 n1 c1) (.slice p2 n2 c2) (.slice p3 n3 c3) (.slice p4 n4 c4))
      have HA := Lib.hid hA
      have HLi := Lib.hid hl
      clear hR hb6 hA hl
      go_wp2_with fail
      refine bodyPost_ret (v := .tuple #[.agg #[.slice p1 n1 c1, .slice p2 n2 c2, .slice p3 n3 c3, .slice p4 n4 c4], .int .i64 0]) ?_ rfl ⟨_, _, _, _, _, _, _, _, _, _, _, _, by rw [HZ.out], fun _ => ⟨A', HA.out, (HLi.out.store (Nat.lt_of_lt_of_le HL.out HN5.out) _ _ _ _).base (Nat.le_of_lt (Nat.lt_of_succ_lt (Nat.lt_of_lt_of_le HL.out HN5.out)))⟩, HS4.out.2⟩
      clear g0 g1 g2 g3 f0 f1 f2 f3
      obtain ⟨y0, y1, y2, y3, _⟩ := hrow4 HS4.out.1
      simp [results, Tryz.results44, go_sem, y0, y1, y2, y3]
end Go.Proofs.YtkibmoekadmjnaaGreatDoor

namespace Go.Proofs.YtkibmoekadmjnaaGreatDoor
open Go.RowKit Go.Shelf Go.Maps

def machCells (A : Ad) (m : P.Mach) : Array Value := #[.slice A.a1 m.facts.length A.c1, .slice A.a2 m.files.length A.c2, .slice A.a3 m.sets.length A.c3, .slice A.a4 m.svcs.length A.c4]
theorem sts_but {W W' : World} {a : Option Addr} {L : List P.St} {cap k : Nat} (h : StsAt W.heap.size W a L cap) (hg : W.grownBy W' (some k)) (hne : ∀ p, a = some p → p.block ≠ k) : StsAt W'.heap.size W' a L cap :=
  ⟨h.le, fun hn => let ⟨b, off, e, hb, hc⟩ := h.at_ hn; ⟨b, off, e, Nat.lt_of_lt_of_le hb hg.size, fun j hj => ⟨cell_but (hc j hj).1 hg (show b ≠ k from hne ⟨b, off, none⟩ e), cell_but (hc j hj).2 hg (show b ≠ k from hne ⟨b, off, none⟩ e)⟩⟩⟩
theorem fis_but {W W' : World} {a : Option Addr} {L : List P.Fi} {cap k : Nat} (h : FisAt W.heap.size W a L cap) (hg : W.grownBy W' (some k)) (hne : ∀ p, a = some p → p.block ≠ k) : FisAt W'.heap.size W' a L cap :=
  ⟨h.le, fun hn => let ⟨b, off, e, hb, hc⟩ := h.at_ hn; ⟨b, off, e, Nat.lt_of_lt_of_le hb hg.size, fun j hj => ⟨cell_but (hc j hj).1 hg (show b ≠ k from hne ⟨b, off, none⟩ e), cell_but (hc j hj).2.1 hg (show b ≠ k from hne ⟨b, off, none⟩ e), cell_but (hc j hj).2.2 hg (show b ≠ k from hne ⟨b, off, none⟩ e)⟩⟩⟩
theorem svs_but {W W' : World} {a : Option Addr} {L : List P.Sv} {cap k : Nat} (h : SvsAt W.heap.size W a L cap) (hg : W.grownBy W' (some k)) (hne : ∀ p, a = some p → p.block ≠ k) : SvsAt W'.heap.size W' a L cap :=
  ⟨h.le, fun hn => let ⟨b, off, e, hb, hc⟩ := h.at_ hn; ⟨b, off, e, Nat.lt_of_lt_of_le hb hg.size, fun j hj => ⟨cell_but (hc j hj).1 hg (show b ≠ k from hne ⟨b, off, none⟩ e), cell_but (hc j hj).2.1 hg (show b ≠ k from hne ⟨b, off, none⟩ e), cell_but (hc j hj).2.2.1 hg (show b ≠ k from hne ⟨b, off, none⟩ e), cell_but (hc j hj).2.2.2 hg (show b ≠ k from hne ⟨b, off, none⟩ e)⟩⟩⟩
/-- a machine lies in blocks from base on -/
structure Up (base : Nat) (W : World) (A : Ad) (m : P.Mach) : Prop where
  l : Lies W.heap.size W A m
  f : ∀ p, A.a1 = some p → base ≤ p.block
  i : ∀ p, A.a2 = some p → base ≤ p.block
  s : ∀ p, A.a3 = some p → base ≤ p.block
  v : ∀ p, A.a4 = some p → base ≤ p.block
theorem Up.below {base : Nat} {W W' : World} {A : Ad} {m : P.Mach} (h : Up base W A m) (hb : Below W.heap.size W W') : Up base W' A m := ⟨(h.l.below hb).up hb.size, h.f, h.i, h.s, h.v⟩
theorem Up.grown {base k : Nat} {W W' : World} {A : Ad} {m : P.Mach} (h : Up base W A m) (hg : W.grownBy W' (some k)) (hk : k < base) : Up base W' A m :=
  ⟨⟨sts_but h.l.f hg (fun p e => by have := h.f p e; omega), fis_but h.l.i hg (fun p e => by have := h.i p e; omega), sts_but h.l.s hg (fun p e => by have := h.s p e; omega), svs_but h.l.v hg (fun p e => by have := h.v p e; omega)⟩, h.f, h.i, h.s, h.v⟩
theorem Up.base {b b' : Nat} {W : World} {A : Ad} {m : P.Mach} (h : Up b W A m) (hle : b' ≤ b) : Up b' W A m := ⟨h.l, fun p e => Nat.le_trans hle (h.f p e), fun p e => Nat.le_trans hle (h.i p e), fun p e => Nat.le_trans hle (h.s p e), fun p e => Nat.le_trans hle (h.v p e)⟩
theorem MOwn.up {base : Nat} {W : World} {A : Ad} {m : P.Mach} (h : MOwn base W A m) : Up base W A m := by
  obtain ⟨a, c, q, g1, u1⟩ := ownAtS h.f
  cases q
  obtain ⟨a, c, q, g2, u2⟩ := ownAtF h.i
  cases q
  obtain ⟨a, c, q, g3, u3⟩ := ownAtS h.s
  cases q
  obtain ⟨a, c, q, g4, u4⟩ := ownAtV h.v
  cases q
  exact ⟨⟨g1, g2, g3, g4⟩, fun p e => (u1 p e).1, fun p e => (u2 p e).1, fun p e => (u3 p e).1, fun p e => (u4 p e).1⟩
/-- block b holds a right machine, whose lists lie in blocks behind b -/
structure Box (W : World) (b : Nat) : Prop where
  of : ∃ A m, HasRow W b (machCells A m) ∧ P.Right m ∧ Up (b + 1) W A m
theorem grown_of_below {w w' : World} (h : Below w.heap.size w w') (row : Option Nat) : w.grownBy w' row := ⟨h.os, h.tape, h.output, h.size, fun k hk _ => h.block k hk⟩
theorem Box.below {W W' : World} {b : Nat} (h : Box W b) (hb : Below W.heap.size W W') : Box W' b := let ⟨A, m, h1, h2, h3⟩ := h.of; ⟨A, m, h1.below hb, h2, h3.below hb⟩
theorem grown_set4 (W : World) (b : Nat) (x y z u : Value) : W.grownBy ((((W.setCell ⟨b, 0, none⟩ x).setCell ⟨b, 1, none⟩ y).setCell ⟨b, 2, none⟩ z).setCell ⟨b, 3, none⟩ u) (some b) :=
  ⟨rfl, rfl, rfl, by simp [World.setCell], fun k _ hk => by
    have hne : k ≠ b := fun e => hk (by rw [e])
    rw [Below.heap_setCell _ _ _ k (fun e => hne e), Below.heap_setCell _ _ _ k (fun e => hne e), Below.heap_setCell _ _ _ k (fun e => hne e), Below.heap_setCell _ _ _ k (fun e => hne e)]⟩

set_option maxRecDepth 100000 in
set_option maxHeartbeats 8000000 in
theorem put_core (c : P.Chg) (kd : Int) (q1 q2 : ByteArray) (q3 : Bool) (q4 q5 q6 q7 : ByteArray) (q8 q9 : Bool) (b : Nat) (w : World) (hw : Good w) (hb : Box w b)
    (hD : ∀ (n₀ B b1 b2 b3 : Nat) (A : Ad) (m : P.Mach) W, P.Right m → Good W → n₀ ≤ W.heap.size → WAt n₀ W B b1 b2 b3 A m → Calls Tryz.prog 129 #[.pointer (some ⟨B, 0, none⟩), .agg #[.int .i64 kd, .string q1, .string q2, .bool q3, .string q4, .string q5, .string q6, .string q7, .bool q8, .bool q9]] W (DoPost n₀ B b1 b2 b3 A m c W)) :
    Calls Tryz.prog 122 #[.agg #[.int .i64 kd, .string q1, .string q2, .bool q3, .string q4, .string q5, .string q6, .string q7, .bool q8, .bool q9], .pointer (some ⟨b, 0, none⟩)] w fun e w' => e = .returned (.tuple #[]) ∧ Box w' b ∧ w.grownBy w' (some b) := by
  obtain ⟨A, m, h1, h2, h3⟩ := hb.of
  have hlt := h1.lt
  have HAp : Hid (∀ W k, Below w.heap.size w W → Good W → HasRow W k #[.int .i64 kd, .string q1, .string q2, .bool q3, .string q4, .string q5, .string q6, .string q7, .bool q8, .bool q9] → Calls Tryz.prog 44 #[.agg (machCells A m), .slice (some ⟨k, 0, none⟩) 1 1] W (ApplyPost m c W)) := Lib.hid (fun W k hbw hg hrow => by
    have hL := fun W' (hb' : Below W.heap.size W W') => ((h3.l.below hbw).below (hb'.mono hbw.size)).up (Nat.le_trans hbw.size hb'.size)
    exact apply_core c kd q1 q2 q3 q4 q5 q6 q7 q8 q9 _ _ _ _ A m h2 k W hg hrow
      (fun W' hb' => by have := rcheck_any A m h2.fit W' (hg.mono hb') (hL W' hb'); rw [(P.right_iff m).2 h2] at this; exact this)
      (fun W' hb' => worldOf_any A m h2 h2.fit W' (hL W' hb'))
      (fun n₀ B b1 b2 b3 W' hg' hn' hwt => hD n₀ B b1 b2 b3 A m W' h2 hg' hn' hwt))
  unfold ApplyPost at HAp
  have HRi := Lib.hid (fun h => h2.done (c := c) h)
  have HO := Lib.hid h3
  have HBx := Lib.hid hb
  have HW := Lib.hid hw
  generalize P.chgErr m c = r at *
  generalize P.made m c = m' at *
  unfold machCells at HAp h1
  generalize m.facts.length = n1 at *
  generalize m.files.length = n2 at *
  generalize m.sets.length = n3 at *
  generalize m.svcs.length = n4 at *
  obtain ⟨a1, a2, a3, a4, c1, c2, c3, c4⟩ := A
  simp only at HAp h1
  have HRow := Lib.hid h1
  have h1b := h1.alloc (.cells #[.int .i64 kd, .string q1, .string q2, .bool q3, .string q4, .string q5, .string q6, .string q7, .bool q8, .bool q9] 73)
  obtain ⟨d0, d1, d2, d3, _⟩ := hrow4 h1b
  clear hb hw h1 h2 h3 hD h1b
  go_enter Tryz.func122, Tryz.ntmps122
  go_wp2_with fail
  have HR1 := HasRow.new (w.alloc (.cells #[.int .i64 kd, .string q1, .string q2, .bool q3, .string q4, .string q5, .string q6, .string q7, .bool q8, .bool q9] 73)) #[.int .i64 kd, .string q1, .string q2, .bool q3, .string q4, .string q5, .string q6, .string q7, .bool q8, .bool q9] 73
  rw [World.size_alloc] at HR1
  refine (HAp.out _ _ (below2 _ _ _) (HW.out.mono (below2 _ _ _)) HR1).mono ?_
  rintro e w2 ⟨p1, l1, e1, p2, l2, e2, p3, l3, e3, p4, l4, e4, rfl, hm, hb2⟩
  have HB2 := Lib.hid (bstep (below2 w _ _) hb2)
  have hBs : b + 1 ≤ ((w.alloc (.cells #[.int .i64 kd, .string q1, .string q2, .bool q3, .string q4, .string q5, .string q6, .string q7, .bool q8, .bool q9] 73)).alloc (.cells #[.int .i64 kd, .string q1, .string q2, .bool q3, .string q4, .string q5, .string q6, .string q7, .bool q8, .bool q9] 73)).heap.size := by simp; omega
  generalize hbase : ((w.alloc (.cells #[.int .i64 kd, .string q1, .string q2, .bool q3, .string q4, .string q5, .string q6, .string q7, .bool q8, .bool q9] 73)).alloc (.cells #[.int .i64 kd, .string q1, .string q2, .bool q3, .string q4, .string q5, .string q6, .string q7, .bool q8, .bool q9] 73)).heap.size = base at *
  clear hbase hb2 HR1 HAp d0 d1 d2 d3
  by_cases h0 : r = 0
  · obtain ⟨A', hA, hO⟩ := hm h0
    have HO2 := Lib.hid hO
    have HA := Lib.hid (Value.agg.inj hA)
    have HRi2 := Lib.hid (HRi.out h0)
    clear hA hO hm HRi HW
    have hR := (HRow.out.below HB2.out).alloc (.cells #[.slice p1 l1 e1, .slice p2 l2 e2, .slice p3 l3 e3, .slice p4 l4 e4] 26)
    obtain ⟨g0, g1, g2, g3, _⟩ := hrow4 hR
    have f0 := hR.free 0
    have f1 := hR.free 1
    have f2 := hR.free 2
    have f3 := hR.free 3
    have HS := Lib.hid ((((hR.set 0 (.slice p1 l1 e1) (by simp)).set 1 (.slice p2 l2 e2) (by simp)).set 2 (.slice p3 l3 e3) (by simp)).set 3 (.slice p4 l4 e4) (by simp))
    have HM := Lib.hid (((HO2.out.up.below (below_alloc w2 (.cells #[.slice p1 l1 e1, .slice p2 l2 e2, .slice p3 l3 e3, .slice p4 l4 e4] 26))).grown (grown_set4 _ b (.slice p1 l1 e1) (.slice p2 l2 e2) (.slice p3 l3 e3) (.slice p4 l4 e4)) (show b < base from hBs)).base hBs)
    have HGr := Lib.hid ((grown_of_below (bstep HB2.out (below_alloc w2 (.cells #[.slice p1 l1 e1, .slice p2 l2 e2, .slice p3 l3 e3, .slice p4 l4 e4] 26))) (some b)).trans (grown_set4 _ b (.slice p1 l1 e1) (.slice p2 l2 e2) (.slice p3 l3 e3) (.slice p4 l4 e4)))
    have hz : (r == 0) = true := by simpa using h0
    subst h0
    clear hR HBx HO HB2 HO2 HRow
    go_wp2_with fail
    go_end0
    exact ⟨rfl, ⟨⟨A', m', by unfold machCells; rw [← HA.out]; exact HS.out, HRi2.out, HM.out⟩⟩, HGr.out⟩
  · have hz : (r == 0) = false := by simpa using h0
    clear hm HRi HW
    go_wp2_with fail
    go_end0
    exact ⟨rfl, (HBx.out.below HB2.out).below (below_alloc _ _), grown_of_below (bstep HB2.out (below_alloc _ _)) _⟩
theorem putF_any (x : P.Fi) (hp : x.p.size ≤ 4294967280) (hd : x.d.size ≤ 4294967280) (b : Nat) (w : World) (hw : Good w) (hb : Box w b) :
    Calls Tryz.prog 122 #[.agg #[.int .i64 1, .string x.p, .string x.d, .bool x.r, .string ⟨#[]⟩, .string ⟨#[]⟩, .string ⟨#[]⟩, .string ⟨#[]⟩, .bool false, .bool false], .pointer (some ⟨b, 0, none⟩)] w fun e w' => e = .returned (.tuple #[]) ∧ Box w' b ∧ w.grownBy w' (some b) :=
  put_core (P.putC x) 1 _ _ _ _ _ _ _ _ _ b w hw hb (fun n₀ B b1 b2 b3 A m W hr hg hn hwt => doF_any n₀ B b1 b2 b3 A m hr x hp hd W hg hn hwt)
theorem putS_any (x : P.St) (hp : x.k.size ≤ 4294967280) (hd : x.v.size ≤ 4294967280) (b : Nat) (w : World) (hw : Good w) (hb : Box w b) :
    Calls Tryz.prog 122 #[.agg #[.int .i64 3, .string ⟨#[]⟩, .string ⟨#[]⟩, .bool false, .string x.k, .string x.v, .string ⟨#[]⟩, .string ⟨#[]⟩, .bool false, .bool false], .pointer (some ⟨b, 0, none⟩)] w fun e w' => e = .returned (.tuple #[]) ∧ Box w' b ∧ w.grownBy w' (some b) :=
  put_core (P.setC x) 3 _ _ _ _ _ _ _ _ _ b w hw hb (fun n₀ B b1 b2 b3 A m W hr hg hn hwt => doS_any n₀ B b1 b2 b3 A m hr x hp hd W hg hn hwt)
theorem putV_any (x : P.Sv) (hp : x.n.size ≤ 4294967280) (hd : x.p.size ≤ 4294967280) (b : Nat) (w : World) (hw : Good w) (hb : Box w b) :
    Calls Tryz.prog 122 #[.agg #[.int .i64 5, .string ⟨#[]⟩, .string ⟨#[]⟩, .bool false, .string ⟨#[]⟩, .string ⟨#[]⟩, .string x.n, .string x.p, .bool x.a, .bool x.o], .pointer (some ⟨b, 0, none⟩)] w fun e w' => e = .returned (.tuple #[]) ∧ Box w' b ∧ w.grownBy w' (some b) :=
  put_core (P.svcC x) 5 _ _ _ _ _ _ _ _ _ b w hw hb (fun n₀ B b1 b2 b3 A m W hr hg hn hwt => doV_any n₀ B b1 b2 b3 A m hr x hp hd W hg hn hwt)
end Go.Proofs.YtkibmoekadmjnaaGreatDoor
