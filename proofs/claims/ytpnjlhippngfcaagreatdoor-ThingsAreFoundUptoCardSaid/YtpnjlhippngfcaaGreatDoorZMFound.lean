/- Walks: the law ThingsAreFound. -/
import Derived.Test.YtpnjlhippngfcaaGreatDoorZMEqK
import Derived.Test.YtpnjlhippngfcaaGreatDoorZMLaw1
import Derived.Test.YtpnjlhippngfcaaGreatDoorZMPathG
import Derived.Deep.RegionHeld3
import Derived.Deep.DeepCutAuto

namespace Go.Proofs.YtpnjlhippngfcaaGreatDoor
open Go.RowKit Go.Shelf Go.Maps

/-- the law's boxes -/
structure TS (w W : World) (a1 a2 a3 a4 : Option Addr) (c1 c2 c3 c4 : Nat) (F : List P.St) (I : List P.Fi) (S : List P.St) (V : List P.Sv) (s : ByteArray) : Prop where
  m : HasRow W w.heap.size #[.slice a1 F.length c1, .slice a2 I.length c2, .slice a3 S.length c3, .slice a4 V.length c4]
  s : HasRow W (w.heap.size + 1) #[.string s]
  b : Below w.heap.size w W
  l : Lies W.heap.size W ⟨a1, a2, a3, a4, c1, c2, c3, c4⟩ ⟨F, I, S, V⟩
section
variable {w W W' : World} {a1 a2 a3 a4 : Option Addr} {c1 c2 c3 c4 : Nat} {F : List P.St} {I : List P.Fi} {S : List P.St} {V : List P.Sv} {s : ByteArray}
theorem TS.below (h : TS w W a1 a2 a3 a4 c1 c2 c3 c4 F I S V s) (hb : Below W.heap.size W W') : TS w W' a1 a2 a3 a4 c1 c2 c3 c4 F I S V s := ⟨h.m.below hb, h.s.below hb, bstep h.b hb, (h.l.below hb).up hb.size⟩
theorem TS.cells (h : TS w W a1 a2 a3 a4 c1 c2 c3 c4 F I S V s) : W.cell? ⟨w.heap.size, 0, none⟩ = some (.slice a1 F.length c1) ∧ W.cell? ⟨w.heap.size, 1, none⟩ = some (.slice a2 I.length c2) ∧ W.cell? ⟨w.heap.size, 2, none⟩ = some (.slice a3 S.length c3) ∧ W.cell? ⟨w.heap.size, 3, none⟩ = some (.slice a4 V.length c4) ∧ W.cell? ⟨w.heap.size + 1, 0, none⟩ = some (.string s) :=
  ⟨h.m.cell 0, h.m.cell 1, h.m.cell 2, h.m.cell 3, h.s.cell 0⟩
end

theorem below_gr (W : World) (n : Nat) (os : Array Obj) : Below W.heap.size W (Sort.grow (W.drewN n) os) :=
  ⟨rfl, rfl, rfl, by show W.heap.size ≤ (W.heap ++ os).size; rw [Array.size_append]; omega, fun _ hj => Sort.heap_grow_old (W.drewN n) os hj⟩
theorem cell_gr {W : World} {a : Addr} {v : Value} (h : W.cell? a = some v) : ∀ (n : Nat) (os : Array Obj), (Sort.grow (W.drewN n) os).cell? a = some v := fun n os => Go.cell_grown (World.block_lt_of_cell? W a h) h n os
theorem path_gr (s : ByteArray) (hs : s.size ≤ 4294967280) (W : World) (hW : Good W) (n : Nat) (os : Array Obj) :
    Calls Tryz.prog 36 #[.string s] (Sort.grow (W.drewN n) os) fun e w' => e = .returned (.bool (P.pathS s)) ∧ ∃ q os', w' = Sort.grow ((Sort.grow (W.drewN n) os).drewN q) os' :=
  (rpathG s hs _ (hW.mono (below_gr W n os))).mono (fun _ _ h => ⟨h.1, 0, #[.cells ((P.splitS s 47).map Value.string).toArray 9], by rw [h.2, Sort.alloc_eq_grow]; rfl⟩)
theorem name_gr (s : ByteArray) (hs : s.size ≤ 4294967280) (W : World) (n : Nat) (os : Array Obj) :
    Calls Tryz.prog 35 #[.string s] (Sort.grow (W.drewN n) os) fun e w' => e = .returned (.bool (P.nameS s)) ∧ ∃ q os', w' = Sort.grow ((Sort.grow (W.drewN n) os).drewN q) os' :=
  (rname_any s hs _).mono (fun _ _ ⟨h1, h2⟩ => ⟨h1, 0, #[], by rw [Sort.grow_empty]; exact h2.symm⟩)
theorem named_gr (ok there : Bool) (r : Int) (hr : r = P.lookE ok there) (W : World) (n : Nat) (os : Array Obj) :
    Calls Tryz.prog 27 #[.bool ok, .bool there, .int .i64 r] (Sort.grow (W.drewN n) os) fun e w' => e = .returned (.bool true) ∧ ∃ q os', w' = Sort.grow ((Sort.grow (W.drewN n) os).drewN q) os' :=
  (named_any ok there r hr _).mono (fun _ _ ⟨h1, h2⟩ => ⟨h1, 0, #[], by rw [Sort.grow_empty]; exact h2.symm⟩)

set_option maxRecDepth 100000 in
set_option maxHeartbeats 16000000 in
theorem law_found (A : Ad) (m : P.Mach) (hf : m.fit) (s : ByteArray) (hs : s.size ≤ 4294967280) (w : World) (hw : Good w) (hl : Lies w.heap.size w A m) :
    Calls Tryz.prog 4 #[machV A m, .string s] w fun e w' => e = .returned (.bool true) ∧ Below w.heap.size w w' := by
  have HL0 := Lib.hid landed_any
  have HFit := Lib.hid (fun W hW hL => fit_any A m hf W hW hL)
  have HW := Lib.hid hw
  have HL := Lib.hid hl
  unfold FitPost at HFit
  clear hw hl hf
  obtain ⟨x1, x2, x3, x4, k1, k2, k3, k4⟩ := A
  obtain ⟨X1, X2, X3, X4⟩ := m
  unfold machV at HFit ⊢
  simp only at HFit ⊢
  have HM0 := Lib.hid ((HasRow.new w #[.slice x1 X1.length k1, .slice x2 X2.length k2, .slice x3 X3.length k3, .slice x4 X4.length k4] 26).alloc (.cells #[.string s] 9))
  have HS0 := Lib.hid (HasRow.new (w.alloc (.cells #[.slice x1 X1.length k1, .slice x2 X2.length k2, .slice x3 X3.length k3, .slice x4 X4.length k4] 26)) #[.string s] 9)
  rw [World.size_alloc] at HS0
  have HB0 := Lib.hid (below2 w (.cells #[.slice x1 X1.length k1, .slice x2 X2.length k2, .slice x3 X3.length k3, .slice x4 X4.length k4] 26) (.cells #[.string s] 9))
  have hsz0 : w.heap.size < ((w.alloc (.cells #[.slice x1 X1.length k1, .slice x2 X2.length k2, .slice x3 X3.length k3, .slice x4 X4.length k4] 26)).alloc (.cells #[.string s] 9)).heap.size := by simp; omega
  go_enter Tryz.func4, Tryz.ntmps4
  go_wp2_with fail
  refine (HL0.out _).mono ?_
  rintro x w0 ⟨rfl, hw0⟩
  rw [hw0] at HM0 HS0 HB0 hsz0
  clear hw0 HL0
  obtain ⟨d0, d1, d2, d3, _⟩ := hrow4 HM0.out
  go_wp2_with fail
  refine (HFit.out _ (HW.out.mono HB0.out) ((HL.out.below HB0.out).up HB0.out.size)).mono ?_
  rintro e w2 ⟨A', m', rfl, hright, hlies, hb2, hor⟩
  have hR := HM0.out.below hb2
  have HB2 := Lib.hid (bstep HB0.out hb2)
  have hS2 := HS0.out.below hb2
  obtain ⟨a1, a2, a3, a4, c1, c2, c3, c4⟩ := A'
  obtain ⟨F, I, S, V⟩ := m'
  obtain ⟨g0, g1, g2, g3, _⟩ := hrow4 hR
  have f0 := hR.free 0
  have f1 := hR.free 1
  have f2 := hR.free 2
  have f3 := hR.free 3
  have hg4 := grown_set4 w2 w.heap.size (.slice a1 F.length c1) (.slice a2 I.length c2) (.slice a3 S.length c3) (.slice a4 V.length c4)
  have HT3 : Hid (TS w _ a1 a2 a3 a4 c1 c2 c3 c4 F I S V s) := Lib.hid ⟨(store4 hR HB2.out (Nat.le_refl _) (.slice a1 F.length c1) (.slice a2 I.length c2) (.slice a3 S.length c3) (.slice a4 V.length c4)).1, hS2.grown hg4 (fun e => by injection e; omega), (store4 hR HB2.out (Nat.le_refl _) (.slice a1 F.length c1) (.slice a2 I.length c2) (.slice a3 S.length c3) (.slice a4 V.length c4)).2, by
    rcases hor with ⟨e1, e2⟩ | hup
    · rw [e1, e2]
      exact (HL.out.below (store4 hR HB2.out (Nat.le_refl _) (.slice a1 F.length c1) (.slice a2 I.length c2) (.slice a3 S.length c3) (.slice a4 V.length c4)).2).up (by simpa [World.setCell] using HB2.out.size)
    · exact (hup.grown hg4 hsz0).l⟩
  have HRi := Lib.hid hright
  clear hR hS2 hright hlies hb2 hor hg4 HFit HL HM0 HS0 HB0 HB2 d0 d1 d2 d3 hsz0
  dsimp only
  have HSz : Hid (∀ W, TS w W a1 a2 a3 a4 c1 c2 c3 c4 F I S V s → Good W) := Lib.hid (fun W h => HW.out.mono h.b)
  have hlF : F.length ≤ 4294967280 := HRi.out.fit.l1
  have hlI : I.length ≤ 4294967280 := HRi.out.fit.l2
  have hlS : S.length ≤ 4294967280 := HRi.out.fit.l3
  have hlV : V.length ≤ 4294967280 := HRi.out.fit.l4
  have HI1 := Lib.hid (fun W (h : TS w W a1 a2 a3 a4 c1 c2 c3 c4 F I S V s) => indexS_any F a1 c1 hlF HRi.out.r1 s 29 (enters_of Tryz.func29 (by kernel_rfl) rfl) (.pointer (some ⟨w.heap.size + 1, 0, none⟩)) W h.l.f (fun k hk W' hb => pick2_any F[k] s _ W' (cell_keep hb (h.s.cell 0))))
  have HI2 := Lib.hid (fun W (h : TS w W a1 a2 a3 a4 c1 c2 c3 c4 F I S V s) => indexF_any I a2 c2 hlI HRi.out.r2 s 31 (enters_of Tryz.func31 (by kernel_rfl) rfl) (.pointer (some ⟨w.heap.size + 1, 0, none⟩)) W h.l.i (fun k hk W' hb => pick3_any I[k] s _ W' (cell_keep hb (h.s.cell 0))))
  have HI3 := Lib.hid (fun W (h : TS w W a1 a2 a3 a4 c1 c2 c3 c4 F I S V s) => indexS_any S a3 c3 hlS HRi.out.r3 s 32 (enters_of Tryz.func32 (by kernel_rfl) rfl) (.pointer (some ⟨w.heap.size + 1, 0, none⟩)) W h.l.s (fun k hk W' hb => pick4_any S[k] s _ W' (cell_keep hb (h.s.cell 0))))
  have HI4 := Lib.hid (fun W (h : TS w W a1 a2 a3 a4 c1 c2 c3 c4 F I S V s) => indexV_any V a4 c4 hlV HRi.out.r4 s 34 (enters_of Tryz.func34 (by kernel_rfl) rfl) (.pointer (some ⟨w.heap.size + 1, 0, none⟩)) W h.l.v (fun k hk W' hb => pick5_any V[k] s _ W' (cell_keep hb (h.s.cell 0))))
  have HD1 := Lib.hid (fun W (h : TS w W a1 a2 a3 a4 c1 c2 c3 c4 F I S V s) => fact_any ⟨a1, a2, a3, a4, c1, c2, c3, c4⟩ ⟨F, I, S, V⟩ HRi.out s hs W (HSz.out W h) h.l)
  have HD2 := Lib.hid (fun W (h : TS w W a1 a2 a3 a4 c1 c2 c3 c4 F I S V s) => file_any ⟨a1, a2, a3, a4, c1, c2, c3, c4⟩ ⟨F, I, S, V⟩ HRi.out s hs W (HSz.out W h) h.l)
  have HD3 := Lib.hid (fun W (h : TS w W a1 a2 a3 a4 c1 c2 c3 c4 F I S V s) => setting_any ⟨a1, a2, a3, a4, c1, c2, c3, c4⟩ ⟨F, I, S, V⟩ HRi.out s hs W (HSz.out W h) h.l)
  have HD4 := Lib.hid (fun W (h : TS w W a1 a2 a3 a4 c1 c2 c3 c4 F I S V s) => service_any ⟨a1, a2, a3, a4, c1, c2, c3, c4⟩ ⟨F, I, S, V⟩ HRi.out s hs W (HSz.out W h) h.l)
  have HD5 := Lib.hid (fun W (h : TS w W a1 a2 a3 a4 c1 c2 c3 c4 F I S V s) => below_core a1 F.length c1 a2 I c2 a3 S.length c3 a4 V.length c4 s hs hlI W (by
    have hh := ChecksTo.of ⟨a1, a2, a3, a4, c1, c2, c3, c4⟩ ⟨F, I, S, V⟩ HRi.out.fit W (HSz.out W h) h.l
    rw [(P.right_iff _).2 HRi.out] at hh; exact hh) h.l.i)
  unfold Placed at HI1 HI2 HI3 HI4
  unfold GivesFact machV at HD1
  unfold GivesFile machV at HD2
  unfold GivesSetting machV at HD3
  unfold GivesService machV at HD4
  simp only at HD1 HD2 HD3 HD4
  go_wp2_with fail
  clear g0 g1 g2 g3 f0 f1 f2 f3
  refine (HI1.out _ HT3.out).mono ?_
  rintro e v1 ⟨r1, rfl, hi, hb⟩
  have HT4 := Lib.hid (HT3.out.below hb)
  have HX1 := Lib.hid hi
  clear hb hi HT3 HI1
  obtain ⟨m0, m1, m2, m3, ms⟩ := HT4.out.cells
  go_wp2_with fail
  clear m0 m1 m2 m3 ms
  refine (HI2.out _ HT4.out).mono ?_
  rintro e v2 ⟨r2, rfl, hi, hb⟩
  have HT5 := Lib.hid (HT4.out.below hb)
  have HX2 := Lib.hid hi
  clear hb hi HT4 HI2
  obtain ⟨m0, m1, m2, m3, ms⟩ := HT5.out.cells
  go_wp2_with fail
  clear m0 m1 m2 m3 ms
  refine (HI3.out _ HT5.out).mono ?_
  rintro e v3 ⟨r3, rfl, hi, hb⟩
  have HT6 := Lib.hid (HT5.out.below hb)
  have HX3 := Lib.hid hi
  clear hb hi HT5 HI3
  obtain ⟨m0, m1, m2, m3, ms⟩ := HT6.out.cells
  go_wp2_with fail
  clear m0 m1 m2 m3 ms
  refine (HI4.out _ HT6.out).mono ?_
  rintro e v4 ⟨r4, rfl, hi, hb⟩
  have HT7 := Lib.hid (HT6.out.below hb)
  have HX4 := Lib.hid hi
  clear hb hi HT6 HI4
  obtain ⟨m0, m1, m2, m3, ms⟩ := HT7.out.cells
  go_wp2_with fail
  clear m0 m1 m2 m3 ms
  refine (HD1.out _ HT7.out).mono ?_
  rintro e u1 ⟨y1, rfl, hy, hb⟩
  have HU1 := Lib.hid (HT7.out.below hb)
  have HY1 := Lib.hid hy
  clear hb hy HT7 HD1
  go_upto_region 10 with fail
  go_cut [66] (fun t wx => t = .bool false ∧ Hid (TS w wx a1 a2 a3 a4 c1 c2 c3 c4 F I S V s))
  case first =>
    as_aux_lemma =>
      have HIs := Lib.hid (fun W (h : TS w W a1 a2 a3 a4 c1 c2 c3 c4 F I S V s) => rnameB hs W)
      obtain ⟨m0, m1, m2, m3, ms⟩ := HU1.out.cells
      generalize hE : P.lookE (P.nameS s) (P.findK P.St.k F s).isSome = e1 at *
      have HE := Lib.hid hE
      clear hE
      generalize P.nameS s = ok at *
      cases ok with
      | false =>
        obtain rfl : e1 = 5 := by rw [← HE.out]; simp [P.lookE]
        have HNm := Lib.hid (fun t W => named_any false t 5 (by simp [P.lookE]) W)
        clear HE HY1
        go_wp2_with (first
          | (go_at_call 35; refine (HIs.out _ HU1.out).mono ?_; rintro e z ⟨rfl, hbz⟩; have HZ := Lib.hid (HU1.out.below hbz); clear hbz)
          | (go_at_call 27; refine (HNm.out _ _).mono ?_; rintro e z2 ⟨rfl, rfl⟩))
        go_meet
        exact ⟨rfl, HZ⟩
      | true =>
        rcases HX1.out with ⟨hr, hfk⟩ | ⟨k, hk, hr, hfk⟩
        · obtain rfl : e1 = 10 := by rw [← HE.out, hfk]; simp [P.lookE]
          subst hr
          have HNm := Lib.hid (fun W => named_any true false 10 (by simp [P.lookE]) W)
          clear HE HY1 hfk
          go_wp2_with (first
            | (go_at_call 35; refine (HIs.out _ HU1.out).mono ?_; rintro e z ⟨rfl, hbz⟩; have HZ := Lib.hid (HU1.out.below hbz); clear hbz)
            | (go_at_call 27; refine (HNm.out _).mono ?_; rintro e z2 ⟨rfl, rfl⟩))
          go_meet
          exact ⟨rfl, HZ⟩
        · obtain rfl : e1 = 0 := by rw [← HE.out, hfk]; simp [P.lookE]
          have hyk : y1 = F[k] := by have h := HY1.out rfl; rw [hfk] at h; injection h with h; exact h.symm
          subst hr
          have HNm := Lib.hid (fun W => named_any true true 0 (by simp [P.lookE]) W)
          have HC := Lib.hid (fun W (h : TS w W a1 a2 a3 a4 c1 c2 c3 c4 F I S V s) => show ∃ bb off, a1 = some ⟨bb, off, none⟩ ∧ W.cell? ⟨bb, off + k * 2, none⟩ = some (.string y1.k) ∧ W.cell? ⟨bb, off + k * 2 + 1, none⟩ = some (.string y1.v) from by
            obtain ⟨bb, off, ea, _, hc⟩ := h.l.f.at_ (ne_nil_of_lt hk)
            have hck := hc k hk
            rw [hyk]
            exact ⟨bb, off, ea, hck⟩)
          clear HE HY1 hfk hyk
          go_wp2_with (first
            | (go_at_call 35; refine (HIs.out _ HU1.out).mono ?_; rintro e z ⟨rfl, hbz⟩; have HZ := Lib.hid (HU1.out.below hbz); clear hbz; clear m0 m1 m2 m3 ms; obtain ⟨m0, m1, m2, m3, ms⟩ := HZ.out.cells; obtain ⟨bb, off, ea, q0, q1⟩ := HC.out _ HZ.out; rw [ea] at m0; clear ea)
            | (go_at_call 27; refine (HNm.out _).mono ?_; rintro e z2 ⟨rfl, rfl⟩))
          go_meet
          exact ⟨rfl, HZ⟩
  case rest =>
    obtain ⟨rfl, HT8⟩ := hcut
    clear HU1 HX1
    obtain ⟨m0, m1, m2, m3, ms⟩ := HT8.out.cells
    go_wp2_with fail
    clear m0 m1 m2 m3 ms
    refine (HD2.out _ HT8.out).mono ?_
    rintro e u2 ⟨y2, rfl, hy, hb⟩
    have HU2 := Lib.hid ((HT8.out.below hb).below (below_alloc u2 (.cells #[.string y2.p, .string y2.d, .bool y2.r] 42)))
    have HBx := Lib.hid (HasRow.new u2 #[.string y2.p, .string y2.d, .bool y2.r] 42)
    have HY2 := Lib.hid hy
    clear hb hy HT8 HD2
    go_upto_region 13 with fail
    go_cut [93] (fun t wx => t = .bool false ∧ Hid (TS w wx a1 a2 a3 a4 c1 c2 c3 c4 F I S V s))
    case first =>
      as_aux_lemma =>
        have HIs := Lib.hid (fun n os => path_gr s hs _ (HSz.out _ HU2.out) n os)
        obtain ⟨W, hWW⟩ : ∃ W, W = u2.alloc (.cells #[.string y2.p, .string y2.d, .bool y2.r] 42) := ⟨_, rfl⟩
        rw [← hWW] at HU2 HBx HIs ⊢
        clear hWW HD3 HD4 HD5 HX3 HX4
        generalize u2.heap.size = nb at *
        obtain ⟨m0, m1, m2, m3, ms⟩ := HU2.out.cells
        generalize hE : P.lookE (P.pathS s) (P.findK P.Fi.p I s).isSome = e2 at *
        have HE := Lib.hid hE
        clear hE
        generalize P.pathS s = ok at *
        cases ok with
        | false =>
          have he5 : e2 = 5 := by rw [← HE.out]; simp [P.lookE]
          have hz : (e2 == 0) = false := by rw [he5]; rfl
          have HNm := Lib.hid (fun t n os => named_gr false t e2 (by rw [he5]; simp [P.lookE]) W n os)
          clear he5
          clear HE HY2
          have mixed : Tryz.prog.follows .mixedOrders = true := by kernel_rfl
          clear HW HRi HSz hlF hlI hlS hlV
          have hs0 := cell_gr (HU2.out.s.cell 0)
          replace hs0 := (show ∀ (n : Nat) (os : Array Obj), (Sort.grow (_ : World) os).cell? ⟨w.heap.size + 1, 0, none⟩ = some (.string s) from hs0)
          refine wp_region_quiet_grown mixed (by kernel_rfl) ?_
          repeat (go_big_quiet_step (first
            | (go_at_call 36; refine Calls.grown_of (HIs.out _ _))
            | (go_at_call 27; refine Calls.grown_of (HNm.out _ _ _))))
          refine wpQuiet_nil ?_
          intro _ hw'
          obtain ⟨⟨nq, osq⟩, hw''⟩ := hw'
          subst hw''
          go_wp2_with fail
          go_meet
          exact ⟨rfl, Lib.hid (HU2.out.below (below_gr _ _ _))⟩
        | true =>
          rcases HX2.out with ⟨hr, hfk⟩ | ⟨k, hk, hr, hfk⟩
          · have he5 : e2 = 10 := by rw [← HE.out, hfk]; simp [P.lookE]
            have hz : (e2 == 0) = false := by rw [he5]; rfl
            have hge : decide ((0 : Int) ≤ r2) = false := by rw [hr]; rfl
            have HNm := Lib.hid (fun n os => named_gr true false e2 (by rw [he5]; simp [P.lookE]) W n os)
            clear HE HY2 hfk hr he5
            have mixed : Tryz.prog.follows .mixedOrders = true := by kernel_rfl
            clear HW HRi HSz hlF hlI hlS hlV
            have hs0 := cell_gr (HU2.out.s.cell 0)
            replace hs0 := (show ∀ (n : Nat) (os : Array Obj), (Sort.grow (_ : World) os).cell? ⟨w.heap.size + 1, 0, none⟩ = some (.string s) from hs0)
            refine wp_region_quiet_grown mixed (by kernel_rfl) ?_
            repeat (go_big_quiet_step (first
              | (go_at_call 36; refine Calls.grown_of (HIs.out _ _))
              | (go_at_call 27; refine Calls.grown_of (HNm.out  _ _))))
            refine wpQuiet_nil ?_
            intro _ hw'
            obtain ⟨⟨nq, osq⟩, hw''⟩ := hw'
            subst hw''
            go_wp2_with fail
            go_meet
            exact ⟨rfl, Lib.hid (HU2.out.below (below_gr _ _ _))⟩
          · have he5 : e2 = 0 := by rw [← HE.out, hfk]; simp [P.lookE]
            have hz : (e2 == 0) = true := by rw [he5]; rfl
            have hyk : y2 = I[k] := by have h := HY2.out he5; rw [hfk] at h; injection h with h; exact h.symm
            subst hr
            have HNm := Lib.hid (fun n os => named_gr true true e2 (by rw [he5]; simp [P.lookE]) W n os)
            have HC := Lib.hid (fun W (h : TS w W a1 a2 a3 a4 c1 c2 c3 c4 F I S V s) => show ∃ bb off, a2 = some ⟨bb, off, none⟩ ∧ W.cell? ⟨bb, off + k * 3, none⟩ = some (.string y2.p) ∧ W.cell? ⟨bb, off + k * 3 + 1, none⟩ = some (.string y2.d) ∧ W.cell? ⟨bb, off + k * 3 + 1 + 1, none⟩ = some (.bool y2.r) from by
              obtain ⟨bb, off, ea, _, hc⟩ := h.l.i.at_ (ne_nil_of_lt hk)
              have hck := hc k hk
              rw [hyk]
              exact ⟨bb, off, ea, hck⟩)
            clear HE HY2 hfk hyk he5
            obtain ⟨bb, off, ea, p0, p1, p2⟩ := HC.out _ HU2.out
            rw [ea] at m1
            have mm := cell_gr m1
            have q0 := cell_gr p0
            have b0 := cell_gr (HBx.out.cell 0)
            have q1 := cell_gr p1
            have b1 := cell_gr (HBx.out.cell 1)
            have q2 := cell_gr p2
            have b2 := cell_gr (HBx.out.cell 2)
            replace b0 := (show ∀ (n : Nat) (os : Array Obj), (Sort.grow (_ : World) os).cell? ⟨nb, 0, none⟩ = some (.string y2.p) from b0)
            replace b1 := (show ∀ (n : Nat) (os : Array Obj), (Sort.grow (_ : World) os).cell? ⟨nb, 1, none⟩ = some (.string y2.d) from b1)
            replace b2 := (show ∀ (n : Nat) (os : Array Obj), (Sort.grow (_ : World) os).cell? ⟨nb, 2, none⟩ = some (.bool y2.r) from b2)
            clear p0 p1 p2
            have mixed : Tryz.prog.follows .mixedOrders = true := by kernel_rfl
            clear HW HRi HSz hlF hlI hlS hlV
            have hs0 := cell_gr (HU2.out.s.cell 0)
            replace hs0 := (show ∀ (n : Nat) (os : Array Obj), (Sort.grow (_ : World) os).cell? ⟨w.heap.size + 1, 0, none⟩ = some (.string s) from hs0)
            refine wp_region_quiet_grown mixed (by kernel_rfl) ?_
            repeat (go_big_quiet_step (first
              | (go_at_call 36; refine Calls.grown_of (HIs.out _ _))
              | (go_at_call 27; refine Calls.grown_of (HNm.out  _ _))))
            refine wpQuiet_nil ?_
            intro _ hw'
            obtain ⟨⟨nq, osq⟩, hw''⟩ := hw'
            subst hw''
            go_wp2_with fail
            go_meet
            exact ⟨rfl, Lib.hid (HU2.out.below (below_gr _ _ _))⟩
    case rest =>
      obtain ⟨rfl, HT9⟩ := hcut
      clear HU2 HX2 HBx
      obtain ⟨m0, m1, m2, m3, ms⟩ := HT9.out.cells
      go_wp2_with fail
      clear m0 m1 m2 m3 ms
      refine (HD3.out _ HT9.out).mono ?_
      rintro e u3 ⟨y3, rfl, hy, hb⟩
      have HU3 := Lib.hid (HT9.out.below hb)
      have HY3 := Lib.hid hy
      clear hb hy HT9 HD3
      go_upto_region 16 with fail
      go_cut [121] (fun t wx => t = .bool false ∧ Hid (TS w wx a1 a2 a3 a4 c1 c2 c3 c4 F I S V s))
      case first =>
        as_aux_lemma =>
          have HIs := Lib.hid (fun W (h : TS w W a1 a2 a3 a4 c1 c2 c3 c4 F I S V s) => rpath_any s hs W (HSz.out W h))
          obtain ⟨m0, m1, m2, m3, ms⟩ := HU3.out.cells
          generalize hE : P.lookE (P.pathS s) (P.findK P.St.k S s).isSome = e3 at *
          have HE := Lib.hid hE
          clear hE
          generalize P.pathS s = ok at *
          cases ok with
          | false =>
            obtain rfl : e3 = 5 := by rw [← HE.out]; simp [P.lookE]
            have HNm := Lib.hid (fun t W => named_any false t 5 (by simp [P.lookE]) W)
            clear HE HY3
            go_wp2_with (first
              | (go_at_call 36; refine (HIs.out _ HU3.out).mono ?_; rintro e z ⟨rfl, hbz⟩; have HZ := Lib.hid (HU3.out.below hbz); clear hbz)
              | (go_at_call 27; refine (HNm.out _ _).mono ?_; rintro e z2 ⟨rfl, rfl⟩))
            go_meet
            exact ⟨rfl, HZ⟩
          | true =>
            rcases HX3.out with ⟨hr, hfk⟩ | ⟨k, hk, hr, hfk⟩
            · obtain rfl : e3 = 10 := by rw [← HE.out, hfk]; simp [P.lookE]
              subst hr
              have HNm := Lib.hid (fun W => named_any true false 10 (by simp [P.lookE]) W)
              clear HE HY3 hfk
              go_wp2_with (first
                | (go_at_call 36; refine (HIs.out _ HU3.out).mono ?_; rintro e z ⟨rfl, hbz⟩; have HZ := Lib.hid (HU3.out.below hbz); clear hbz)
                | (go_at_call 27; refine (HNm.out _).mono ?_; rintro e z2 ⟨rfl, rfl⟩))
              go_meet
              exact ⟨rfl, HZ⟩
            · obtain rfl : e3 = 0 := by rw [← HE.out, hfk]; simp [P.lookE]
              have hyk : y3 = S[k] := by have h := HY3.out rfl; rw [hfk] at h; injection h with h; exact h.symm
              subst hr
              have HNm := Lib.hid (fun W => named_any true true 0 (by simp [P.lookE]) W)
              have HC := Lib.hid (fun W (h : TS w W a1 a2 a3 a4 c1 c2 c3 c4 F I S V s) => show ∃ bb off, a3 = some ⟨bb, off, none⟩ ∧ W.cell? ⟨bb, off + k * 2, none⟩ = some (.string y3.k) ∧ W.cell? ⟨bb, off + k * 2 + 1, none⟩ = some (.string y3.v) from by
                obtain ⟨bb, off, ea, _, hc⟩ := h.l.s.at_ (ne_nil_of_lt hk)
                have hck := hc k hk
                rw [hyk]
                exact ⟨bb, off, ea, hck⟩)
              clear HE HY3 hfk hyk
              go_wp2_with (first
                | (go_at_call 36; refine (HIs.out _ HU3.out).mono ?_; rintro e z ⟨rfl, hbz⟩; have HZ := Lib.hid (HU3.out.below hbz); clear hbz; clear m0 m1 m2 m3 ms; obtain ⟨m0, m1, m2, m3, ms⟩ := HZ.out.cells; obtain ⟨bb, off, ea, q0, q1⟩ := HC.out _ HZ.out; rw [ea] at m2; clear ea)
                | (go_at_call 27; refine (HNm.out _).mono ?_; rintro e z2 ⟨rfl, rfl⟩))
              go_meet
              exact ⟨rfl, HZ⟩
      case rest =>
        obtain ⟨rfl, HT10⟩ := hcut
        clear HU3 HX3
        obtain ⟨m0, m1, m2, m3, ms⟩ := HT10.out.cells
        go_wp2_with fail
        clear m0 m1 m2 m3 ms
        refine (HD4.out _ HT10.out).mono ?_
        rintro e u4 ⟨y4, rfl, hy, hb⟩
        have HU4 := Lib.hid ((HT10.out.below hb).below (below_alloc u4 (.cells #[.string y4.n, .string y4.p, .bool y4.a, .bool y4.o] 46)))
        have HBx := Lib.hid (HasRow.new u4 #[.string y4.n, .string y4.p, .bool y4.a, .bool y4.o] 46)
        have HY4 := Lib.hid hy
        clear hb hy HT10 HD4
        go_upto_region 19 with fail
        go_cut [148] (fun t wx => t = .bool false ∧ Hid (TS w wx a1 a2 a3 a4 c1 c2 c3 c4 F I S V s))
        case first =>
          as_aux_lemma =>
            have HIs := Lib.hid (fun n os => name_gr s hs (World.alloc u4 (.cells #[.string y4.n, .string y4.p, .bool y4.a, .bool y4.o] 46)) n os)
            obtain ⟨W, hWW⟩ : ∃ W, W = u4.alloc (.cells #[.string y4.n, .string y4.p, .bool y4.a, .bool y4.o] 46) := ⟨_, rfl⟩
            rw [← hWW] at HU4 HBx HIs ⊢
            clear hWW HD5
            generalize u4.heap.size = nb at *
            obtain ⟨m0, m1, m2, m3, ms⟩ := HU4.out.cells
            generalize hE : P.lookE (P.nameS s) (P.findK P.Sv.n V s).isSome = e4 at *
            have HE := Lib.hid hE
            clear hE
            generalize P.nameS s = ok at *
            cases ok with
            | false =>
              have he5 : e4 = 5 := by rw [← HE.out]; simp [P.lookE]
              have hz : (e4 == 0) = false := by rw [he5]; rfl
              have HNm := Lib.hid (fun t n os => named_gr false t e4 (by rw [he5]; simp [P.lookE]) W n os)
              clear he5
              clear HE HY4
              have mixed : Tryz.prog.follows .mixedOrders = true := by kernel_rfl
              clear HW HRi HSz hlF hlI hlS hlV
              have hs0 := cell_gr (HU4.out.s.cell 0)
              replace hs0 := (show ∀ (n : Nat) (os : Array Obj), (Sort.grow (_ : World) os).cell? ⟨w.heap.size + 1, 0, none⟩ = some (.string s) from hs0)
              refine wp_region_quiet_grown mixed (by kernel_rfl) ?_
              repeat (go_big_quiet_step (first
                | (go_at_call 35; refine Calls.grown_of (HIs.out _ _))
                | (go_at_call 27; refine Calls.grown_of (HNm.out _ _ _))))
              refine wpQuiet_nil ?_
              intro _ hw'
              obtain ⟨⟨nq, osq⟩, hw''⟩ := hw'
              subst hw''
              go_wp2_with fail
              go_meet
              exact ⟨rfl, Lib.hid (HU4.out.below (below_gr _ _ _))⟩
            | true =>
              rcases HX4.out with ⟨hr, hfk⟩ | ⟨k, hk, hr, hfk⟩
              · have he5 : e4 = 10 := by rw [← HE.out, hfk]; simp [P.lookE]
                have hz : (e4 == 0) = false := by rw [he5]; rfl
                have hge : decide ((0 : Int) ≤ r4) = false := by rw [hr]; rfl
                have HNm := Lib.hid (fun n os => named_gr true false e4 (by rw [he5]; simp [P.lookE]) W n os)
                clear HE HY4 hfk hr he5
                have mixed : Tryz.prog.follows .mixedOrders = true := by kernel_rfl
                clear HW HRi HSz hlF hlI hlS hlV
                have hs0 := cell_gr (HU4.out.s.cell 0)
                replace hs0 := (show ∀ (n : Nat) (os : Array Obj), (Sort.grow (_ : World) os).cell? ⟨w.heap.size + 1, 0, none⟩ = some (.string s) from hs0)
                refine wp_region_quiet_grown mixed (by kernel_rfl) ?_
                repeat (go_big_quiet_step (first
                  | (go_at_call 35; refine Calls.grown_of (HIs.out _ _))
                  | (go_at_call 27; refine Calls.grown_of (HNm.out  _ _))))
                refine wpQuiet_nil ?_
                intro _ hw'
                obtain ⟨⟨nq, osq⟩, hw''⟩ := hw'
                subst hw''
                go_wp2_with fail
                go_meet
                exact ⟨rfl, Lib.hid (HU4.out.below (below_gr _ _ _))⟩
              · have he5 : e4 = 0 := by rw [← HE.out, hfk]; simp [P.lookE]
                have hz : (e4 == 0) = true := by rw [he5]; rfl
                have hyk : y4 = V[k] := by have h := HY4.out he5; rw [hfk] at h; injection h with h; exact h.symm
                subst hr
                have HNm := Lib.hid (fun n os => named_gr true true e4 (by rw [he5]; simp [P.lookE]) W n os)
                have HC := Lib.hid (fun W (h : TS w W a1 a2 a3 a4 c1 c2 c3 c4 F I S V s) => show ∃ bb off, a4 = some ⟨bb, off, none⟩ ∧ W.cell? ⟨bb, off + k * 4, none⟩ = some (.string y4.n) ∧ W.cell? ⟨bb, off + k * 4 + 1, none⟩ = some (.string y4.p) ∧ W.cell? ⟨bb, off + k * 4 + 1 + 1, none⟩ = some (.bool y4.a) ∧ W.cell? ⟨bb, off + k * 4 + 1 + 1 + 1, none⟩ = some (.bool y4.o) from by
                  obtain ⟨bb, off, ea, _, hc⟩ := h.l.v.at_ (ne_nil_of_lt hk)
                  have hck := hc k hk
                  rw [hyk]
                  exact ⟨bb, off, ea, hck⟩)
                clear HE HY4 hfk hyk he5
                obtain ⟨bb, off, ea, p0, p1, p2, p3⟩ := HC.out _ HU4.out
                rw [ea] at m3
                have mm := cell_gr m3
                have q0 := cell_gr p0
                have b0 := cell_gr (HBx.out.cell 0)
                have q1 := cell_gr p1
                have b1 := cell_gr (HBx.out.cell 1)
                have q2 := cell_gr p2
                have b2 := cell_gr (HBx.out.cell 2)
                have q3 := cell_gr p3
                have b3 := cell_gr (HBx.out.cell 3)
                replace b0 := (show ∀ (n : Nat) (os : Array Obj), (Sort.grow (_ : World) os).cell? ⟨nb, 0, none⟩ = some (.string y4.n) from b0)
                replace b1 := (show ∀ (n : Nat) (os : Array Obj), (Sort.grow (_ : World) os).cell? ⟨nb, 1, none⟩ = some (.string y4.p) from b1)
                replace b2 := (show ∀ (n : Nat) (os : Array Obj), (Sort.grow (_ : World) os).cell? ⟨nb, 2, none⟩ = some (.bool y4.a) from b2)
                replace b3 := (show ∀ (n : Nat) (os : Array Obj), (Sort.grow (_ : World) os).cell? ⟨nb, 3, none⟩ = some (.bool y4.o) from b3)
                clear p0 p1 p2 p3
                have mixed : Tryz.prog.follows .mixedOrders = true := by kernel_rfl
                clear HW HRi HSz hlF hlI hlS hlV
                have hs0 := cell_gr (HU4.out.s.cell 0)
                replace hs0 := (show ∀ (n : Nat) (os : Array Obj), (Sort.grow (_ : World) os).cell? ⟨w.heap.size + 1, 0, none⟩ = some (.string s) from hs0)
                refine wp_region_quiet_grown mixed (by kernel_rfl) ?_
                repeat (go_big_quiet_step (first
                  | (go_at_call 35; refine Calls.grown_of (HIs.out _ _))
                  | (go_at_call 27; refine Calls.grown_of (HNm.out  _ _))))
                refine wpQuiet_nil ?_
                intro _ hw'
                obtain ⟨⟨nq, osq⟩, hw''⟩ := hw'
                subst hw''
                go_wp2_with fail
                go_meet
                exact ⟨rfl, Lib.hid (HU4.out.below (below_gr _ _ _))⟩
        case rest =>
          obtain ⟨rfl, HT11⟩ := hcut
          clear HU4 HX4 HBx
          obtain ⟨m0, m1, m2, m3, ms⟩ := HT11.out.cells
          go_wp2_with fail
          clear m0 m1 m2 m3 ms
          have HIs := Lib.hid (fun W (h : TS w W a1 a2 a3 a4 c1 c2 c3 c4 F I S V s) => rpath_any s hs W (HSz.out W h))
          refine (HD5.out _ HT11.out).mono ?_
          rintro e u5 hpost
          unfold BelowPost at hpost
          rcases hpost with ⟨hs0, hp, rfl, hb⟩ | ⟨hor, p0, n0, c0, rfl, ho, hn, hb⟩
          · as_aux_lemma =>
            have HU5 := Lib.hid (HT11.out.below hb)
            rw [hp] at HIs
            have h1 : (s.toList == []) = false := by
              rw [beq_eq_false_iff_ne]; intro h; apply hs0; apply toList_inj; rw [h, Lib.toList_data]
            have h2 : s.toList.isEmpty = false := by
              cases h : s.toList.isEmpty with
              | false => rfl
              | true => exact absurd (toList_inj (a := s) (b := ⟨#[]⟩) (by rw [List.isEmpty_iff.1 h, Lib.toList_data])) hs0
            have h3 := ne_of h2
            obtain ⟨m0, m1, m2, m3, ms⟩ := HU5.out.cells
            clear hb HT11 HD5 HRi HSz hs0 hp
            go_wp2_with (refine (HIs.out _ HU5.out).mono ?_; rintro e z ⟨rfl, hbz⟩)
            go_ret
            exact ⟨rfl, bstep HU5.out.b hbz⟩
          · have HU5 := Lib.hid (HT11.out.below hb)
            have HO0 := Lib.hid ho
            have HN0 := Lib.hid hn
            have HOr := Lib.hid hor
            obtain ⟨i0, hi, hz0, hz1, hz2⟩ := info_parts info9'
            obtain ⟨m0, m1, m2, m3, ms⟩ := HU5.out.cells
            clear hb HT11 HD5 ho hn hor
            by_cases hs0 : s = ⟨#[]⟩
            · as_aux_lemma =>
              clear HIs HOr HRi HSz HW
              subst hs0
              have HB0 : Hid (BSt u5 u5 a1 F.length c1 a2 I.length c2 a3 S.length c3 a4 V.length c4 none 0 0 (P.belowL (I.take 0) ⟨#[]⟩)) := Lib.hid ⟨World.ownsRow_nil _ _ _ _, rfl, Below.refl _ _⟩
              go_wp2_with fail
              clear m0 m1 m2 m3 ms
              go_loopw [16, 172] (fun v i wr => ∃ (k n c : Nat) (p : Option Addr), k ≤ I.length ∧ i = .int .i64 k ∧ v = .slice p n c ∧ n ≤ k ∧ Hid (BSt u5 wr a1 F.length c1 a2 I.length c2 a3 S.length c3 a4 V.length c4 p n c (P.belowL (I.take k) ⟨#[]⟩))) (fun _ i _ => I.length - (intOf i).toNat)
              case atStart => exact ⟨0, 0, 0, none, Nat.zero_le _, rfl, rfl, Nat.le_refl _, HB0⟩
              case round =>
                obtain ⟨k, n, c, p, hk, rfl, rfl, hnk, HQ⟩ := hrel
                clear HB0
                have HTr := Lib.hid (HU5.out.below HQ.out.bel)
                by_cases hlt : k < I.length
                · obtain ⟨bb, off, rfl, hbm, hc⟩ := HTr.out.l.i.at_ (ne_nil_of_lt hlt)
                  obtain ⟨d0, d1, d2⟩ := hc k hlt
                  have hsn := P.belowL_succ ⟨#[]⟩ hlt
                  have hwb : u5.heap.size ≤ wr.heap.size := HQ.out.bel.size
                  obtain ⟨_, _, _, _, ms⟩ := HTr.out.cells
                  have ms2 := cell_keep (below_alloc wr (.cells #[.string I[k].p, .string I[k].d, .bool I[k].r] 42)) ms
                  clear hc HTr
                  generalize I[k] = x at *
                  rw [P.belowP_empty, if_pos rfl] at hsn
                  go_wp2_with (first
                    | (go_at_call 37; refine (HCn.out _).mono ?_; rintro e z2 ⟨rfl, rfl⟩)
                    | (at_builtin; refine wpList_append_sl rfl _ _ 49 rfl u5.heap.size 9 i0 _ 1 16 Tryz.underlying49 hi hz0 hz1 hz2 rfl (by decide) (.slice p n c) n ((P.belowL (I.take k) ⟨#[]⟩).map Value.string) rfl (own_below (own_below HQ.out.o (below_alloc wr (.cells #[.string x.p, .string x.d, .bool x.r] 42))) (below_alloc _ (.cells #[.string x.p] 9))) ⟨wr.heap.size + 1, 0, none⟩ 1 1 [.string x.p] rfl rfl (by have h := cells_new (wr.alloc (.cells #[.string x.p, .string x.d, .bool x.r] 42)) [.string x.p] 9; rw [World.size_alloc] at h; exact h) (by intro u hu; simp at hu; subst hu; rfl) (by unfold maxLen; omega) (by omega) (by simp; omega) ?_; intro p' c' w6 hown6 hgrow6; have HQ6 := Lib.hid (HQ.out.push (.cells #[.string x.p, .string x.d, .bool x.r] 42) (.cells #[.string x.p] 9) hgrow6 hown6 hsn); clear hown6 hgrow6))
                  go_roundw
                  case rel => exact ⟨k + 1, n + 1, c', p', by omega, by go_num, rfl, by omega, HQ6⟩
                  case measure => simp [intOf]; omega
                · obtain rfl : k = I.length := by omega
                  have HF := Lib.hid (show BSt u5 wr a1 F.length c1 a2 I.length c2 a3 S.length c3 a4 V.length c4 p n c (P.belowL I ⟨#[]⟩) by have := HQ.out; rwa [List.take_length] at this)
                  obtain rfl : n = n0 := by rw [HF.out.ln, HN0.out]
                  have HEq := Lib.hid (equalK_any (P.belowL I ⟨#[]⟩) n HN0.out (by omega) p0 p c0 c _ _ wr ((kys_of HO0.out HN0.out).below HQ.out.bel) (kys_of HF.out.o HF.out.ln))
                  clear HQ HF HO0 HN0
                  go_wp2_with (refine (HEq.out).mono ?_; rintro e z3 ⟨rfl, hb3⟩)
                  go_ret
                  exact ⟨rfl, bstep HTr.out.b hb3⟩
            · as_aux_lemma =>
              have hp : P.pathS s = true := HOr.out.resolve_left hs0
              rw [hp] at HIs
              have HNe : Hid (s ≠ ⟨#[]⟩) := Lib.hid hs0
              have h1 : (s.toList == []) = false := by
                rw [beq_eq_false_iff_ne]; intro h; apply hs0; apply toList_inj; rw [h, Lib.toList_data]
              have h2 : s.toList.isEmpty = false := by
                cases h : s.toList.isEmpty with
                | false => rfl
                | true => exact absurd (toList_inj (a := s) (b := ⟨#[]⟩) (by rw [List.isEmpty_iff.1 h, Lib.toList_data])) hs0
              have h3 := ne_of h2
              clear hp hs0 HOr HRi HSz HW
              go_wp2_with fail
              refine (HIs.out _ HU5.out).mono ?_
              rintro e z ⟨rfl, hbz⟩
              have HO1 := Lib.hid (own_below HO0.out hbz)
              have HU6 := Lib.hid (HU5.out.below hbz)
              clear HU5 HO0 hbz m0 m1 m2 m3 ms
              have HU5 := HU6
              have HO0 := HO1
              clear HU6 HO1
              obtain ⟨m0, m1, m2, m3, ms⟩ := HU5.out.cells
              have HB0 : Hid (BSt z z a1 F.length c1 a2 I.length c2 a3 S.length c3 a4 V.length c4 none 0 0 (P.belowL (I.take 0) s)) := Lib.hid ⟨World.ownsRow_nil _ _ _ _, rfl, Below.refl _ _⟩
              go_wp2_with fail
              clear m0 m1 m2 m3 ms HIs
              go_loopw [16, 172] (fun v i wr => ∃ (k n c : Nat) (p : Option Addr), k ≤ I.length ∧ i = .int .i64 k ∧ v = .slice p n c ∧ n ≤ k ∧ Hid (BSt z wr a1 F.length c1 a2 I.length c2 a3 S.length c3 a4 V.length c4 p n c (P.belowL (I.take k) s))) (fun _ i _ => I.length - (intOf i).toNat)
              case atStart => exact ⟨0, 0, 0, none, Nat.zero_le _, rfl, rfl, Nat.le_refl _, HB0⟩
              case round =>
                obtain ⟨k, n, c, p, hk, rfl, rfl, hnk, HQ⟩ := hrel
                clear HB0
                have HTr := Lib.hid (HU5.out.below HQ.out.bel)
                by_cases hlt : k < I.length
                · obtain ⟨bb, off, rfl, hbm, hc⟩ := HTr.out.l.i.at_ (ne_nil_of_lt hlt)
                  obtain ⟨d0, d1, d2⟩ := hc k hlt
                  have hsn := P.belowL_succ s hlt
                  have hwb : z.heap.size ≤ wr.heap.size := HQ.out.bel.size
                  obtain ⟨_, _, _, _, ms⟩ := HTr.out.cells
                  have ms2 := cell_keep (below_alloc wr (.cells #[.string I[k].p, .string I[k].d, .bool I[k].r] 42)) ms
                  clear hc HTr
                  generalize I[k] = x at *
                  have hcon := fun W' => Tryz.strings_HasPrefix x.p (s ++ ⟨#[47]⟩) W'
                  rw [hasPrefix_under] at hcon
                  rw [P.belowP_under x HNe.out] at hsn
                  have HCn := Lib.hid hcon
                  clear hcon
                  generalize P.underS x.p s = u at *
                  cases u with
                  | false =>
                    rw [if_neg (by decide)] at hsn
                    go_wp2_with (first
                      | (go_at_call 37; refine (HCn.out _).mono ?_; rintro e z2 ⟨rfl, rfl⟩))
                    go_roundw
                    case rel => exact ⟨k + 1, n, c, p, by omega, by go_num, rfl, by omega, Lib.hid (HQ.out.skip (.cells #[.string x.p, .string x.d, .bool x.r] 42) hsn)⟩
                    case measure => simp [intOf]; omega
                  | true =>
                    rw [if_pos rfl] at hsn
                    go_wp2_with (first
                      | (go_at_call 37; refine (HCn.out _).mono ?_; rintro e z2 ⟨rfl, rfl⟩)
                      | (at_builtin; refine wpList_append_sl rfl _ _ 49 rfl z.heap.size 9 i0 _ 1 16 Tryz.underlying49 hi hz0 hz1 hz2 rfl (by decide) (.slice p n c) n ((P.belowL (I.take k) s).map Value.string) rfl (own_below (own_below HQ.out.o (below_alloc wr (.cells #[.string x.p, .string x.d, .bool x.r] 42))) (below_alloc _ (.cells #[.string x.p] 9))) ⟨wr.heap.size + 1, 0, none⟩ 1 1 [.string x.p] rfl rfl (by have h := cells_new (wr.alloc (.cells #[.string x.p, .string x.d, .bool x.r] 42)) [.string x.p] 9; rw [World.size_alloc] at h; exact h) (by intro u hu; simp at hu; subst hu; rfl) (by unfold maxLen; omega) (by omega) (by simp; omega) ?_; intro p' c' w6 hown6 hgrow6; have HQ6 := Lib.hid (HQ.out.push (.cells #[.string x.p, .string x.d, .bool x.r] 42) (.cells #[.string x.p] 9) hgrow6 hown6 hsn); clear hown6 hgrow6))
                    go_roundw
                    case rel => exact ⟨k + 1, n + 1, c', p', by omega, by go_num, rfl, by omega, HQ6⟩
                    case measure => simp [intOf]; omega
                · obtain rfl : k = I.length := by omega
                  have HF := Lib.hid (show BSt z wr a1 F.length c1 a2 I.length c2 a3 S.length c3 a4 V.length c4 p n c (P.belowL I s) by have := HQ.out; rwa [List.take_length] at this)
                  obtain rfl : n = n0 := by rw [HF.out.ln, HN0.out]
                  have HEq := Lib.hid (equalK_any (P.belowL I s) n HN0.out (by omega) p0 p c0 c _ _ wr ((kys_of HO0.out HN0.out).below HQ.out.bel) (kys_of HF.out.o HF.out.ln))
                  clear HQ HF HO0 HN0
                  go_wp2_with (refine (HEq.out).mono ?_; rintro e z3 ⟨rfl, hb3⟩)
                  go_ret
                  exact ⟨rfl, bstep HTr.out.b hb3⟩
end Go.Proofs.YtpnjlhippngfcaaGreatDoor
