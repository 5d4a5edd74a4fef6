/- Walks: slices.Equal of files and of services; both Same. -/
import Derived.Test.YtkibmoekadmjnaaGreatDoorZMEqual
import Derived.Test.YtkibmoekadmjnaaGreatDoorZMBad
import Derived.Deep.RegionHeld3

namespace Go.Proofs.YtkibmoekadmjnaaGreatDoor
open Go.RowKit Go.Shelf

set_option maxHeartbeats 8000000 in
theorem equalF_any (L M : List P.Fi) (a b : Option Addr) (ca cb : Nat) (hl : L.length ≤ 4294967280) (w : World) (ha : FisAt w.heap.size w a L ca) (hb : FisAt w.heap.size w b M cb) :
    Calls Tryz.prog 131 #[.slice a L.length ca, .slice b M.length cb] w fun e w' => (∃ x, e = .returned (.bool x) ∧ (x = true ↔ L = M)) ∧ Below w.heap.size w w' := by
  have HA := Lib.hid ha
  have HB := Lib.hid hb
  clear ha hb
  by_cases hn : L.length = M.length
  · have hn' : (L.length : Int) = (M.length : Int) := by omega
    have HE : Hid ((∀ j (h1 : j < L.length) (h2 : j < M.length), L[j] = M[j]) → L = M) := Lib.hid fun h => List.ext_getElem hn (fun j h1 h2 => h j h1 h2)
    go_enter Tryz.func131, Tryz.ntmps131
    go_wp2_with fail
    go_loopw [13] (fun i wr => ∃ k : Nat, k ≤ L.length ∧ i = .int .i64 k ∧ Aside (∀ j (h1 : j < L.length) (h2 : j < M.length), j < k → L[j] = M[j]) ∧ Hid (Below w.heap.size w wr)) (fun i _ => L.length - (intOf i).toNat)
    case atStart => exact ⟨0, Nat.zero_le _, rfl, aside (fun j _ _ h => absurd h (by omega)), Lib.hid (Below.refl _ _)⟩
    case round =>
      obtain ⟨k, hk, rfl, A, HW⟩ := hrel
      by_cases hlt : k < L.length
      · have hlt' : k < M.length := by omega
        obtain ⟨b1, o1, rfl, _, hc⟩ := (HA.out.below HW.out).at_ (ne_nil_of_lt hlt)
        obtain ⟨b2, o2, rfl, _, hd⟩ := (HB.out.below HW.out).at_ (ne_nil_of_lt hlt')
        obtain ⟨c0, c1, c2⟩ := hc k hlt
        obtain ⟨d0, d1, d2⟩ := hd k hlt'
        have HY : Hid (L[k].p.toList = M[k].p.toList → L[k].d.toList = M[k].d.toList → L[k].r = M[k].r → ∀ j (h1 : j < L.length) (h2 : j < M.length), j < k + 1 → L[j] = M[j]) := Lib.hid fun e0 e1 e2 j h1 h2 hj => by
          by_cases e : j = k
          · subst e
            have f0 := toList_inj e0
            have f1 := toList_inj e1
            have f2 := e2
            cases hx : L[j]; cases hy : M[j]; rw [hx, hy] at f0 f1 f2; simp only at f0 f1 f2; rw [f0, f1, f2]
          · exact A.out j h1 h2 (by omega)
        have HN : Hid (¬ L[k].p.toList = M[k].p.toList ∨ ¬ L[k].d.toList = M[k].d.toList ∨ ¬ L[k].r = M[k].r → ¬ L = M) := Lib.hid fun h e => by subst e; rcases h with h | h | h <;> exact h rfl
        have i1 : (k : Int) < (L.length : Int) := by omega
        have i2 : (k : Int) < (M.length : Int) := by omega
        have i0 : (0 : Int) ≤ (k : Int) := by omega
        clear hc hd A HE
        generalize L[k] = x at *
        generalize M[k] = y at *
        obtain ⟨xp, xd, xr⟩ := x
        obtain ⟨yp, yd, yr⟩ := y
        simp only at c0 c1 c2 d0 d1 d2 HY HN
        by_cases e0 : xp.toList = yp.toList
        · by_cases e1 : xd.toList = yd.toList
          · cases xr
            · cases yr
              · have HY' := Lib.hid (HY.out e0 e1 rfl)
                clear HY HN
                go_wp2_with fail
                go_region
                have HW' := Lib.hid HW.out.drew
                go_wp2_with fail
                go_roundw
                case rel => exact ⟨k + 1, by omega, by go_num, aside HY'.out, HW'⟩
                case measure => simp [intOf]; omega
              · have HN' := Lib.hid (HN.out (.inr (.inr ((by decide)))))
                clear HY HN
                go_wp2_with fail
                go_region
                have HW' := Lib.hid HW.out.drew
                go_wp2_with fail
                go_ret
                exact ⟨⟨false, rfl, (fun h => by cases h), fun h => absurd h HN'.out⟩, HW'.out⟩
            · cases yr
              · have HN' := Lib.hid (HN.out (.inr (.inr ((by decide)))))
                clear HY HN
                go_wp2_with fail
                go_region
                have HW' := Lib.hid HW.out.drew
                go_wp2_with fail
                go_ret
                exact ⟨⟨false, rfl, (fun h => by cases h), fun h => absurd h HN'.out⟩, HW'.out⟩
              · have HY' := Lib.hid (HY.out e0 e1 rfl)
                clear HY HN
                go_wp2_with fail
                go_region
                have HW' := Lib.hid HW.out.drew
                go_wp2_with fail
                go_roundw
                case rel => exact ⟨k + 1, by omega, by go_num, aside HY'.out, HW'⟩
                case measure => simp [intOf]; omega
          · have HN' := Lib.hid (HN.out (.inr (.inl e1)))
            clear HY HN
            go_wp2_with fail
            go_region
            have HW' := Lib.hid HW.out.drew
            go_wp2_with fail
            go_ret
            exact ⟨⟨false, rfl, (fun h => by cases h), fun h => absurd h HN'.out⟩, HW'.out⟩
        · have HN' := Lib.hid (HN.out (.inl e0))
          clear HY HN
          go_wp2_with fail
          go_region
          have HW' := Lib.hid HW.out.drew
          go_wp2_with fail
          go_ret
          exact ⟨⟨false, rfl, (fun h => by cases h), fun h => absurd h HN'.out⟩, HW'.out⟩
      · have hkl : k = L.length := by omega
        have HE' := Lib.hid (HE.out (fun j h1 h2 => A.out j h1 h2 (by omega)))
        clear HE A
        go_wp2_with fail
        go_ret
        exact ⟨⟨true, rfl, fun _ => HE'.out, fun _ => rfl⟩, HW.out⟩
  · have hn' : ((L.length : Int) != (M.length : Int)) = true := by simp; omega
    have HN := Lib.hid (show ¬ L = M from fun e => hn (by rw [e]))
    go_enter Tryz.func131, Tryz.ntmps131
    go_wp2_with fail
    go_ret
    exact ⟨⟨false, rfl, (fun h => by cases h), fun h => absurd h HN.out⟩, Below.refl _ _⟩

set_option maxHeartbeats 8000000 in
theorem equalV_any (L M : List P.Sv) (a b : Option Addr) (ca cb : Nat) (hl : L.length ≤ 4294967280) (w : World) (ha : SvsAt w.heap.size w a L ca) (hb : SvsAt w.heap.size w b M cb) :
    Calls Tryz.prog 132 #[.slice a L.length ca, .slice b M.length cb] w fun e w' => (∃ x, e = .returned (.bool x) ∧ (x = true ↔ L = M)) ∧ Below w.heap.size w w' := by
  have HA := Lib.hid ha
  have HB := Lib.hid hb
  clear ha hb
  by_cases hn : L.length = M.length
  · have hn' : (L.length : Int) = (M.length : Int) := by omega
    have HE : Hid ((∀ j (h1 : j < L.length) (h2 : j < M.length), L[j] = M[j]) → L = M) := Lib.hid fun h => List.ext_getElem hn (fun j h1 h2 => h j h1 h2)
    go_enter Tryz.func132, Tryz.ntmps132
    go_wp2_with fail
    go_loopw [13] (fun i wr => ∃ k : Nat, k ≤ L.length ∧ i = .int .i64 k ∧ Aside (∀ j (h1 : j < L.length) (h2 : j < M.length), j < k → L[j] = M[j]) ∧ Hid (Below w.heap.size w wr)) (fun i _ => L.length - (intOf i).toNat)
    case atStart => exact ⟨0, Nat.zero_le _, rfl, aside (fun j _ _ h => absurd h (by omega)), Lib.hid (Below.refl _ _)⟩
    case round =>
      obtain ⟨k, hk, rfl, A, HW⟩ := hrel
      by_cases hlt : k < L.length
      · have hlt' : k < M.length := by omega
        obtain ⟨b1, o1, rfl, _, hc⟩ := (HA.out.below HW.out).at_ (ne_nil_of_lt hlt)
        obtain ⟨b2, o2, rfl, _, hd⟩ := (HB.out.below HW.out).at_ (ne_nil_of_lt hlt')
        obtain ⟨c0, c1, c2, c3⟩ := hc k hlt
        obtain ⟨d0, d1, d2, d3⟩ := hd k hlt'
        have HY : Hid (L[k].n.toList = M[k].n.toList → L[k].p.toList = M[k].p.toList → L[k].a = M[k].a → L[k].o = M[k].o → ∀ j (h1 : j < L.length) (h2 : j < M.length), j < k + 1 → L[j] = M[j]) := Lib.hid fun e0 e1 e2 e3 j h1 h2 hj => by
          by_cases e : j = k
          · subst e
            have f0 := toList_inj e0
            have f1 := toList_inj e1
            have f2 := e2
            have f3 := e3
            cases hx : L[j]; cases hy : M[j]; rw [hx, hy] at f0 f1 f2 f3; simp only at f0 f1 f2 f3; rw [f0, f1, f2, f3]
          · exact A.out j h1 h2 (by omega)
        have HN : Hid (¬ L[k].n.toList = M[k].n.toList ∨ ¬ L[k].p.toList = M[k].p.toList ∨ ¬ L[k].a = M[k].a ∨ ¬ L[k].o = M[k].o → ¬ L = M) := Lib.hid fun h e => by subst e; rcases h with h | h | h | h <;> exact h rfl
        have i1 : (k : Int) < (L.length : Int) := by omega
        have i2 : (k : Int) < (M.length : Int) := by omega
        have i0 : (0 : Int) ≤ (k : Int) := by omega
        clear hc hd A HE
        generalize L[k] = x at *
        generalize M[k] = y at *
        obtain ⟨xn, xp, xa, xo⟩ := x
        obtain ⟨yn, yp, ya, yo⟩ := y
        simp only at c0 c1 c2 c3 d0 d1 d2 d3 HY HN
        by_cases e0 : xn.toList = yn.toList
        · by_cases e1 : xp.toList = yp.toList
          · cases xa
            · cases ya
              · cases xo
                · cases yo
                  · have HY' := Lib.hid (HY.out e0 e1 rfl rfl)
                    clear HY HN
                    go_wp2_with fail
                    go_region
                    have HW' := Lib.hid HW.out.drew
                    go_wp2_with fail
                    go_roundw
                    case rel => exact ⟨k + 1, by omega, by go_num, aside HY'.out, HW'⟩
                    case measure => simp [intOf]; omega
                  · have HN' := Lib.hid (HN.out (.inr (.inr (.inr ((by decide))))))
                    clear HY HN
                    go_wp2_with fail
                    go_region
                    have HW' := Lib.hid HW.out.drew
                    go_wp2_with fail
                    go_ret
                    exact ⟨⟨false, rfl, (fun h => by cases h), fun h => absurd h HN'.out⟩, HW'.out⟩
                · cases yo
                  · have HN' := Lib.hid (HN.out (.inr (.inr (.inr ((by decide))))))
                    clear HY HN
                    go_wp2_with fail
                    go_region
                    have HW' := Lib.hid HW.out.drew
                    go_wp2_with fail
                    go_ret
                    exact ⟨⟨false, rfl, (fun h => by cases h), fun h => absurd h HN'.out⟩, HW'.out⟩
                  · have HY' := Lib.hid (HY.out e0 e1 rfl rfl)
                    clear HY HN
                    go_wp2_with fail
                    go_region
                    have HW' := Lib.hid HW.out.drew
                    go_wp2_with fail
                    go_roundw
                    case rel => exact ⟨k + 1, by omega, by go_num, aside HY'.out, HW'⟩
                    case measure => simp [intOf]; omega
              · cases xo
                · cases yo
                  · have HN' := Lib.hid (HN.out (.inr (.inr (.inl (by decide)))))
                    clear HY HN
                    go_wp2_with fail
                    go_region
                    have HW' := Lib.hid HW.out.drew
                    go_wp2_with fail
                    go_ret
                    exact ⟨⟨false, rfl, (fun h => by cases h), fun h => absurd h HN'.out⟩, HW'.out⟩
                  · have HN' := Lib.hid (HN.out (.inr (.inr (.inl (by decide)))))
                    clear HY HN
                    go_wp2_with fail
                    go_region
                    have HW' := Lib.hid HW.out.drew
                    go_wp2_with fail
                    go_ret
                    exact ⟨⟨false, rfl, (fun h => by cases h), fun h => absurd h HN'.out⟩, HW'.out⟩
                · cases yo
                  · have HN' := Lib.hid (HN.out (.inr (.inr (.inl (by decide)))))
                    clear HY HN
                    go_wp2_with fail
                    go_region
                    have HW' := Lib.hid HW.out.drew
                    go_wp2_with fail
                    go_ret
                    exact ⟨⟨false, rfl, (fun h => by cases h), fun h => absurd h HN'.out⟩, HW'.out⟩
                  · have HN' := Lib.hid (HN.out (.inr (.inr (.inl (by decide)))))
                    clear HY HN
                    go_wp2_with fail
                    go_region
                    have HW' := Lib.hid HW.out.drew
                    go_wp2_with fail
                    go_ret
                    exact ⟨⟨false, rfl, (fun h => by cases h), fun h => absurd h HN'.out⟩, HW'.out⟩
            · cases ya
              · cases xo
                · cases yo
                  · have HN' := Lib.hid (HN.out (.inr (.inr (.inl (by decide)))))
                    clear HY HN
                    go_wp2_with fail
                    go_region
                    have HW' := Lib.hid HW.out.drew
                    go_wp2_with fail
                    go_ret
                    exact ⟨⟨false, rfl, (fun h => by cases h), fun h => absurd h HN'.out⟩, HW'.out⟩
                  · have HN' := Lib.hid (HN.out (.inr (.inr (.inl (by decide)))))
                    clear HY HN
                    go_wp2_with fail
                    go_region
                    have HW' := Lib.hid HW.out.drew
                    go_wp2_with fail
                    go_ret
                    exact ⟨⟨false, rfl, (fun h => by cases h), fun h => absurd h HN'.out⟩, HW'.out⟩
                · cases yo
                  · have HN' := Lib.hid (HN.out (.inr (.inr (.inl (by decide)))))
                    clear HY HN
                    go_wp2_with fail
                    go_region
                    have HW' := Lib.hid HW.out.drew
                    go_wp2_with fail
                    go_ret
                    exact ⟨⟨false, rfl, (fun h => by cases h), fun h => absurd h HN'.out⟩, HW'.out⟩
                  · have HN' := Lib.hid (HN.out (.inr (.inr (.inl (by decide)))))
                    clear HY HN
                    go_wp2_with fail
                    go_region
                    have HW' := Lib.hid HW.out.drew
                    go_wp2_with fail
                    go_ret
                    exact ⟨⟨false, rfl, (fun h => by cases h), fun h => absurd h HN'.out⟩, HW'.out⟩
              · cases xo
                · cases yo
                  · have HY' := Lib.hid (HY.out e0 e1 rfl rfl)
                    clear HY HN
                    go_wp2_with fail
                    go_region
                    have HW' := Lib.hid HW.out.drew
                    go_wp2_with fail
                    go_roundw
                    case rel => exact ⟨k + 1, by omega, by go_num, aside HY'.out, HW'⟩
                    case measure => simp [intOf]; omega
                  · have HN' := Lib.hid (HN.out (.inr (.inr (.inr ((by decide))))))
                    clear HY HN
                    go_wp2_with fail
                    go_region
                    have HW' := Lib.hid HW.out.drew
                    go_wp2_with fail
                    go_ret
                    exact ⟨⟨false, rfl, (fun h => by cases h), fun h => absurd h HN'.out⟩, HW'.out⟩
                · cases yo
                  · have HN' := Lib.hid (HN.out (.inr (.inr (.inr ((by decide))))))
                    clear HY HN
                    go_wp2_with fail
                    go_region
                    have HW' := Lib.hid HW.out.drew
                    go_wp2_with fail
                    go_ret
                    exact ⟨⟨false, rfl, (fun h => by cases h), fun h => absurd h HN'.out⟩, HW'.out⟩
                  · have HY' := Lib.hid (HY.out e0 e1 rfl rfl)
                    clear HY HN
                    go_wp2_with fail
                    go_region
                    have HW' := Lib.hid HW.out.drew
                    go_wp2_with fail
                    go_roundw
                    case rel => exact ⟨k + 1, by omega, by go_num, aside HY'.out, HW'⟩
                    case measure => simp [intOf]; omega
          · have HN' := Lib.hid (HN.out (.inr (.inl e1)))
            clear HY HN
            go_wp2_with fail
            go_region
            have HW' := Lib.hid HW.out.drew
            go_wp2_with fail
            go_ret
            exact ⟨⟨false, rfl, (fun h => by cases h), fun h => absurd h HN'.out⟩, HW'.out⟩
        · have HN' := Lib.hid (HN.out (.inl e0))
          clear HY HN
          go_wp2_with fail
          go_region
          have HW' := Lib.hid HW.out.drew
          go_wp2_with fail
          go_ret
          exact ⟨⟨false, rfl, (fun h => by cases h), fun h => absurd h HN'.out⟩, HW'.out⟩
      · have hkl : k = L.length := by omega
        have HE' := Lib.hid (HE.out (fun j h1 h2 => A.out j h1 h2 (by omega)))
        clear HE A
        go_wp2_with fail
        go_ret
        exact ⟨⟨true, rfl, fun _ => HE'.out, fun _ => rfl⟩, HW.out⟩
  · have hn' : ((L.length : Int) != (M.length : Int)) = true := by simp; omega
    have HN := Lib.hid (show ¬ L = M from fun e => hn (by rw [e]))
    go_enter Tryz.func132, Tryz.ntmps132
    go_wp2_with fail
    go_ret
    exact ⟨⟨false, rfl, (fun h => by cases h), fun h => absurd h HN.out⟩, Below.refl _ _⟩

set_option maxRecDepth 100000 in
set_option maxHeartbeats 4000000 in
theorem dsame_any (A B : Ad) (a b : P.Mach) (hf : a.fit) (w : World) (hl : Lies w.heap.size w A a) (hm : Lies w.heap.size w B b) :
    Calls Tryz.prog 52 #[machV A a, machV B b] w fun e w' => (∃ x, e = .returned (.bool x) ∧ (x = true ↔ a = b)) ∧ Below w.heap.size w w' := by
  have HL := Lib.hid (fun W (h : Below w.heap.size w W) => (hl.below h).up h.size)
  have HM := Lib.hid (fun W (h : Below w.heap.size w W) => (hm.below h).up h.size)
  obtain ⟨a1, a2, a3, a4, c1, c2, c3, c4⟩ := A
  obtain ⟨b1, b2, b3, b4, k1, k2, k3, k4⟩ := B
  obtain ⟨F, I, S, V⟩ := a
  obtain ⟨F', I', S', V'⟩ := b
  unfold machV
  simp only
  have hlF : F.length ≤ 4294967280 := hf.l1
  have hlI : I.length ≤ 4294967280 := hf.l2
  have hlS : S.length ≤ 4294967280 := hf.l3
  have hlV : V.length ≤ 4294967280 := hf.l4
  have H1 := Lib.hid (fun W h => equalS_any F F' a1 b1 c1 k1 hlF W (HL.out W h).f (HM.out W h).f)
  have H2 := Lib.hid (fun W h => equalF_any I I' a2 b2 c2 k2 hlI W (HL.out W h).i (HM.out W h).i)
  have H3 := Lib.hid (fun W h => equalS_any S S' a3 b3 c3 k3 hlS W (HL.out W h).s (HM.out W h).s)
  have H4 := Lib.hid (fun W h => equalV_any V V' a4 b4 c4 k4 hlV W (HL.out W h).v (HM.out W h).v)
  have hA := (HasRow.new w #[.slice a1 F.length c1, .slice a2 I.length c2, .slice a3 S.length c3, .slice a4 V.length c4] 26).alloc (.cells #[.slice b1 F'.length k1, .slice b2 I'.length k2, .slice b3 S'.length k3, .slice b4 V'.length k4] 26)
  have hB := HasRow.new (w.alloc (.cells #[.slice a1 F.length c1, .slice a2 I.length c2, .slice a3 S.length c3, .slice a4 V.length c4] 26)) #[.slice b1 F'.length k1, .slice b2 I'.length k2, .slice b3 S'.length k3, .slice b4 V'.length k4] 26
  rw [World.size_alloc] at hB
  have HA := Lib.hid hA
  have HB := Lib.hid hB
  have HZ := Lib.hid (below2 w (.cells #[.slice a1 F.length c1, .slice a2 I.length c2, .slice a3 S.length c3, .slice a4 V.length c4] 26) (.cells #[.slice b1 F'.length k1, .slice b2 I'.length k2, .slice b3 S'.length k3, .slice b4 V'.length k4] 26))
  clear hA hB hl hm hf HL HM
  go_enter Tryz.func52, Tryz.ntmps52
  go_wp2_with fail
  refine (H1.out _ HZ.out).mono ?_
  rintro e w1 ⟨⟨x, rfl, hx⟩, hb⟩
  obtain ⟨p0, p1, p2, p3, _⟩ := hrow4 (HA.out.below hb)
  obtain ⟨q0, q1, q2, q3, _⟩ := hrow4 (HB.out.below hb)
  replace HA := Lib.hid (HA.out.below hb)
  replace HB := Lib.hid (HB.out.below hb)
  replace HZ := Lib.hid (bstep HZ.out hb)
  have HX1 := Lib.hid hx
  clear hb hx
  cases x
  · go_wp2_with fail
    go_ret
    exact ⟨⟨false, rfl, (fun h => by cases h), fun h => absurd (HX1.out.2 (congrArg P.Mach.facts h)) (by decide)⟩, HZ.out⟩
  go_wp2_with fail
  clear p0 p1 p2 p3 q0 q1 q2 q3
  refine (H2.out _ HZ.out).mono ?_
  rintro e w2 ⟨⟨x, rfl, hx⟩, hb⟩
  obtain ⟨p0, p1, p2, p3, _⟩ := hrow4 (HA.out.below hb)
  obtain ⟨q0, q1, q2, q3, _⟩ := hrow4 (HB.out.below hb)
  replace HA := Lib.hid (HA.out.below hb)
  replace HB := Lib.hid (HB.out.below hb)
  replace HZ := Lib.hid (bstep HZ.out hb)
  have HX2 := Lib.hid hx
  clear hb hx
  cases x
  · go_wp2_with fail
    go_ret
    exact ⟨⟨false, rfl, (fun h => by cases h), fun h => absurd (HX2.out.2 (congrArg P.Mach.files h)) (by decide)⟩, HZ.out⟩
  go_wp2_with fail
  clear p0 p1 p2 p3 q0 q1 q2 q3
  refine (H3.out _ HZ.out).mono ?_
  rintro e w3 ⟨⟨x, rfl, hx⟩, hb⟩
  obtain ⟨p0, p1, p2, p3, _⟩ := hrow4 (HA.out.below hb)
  obtain ⟨q0, q1, q2, q3, _⟩ := hrow4 (HB.out.below hb)
  replace HA := Lib.hid (HA.out.below hb)
  replace HB := Lib.hid (HB.out.below hb)
  replace HZ := Lib.hid (bstep HZ.out hb)
  have HX3 := Lib.hid hx
  clear hb hx
  cases x
  · go_wp2_with fail
    go_ret
    exact ⟨⟨false, rfl, (fun h => by cases h), fun h => absurd (HX3.out.2 (congrArg P.Mach.sets h)) (by decide)⟩, HZ.out⟩
  go_wp2_with fail
  clear p0 p1 p2 p3 q0 q1 q2 q3
  refine (H4.out _ HZ.out).mono ?_
  rintro e w4 ⟨⟨x, rfl, hx⟩, hb⟩
  obtain ⟨p0, p1, p2, p3, _⟩ := hrow4 (HA.out.below hb)
  obtain ⟨q0, q1, q2, q3, _⟩ := hrow4 (HB.out.below hb)
  replace HA := Lib.hid (HA.out.below hb)
  replace HB := Lib.hid (HB.out.below hb)
  replace HZ := Lib.hid (bstep HZ.out hb)
  have HX4 := Lib.hid hx
  clear hb hx
  cases x
  · go_wp2_with fail
    go_ret
    exact ⟨⟨false, rfl, (fun h => by cases h), fun h => absurd (HX4.out.2 (congrArg P.Mach.svcs h)) (by decide)⟩, HZ.out⟩
  go_wp2_with fail
  go_ret
  exact ⟨⟨true, rfl, fun _ => by rw [HX1.out.1 (by trivial), HX2.out.1 (by trivial), HX3.out.1 (by trivial), HX4.out.1 (by trivial)], fun _ => rfl⟩, HZ.out⟩

set_option maxRecDepth 100000 in
set_option maxHeartbeats 4000000 in
theorem rsame_any (A B : Ad) (a b : P.Mach) (hf : a.fit) (w : World) (hl : Lies w.heap.size w A a) (hm : Lies w.heap.size w B b) :
    Calls Tryz.prog 46 #[machV A a, machV B b] w fun e w' => (∃ x, e = .returned (.bool x) ∧ (x = true ↔ a = b)) ∧ Below w.heap.size w w' := by
  have HL := Lib.hid (fun W (h : Below w.heap.size w W) => (hl.below h).up h.size)
  have HM := Lib.hid (fun W (h : Below w.heap.size w W) => (hm.below h).up h.size)
  obtain ⟨a1, a2, a3, a4, c1, c2, c3, c4⟩ := A
  obtain ⟨b1, b2, b3, b4, k1, k2, k3, k4⟩ := B
  obtain ⟨F, I, S, V⟩ := a
  obtain ⟨F', I', S', V'⟩ := b
  unfold machV
  simp only
  have hlF : F.length ≤ 4294967280 := hf.l1
  have hlI : I.length ≤ 4294967280 := hf.l2
  have hlS : S.length ≤ 4294967280 := hf.l3
  have hlV : V.length ≤ 4294967280 := hf.l4
  have H1 := Lib.hid (fun W h => equalS_any F F' a1 b1 c1 k1 hlF W (HL.out W h).f (HM.out W h).f)
  have H2 := Lib.hid (fun W h => equalF_any I I' a2 b2 c2 k2 hlI W (HL.out W h).i (HM.out W h).i)
  have H3 := Lib.hid (fun W h => equalS_any S S' a3 b3 c3 k3 hlS W (HL.out W h).s (HM.out W h).s)
  have H4 := Lib.hid (fun W h => equalV_any V V' a4 b4 c4 k4 hlV W (HL.out W h).v (HM.out W h).v)
  have hA := (HasRow.new w #[.slice a1 F.length c1, .slice a2 I.length c2, .slice a3 S.length c3, .slice a4 V.length c4] 26).alloc (.cells #[.slice b1 F'.length k1, .slice b2 I'.length k2, .slice b3 S'.length k3, .slice b4 V'.length k4] 26)
  have hB := HasRow.new (w.alloc (.cells #[.slice a1 F.length c1, .slice a2 I.length c2, .slice a3 S.length c3, .slice a4 V.length c4] 26)) #[.slice b1 F'.length k1, .slice b2 I'.length k2, .slice b3 S'.length k3, .slice b4 V'.length k4] 26
  rw [World.size_alloc] at hB
  have HA := Lib.hid hA
  have HB := Lib.hid hB
  have HZ := Lib.hid (below2 w (.cells #[.slice a1 F.length c1, .slice a2 I.length c2, .slice a3 S.length c3, .slice a4 V.length c4] 26) (.cells #[.slice b1 F'.length k1, .slice b2 I'.length k2, .slice b3 S'.length k3, .slice b4 V'.length k4] 26))
  clear hA hB hl hm hf HL HM
  go_enter Tryz.func46, Tryz.ntmps46
  go_wp2_with fail
  refine (H1.out _ HZ.out).mono ?_
  rintro e w1 ⟨⟨x, rfl, hx⟩, hb⟩
  obtain ⟨p0, p1, p2, p3, _⟩ := hrow4 (HA.out.below hb)
  obtain ⟨q0, q1, q2, q3, _⟩ := hrow4 (HB.out.below hb)
  replace HA := Lib.hid (HA.out.below hb)
  replace HB := Lib.hid (HB.out.below hb)
  replace HZ := Lib.hid (bstep HZ.out hb)
  have HX1 := Lib.hid hx
  clear hb hx
  cases x
  · go_wp2_with fail
    go_ret
    exact ⟨⟨false, rfl, (fun h => by cases h), fun h => absurd (HX1.out.2 (congrArg P.Mach.facts h)) (by decide)⟩, HZ.out⟩
  go_wp2_with fail
  clear p0 p1 p2 p3 q0 q1 q2 q3
  refine (H2.out _ HZ.out).mono ?_
  rintro e w2 ⟨⟨x, rfl, hx⟩, hb⟩
  obtain ⟨p0, p1, p2, p3, _⟩ := hrow4 (HA.out.below hb)
  obtain ⟨q0, q1, q2, q3, _⟩ := hrow4 (HB.out.below hb)
  replace HA := Lib.hid (HA.out.below hb)
  replace HB := Lib.hid (HB.out.below hb)
  replace HZ := Lib.hid (bstep HZ.out hb)
  have HX2 := Lib.hid hx
  clear hb hx
  cases x
  · go_wp2_with fail
    go_ret
    exact ⟨⟨false, rfl, (fun h => by cases h), fun h => absurd (HX2.out.2 (congrArg P.Mach.files h)) (by decide)⟩, HZ.out⟩
  go_wp2_with fail
  clear p0 p1 p2 p3 q0 q1 q2 q3
  refine (H3.out _ HZ.out).mono ?_
  rintro e w3 ⟨⟨x, rfl, hx⟩, hb⟩
  obtain ⟨p0, p1, p2, p3, _⟩ := hrow4 (HA.out.below hb)
  obtain ⟨q0, q1, q2, q3, _⟩ := hrow4 (HB.out.below hb)
  replace HA := Lib.hid (HA.out.below hb)
  replace HB := Lib.hid (HB.out.below hb)
  replace HZ := Lib.hid (bstep HZ.out hb)
  have HX3 := Lib.hid hx
  clear hb hx
  cases x
  · go_wp2_with fail
    go_ret
    exact ⟨⟨false, rfl, (fun h => by cases h), fun h => absurd (HX3.out.2 (congrArg P.Mach.sets h)) (by decide)⟩, HZ.out⟩
  go_wp2_with fail
  clear p0 p1 p2 p3 q0 q1 q2 q3
  refine (H4.out _ HZ.out).mono ?_
  rintro e w4 ⟨⟨x, rfl, hx⟩, hb⟩
  obtain ⟨p0, p1, p2, p3, _⟩ := hrow4 (HA.out.below hb)
  obtain ⟨q0, q1, q2, q3, _⟩ := hrow4 (HB.out.below hb)
  replace HA := Lib.hid (HA.out.below hb)
  replace HB := Lib.hid (HB.out.below hb)
  replace HZ := Lib.hid (bstep HZ.out hb)
  have HX4 := Lib.hid hx
  clear hb hx
  cases x
  · go_wp2_with fail
    go_ret
    exact ⟨⟨false, rfl, (fun h => by cases h), fun h => absurd (HX4.out.2 (congrArg P.Mach.svcs h)) (by decide)⟩, HZ.out⟩
  go_wp2_with fail
  go_ret
  exact ⟨⟨true, rfl, fun _ => by rw [HX1.out.1 (by trivial), HX2.out.1 (by trivial), HX3.out.1 (by trivial), HX4.out.1 (by trivial)], fun _ => rfl⟩, HZ.out⟩
end Go.Proofs.YtkibmoekadmjnaaGreatDoor
