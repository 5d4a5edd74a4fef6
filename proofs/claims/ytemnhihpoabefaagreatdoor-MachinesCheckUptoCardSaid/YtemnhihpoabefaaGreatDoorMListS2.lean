/- Walks: package disk: the check of a list of settings. -/
import Derived.Test.YtemnhihpoabefaaGreatDoorMListS
import Derived.Deep.RegionHeld3
namespace Go.Proofs.YtemnhihpoabefaaGreatDoor
open Go.RowKit Go.Shelf

theorem keep5 {w W W' : World} {p0 p1 p2 p3 : Addr} {v0 v1 v2 v3 : Value} (h : W.cell? p0 = some v0 ∧ W.cell? p1 = some v1 ∧ W.cell? p2 = some v2 ∧ W.cell? p3 = some v3 ∧ Below w.heap.size w W) (hq : Below W.heap.size W W') :
    W'.cell? p0 = some v0 ∧ W'.cell? p1 = some v1 ∧ W'.cell? p2 = some v2 ∧ W'.cell? p3 = some v3 ∧ Below w.heap.size w W' :=
  ⟨cell_keep hq h.1, cell_keep hq h.2.1, cell_keep hq h.2.2.1, cell_keep hq h.2.2.2.1, bstep h.2.2.2.2 hq⟩
theorem start5 {w W : World} {p0 p1 p2 p3 : Addr} {v0 v1 v2 v3 : Value} (h : W.cell? p0 = some v0 ∧ W.cell? p1 = some v1 ∧ W.cell? p2 = some v2 ∧ W.cell? p3 = some v3 ∧ Below w.heap.size w W) :
    W.drew.cell? p0 = some v0 ∧ W.drew.cell? p1 = some v1 ∧ W.drew.cell? p2 = some v2 ∧ W.drew.cell? p3 = some v3 ∧ Below w.heap.size w W.drew := ⟨h.1, h.2.1, h.2.2.1, h.2.2.2.1, h.2.2.2.2.drew⟩

set_option maxHeartbeats 8000000 in
theorem checkListS_any (ga : Nat) (f : P.St → Int) (hf : StFn ga f) (L : List P.St) (a : Option Addr) (cap : Nat) (hl : L.length ≤ 4294967280) (hs : stsFit L) (w : World) (hw : Good w) (hm : StsAt w.heap.size w a L cap) :
    Calls Tryz.prog 65 #[.slice a L.length cap, .func (.func 66) #[] #[], .func (.func ga) #[] #[], .slice none 0 0] w fun e w' =>
      e = .returned (.int .i64 (P.listErr f P.St.k P.noMore L)) ∧ Below w.heap.size w w' := by
  obtain ⟨eg, hp⟩ := hf
  have eK := enters_of Tryz.func66 (by kernel_rfl) rfl
  have HF := Lib.hid hp
  have HM := Lib.hid hm
  have Hw := Lib.hid hw
  have HS := Lib.hid hs
  clear hp hm hw hs
  go_enter Tryz.func65, Tryz.ntmps65
  go_wp2
  go_loopw [17] (fun i wr => ∃ k : Nat, k ≤ L.length ∧ i = .int .i64 k ∧ Aside (∀ j, j < k → P.stepE f P.St.k P.noMore L j = 0) ∧ Hid (Below w.heap.size w wr)) (fun i _ => L.length - (intOf i).toNat)
  case atStart => exact ⟨0, Nat.zero_le _, rfl, aside (fun j h => absurd h (by omega)), Lib.hid (Below.refl _ _)⟩
  case round =>
    obtain ⟨k, hk, rfl, A, HB⟩ := hrel
    by_cases hlt : k < L.length
    · obtain ⟨b, off, rfl, hbm, hc⟩ := (HM.out.below HB.out).at_ (ne_nil_of_lt hlt)
      obtain ⟨c0, c1⟩ := hc k hlt
      have HC := Lib.hid (HM.out.at_ (ne_nil_of_lt hlt))
      have hstep := P.stepE_at f P.St.k P.noMore L hlt
      have HK := fun W hW => HF.out L[k] (HS.out k hlt).1 (HS.out k hlt).2 W hW
      by_cases he : f L[k] = 0
      · rw [he] at HK hstep
        rw [P.orE_zero, show P.noMore k = 0 from rfl] at hstep
        have Hst := Lib.hid hstep
        replace HK := Lib.hid HK
        clear he hstep hc
        go_wp2_with fail
        refine (HK.out _ ((Hw.out.mono HB.out).mono (below_alloc _ _))).mono ?_
        rintro e w2 ⟨rfl, hb2⟩
        have HRB := Lib.hid ((HasRow.new wr _ _).below hb2)
        have HB2 := Lib.hid (bstep (bstep HB.out (below_alloc _ _)) hb2)
        clear hb2 c0 c1 HK
        obtain ⟨c0, c1, hlt2⟩ := hrow2 HRB.out
        go_wp2_with fail
        by_cases hk0 : k = 0
        · have HZ1 : Hid (∀ j, j < k + 1 → P.stepE f P.St.k P.noMore L j = 0) := Lib.hid fun j hj => by
            obtain rfl : j = 0 := by omega
            subst hk0
            rw [Hst.out]; rfl
          have q : ¬ 0 < k := by omega
          clear Hst hk0 A
          go_region
          have HB3 := Lib.hid HB2.out.drew
          go_wp2_with fail
          refine wp_loop_rounds 1 ?_
          rw [rounds_succ]
          go_wp2
          go_roundw
          case rel => exact ⟨k + 1, by omega, by go_num, aside HZ1.out, HB3⟩
          case measure => simp [intOf]; omega
        · obtain ⟨m, hm⟩ : ∃ m, k = m + 1 := ⟨k - 1, by omega⟩
          have hk1 : m < L.length := by omega
          obtain ⟨b', off', hbo, _, hc'⟩ := HC.out
          injection hbo with hbo
          injection hbo with hbo1 hbo2 _
          subst hbo1 hbo2
          obtain ⟨d0, d1⟩ := hc' m hk1
          replace d0 := cell_keep HB2.out d0
          replace d1 := cell_keep HB2.out d1
          have HN : Hid (P.stepE f P.St.k P.noMore L k = if P.leS L[k].k L[m].k then 7 else 0) := Lib.hid (by
            subst hm
            rw [Hst.out, P.orderE_succ _ _ hlt]; unfold P.orE; split <;> simp_all)
          have q : 0 < k := by omega
          have e3 : IntKind.i64.wrap ((k : Int) - 1) = (m : Int) := by rw [show (k : Int) - 1 = (m : Int) by omega, IntKind.wrap_i64]; omega
          have b0 : (0 : Int) ≤ (m : Int) := Int.natCast_nonneg m
          have b1 : (m : Int) < (L.length : Int) := by omega
          have HX : Hid (P.leS L[k].k L[m].k = true → P.listErr f P.St.k P.noMore L = 7) := Lib.hid fun h => by
            unfold P.listErr
            rw [P.firstErr_at hlt A.out (by rw [HN.out, if_pos h]; decide), HN.out, if_pos h]
          have HZ : Hid (P.leS L[k].k L[m].k = false → ∀ j, j < k + 1 → P.stepE f P.St.k P.noMore L j = 0) := Lib.hid fun h j hj => by
            by_cases e : j = k
            · subst e; rw [HN.out, h]; rfl
            · exact A.out j (by omega)
          clear hm hk0 hc' Hst A HN
          generalize L[k] = x at *
          generalize L[m] = y at *
          have hS := start5 ⟨c0, c1, d0, d1, HB2.out⟩
          clear c0 c1 d0 d1
          have HY : Hid (∀ k v W, Calls Tryz.prog 66 #[.agg #[.string k, .string v]] W fun e w' => e = .returned (.string k) ∧ Below W.heap.size W w') :=
            Lib.hid (fun k v W => (keyOf_any k v W).mono fun e w' ⟨h1, h2⟩ => ⟨h1, by rw [h2]; exact below_alloc _ _⟩)
          go_region_held3 (fun W => W.cell? ⟨wr.heap.size, 0, none⟩ = some (.string x.k) ∧ W.cell? ⟨wr.heap.size, 1, none⟩ = some (.string x.v) ∧ W.cell? ⟨b, off + m * 2, none⟩ = some (.string y.k) ∧ W.cell? ⟨b, off + m * 2 + 1, none⟩ = some (.string y.v) ∧ Below w.heap.size w W)
            (first | with_reducible assumption | exact keep5 (by with_reducible assumption) (by with_reducible assumption))
            (first | (go_at_call 66; refine (HY.out _ _ _).mono ?_; rintro e w' ⟨rfl, hb1⟩))
          go_wp2_with fail
          · have hle : P.leS x.k y.k = true := by
              unfold P.leS
              have : Op.bytesLess x.k.toList y.k.toList = true ∨ (x.k.toList == y.k.toList) = true := by assumption
              simpa using this
            have HB3 := Lib.hid (by with_reducible assumption : _ ∧ _ ∧ _ ∧ _ ∧ Below w.heap.size w _).2.2.2.2
            go_ret
            exact ⟨by rw [HX.out hle]; rfl, HB3.out⟩
          · have hle : P.leS x.k y.k = false := by
              unfold P.leS
              have : Op.bytesLess x.k.toList y.k.toList = false ∧ (x.k.toList == y.k.toList) = false := by assumption
              rw [this.1, this.2]; rfl
            have HB3 := Lib.hid (by with_reducible assumption : _ ∧ _ ∧ _ ∧ _ ∧ Below w.heap.size w _).2.2.2.2
            refine wp_loop_rounds 1 ?_
            rw [rounds_succ]
            go_wp2
            go_roundw
            case rel => exact ⟨k + 1, by omega, by go_num, aside (HZ.out hle), HB3⟩
            case measure => simp [intOf]; omega
      · have HV : Hid (P.listErr f P.St.k P.noMore L = f L[k]) := Lib.hid (by
          unfold P.listErr
          rw [P.firstErr_at hlt A.out (by rw [hstep, P.orE_ne he]; exact he), hstep, P.orE_ne he])
        have g1 : (f L[k] != 0) = true := by simpa using he
        replace HK := Lib.hid HK
        clear hstep hc A HF
        generalize f L[k] = ee at *
        go_wp2_with fail
        refine (HK.out _ ((Hw.out.mono HB.out).mono (below_alloc _ _))).mono ?_
        rintro e w2 ⟨rfl, hb2⟩
        have HB2 := Lib.hid (bstep (bstep HB.out (below_alloc _ _)) hb2)
        clear hb2
        go_wp2_with fail
        go_ret
        exact ⟨by rw [HV.out]; rfl, HB2.out⟩
    · have hkl : k = L.length := by omega
      subst hkl
      have HV := Lib.hid (P.firstErr_none A.out)
      go_wp2_with fail
      go_ret
      exact ⟨by unfold P.listErr; rw [HV.out]; rfl, HB.out⟩
end Go.Proofs.YtemnhihpoabefaaGreatDoor
