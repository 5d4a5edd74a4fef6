/- Walks: package disk: the lists of files: where they lie; their check. -/
import Derived.Test.YtomikcemiacjmaaGreatDoorZMList
import Derived.Test.YtomikcemiacjmaaGreatDoorZMBeside

namespace Go.Proofs.YtomikcemiacjmaaGreatDoor
open Go.RowKit Go.Shelf

/-- the files L lie where the slice (a, cap) says, in blocks below m -/
structure FisAt (m : Nat) (w : World) (a : Option Addr) (L : List P.Fi) (cap : Nat) : Prop where
  le : L.length ≤ cap
  at_ : L ≠ [] → ∃ b off, a = some ⟨b, off, none⟩ ∧ b < m ∧ ∀ k (hk : k < L.length), w.cell? ⟨b, off + k * 3, none⟩ = some (.string L[k].p) ∧ w.cell? ⟨b, off + k * 3 + 1, none⟩ = some (.string L[k].d) ∧ w.cell? ⟨b, off + k * 3 + 1 + 1, none⟩ = some (.bool L[k].r)
theorem FisAt.below {m : Nat} {w w' : World} {a : Option Addr} {L : List P.Fi} {cap : Nat} (h : FisAt m w a L cap) (hb : Below m w w') : FisAt m w' a L cap :=
  ⟨h.le, fun hn => let ⟨b, off, e, hbm, hc⟩ := h.at_ hn; ⟨b, off, e, hbm, fun k hk => ⟨(hb.cell (p := ⟨b, off + k * 3, none⟩) hbm).trans (hc k hk).1, (hb.cell (p := ⟨b, off + k * 3 + 1, none⟩) hbm).trans (hc k hk).2.1, (hb.cell (p := ⟨b, off + k * 3 + 1 + 1, none⟩) hbm).trans (hc k hk).2.2⟩⟩⟩
def fisFit (L : List P.Fi) : Prop := ∀ k (hk : k < L.length), L[k].p.size ≤ 4294967280 ∧ L[k].d.size ≤ 4294967280
/-- what grew but for a block beyond m stands below m -/
theorem below_of_grown {W W' : World} {m B : Nat} (hg : W.grownBy W' (some B)) (hm : m ≤ W.heap.size) (hB : m ≤ B) : Below m W W' :=
  ⟨hg.os, hg.tape, hg.output, hg.size, fun k hk => hg.block k (by omega) (fun e => by cases e; omega)⟩

theorem grow_below {w W W' : World} {r : Option Nat} (h : w.grownBy W r) (hb : Below W.heap.size W W') : w.grownBy W' r :=
  ⟨hb.os.trans h.os, hb.tape.trans h.tape, hb.output.trans h.output, Nat.le_trans h.size hb.size, fun k hk hne => (hb.block k (Nat.lt_of_lt_of_le hk h.size)).trans (h.block k hk hne)⟩

theorem grow_step' {w W W2 : World} {r : Option Nat} (h : w.grownBy W r) (hg : W.grownBy W2 r) : w.grownBy W2 r :=
  ⟨hg.os.trans h.os, hg.tape.trans h.tape, hg.output.trans h.output, Nat.le_trans h.size hg.size, fun k hk hne => (hg.block k (Nat.lt_of_lt_of_le hk h.size) hne).trans (h.block k hk hne)⟩

theorem pathOf_any (p d : ByteArray) (x : Bool) (w : World) : Calls Tryz.prog 97 #[.agg #[.string p, .string d, .bool x]] w fun e w' => e = .returned (.string p) ∧ Below w.heap.size w w' := by
  have HB := Lib.hid (below_alloc w (.cells #[.string p, .string d, .bool x] 42))
  go_enter Tryz.func97, Tryz.ntmps97
  go_wp2
  go_ret
  exact ⟨rfl, HB.out⟩
theorem beside_any (x : P.Fi) (hs : x.p.size ≤ 4294967280) (Bs BM nn : Nat) (q : ByteArray → Bool) (w : World) (hS : HasRow w Bs #[.map (some BM)]) (hM : SetM w BM nn q) (hnn : nn < maxLen) :
    Calls Tryz.prog 183 #[.agg #[.string x.p, .string x.d, .bool x.r], .pointer (some ⟨Bs, 0, none⟩)] w fun e W' =>
      e = .returned (.int .i64 (P.dirE x.p q)) ∧ (P.dirE x.p q = 0 → SetM W' BM (nn + 1) (fun s => q s || decide (s = x.p))) ∧ w.grownBy W' (some BM) :=
  callsIn_wide.1 (beside_in Fence.wide 3 trivial trivial trivial rfl (by omega) x hs Bs BM nn q w hS hM hnn)

namespace P
theorem seen_succ {L : List Fi} {k : Nat} (hk : k < L.length) (s : ByteArray) : (seen (L.take k) s || decide (s = L[k].p)) = seen (L.take (k + 1)) s := by
  unfold seen
  rw [List.take_succ_eq_append_getElem hk, List.any_append]
  simp only [List.any_cons, List.any_nil, Bool.or_false]
  congr 1
  exact decide_eq_decide.2 ⟨Eq.symm, Eq.symm⟩
theorem clash_dirE (L : List Fi) {k : Nat} (hk : k < L.length) : clash L k = dirE L[k].p (seen (L.take k)) := clash_at L hk
end P
theorem keep7 {w W W' : World} {p0 p1 p2 p3 p4 p5 : Addr} {v0 v1 v2 v3 v4 v5 : Value} (h : W.cell? p0 = some v0 ∧ W.cell? p1 = some v1 ∧ W.cell? p2 = some v2 ∧ W.cell? p3 = some v3 ∧ W.cell? p4 = some v4 ∧ W.cell? p5 = some v5 ∧ Below w.heap.size w W) (hq : Below W.heap.size W W') :
    W'.cell? p0 = some v0 ∧ W'.cell? p1 = some v1 ∧ W'.cell? p2 = some v2 ∧ W'.cell? p3 = some v3 ∧ W'.cell? p4 = some v4 ∧ W'.cell? p5 = some v5 ∧ Below w.heap.size w W' :=
  ⟨cell_keep hq h.1, cell_keep hq h.2.1, cell_keep hq h.2.2.1, cell_keep hq h.2.2.2.1, cell_keep hq h.2.2.2.2.1, cell_keep hq h.2.2.2.2.2.1, bstep h.2.2.2.2.2.2 hq⟩
theorem start7 {w W : World} {p0 p1 p2 p3 p4 p5 : Addr} {v0 v1 v2 v3 v4 v5 : Value} (h : W.cell? p0 = some v0 ∧ W.cell? p1 = some v1 ∧ W.cell? p2 = some v2 ∧ W.cell? p3 = some v3 ∧ W.cell? p4 = some v4 ∧ W.cell? p5 = some v5 ∧ Below w.heap.size w W) :
    W.drew.cell? p0 = some v0 ∧ W.drew.cell? p1 = some v1 ∧ W.drew.cell? p2 = some v2 ∧ W.drew.cell? p3 = some v3 ∧ W.drew.cell? p4 = some v4 ∧ W.drew.cell? p5 = some v5 ∧ Below w.heap.size w W.drew :=
  ⟨h.1, h.2.1, h.2.2.1, h.2.2.2.1, h.2.2.2.2.1, h.2.2.2.2.2.1, h.2.2.2.2.2.2.drew⟩

set_option maxHeartbeats 8000000 in
theorem checkListF_any (L : List P.Fi) (a : Option Addr) (cap bm Bs BM m₀ : Nat) (hl : L.length ≤ 4294967280) (hs : fisFit L) (w : World) (hw : Good w) (h8 : 8 ≤ m₀) (hmB : m₀ ≤ BM) (hm : FisAt m₀ w a L cap)
    (hbm : HasRow w bm #[.func (.func 183) #[] #[.pointer (some ⟨Bs, 0, none⟩)]]) (hBs : HasRow w Bs #[.map (some BM)]) (hM : SetM w BM 0 (fun _ => false)) (n1 : bm ≠ BM) (n2 : Bs ≠ BM) :
    Calls Tryz.prog 96 #[.slice a L.length cap, .func (.func 97) #[] #[], .func (.func 98) #[] #[], .slice (some ⟨bm, 0, none⟩) 1 1] w fun e w' =>
      e = .returned (.int .i64 (P.listErr P.fileErr P.Fi.p (P.clash L) L)) ∧ w.grownBy w' (some BM) := by
  have eg := enters_of Tryz.func98 (by kernel_rfl) rfl
  have eK := enters_of Tryz.func97 (by kernel_rfl) rfl
  have eB := enters_of Tryz.func183 (by kernel_rfl) rfl
  have hMlt := hM.lt
  have HF := Lib.hid (fun (x : P.Fi) h1 h2 w hw => checkFile_any x h1 h2 w hw)
  have HM := Lib.hid hm
  have Hw := Lib.hid hw
  have HS := Lib.hid hs
  have HR := Lib.hid hbm
  have HT := Lib.hid hBs
  have HU := Lib.hid hM
  clear hm hw hs hbm hBs hM
  go_enter Tryz.func96, Tryz.ntmps96
  go_wp2
  go_loopw [17] (fun i wr => ∃ k : Nat, k ≤ L.length ∧ i = .int .i64 k ∧ Aside (∀ j, j < k → P.stepE P.fileErr P.Fi.p (P.clash L) L j = 0) ∧ Hid (w.grownBy wr (some BM)) ∧ Hid (SetM wr BM k (P.seen (L.take k)))) (fun i _ => L.length - (intOf i).toNat)
  case atStart => exact ⟨0, Nat.zero_le _, rfl, aside (fun j h => absurd h (by omega)), Lib.hid (World.grownBy_refl' _ _), HU⟩
  case round =>
    obtain ⟨k, hk, rfl, A, HG, HQ⟩ := hrel
    have HB : Hid (Below m₀ w wr) := Lib.hid (below_of_grown HG.out (by omega) hmB)
    have Hw' : Hid (Good wr) := Lib.hid ⟨let ⟨m, e⟩ := Hw.out.m; ⟨m, by rw [HB.out.cell (p := ⟨0, 0, none⟩) (by show 0 < m₀; omega)]; exact e⟩, Nat.le_trans Hw.out.sz HG.out.size⟩
    by_cases hlt : k < L.length
    · obtain ⟨b, off, rfl, hbm, hc⟩ := (HM.out.below HB.out).at_ (ne_nil_of_lt hlt)
      obtain ⟨c0, c1, c2⟩ := hc k hlt
      have HC := Lib.hid hc
      have hstep := P.stepE_at P.fileErr P.Fi.p (P.clash L) L hlt
      have HK := fun W hW => HF.out L[k] (HS.out k hlt).1 (HS.out k hlt).2 W hW
      by_cases he : P.fileErr L[k] = 0
      · rw [he] at HK hstep
        rw [P.orE_zero] at hstep
        have Hst := Lib.hid hstep
        replace HK := Lib.hid HK
        clear he hstep hc
        go_wp2_with fail
        refine (HK.out _ (Hw'.out.mono (below_alloc _ _))).mono ?_
        rintro e w2 ⟨rfl, hb2⟩
        have HRB := Lib.hid ((HasRow.new wr _ _).below hb2)
        have HB2 := Lib.hid (bstep (below_alloc wr _) hb2)
        clear hb2 c0 c1 c2 HK
        obtain ⟨c0, c1, c2, hlt2⟩ := hrow3 HRB.out
        go_wp2_with fail
        have HBx : Hid (∀ W, HasRow W Bs #[.map (some BM)] → SetM W BM k (P.seen (L.take k)) → Calls Tryz.prog 183 #[.agg #[.string L[k].p, .string L[k].d, .bool L[k].r], .pointer (some ⟨Bs, 0, none⟩)] W fun e W' =>
            e = .returned (.int .i64 (P.clash L k)) ∧ (P.clash L k = 0 → SetM W' BM (k + 1) (P.seen (L.take (k + 1)))) ∧ W.grownBy W' (some BM)) := Lib.hid fun W h1 h2 =>
          (beside_any L[k] (HS.out k hlt).1 Bs BM k _ W h1 h2 (by unfold maxLen; omega)).mono fun e W' ⟨e1, e2, e3⟩ => by
            rw [P.clash_dirE L hlt]
            exact ⟨e1, fun h => (e2 h).congr (P.seen_succ hlt), e3⟩
        have HD0 : Hid (P.orderE P.Fi.p L k = 0 → P.clash L k = 0 → ∀ j, j < k + 1 → P.stepE P.fileErr P.Fi.p (P.clash L) L j = 0) := Lib.hid fun h1 h2 j hj => by
          by_cases e : j = k
          · subst e; rw [Hst.out, h1, h2]; rfl
          · exact A.out j (by omega)
        have HD1 : Hid (P.orderE P.Fi.p L k = 0 → P.clash L k ≠ 0 → P.listErr P.fileErr P.Fi.p (P.clash L) L = P.clash L k) := Lib.hid fun h1 h2 => by
          have hs : P.stepE P.fileErr P.Fi.p (P.clash L) L k = P.clash L k := by rw [Hst.out, h1, P.orE_zero]
          unfold P.listErr
          rw [P.firstErr_at hlt A.out (by rw [hs]; exact h2), hs]
        have HD2 : Hid (P.orderE P.Fi.p L k = 7 → P.listErr P.fileErr P.Fi.p (P.clash L) L = 7) := Lib.hid fun h1 => by
          have hs : P.stepE P.fileErr P.Fi.p (P.clash L) L k = 7 := by rw [Hst.out, h1]; rfl
          unfold P.listErr
          rw [P.firstErr_at hlt A.out (by rw [hs]; decide), hs]
        clear Hst A
        generalize P.clash L k = dd at *
        by_cases hk0 : k = 0
        · have ho : P.orderE P.Fi.p L k = 0 := by subst hk0; rfl
          have q : ¬ 0 < k := by omega
          clear hk0 HD2
          generalize L[k] = x at *
          go_region
          have hb3 := HB2.out.drew
          have e0 : w2.drew.cell? ⟨wr.heap.size, 0, none⟩ = some (.string x.p) := c0
          have e1 : w2.drew.cell? ⟨wr.heap.size, 1, none⟩ = some (.string x.d) := c1
          have e2 : w2.drew.cell? ⟨wr.heap.size, 2, none⟩ = some (.bool x.r) := c2
          clear c0 c1 c2
          go_wp2_with fail
          have HTs := Lib.hid ((HT.out.grown HG.out (fun e => by injection e with e; exact n2 e)).below hb3)
          have HMs := Lib.hid (HQ.out.below hb3 HQ.out.lt)
          have HRs := (HR.out.grown HG.out (fun e => by injection e with e; exact n1 e)).below hb3
          obtain ⟨r0, _, _⟩ := hrow1 HRs
          have HG3 := Lib.hid (grow_below HG.out hb3)
          clear HRs hb3
          refine wp_loop_rounds 2 ?_
          rw [rounds_succ]
          by_cases hd : dd = 0
          · subst hd
            replace HD0 := Lib.hid (HD0.out ho rfl)
            clear HD1
            go_wp2_with (go_at_call 183; refine (HBx.out _ HTs.out HMs.out).mono ?_; rintro e w5 ⟨rfl, hset, hg⟩)
            have HS5 := Lib.hid (hset (by first | trivial | rfl))
            have HG5 := Lib.hid (grow_step' HG3.out hg)
            clear hset hg
            rw [rounds_succ]
            go_wp2
            go_roundw
            case rel => exact ⟨k + 1, by omega, by go_num, aside HD0.out, HG5, HS5⟩
            case measure => simp [intOf]; omega
          · replace HD1 := Lib.hid (HD1.out ho hd)
            have g1 : (dd != 0) = true := by simpa using hd
            clear HD0 hd
            go_wp2_with (go_at_call 183; refine (HBx.out _ HTs.out HMs.out).mono ?_; rintro e w5 ⟨rfl, _, hg⟩)
            have HG5 := Lib.hid (grow_step' HG3.out hg)
            clear hg
            go_ret
            exact ⟨by rw [HD1.out]; rfl, HG5.out⟩
        · obtain ⟨m, hm⟩ : ∃ m, k = m + 1 := ⟨k - 1, by omega⟩
          have hk1 : m < L.length := by omega
          obtain ⟨d0, d1, d2⟩ := HC.out m hk1
          replace d0 := cell_keep HB2.out d0
          replace d1 := cell_keep HB2.out d1
          replace d2 := cell_keep HB2.out d2
          have HN : Hid (P.orderE P.Fi.p L k = if P.leS L[k].p L[m].p then 7 else 0) := Lib.hid (by subst hm; exact P.orderE_succ _ _ hlt)
          have q : 0 < k := by omega
          have e3 : IntKind.i64.wrap ((k : Int) - 1) = (m : Int) := by rw [show (k : Int) - 1 = (m : Int) by omega, IntKind.wrap_i64]; omega
          have b0 : (0 : Int) ≤ (m : Int) := Int.natCast_nonneg m
          have b1 : (m : Int) < (L.length : Int) := by omega
          clear hm hk0
          generalize L[k] = x at *
          generalize L[m] = y at *
          have hS := start7 ⟨c0, c1, c2, d0, d1, d2, HB2.out⟩
          clear c0 c1 c2 d0 d1 d2
          have HY := Lib.hid pathOf_any
          go_region_held3 (fun W => W.cell? ⟨wr.heap.size, 0, none⟩ = some (.string x.p) ∧ W.cell? ⟨wr.heap.size, 1, none⟩ = some (.string x.d) ∧ W.cell? ⟨wr.heap.size, 2, none⟩ = some (.bool x.r) ∧
            W.cell? ⟨b, off + m * 3, none⟩ = some (.string y.p) ∧ W.cell? ⟨b, off + m * 3 + 1, none⟩ = some (.string y.d) ∧ W.cell? ⟨b, off + m * 3 + 1 + 1, none⟩ = some (.bool y.r) ∧ Below wr.heap.size wr W)
            (first | with_reducible assumption | exact keep7 (by with_reducible assumption) (by with_reducible assumption))
            (first | (go_at_call 97; refine (HY.out _ _ _ _).mono ?_; rintro e w' ⟨rfl, hb1⟩))
          go_wp2_with fail
          · have hle : P.leS x.p y.p = true := by
              unfold P.leS
              have : Op.bytesLess x.p.toList y.p.toList = true ∨ (x.p.toList == y.p.toList) = true := by assumption
              simpa using this
            have HB3 := Lib.hid (by with_reducible assumption : _ ∧ _ ∧ _ ∧ _ ∧ _ ∧ _ ∧ Below wr.heap.size wr _).2.2.2.2.2.2
            go_ret
            exact ⟨by rw [HD2.out (by rw [HN.out, if_pos hle])]; rfl, grow_below HG.out HB3.out⟩
          · have hle : P.leS x.p y.p = false := by
              unfold P.leS
              have : Op.bytesLess x.p.toList y.p.toList = false ∧ (x.p.toList == y.p.toList) = false := by assumption
              rw [this.1, this.2]; rfl
            have ho : P.orderE P.Fi.p L k = 0 := by rw [HN.out, hle]; rfl
            obtain ⟨e0, e1, e2, _, _, _, hb3⟩ := (by with_reducible assumption : _ ∧ _ ∧ _ ∧ _ ∧ _ ∧ _ ∧ Below wr.heap.size wr _)
            clear HD2 HN hle
            have HTs := Lib.hid ((HT.out.grown HG.out (fun e => by injection e with e; exact n2 e)).below hb3)
            have HMs := Lib.hid (HQ.out.below hb3 HQ.out.lt)
            have HRs := (HR.out.grown HG.out (fun e => by injection e with e; exact n1 e)).below hb3
            obtain ⟨r0, _, _⟩ := hrow1 HRs
            have HG3 := Lib.hid (grow_below HG.out hb3)
            clear HRs hb3
            refine wp_loop_rounds 2 ?_
            rw [rounds_succ]
            by_cases hd : dd = 0
            · subst hd
              replace HD0 := Lib.hid (HD0.out ho rfl)
              clear HD1
              go_wp2_with (go_at_call 183; refine (HBx.out _ HTs.out HMs.out).mono ?_; rintro e w5 ⟨rfl, hset, hg⟩)
              have HS5 := Lib.hid (hset (by first | trivial | rfl))
              have HG5 := Lib.hid (grow_step' HG3.out hg)
              clear hset hg
              rw [rounds_succ]
              go_wp2
              go_roundw
              case rel => exact ⟨k + 1, by omega, by go_num, aside HD0.out, HG5, HS5⟩
              case measure => simp [intOf]; omega
            · replace HD1 := Lib.hid (HD1.out ho hd)
              have g1 : (dd != 0) = true := by simpa using hd
              clear HD0 hd
              go_wp2_with (go_at_call 183; refine (HBx.out _ HTs.out HMs.out).mono ?_; rintro e w5 ⟨rfl, _, hg⟩)
              have HG5 := Lib.hid (grow_step' HG3.out hg)
              clear hg
              go_ret
              exact ⟨by rw [HD1.out]; rfl, HG5.out⟩
      · have HV : Hid (P.listErr P.fileErr P.Fi.p (P.clash L) L = P.fileErr L[k]) := Lib.hid (by
          unfold P.listErr
          rw [P.firstErr_at hlt A.out (by rw [hstep, P.orE_ne he]; exact he), hstep, P.orE_ne he])
        have g1 : (P.fileErr L[k] != 0) = true := by simpa using he
        replace HK := Lib.hid HK
        clear hstep hc A HF
        generalize P.fileErr L[k] = ee at *
        go_wp2_with fail
        refine (HK.out _ (Hw'.out.mono (below_alloc _ _))).mono ?_
        rintro e w2 ⟨rfl, hb2⟩
        have HB2 := Lib.hid (bstep (below_alloc wr _) hb2)
        clear hb2
        go_wp2_with fail
        go_ret
        exact ⟨by rw [HV.out]; rfl, grow_below HG.out HB2.out⟩
    · have hkl : k = L.length := by omega
      subst hkl
      have HV := Lib.hid (P.firstErr_none A.out)
      go_wp2_with fail
      go_ret
      exact ⟨by unfold P.listErr; rw [HV.out]; rfl, HG.out⟩
end Go.Proofs.YtomikcemiacjmaaGreatDoor
