/- Walks: outref1's ParseJournal. -/
import Derived.Test.YtomikcemiacjmaaGreatDoorZJRPart
import Derived.Test.YtomikcemiacjmaaGreatDoorZJJudge
import Derived.Test.YtomikcemiacjmaaGreatDoorZJRSum
import Derived.Test.YtomikcemiacjmaaGreatDoorZJParse

namespace Go.Proofs.YtomikcemiacjmaaGreatDoor
open Go.RowKit Go.Lib Go.Shelf Go.Maps

set_option maxRecDepth 100000 in
theorem rno_any (x : Int) (w : World) : Calls Tryz.prog 172 #[.int .i64 x] w fun e w' => e = .returned (.tuple #[.agg #[.string ⟨#[]⟩, .slice none 0 0, .slice none 0 0], .int .i64 x]) ∧ Below w.heap.size w w' := by
  have HN := Lib.hid (HasRow.new w #[.string ⟨#[]⟩, .slice none 0 0, .slice none 0 0] 106)
  have n0 := HN.out.cell 0
  have n1 := HN.out.cell 1
  have n2 := HN.out.cell 2
  have g0 := HN.out.free 0
  have g1 := HN.out.free 1
  have g2 := HN.out.free 2
  go_enter Tryz.func172, Tryz.ntmps172
  go_wp2_with fail
  refine bodyPost_ret (v := .tuple #[.agg #[.string ⟨#[]⟩, .slice none 0 0, .slice none 0 0], .int .i64 x]) ?_ rfl ⟨rfl, below_alloc _ _⟩
  simp [results, Tryz.results172, go_sem, n0, n1, n2]

theorem RowAt.other {W : World} {nb b j : Nat} {v : Value} {M : List ByteArray} (h : RowAt W nb M) (hne : nb ≠ b) : RowAt (W.setCell ⟨b, j, none⟩ v) nb M :=
  ⟨by have := h.1; simpa [World.setCell] using this, fun k hk => by
    rw [World.cell?_setCell_other (h := show (⟨b, j, none⟩ : Addr) ≠ ⟨nb, k, none⟩ from fun h' => hne (by injection h' with h1 _; exact h1.symm))]; exact h.2 k hk⟩
theorem RowAt.gb {W W' : World} {nb b : Nat} {M : List ByteArray} (h : RowAt W nb M) (hg : Gb b W W') (hne : nb ≠ b) : RowAt W' nb M :=
  ⟨Nat.lt_of_lt_of_le h.1 hg.size, fun k hk => by rw [World.cell?_of_block (w := W) (a := ⟨nb, k, none⟩) (hg.block nb h.1 (fun e => hne (Option.some.inj e)))]; exact h.2 k hk⟩
/-- the boxes of the reference's ParseJournal -/
structure RJ (w W : World) (nl : Nat) (M : List ByteArray) (cap : Nat) (vj : Array Value) (k : Int) : Prop where
  res : HasRow W w.heap.size #[.string ⟨#[]⟩, .slice none 0 0, .slice none 0 0]
  row : RowAt W (w.heap.size + 1) M
  ln : HasRow W nl #[.slice (some ⟨w.heap.size + 1, 0, none⟩) M.length cap]
  j : HasRow W (nl + 1) vj
  at_ : HasRow W (nl + 1 + 1) #[.int .i64 k]
  lt : w.heap.size + 1 < nl
  z : Below w.heap.size w W
theorem RJ.below {w W W' : World} {nl : Nat} {M : List ByteArray} {cap : Nat} {vj : Array Value} {k : Int} (h : RJ w W nl M cap vj k) (hb : Below W.heap.size W W') : RJ w W' nl M cap vj k :=
  ⟨h.res.below hb, h.row.below hb h.row.1, h.ln.below hb, h.j.below hb, h.at_.below hb, h.lt, bstep h.z hb⟩
theorem RJ.setj {w W : World} {nl : Nat} {M : List ByteArray} {cap : Nat} {vj : Array Value} {k : Int} (h : RJ w W nl M cap vj k) (i : Nat) (v : Value) (hi : i < vj.size) : RJ w (W.setCell ⟨nl + 1, i, none⟩ v) nl M cap (vj.setIfInBounds i v) k := by
  have := h.lt
  exact ⟨h.res.other i v (by omega), h.row.other (by omega), h.ln.other i v (by omega), h.j.set i v hi, h.at_.other i v (by omega), h.lt, h.z.setCell (p := ⟨nl + 1, i, none⟩) (by show w.heap.size ≤ nl + 1; omega) v⟩
theorem RJ.gb {w W W' : World} {nl : Nat} {M : List ByteArray} {cap : Nat} {vj : Array Value} {k k' : Int} (h : RJ w W nl M cap vj k) (hg : Gb (nl + 1 + 1) W W') (ha : HasRow W' (nl + 1 + 1) #[.int .i64 k']) : RJ w W' nl M cap vj k' := by
  have := h.lt
  exact ⟨h.res.grown hg (fun e => by have := Option.some.inj e; omega), h.row.gb hg (by omega), h.ln.grown hg (fun e => by have := Option.some.inj e; omega), h.j.grown hg (fun e => by have := Option.some.inj e; omega), ha, h.lt,
    h.z.trans (hg.below (by omega) h.at_.lt)⟩
theorem RJ.start {w w1 : World} {M : List ByteArray} {cap : Nat} {I : ByteArray} (hr : HasRow w1 w.heap.size #[.string ⟨#[]⟩, .slice none 0 0, .slice none 0 0]) (hm : RowAt w1 (w.heap.size + 1) M) (hlt : w.heap.size + 1 < w1.heap.size) (hz : Below w.heap.size w w1) :
    RJ w (((w1.alloc (.cells #[.slice (some ⟨w.heap.size + 1, 0, none⟩) M.length cap] 49)).alloc (.cells #[.string I, .slice none 0 0, .slice none 0 0] 106)).alloc (.cells #[.int .i64 1] 3)) w1.heap.size M cap #[.string I, .slice none 0 0, .slice none 0 0] 1 := by
  have b1 := below_alloc w1 (.cells #[.slice (some ⟨w.heap.size + 1, 0, none⟩) M.length cap] 49)
  have b2 := below_alloc (w1.alloc (.cells #[.slice (some ⟨w.heap.size + 1, 0, none⟩) M.length cap] 49)) (.cells #[.string I, .slice none 0 0, .slice none 0 0] 106)
  have b12 := bstep b1 b2
  have hj := HasRow.new (w1.alloc (.cells #[.slice (some ⟨w.heap.size + 1, 0, none⟩) M.length cap] 49)) #[.string I, .slice none 0 0, .slice none 0 0] 106
  rw [World.size_alloc] at hj
  have hl := (HasRow.new w1 #[.slice (some ⟨w.heap.size + 1, 0, none⟩) M.length cap] 49).below b2
  have b4 := below_alloc ((w1.alloc (.cells #[.slice (some ⟨w.heap.size + 1, 0, none⟩) M.length cap] 49)).alloc (.cells #[.string I, .slice none 0 0, .slice none 0 0] 106)) (.cells #[.int .i64 1] 3)
  have ha := HasRow.new ((w1.alloc (.cells #[.slice (some ⟨w.heap.size + 1, 0, none⟩) M.length cap] 49)).alloc (.cells #[.string I, .slice none 0 0, .slice none 0 0] 106)) #[.int .i64 1] 3
  rw [World.size_alloc, World.size_alloc] at ha
  have hm2 := hm.below b12 hm.1
  exact ⟨(hr.below b12).below b4, hm2.below b4 hm2.1, hl.below b4, hj.below b4, ha, hlt, bstep (bstep hz b12) b4⟩
namespace P
def cN : ByteArray := ⟨#[99, 104, 97, 110, 103, 101, 115]⟩
def oN : ByteArray := ⟨#[111, 108, 100]⟩
end P

set_option maxRecDepth 100000 in
set_option maxHeartbeats 16000000 in
theorem rparseJ_any (t : ByteArray) (hs : t.size ≤ 1048576) (w : World) (hw : JW w) : Calls Tryz.prog 84 #[.string t] w fun e w' => PJ w (P.parseJ t) e w' := by
  have Z1 := Lib.hid (below_alloc w (.cells #[.string ⟨#[]⟩, .slice none 0 0, .slice none 0 0] 106))
  have HCl := Lib.hid (cutLinesC_any t (by omega) (w.heap.size + 1) (w.alloc (.cells #[.string ⟨#[]⟩, .slice none 0 0, .slice none 0 0] 106)) (by simp) (hw.mono Z1.out).g)
  have HN0 := Lib.hid (HasRow.new w #[.string ⟨#[]⟩, .slice none 0 0, .slice none 0 0] 106)
  have HJ := Lib.hid (fun W hb => hw.mono (w' := W) hb)
  have HNo := Lib.hid rno_any
  have HGet := Lib.hid (fun k h => P.lns_get t k h)
  have HMs := Lib.hid (fun k h => Nat.le_trans (P.lns_size t k h) hs)
  have HMl : Hid ((P.lns t).length ≤ 1048577) := Lib.hid (Nat.le_trans (P.lns_le t) (Nat.succ_le_succ hs))
  have HT1 := Lib.hid (fun h => P.readJ_torn (t := t) h)
  have HT2 := Lib.hid (fun h => P.torn_ne (t := t) h)
  have HT3 := Lib.hid (fun h => P.readJ_short (t := t) h)
  have HT4 := Lib.hid (fun h => P.parts_torn (t := t) h)
  have HT5 := Lib.hid (fun h => P.readJ_eq (t := t) h)
  have HT6 : Hid True := Lib.hid trivial
  have HT7 := Lib.hid (fun h => Nat.le_trans (Nat.le_of_eq (P.lns_text (t := t) h)) hs)
  have HPn := Lib.hid (fun h => P.parseJ_none (t := t) h)
  have HPs := Lib.hid (fun id cs os sm h => P.parseJ_some (t := t) (id := id) (cs := cs) (os := os) (sm := sm) h)
  have HJu := Lib.hid (fun id cs os sm h => P.judge_print (t := t) (id := id) (cs := cs) (os := os) (sm := sm) h)
  have eN := enters_of Tryz.func172 (by kernel_rfl) rfl
  have eP := enters_of Tryz.func174 (by kernel_rfl) rfl
  have Hs := Lib.hid hs
  generalize hP : P.parseJ t = Pr at *
  clear hP hw hs
  generalize P.readJ t = rj at *
  generalize P.torn t = tn at *
  generalize hMM : P.lns t = M at *
  generalize P.parts 10 t = L at *
  clear hMM
  go_enter Tryz.func84, Tryz.ntmps84
  go_upto_region 3 with (go_at_call 154; refine HCl.out.mono ?_; rintro e w1 ⟨rfl, hrow, hb1⟩; have HRow := Lib.hid hrow; have HB1 := Lib.hid hb1; clear hrow hb1)
  have HZ1 := Lib.hid (bstep Z1.out HB1.out)
  have HN1 := Lib.hid (HN0.out.below HB1.out)
  have HA1 : Hid (RowAt w1 (w.heap.size + 1) M) := Lib.hid ⟨HRow.out.lt, fun k hk => by
    obtain ⟨h2, e2⟩ := HGet.out k hk
    rw [row_cell HRow.out k h2, e2]⟩
  have HLt : Hid (w.heap.size + 1 < w1.heap.size) := Lib.hid HRow.out.lt
  have HNa := Lib.hid (HN1.out.below (below_alloc w1 (.cells #[.slice (some ⟨w.heap.size + 1, 0, none⟩) M.length L.length] 49)))
  have HZa := Lib.hid (bstep HZ1.out (below_alloc w1 (.cells #[.slice (some ⟨w.heap.size + 1, 0, none⟩) M.length L.length] 49)))
  clear HCl
  by_cases ht : tn = -1
  · have HL4 := Lib.hid (HT4.out ht)
    have HTh : Hid (tn = -1) := Lib.hid ht
    by_cases h4 : M.length < 4
    · have hPr := HPn.out (HT3.out ht h4)
      have g4 : decide ((M.length : Int) < 4) = true := decide_eq_true (by omega)
      subst hPr
      subst ht
      go_wp2_with (go_at_call 172; refine (HNo.out _ _).mono ?_; rintro e wn ⟨rfl, hbn⟩; have HNn := Lib.hid ((HNa.out).below hbn); have HBn := Lib.hid (bstep (HZa.out) hbn); have n0 := HNn.out.cell 0; have n1 := HNn.out.cell 1; have n2 := HNn.out.cell 2; have g0 := HNn.out.free 0; have g1 := HNn.out.free 1; have g2 := HNn.out.free 2)
      have HS9 := Lib.hid (jstore3 HNn.out HBn.out (Nat.le_refl _) (.string ⟨#[]⟩) (.slice none 0 0) (.slice none 0 0))
      clear n0 n1 n2 g0 g1 g2
      have d0 := HS9.out.1.cell 0
      have d1 := HS9.out.1.cell 1
      have d2 := HS9.out.1.cell 2
      refine bodyPost_ret (v := .tuple #[.agg #[.string ⟨#[]⟩, .slice none 0 0, .slice none 0 0], .int .i64 8]) ?_ rfl (pj_no HS9.out.2)
      simp [results, Tryz.results84, go_sem, d0, d1, d2]
    · have g4 : decide ((M.length : Int) < 4) = false := decide_eq_false (by omega)
      have hcap : M.length < L.length := by have := HL4.out; omega
      have h0 : 0 < M.length := by omega
      have h0i : (0 : Int) < (M.length : Int) := by omega
      have HE := HT5.out ht
      have HLM : Hid ((P.linesL M).length ≤ 1048576 + 100) := Lib.hid (Nat.le_trans (HT7.out ht) (by omega))
      subst ht
      have hML : M.length ≤ 2000000 := by have := HMl.out; omega
      have HW2 : Hid (RowAt ((w1.alloc (.cells #[.slice (some ⟨w.heap.size + 1, 0, none⟩) M.length L.length] 49)).alloc (.cells #[.string ⟨#[]⟩, .slice none 0 0, .slice none 0 0] 106)) (w.heap.size + 1) M) := Lib.hid ((HA1.out.below (below_alloc w1 _) HA1.out.1).below (below_alloc (w1.alloc (.cells #[.slice (some ⟨w.heap.size + 1, 0, none⟩) M.length L.length] 49)) _) (by have := HA1.out.1; simp; omega))
      have HNb := Lib.hid (HNa.out.below (below_alloc (w1.alloc (.cells #[.slice (some ⟨w.heap.size + 1, 0, none⟩) M.length L.length] 49)) (.cells #[.string ⟨#[]⟩, .slice none 0 0, .slice none 0 0] 106)))
      have HZb := Lib.hid (bstep HZa.out (below_alloc (w1.alloc (.cells #[.slice (some ⟨w.heap.size + 1, 0, none⟩) M.length L.length] 49)) (.cells #[.string ⟨#[]⟩, .slice none 0 0, .slice none 0 0] 106)))
      clear HNa HZa
      have r0 := HW2.out.2 0 h0
      have HP0 := Lib.hid (fun W => Tryz.strings_CutPrefix M[0] P.jT W)
      have hsb := P.sBehind_at0 (w := P.jW) h0
      have hl0 := HMs.out 0 h0
      generalize hM0 : M[0] = l0 at *
      clear hM0
      cases hp : Lib.hasPrefix l0.data.toList P.jT.data.toList with
      | false =>
        rw [if_neg (by rw [show P.jW = P.jT.data.toList from rfl, hp]; decide)] at hsb
        have hPr := HPn.out (by rw [HE, hsb]; rfl)
        subst hPr
        rw [hp] at HP0
        generalize (⟨(Lib.trimPrefix l0.data.toList P.jT.data.toList).toArray⟩ : ByteArray) = tr at *
        unfold P.jT at HP0
        go_wp2_with (first
          | (go_at_call_of 173 (Value.string l0); refine (HP0.out _).mono ?_; rintro e w2 ⟨rfl, rfl⟩)
          | (go_at_call 172; refine (HNo.out _ _).mono ?_; rintro e wn ⟨rfl, hbn⟩; have HNn := Lib.hid ((HNb.out).below hbn); have HBn := Lib.hid (bstep (HZb.out) hbn); have n0 := HNn.out.cell 0; have n1 := HNn.out.cell 1; have n2 := HNn.out.cell 2; have g0 := HNn.out.free 0; have g1 := HNn.out.free 1; have g2 := HNn.out.free 2))
        have HS9 := Lib.hid (jstore3 HNn.out HBn.out (Nat.le_refl _) (.string ⟨#[]⟩) (.slice none 0 0) (.slice none 0 0))
        clear n0 n1 n2 g0 g1 g2
        have d0 := HS9.out.1.cell 0
        have d1 := HS9.out.1.cell 1
        have d2 := HS9.out.1.cell 2
        refine bodyPost_ret (v := .tuple #[.agg #[.string ⟨#[]⟩, .slice none 0 0, .slice none 0 0], .int .i64 8]) ?_ rfl (pj_no HS9.out.2)
        simp [results, Tryz.results84, go_sem, d0, d1, d2]
      | true =>
        have hT : Lib.trimPrefix l0.data.toList P.jT.data.toList = l0.data.toList.drop 8 := by unfold Lib.trimPrefix; rw [hp]; rfl
        rw [hp, hT] at HP0
        rw [if_pos (by rw [show P.jW = P.jT.data.toList from rfl]; exact hp), show P.jW.length = 8 from rfl] at hsb
        have hsw := hsb
        rw [hsb] at HE
        simp only [Option.bind_some] at HE
        have hidl : (l0.data.toList.drop 8).length ≤ 1048576 := by rw [List.length_drop, P.size_len]; omega
        clear hsb hp hT
        generalize l0.data.toList.drop 8 = id at *
        have hI : (⟨id.toArray⟩ : ByteArray) = P.txt id := rfl
        rw [hI] at HP0
        have hIs : (P.txt id).size ≤ 1048576 := by rw [P.txt_size]; exact hidl
        have hIl := P.txt_list id
        have HIt : Hid (∃ I, I = P.txt id) := Lib.hid ⟨_, rfl⟩
        obtain ⟨I, hIe⟩ : ∃ I, I = P.txt id := ⟨_, rfl⟩
        rw [← hIe] at HP0 hIs hIl
        have HIe := Lib.hid hIe
        clear hIe hI HIt
        have HST : Hid (RJ w (((w1.alloc (.cells #[.slice (some ⟨w.heap.size + 1, 0, none⟩) M.length L.length] 49)).alloc (.cells #[.string I, .slice none 0 0, .slice none 0 0] 106)).alloc (.cells #[.int .i64 1] 3)) w1.heap.size M L.length #[.string I, .slice none 0 0, .slice none 0 0] 1) := Lib.hid (RJ.start HN1.out HA1.out HLt.out HZ1.out)
        have HPt1 := Lib.hid (part_any P.cN P.cT (by apply P.ba_inj; rfl) (by decide) M hML (fun k h => Nat.le_trans (HMs.out k h) (by omega)) 1 (by omega) (w1.heap.size + 1 + 1) w1.heap.size (w.heap.size + 1) L.length hcap (((w1.alloc (.cells #[.slice (some ⟨w.heap.size + 1, 0, none⟩) M.length L.length] 49)).alloc (.cells #[.string I, .slice none 0 0, .slice none 0 0] 106)).alloc (.cells #[.int .i64 1] 3)) (HJ.out _ HST.out.z) HST.out.at_ HST.out.ln HST.out.row)
        rw [P.cT_list] at HPt1
        unfold P.cN at HPt1
        unfold P.jT at HP0
        cases hc : P.sPart P.cW (M.drop 1) with
        | none =>
          have hPr := HPn.out (by rw [HE, hc]; rfl)
          subst hPr
          rw [hc] at HPt1
          go_wp2_with (first
            | (go_at_call_of 173 (Value.string l0); refine (HP0.out _).mono ?_; rintro e w2 ⟨rfl, rfl⟩)
            | (go_at_call 174; refine HPt1.out.mono ?_; rintro e w4 h4; obtain ⟨rfl, hb4⟩ := h4.1 rfl; have HST4 := Lib.hid (HST.out.below hb4); have j1 := HST4.out.j.cell 1; have f1 := HST4.out.j.free 1; have HST5 := Lib.hid (HST4.out.setj 1 (.slice none 0 0) (by simp)))
            | (go_at_call 172; refine (HNo.out _ _).mono ?_; rintro e wn ⟨rfl, hbn⟩; have HNn := Lib.hid ((HST5.out.res).below hbn); have HBn := Lib.hid (bstep (HST5.out.z) hbn); have n0 := HNn.out.cell 0; have n1 := HNn.out.cell 1; have n2 := HNn.out.cell 2; have g0 := HNn.out.free 0; have g1 := HNn.out.free 1; have g2 := HNn.out.free 2))
          have HS9 := Lib.hid (jstore3 HNn.out HBn.out (Nat.le_refl _) (.string ⟨#[]⟩) (.slice none 0 0) (.slice none 0 0))
          clear n0 n1 n2 g0 g1 g2
          have d0 := HS9.out.1.cell 0
          have d1 := HS9.out.1.cell 1
          have d2 := HS9.out.1.cell 2
          refine bodyPost_ret (v := .tuple #[.agg #[.string ⟨#[]⟩, .slice none 0 0, .slice none 0 0], .int .i64 8]) ?_ rfl (pj_no HS9.out.2)
          simp [results, Tryz.results84, go_sem, d0, d1, d2]
        | some cr =>
          obtain ⟨cs, r1⟩ := cr
          rw [hc] at HPt1 HE
          simp only [Option.bind_some] at HE
          obtain ⟨e1, e1'⟩ := P.sPart_drop (M := M) (k := 1) hc
          have HPt2 := Lib.hid (fun W vj (R : RJ w W w1.heap.size M L.length vj ((M.length - r1.length : Nat) : Int)) => part_any P.oN P.oT (by apply P.ba_inj; rfl) (by decide) M hML (fun k h => Nat.le_trans (HMs.out k h) (by omega)) (M.length - r1.length) (by omega) (w1.heap.size + 1 + 1) w1.heap.size (w.heap.size + 1) L.length hcap W (HJ.out _ R.z) R.at_ R.ln R.row)
          rw [P.oT_list, ← e1] at HPt2
          unfold P.oN at HPt2
          have hscs := P.sPart_small (n := 1048576) (fun l hl => by
            obtain ⟨i, hi, rfl⟩ := List.mem_iff_getElem.1 (List.mem_of_mem_drop hl)
            exact HMs.out i hi) hc
          have hlcs := P.sPart_len hc
          rw [List.length_drop] at hlcs
          cases ho : P.sPart P.oW r1 with
          | none =>
            have hPr := HPn.out (by rw [HE, ho]; rfl)
            subst hPr
            rw [ho] at HPt2
            go_wp2_with (first
              | (go_at_call_of 173 (Value.string l0); refine (HP0.out _).mono ?_; rintro e w2 ⟨rfl, rfl⟩)
              | (go_at_call_of 174 (Value.string ⟨#[99, 104, 97, 110, 103, 101, 115]⟩); refine HPt1.out.mono ?_; rintro e w4 h4; obtain ⟨a1, c1, rfl, ho1, _, _, ha1, hg1⟩ := h4.2 cs r1 rfl; have HST4 := Lib.hid (HST.out.gb hg1 ha1); have j1 := HST4.out.j.cell 1; have f1 := HST4.out.j.free 1; have HST5 := Lib.hid (HST4.out.setj 1 (.slice a1 cs.length c1) (by simp)); have HO5 := Lib.hid (ownsRow_setCell_below ho1 (a := ⟨w1.heap.size + 1, 1, none⟩) (Nat.lt_trans (Nat.lt_succ_self _) HST.out.at_.lt) (.slice a1 cs.length c1)); clear ho1 ha1 hg1 h4)
              | (go_at_call_of 174 (Value.string ⟨#[111, 108, 100]⟩); refine (HPt2.out _ _ HST5.out).mono ?_; rintro e w6 h6; obtain ⟨rfl, hb6⟩ := h6.1 rfl; have HST6 := Lib.hid (HST5.out.below hb6); have j2 : w6.cell? ⟨w1.heap.size + 1, 2, none⟩ = some (.slice none 0 0) := (by simpa using HST6.out.j.cell 2); have f2 := HST6.out.j.free 2; have HST7 := Lib.hid (HST6.out.setj 2 (.slice none 0 0) (by simp)))
              | (go_at_call 172; refine (HNo.out _ _).mono ?_; rintro e wn ⟨rfl, hbn⟩; have HNn := Lib.hid ((HST7.out.res).below hbn); have HBn := Lib.hid (bstep (HST7.out.z) hbn); have n0 := HNn.out.cell 0; have n1 := HNn.out.cell 1; have n2 := HNn.out.cell 2; have g0 := HNn.out.free 0; have g1 := HNn.out.free 1; have g2 := HNn.out.free 2))
            have HS9 := Lib.hid (jstore3 HNn.out HBn.out (Nat.le_refl _) (.string ⟨#[]⟩) (.slice none 0 0) (.slice none 0 0))
            clear n0 n1 n2 g0 g1 g2
            have d0 := HS9.out.1.cell 0
            have d1 := HS9.out.1.cell 1
            have d2 := HS9.out.1.cell 2
            refine bodyPost_ret (v := .tuple #[.agg #[.string ⟨#[]⟩, .slice none 0 0, .slice none 0 0], .int .i64 8]) ?_ rfl (pj_no HS9.out.2)
            simp [results, Tryz.results84, go_sem, d0, d1, d2]
          | some orr =>
            obtain ⟨os, r2⟩ := orr
            rw [ho] at HPt2 HE
            simp only [Option.bind_some] at HE
            have hso := P.way_text' HTh.out hsw hc ho HT6.out
            have ho' := ho
            rw [e1] at ho'
            obtain ⟨e2, e2'⟩ := P.sPart_drop (M := M) ho'
            have hsos := P.sPart_small (n := 1048576) (fun l hl => by
              obtain ⟨i, hi, rfl⟩ := List.mem_iff_getElem.1 (List.mem_of_mem_drop hl)
              exact HMs.out i hi) ho'
            have hlos := P.sPart_len ho
            obtain ⟨k2, hk2⟩ : ∃ k2, M.length - r2.length = k2 := ⟨_, rfl⟩
            have Hk2 := Lib.hid hk2
            obtain ⟨m1, hm1⟩ : ∃ m1, m1 = M.length - 1 := ⟨_, rfl⟩
            have hwm : IntKind.i64.wrap ((M.length : Int) - 1) = (m1 : Int) := by rw [IntKind.wrap_i64]; omega
            have Hm1 := Lib.hid hm1
            clear hm1
            have hkM : k2 ≤ M.length := by omega
            have hk2b : k2 + r2.length = M.length := by omega
            clear hk2
            by_cases h1 : r2.length = 1
            · have hkl : k2 < M.length := by omega
              have g8 : ((k2 : Int) == (m1 : Int)) = true := by have := Hm1.out; rw [beq_iff_eq]; omega
              have HRk := Lib.hid (fun W (h : RowAt W (w.heap.size + 1) M) => h.2 k2 hkl)
              have hr2 : r2 = [M[k2]] := by
                rw [e2, Hk2.out, List.drop_eq_getElem_cons hkl, List.drop_eq_nil_of_le (by omega)]
              have HP2 := Lib.hid (fun W => Tryz.strings_CutPrefix M[k2] P.sT W)
              have hsz2 := HMs.out k2 hkl
              have hsb2 : P.sBehind P.sW r2 = if Lib.hasPrefix M[k2].data.toList P.sT.data.toList = true then some (M[k2].data.toList.drop 4, []) else none := by rw [hr2]; rfl
              rw [hsb2] at HE
              have hbd : P.linesL (M.take k2) = P.jText id cs os := P.way_body (k := k2) (by rw [hso, ← Hk2.out, ← e2])
              have hkn : (k2 : Int) < (M.length : Int) := by omega
              have hkp : (0 : Int) ≤ (k2 : Int) := by omega
              have hkc : (k2 : Int) ≤ (L.length : Int) := by omega
              have hM2 : M.take k2 ≠ [] := by
                intro e
                have := congrArg List.length e
                rw [List.length_take, List.length_nil] at this
                omega
              have hcl : ∀ W, RowAt W (w.heap.size + 1) M → ∀ (j : Nat) x, (M.take k2)[j]? = some x → W.cell? ⟨w.heap.size + 1, 0 + j, none⟩ = some (.string x) := by
                intro W hW j x hx
                obtain ⟨hj, ex⟩ := List.getElem?_eq_some_iff.1 hx
                rw [List.length_take] at hj
                rw [Nat.zero_add, hW.2 j (by omega), ← ex, List.getElem_take]
              have htk : (M.take k2).length = k2 := by rw [List.length_take]; omega
              have hjl := P.join_lines (M.take k2) hM2
              rw [hbd] at hjl
              have hjt : (P.jText id cs os).length ≤ 1048576 + 100 := by
                rw [← hbd]
                exact Nat.le_trans (P.lines_take_le M k2) (HLM.out)
              have HJn := Lib.hid (fun W (hW : RowAt W (w.heap.size + 1) M) => Tryz.strings_Join (w.heap.size + 1) 0 L.length (M.take k2) ⟨#[10]⟩ W (hcl W hW) hW.1 (by rw [htk]; omega) (by rw [htk]; omega) (by
                have := congrArg List.length hjl
                rw [List.length_append] at this
                have e : (⟨#[10]⟩ : ByteArray).data.toList = [10] := rfl
                rw [e]; omega))
              rw [htk, show ((⟨#[10]⟩ : ByteArray).data.toList) = [10] from rfl] at HJn
              have hJX : P.txt (Lib.join ((M.take k2).map (·.data.toList)) [10]) ++ ⟨#[10]⟩ = P.txt (P.jText id cs os) := by
                apply P.ba_inj
                rw [ByteArray.data_append, Array.toList_append, P.txt_list, P.txt_list]
                exact hjl
              have hJd : (⟨(Lib.join ((M.take k2).map (·.data.toList)) [10]).toArray⟩ : ByteArray) = P.txt (Lib.join ((M.take k2).map (·.data.toList)) [10]) := rfl
              have hXs : (P.txt (P.jText id cs os)).size ≤ 1048576 + 100 := by rw [P.txt_size]; exact hjt
              have hJs : (P.txt (Lib.join ((M.take k2).map (·.data.toList)) [10])).size ≤ 1048576 + 100 := by
                have := congrArg ByteArray.size hJX
                rw [ByteArray.size_append] at this
                omega
              rw [hJd] at HJn
              clear hcl hjl hbd hM2 htk hjt hr2 hsb2 hJd
              generalize P.txt (Lib.join ((M.take k2).map (·.data.toList)) [10]) = JX at *
              generalize M[k2] = l2 at *
              cases hp2 : Lib.hasPrefix l2.data.toList P.sT.data.toList with
              | false =>
                rw [hp2, if_neg (by decide)] at HE
                have hPr := HPn.out HE
                subst hPr
                rw [hp2] at HP2
                generalize (⟨(Lib.trimPrefix l2.data.toList P.sT.data.toList).toArray⟩ : ByteArray) = tr at *
                unfold P.sT at HP2
                clear HJn hJX
                go_wp2_with (first
                  | (go_at_call_of 173 (Value.string l0); refine (HP0.out _).mono ?_; rintro e w2 ⟨rfl, rfl⟩)
                  | (go_at_call_of 174 (Value.string ⟨#[99, 104, 97, 110, 103, 101, 115]⟩); refine HPt1.out.mono ?_; rintro e w4 h4; obtain ⟨a1, c1, rfl, ho1, _, _, ha1, hg1⟩ := h4.2 cs r1 rfl; have HST4 := Lib.hid (HST.out.gb hg1 ha1); have j1 := HST4.out.j.cell 1; have f1 := HST4.out.j.free 1; have HST5 := Lib.hid (HST4.out.setj 1 (.slice a1 cs.length c1) (by simp)); have HO5 := Lib.hid (ownsRow_setCell_below ho1 (a := ⟨w1.heap.size + 1, 1, none⟩) (Nat.lt_trans (Nat.lt_succ_self _) HST.out.at_.lt) (.slice a1 cs.length c1)); clear ho1 ha1 hg1 h4)
                  | (go_at_call_of 174 (Value.string ⟨#[111, 108, 100]⟩); refine (HPt2.out _ _ HST5.out).mono ?_; rintro e w6 h6; obtain ⟨a2, c2, rfl, ho2, _, _, ha2, hg2⟩ := h6.2 os r2 rfl; rw [Hk2.out] at ha2; have HST6 := Lib.hid (HST5.out.gb hg2 ha2); have j2 : w6.cell? ⟨w1.heap.size + 1, 2, none⟩ = some (.slice none 0 0) := (by simpa using HST6.out.j.cell 2); have f2 := HST6.out.j.free 2; have HST7 := Lib.hid (HST6.out.setj 2 (.slice a2 os.length c2) (by simp)); have HO71 := Lib.hid (ownsRow_setCell_below (own_gb HO5.out hg2 HST.out.at_.lt) (a := ⟨w1.heap.size + 1, 2, none⟩) (Nat.lt_trans (Nat.lt_succ_self _) HST.out.at_.lt) (.slice a2 os.length c2)); have HO72 := Lib.hid (ownsRow_setCell_below ho2 (a := ⟨w1.heap.size + 1, 2, none⟩) (Nat.lt_trans (Nat.lt_succ_self _) HST5.out.at_.lt) (.slice a2 os.length c2)); have p0 := HST7.out.at_.cell 0; have p1 := HST7.out.ln.cell 0; have p2 := HRk.out _ HST7.out.row; clear ho2 ha2 hg2 h6)
                  | (go_at_call_of 173 (Value.string l2); refine (HP2.out _).mono ?_; rintro e w8 ⟨rfl, rfl⟩)
                  | (go_at_call 172; refine (HNo.out _ _).mono ?_; rintro e wn ⟨rfl, hbn⟩; have HNn := Lib.hid ((HST7.out.res).below hbn); have HBn := Lib.hid (bstep (HST7.out.z) hbn); have n0 := HNn.out.cell 0; have n1 := HNn.out.cell 1; have n2 := HNn.out.cell 2; have g0 := HNn.out.free 0; have g1 := HNn.out.free 1; have g2 := HNn.out.free 2))
                have HS9 := Lib.hid (jstore3 HNn.out HBn.out (Nat.le_refl _) (.string ⟨#[]⟩) (.slice none 0 0) (.slice none 0 0))
                clear n0 n1 n2 g0 g1 g2
                have d0 := HS9.out.1.cell 0
                have d1 := HS9.out.1.cell 1
                have d2 := HS9.out.1.cell 2
                refine bodyPost_ret (v := .tuple #[.agg #[.string ⟨#[]⟩, .slice none 0 0, .slice none 0 0], .int .i64 8]) ?_ rfl (pj_no HS9.out.2)
                simp [results, Tryz.results84, go_sem, d0, d1, d2]
              | true =>
                have hT : Lib.trimPrefix l2.data.toList P.sT.data.toList = l2.data.toList.drop 4 := by unfold Lib.trimPrefix; rw [hp2]; rfl
                rw [hp2, hT] at HP2
                rw [hp2, if_pos rfl] at HE
                simp only [Option.bind_some, if_pos] at HE
                have hsml : (l2.data.toList.drop 4).length ≤ 1048576 := by rw [List.length_drop, P.size_len]; omega
                generalize l2.data.toList.drop 4 = sm at *
                have hYd : (⟨sm.toArray⟩ : ByteArray) = P.txt sm := rfl
                rw [hYd] at HP2
                have hYs : (P.txt sm).size ≤ 1048576 := by rw [P.txt_size]; exact hsml
                have hPs := HPs.out id cs os sm HE
                have HJp := HJu.out id cs os sm HE
                have HIs := Lib.hid (fun W => risSum_any (P.txt sm) (by omega) W)
                have HSm := Lib.hid (fun W (hW : JW W) => rsumOf_any (P.txt (P.jText id cs os)) (by omega) W hW.t hW.g)
                have HPj := Lib.hid (fun a1 c1 a2 c2 W hW h1 h2 => rprintJ_any (P.txt id) (by rw [P.txt_size]; exact hidl) cs a1 c1 os a2 c2 (by omega) (by omega) (fun c hc => (hscs c hc).up (by omega)) (fun c hc => (hsos c hc).up (by omega)) W hW h1 h2)
                rw [← HIe.out] at HPj HJp
                unfold P.sT at HP2
                have hjc := P.judge_cases t id cs os sm
                rw [← HIe.out] at hjc
                clear hT hp2 hYd hsml hidl HE
                generalize hXe : P.txt (P.jText id cs os) = X at *
                generalize P.txt sm = Y at *
                generalize P.judgeJ t id cs os sm = J at *
                cases h2 : P.sumOk Y with
                | false =>
                  rcases hjc with ⟨_, hJ⟩ | ⟨e, _⟩ | ⟨e, _⟩
                  · have hPr := hPs.trans hJ
                    subst hPr
                    rw [h2] at HIs
                    clear HJn hJX HJp hPs
                    go_wp2_with (first
                      | (go_at_call_of 173 (Value.string l0); refine (HP0.out _).mono ?_; rintro e w2 ⟨rfl, rfl⟩)
                      | (go_at_call_of 174 (Value.string ⟨#[99, 104, 97, 110, 103, 101, 115]⟩); refine HPt1.out.mono ?_; rintro e w4 h4; obtain ⟨a1, c1, rfl, ho1, _, _, ha1, hg1⟩ := h4.2 cs r1 rfl; have HST4 := Lib.hid (HST.out.gb hg1 ha1); have j1 := HST4.out.j.cell 1; have f1 := HST4.out.j.free 1; have HST5 := Lib.hid (HST4.out.setj 1 (.slice a1 cs.length c1) (by simp)); have HO5 := Lib.hid (ownsRow_setCell_below ho1 (a := ⟨w1.heap.size + 1, 1, none⟩) (Nat.lt_trans (Nat.lt_succ_self _) HST.out.at_.lt) (.slice a1 cs.length c1)); clear ho1 ha1 hg1 h4)
                      | (go_at_call_of 174 (Value.string ⟨#[111, 108, 100]⟩); refine (HPt2.out _ _ HST5.out).mono ?_; rintro e w6 h6; obtain ⟨a2, c2, rfl, ho2, _, _, ha2, hg2⟩ := h6.2 os r2 rfl; rw [Hk2.out] at ha2; have HST6 := Lib.hid (HST5.out.gb hg2 ha2); have j2 : w6.cell? ⟨w1.heap.size + 1, 2, none⟩ = some (.slice none 0 0) := (by simpa using HST6.out.j.cell 2); have f2 := HST6.out.j.free 2; have HST7 := Lib.hid (HST6.out.setj 2 (.slice a2 os.length c2) (by simp)); have HO71 := Lib.hid (ownsRow_setCell_below (own_gb HO5.out hg2 HST.out.at_.lt) (a := ⟨w1.heap.size + 1, 2, none⟩) (Nat.lt_trans (Nat.lt_succ_self _) HST.out.at_.lt) (.slice a2 os.length c2)); have HO72 := Lib.hid (ownsRow_setCell_below ho2 (a := ⟨w1.heap.size + 1, 2, none⟩) (Nat.lt_trans (Nat.lt_succ_self _) HST5.out.at_.lt) (.slice a2 os.length c2)); have p0 := HST7.out.at_.cell 0; have p1 := HST7.out.ln.cell 0; have p2 := HRk.out _ HST7.out.row; clear ho2 ha2 hg2 h6)
                      | (go_at_call_of 173 (Value.string l2); refine (HP2.out _).mono ?_; rintro e w8 ⟨rfl, rfl⟩)
                      | (go_at_call 176; refine (HIs.out _).mono ?_; rintro e w9 ⟨rfl, rfl⟩)
                      | (go_at_call 172; refine (HNo.out _ _).mono ?_; rintro e wn ⟨rfl, hbn⟩; have HNn := Lib.hid ((HST7.out.res).below hbn); have HBn := Lib.hid (bstep (HST7.out.z) hbn); have n0 := HNn.out.cell 0; have n1 := HNn.out.cell 1; have n2 := HNn.out.cell 2; have g0 := HNn.out.free 0; have g1 := HNn.out.free 1; have g2 := HNn.out.free 2))
                    have HS9 := Lib.hid (jstore3 HNn.out HBn.out (Nat.le_refl _) (.string ⟨#[]⟩) (.slice none 0 0) (.slice none 0 0))
                    clear n0 n1 n2 g0 g1 g2
                    have d0 := HS9.out.1.cell 0
                    have d1 := HS9.out.1.cell 1
                    have d2 := HS9.out.1.cell 2
                    refine bodyPost_ret (v := .tuple #[.agg #[.string ⟨#[]⟩, .slice none 0 0, .slice none 0 0], .int .i64 8]) ?_ rfl (pj_no HS9.out.2)
                    simp [results, Tryz.results84, go_sem, d0, d1, d2]
                  · rw [h2] at e; cases e
                  · rw [h2] at e; cases e
                | true =>
                  rw [h2] at HIs
                  by_cases h3 : Y = P.sumOf X
                  · have h3' : ((P.sumOf X).toList == Y.toList) = true := by rw [h3]; simp
                    rcases HJp h2 h3 with ⟨hz, hJ⟩ | ⟨hz, hJ⟩
                    · obtain ⟨pt, pe, hPJ⟩ : ∃ pt pe, P.printJ I cs os = (pt, pe) := ⟨_, _, rfl⟩
                      rw [hPJ] at hz HPj hJ
                      simp only at hz HPj hJ
                      have hPr := hPs.trans hJ
                      subst hPr
                      clear hPJ
                      have g9 : (pe != 0) = true := by simpa using hz
                      clear hz HJp hPs hjc h3
                      go_wp2_with (first
                        | (go_at_call_of 173 (Value.string l0); refine (HP0.out _).mono ?_; rintro e w2 ⟨rfl, rfl⟩)
                        | (go_at_call_of 174 (Value.string ⟨#[99, 104, 97, 110, 103, 101, 115]⟩); refine HPt1.out.mono ?_; rintro e w4 h4; obtain ⟨a1, c1, rfl, ho1, _, _, ha1, hg1⟩ := h4.2 cs r1 rfl; have HST4 := Lib.hid (HST.out.gb hg1 ha1); have j1 := HST4.out.j.cell 1; have f1 := HST4.out.j.free 1; have HST5 := Lib.hid (HST4.out.setj 1 (.slice a1 cs.length c1) (by simp)); have HO5 := Lib.hid (ownsRow_setCell_below ho1 (a := ⟨w1.heap.size + 1, 1, none⟩) (Nat.lt_trans (Nat.lt_succ_self _) HST.out.at_.lt) (.slice a1 cs.length c1)); clear ho1 ha1 hg1 h4)
                        | (go_at_call_of 174 (Value.string ⟨#[111, 108, 100]⟩); refine (HPt2.out _ _ HST5.out).mono ?_; rintro e w6 h6; obtain ⟨a2, c2, rfl, ho2, _, _, ha2, hg2⟩ := h6.2 os r2 rfl; rw [Hk2.out] at ha2; have HST6 := Lib.hid (HST5.out.gb hg2 ha2); have j2 : w6.cell? ⟨w1.heap.size + 1, 2, none⟩ = some (.slice none 0 0) := (by simpa using HST6.out.j.cell 2); have f2 := HST6.out.j.free 2; have HST7 := Lib.hid (HST6.out.setj 2 (.slice a2 os.length c2) (by simp)); have HO71 := Lib.hid (ownsRow_setCell_below (own_gb HO5.out hg2 HST.out.at_.lt) (a := ⟨w1.heap.size + 1, 2, none⟩) (Nat.lt_trans (Nat.lt_succ_self _) HST.out.at_.lt) (.slice a2 os.length c2)); have HO72 := Lib.hid (ownsRow_setCell_below ho2 (a := ⟨w1.heap.size + 1, 2, none⟩) (Nat.lt_trans (Nat.lt_succ_self _) HST5.out.at_.lt) (.slice a2 os.length c2)); have p0 := HST7.out.at_.cell 0; have p1 := HST7.out.ln.cell 0; have p2 := HRk.out _ HST7.out.row; clear ho2 ha2 hg2 h6)
                        | (go_at_call_of 173 (Value.string l2); refine (HP2.out _).mono ?_; rintro e w8 ⟨rfl, rfl⟩)
                        | (go_at_call 176; refine (HIs.out _).mono ?_; rintro e w9 ⟨rfl, rfl⟩)
                        | (go_at_call 177; refine (HJn.out _ HST7.out.row).mono ?_; rintro e wa ⟨rfl, hba⟩; have HSTa := Lib.hid (HST7.out.below hba); have HOa1 := Lib.hid (own_below HO71.out hba); have HOa2 := Lib.hid (own_below HO72.out hba))
                        | (go_at_call 52; refine (HSm.out _ (HJ.out _ HSTa.out.z)).mono ?_; rintro e wb ⟨rfl, hbb⟩; have HSTb := Lib.hid (HSTa.out.below hbb); have HOb1 := Lib.hid (own_below HOa1.out hbb); have HOb2 := Lib.hid (own_below HOa2.out hbb); have q0 : wb.cell? ⟨w1.heap.size + 1, 0, none⟩ = some (.string I) := (by simpa using HSTb.out.j.cell 0); have q1 : wb.cell? ⟨w1.heap.size + 1, 1, none⟩ = some (.slice a1 cs.length c1) := (by simpa using HSTb.out.j.cell 1); have q2 : wb.cell? ⟨w1.heap.size + 1, 2, none⟩ = some (.slice a2 os.length c2) := (by simpa using HSTb.out.j.cell 2))
                        | (go_at_call 81; refine (HPj.out _ _ _ _ _ (HJ.out _ HSTb.out.z) (chs_of_own HOb1.out) (chs_of_own HOb2.out)).mono ?_; rintro e wc ⟨rfl, hbc⟩; have HSTc := Lib.hid (HSTb.out.below hbc); have HOc1 := Lib.hid (own_below HOb1.out hbc); have HOc2 := Lib.hid (own_below HOb2.out hbc); have s0 : wc.cell? ⟨w1.heap.size + 1, 0, none⟩ = some (.string I) := (by simpa using HSTc.out.j.cell 0); have s1 : wc.cell? ⟨w1.heap.size + 1, 1, none⟩ = some (.slice a1 cs.length c1) := (by simpa using HSTc.out.j.cell 1); have s2 : wc.cell? ⟨w1.heap.size + 1, 2, none⟩ = some (.slice a2 os.length c2) := (by simpa using HSTc.out.j.cell 2); have n0 := HSTc.out.res.cell 0; have n1 := HSTc.out.res.cell 1; have n2 := HSTc.out.res.cell 2; have g0 := HSTc.out.res.free 0; have g1 := HSTc.out.res.free 1; have g2 := HSTc.out.res.free 2)
                        | (go_at_call 172; refine (HNo.out _ _).mono ?_; rintro e wn ⟨rfl, hbn⟩; have HNn := Lib.hid ((HSTc.out.res).below hbn); have HBn := Lib.hid (bstep (HSTc.out.z) hbn); have n0 := HNn.out.cell 0; have n1 := HNn.out.cell 1; have n2 := HNn.out.cell 2; have g0 := HNn.out.free 0; have g1 := HNn.out.free 1; have g2 := HNn.out.free 2))
                      have HS9 := Lib.hid (jstore3 HNn.out HBn.out (Nat.le_refl _) (.string ⟨#[]⟩) (.slice none 0 0) (.slice none 0 0))
                      clear n0 n1 n2 g0 g1 g2
                      have d0 := HS9.out.1.cell 0
                      have d1 := HS9.out.1.cell 1
                      have d2 := HS9.out.1.cell 2
                      refine bodyPost_ret (v := .tuple #[.agg #[.string ⟨#[]⟩, .slice none 0 0, .slice none 0 0], .int .i64 pe]) ?_ rfl (pj_no HS9.out.2)
                      simp [results, Tryz.results84, go_sem, d0, d1, d2]
                    · have hPr := hPs.trans hJ
                      subst hPr
                      rw [hz] at HPj
                      simp only at HPj
                      have htt : (t.toList == t.toList) = true := by simp
                      clear hz HJp hPs hjc h3
                      go_wp2_with (first
                        | (go_at_call_of 173 (Value.string l0); refine (HP0.out _).mono ?_; rintro e w2 ⟨rfl, rfl⟩)
                        | (go_at_call_of 174 (Value.string ⟨#[99, 104, 97, 110, 103, 101, 115]⟩); refine HPt1.out.mono ?_; rintro e w4 h4; obtain ⟨a1, c1, rfl, ho1, _, _, ha1, hg1⟩ := h4.2 cs r1 rfl; have HST4 := Lib.hid (HST.out.gb hg1 ha1); have j1 := HST4.out.j.cell 1; have f1 := HST4.out.j.free 1; have HST5 := Lib.hid (HST4.out.setj 1 (.slice a1 cs.length c1) (by simp)); have HO5 := Lib.hid (ownsRow_setCell_below ho1 (a := ⟨w1.heap.size + 1, 1, none⟩) (Nat.lt_trans (Nat.lt_succ_self _) HST.out.at_.lt) (.slice a1 cs.length c1)); clear ho1 ha1 hg1 h4)
                        | (go_at_call_of 174 (Value.string ⟨#[111, 108, 100]⟩); refine (HPt2.out _ _ HST5.out).mono ?_; rintro e w6 h6; obtain ⟨a2, c2, rfl, ho2, _, _, ha2, hg2⟩ := h6.2 os r2 rfl; rw [Hk2.out] at ha2; have HST6 := Lib.hid (HST5.out.gb hg2 ha2); have j2 : w6.cell? ⟨w1.heap.size + 1, 2, none⟩ = some (.slice none 0 0) := (by simpa using HST6.out.j.cell 2); have f2 := HST6.out.j.free 2; have HST7 := Lib.hid (HST6.out.setj 2 (.slice a2 os.length c2) (by simp)); have HO71 := Lib.hid (ownsRow_setCell_below (own_gb HO5.out hg2 HST.out.at_.lt) (a := ⟨w1.heap.size + 1, 2, none⟩) (Nat.lt_trans (Nat.lt_succ_self _) HST.out.at_.lt) (.slice a2 os.length c2)); have HO72 := Lib.hid (ownsRow_setCell_below ho2 (a := ⟨w1.heap.size + 1, 2, none⟩) (Nat.lt_trans (Nat.lt_succ_self _) HST5.out.at_.lt) (.slice a2 os.length c2)); have p0 := HST7.out.at_.cell 0; have p1 := HST7.out.ln.cell 0; have p2 := HRk.out _ HST7.out.row; clear ho2 ha2 hg2 h6)
                        | (go_at_call_of 173 (Value.string l2); refine (HP2.out _).mono ?_; rintro e w8 ⟨rfl, rfl⟩)
                        | (go_at_call 176; refine (HIs.out _).mono ?_; rintro e w9 ⟨rfl, rfl⟩)
                        | (go_at_call 177; refine (HJn.out _ HST7.out.row).mono ?_; rintro e wa ⟨rfl, hba⟩; have HSTa := Lib.hid (HST7.out.below hba); have HOa1 := Lib.hid (own_below HO71.out hba); have HOa2 := Lib.hid (own_below HO72.out hba))
                        | (go_at_call 52; refine (HSm.out _ (HJ.out _ HSTa.out.z)).mono ?_; rintro e wb ⟨rfl, hbb⟩; have HSTb := Lib.hid (HSTa.out.below hbb); have HOb1 := Lib.hid (own_below HOa1.out hbb); have HOb2 := Lib.hid (own_below HOa2.out hbb); have q0 : wb.cell? ⟨w1.heap.size + 1, 0, none⟩ = some (.string I) := (by simpa using HSTb.out.j.cell 0); have q1 : wb.cell? ⟨w1.heap.size + 1, 1, none⟩ = some (.slice a1 cs.length c1) := (by simpa using HSTb.out.j.cell 1); have q2 : wb.cell? ⟨w1.heap.size + 1, 2, none⟩ = some (.slice a2 os.length c2) := (by simpa using HSTb.out.j.cell 2))
                        | (go_at_call 81; refine (HPj.out _ _ _ _ _ (HJ.out _ HSTb.out.z) (chs_of_own HOb1.out) (chs_of_own HOb2.out)).mono ?_; rintro e wc ⟨rfl, hbc⟩; have HSTc := Lib.hid (HSTb.out.below hbc); have HOc1 := Lib.hid (own_below HOb1.out hbc); have HOc2 := Lib.hid (own_below HOb2.out hbc); have s0 : wc.cell? ⟨w1.heap.size + 1, 0, none⟩ = some (.string I) := (by simpa using HSTc.out.j.cell 0); have s1 : wc.cell? ⟨w1.heap.size + 1, 1, none⟩ = some (.slice a1 cs.length c1) := (by simpa using HSTc.out.j.cell 1); have s2 : wc.cell? ⟨w1.heap.size + 1, 2, none⟩ = some (.slice a2 os.length c2) := (by simpa using HSTc.out.j.cell 2); have n0 := HSTc.out.res.cell 0; have n1 := HSTc.out.res.cell 1; have n2 := HSTc.out.res.cell 2; have g0 := HSTc.out.res.free 0; have g1 := HSTc.out.res.free 1; have g2 := HSTc.out.res.free 2))
                      have HS9 := Lib.hid (jstore3 HSTc.out.res HSTc.out.z (Nat.le_refl _) (.string I) (.slice a1 cs.length c1) (.slice a2 os.length c2))
                      have hlt1 : w.heap.size < (((w1.alloc (.cells #[.slice (some ⟨w.heap.size + 1, 0, none⟩) M.length L.length] 49)).alloc (.cells #[.string I, .slice none 0 0, .slice none 0 0] 106)).alloc (.cells #[.int .i64 1] 3)).heap.size := by have := HST.out.res.lt; exact this
                      have hlt2 : w.heap.size < (w4.setCell ⟨w1.heap.size + 1, 1, none⟩ (.slice a1 cs.length c1)).heap.size := HST5.out.res.lt
                      have HOa := Lib.hid (chs_of_own (ownsRow_setCell_below (ownsRow_setCell_below (ownsRow_setCell_below HOc1.out (a := ⟨w.heap.size, 0, none⟩) hlt1 (.string I)) (a := ⟨w.heap.size, 1, none⟩) hlt1 (.slice a1 cs.length c1)) (a := ⟨w.heap.size, 2, none⟩) hlt1 (.slice a2 os.length c2)))
                      have HOb := Lib.hid (chs_of_own (ownsRow_setCell_below (ownsRow_setCell_below (ownsRow_setCell_below HOc2.out (a := ⟨w.heap.size, 0, none⟩) hlt2 (.string I)) (a := ⟨w.heap.size, 1, none⟩) hlt2 (.slice a1 cs.length c1)) (a := ⟨w.heap.size, 2, none⟩) hlt2 (.slice a2 os.length c2)))
                      clear n0 n1 n2 g0 g1 g2
                      have d0 := HS9.out.1.cell 0
                      have d1 := HS9.out.1.cell 1
                      have d2 := HS9.out.1.cell 2
                      refine bodyPost_ret (v := .tuple #[.agg #[.string I, .slice a1 cs.length c1, .slice a2 os.length c2], .int .i64 0]) ?_ rfl ⟨a1, c1, a2, c2, rfl, HOa.out, HOb.out, HS9.out.2, fun g h => Nat.le_trans (Nat.le_of_lt hlt1) (own_ge HOc1.out g h), fun g h => Nat.le_trans (Nat.le_of_lt hlt2) (own_ge HOc2.out g h)⟩
                      simp [results, Tryz.results84, go_sem, d0, d1, d2]
                  · have h3' : ((P.sumOf X).toList == Y.toList) = false := by
                      cases h : ((P.sumOf X).toList == Y.toList) with
                      | false => rfl
                      | true => exact absurd (P.eq_of_list (by simpa using h)).symm h3
                    rcases hjc with ⟨e, _⟩ | ⟨_, _, hJ⟩ | ⟨_, e, _⟩
                    · rw [h2] at e; cases e
                    · have hPr := hPs.trans hJ
                      subst hPr
                      clear HJp hPs
                      go_wp2_with (first
                        | (go_at_call_of 173 (Value.string l0); refine (HP0.out _).mono ?_; rintro e w2 ⟨rfl, rfl⟩)
                        | (go_at_call_of 174 (Value.string ⟨#[99, 104, 97, 110, 103, 101, 115]⟩); refine HPt1.out.mono ?_; rintro e w4 h4; obtain ⟨a1, c1, rfl, ho1, _, _, ha1, hg1⟩ := h4.2 cs r1 rfl; have HST4 := Lib.hid (HST.out.gb hg1 ha1); have j1 := HST4.out.j.cell 1; have f1 := HST4.out.j.free 1; have HST5 := Lib.hid (HST4.out.setj 1 (.slice a1 cs.length c1) (by simp)); have HO5 := Lib.hid (ownsRow_setCell_below ho1 (a := ⟨w1.heap.size + 1, 1, none⟩) (Nat.lt_trans (Nat.lt_succ_self _) HST.out.at_.lt) (.slice a1 cs.length c1)); clear ho1 ha1 hg1 h4)
                        | (go_at_call_of 174 (Value.string ⟨#[111, 108, 100]⟩); refine (HPt2.out _ _ HST5.out).mono ?_; rintro e w6 h6; obtain ⟨a2, c2, rfl, ho2, _, _, ha2, hg2⟩ := h6.2 os r2 rfl; rw [Hk2.out] at ha2; have HST6 := Lib.hid (HST5.out.gb hg2 ha2); have j2 : w6.cell? ⟨w1.heap.size + 1, 2, none⟩ = some (.slice none 0 0) := (by simpa using HST6.out.j.cell 2); have f2 := HST6.out.j.free 2; have HST7 := Lib.hid (HST6.out.setj 2 (.slice a2 os.length c2) (by simp)); have HO71 := Lib.hid (ownsRow_setCell_below (own_gb HO5.out hg2 HST.out.at_.lt) (a := ⟨w1.heap.size + 1, 2, none⟩) (Nat.lt_trans (Nat.lt_succ_self _) HST.out.at_.lt) (.slice a2 os.length c2)); have HO72 := Lib.hid (ownsRow_setCell_below ho2 (a := ⟨w1.heap.size + 1, 2, none⟩) (Nat.lt_trans (Nat.lt_succ_self _) HST5.out.at_.lt) (.slice a2 os.length c2)); have p0 := HST7.out.at_.cell 0; have p1 := HST7.out.ln.cell 0; have p2 := HRk.out _ HST7.out.row; clear ho2 ha2 hg2 h6)
                        | (go_at_call_of 173 (Value.string l2); refine (HP2.out _).mono ?_; rintro e w8 ⟨rfl, rfl⟩)
                        | (go_at_call 176; refine (HIs.out _).mono ?_; rintro e w9 ⟨rfl, rfl⟩)
                        | (go_at_call 177; refine (HJn.out _ HST7.out.row).mono ?_; rintro e wa ⟨rfl, hba⟩; have HSTa := Lib.hid (HST7.out.below hba); have HOa1 := Lib.hid (own_below HO71.out hba); have HOa2 := Lib.hid (own_below HO72.out hba))
                        | (go_at_call 52; refine (HSm.out _ (HJ.out _ HSTa.out.z)).mono ?_; rintro e wb ⟨rfl, hbb⟩; have HSTb := Lib.hid (HSTa.out.below hbb); have HOb1 := Lib.hid (own_below HOa1.out hbb); have HOb2 := Lib.hid (own_below HOa2.out hbb); have q0 : wb.cell? ⟨w1.heap.size + 1, 0, none⟩ = some (.string I) := (by simpa using HSTb.out.j.cell 0); have q1 : wb.cell? ⟨w1.heap.size + 1, 1, none⟩ = some (.slice a1 cs.length c1) := (by simpa using HSTb.out.j.cell 1); have q2 : wb.cell? ⟨w1.heap.size + 1, 2, none⟩ = some (.slice a2 os.length c2) := (by simpa using HSTb.out.j.cell 2))
                        | (go_at_call 172; refine (HNo.out _ _).mono ?_; rintro e wn ⟨rfl, hbn⟩; have HNn := Lib.hid ((HSTb.out.res).below hbn); have HBn := Lib.hid (bstep (HSTb.out.z) hbn); have n0 := HNn.out.cell 0; have n1 := HNn.out.cell 1; have n2 := HNn.out.cell 2; have g0 := HNn.out.free 0; have g1 := HNn.out.free 1; have g2 := HNn.out.free 2))
                      have HS9 := Lib.hid (jstore3 HNn.out HBn.out (Nat.le_refl _) (.string ⟨#[]⟩) (.slice none 0 0) (.slice none 0 0))
                      clear n0 n1 n2 g0 g1 g2
                      have d0 := HS9.out.1.cell 0
                      have d1 := HS9.out.1.cell 1
                      have d2 := HS9.out.1.cell 2
                      refine bodyPost_ret (v := .tuple #[.agg #[.string ⟨#[]⟩, .slice none 0 0, .slice none 0 0], .int .i64 14]) ?_ rfl (pj_no HS9.out.2)
                      simp [results, Tryz.results84, go_sem, d0, d1, d2]
                    · exact absurd e h3
            · have hno : ((P.sBehind P.sW r2).bind fun y => if y.2 = [] then some (id, cs, os, y.1) else none) = none := P.behind_one (f := fun z => (id, cs, os, z)) h1
              have hPr := HPn.out (HE.trans hno)
              subst hPr
              have g8 : ((k2 : Int) == (m1 : Int)) = false := by have := Hm1.out; rw [beq_eq_false_iff_ne]; omega
              have HRk : Hid (∀ W, RowAt W (w.heap.size + 1) M → True) := Lib.hid (fun _ _ => trivial)
              go_wp2_with (first
                | (go_at_call_of 173 (Value.string l0); refine (HP0.out _).mono ?_; rintro e w2 ⟨rfl, rfl⟩)
                | (go_at_call_of 174 (Value.string ⟨#[99, 104, 97, 110, 103, 101, 115]⟩); refine HPt1.out.mono ?_; rintro e w4 h4; obtain ⟨a1, c1, rfl, ho1, _, _, ha1, hg1⟩ := h4.2 cs r1 rfl; have HST4 := Lib.hid (HST.out.gb hg1 ha1); have j1 := HST4.out.j.cell 1; have f1 := HST4.out.j.free 1; have HST5 := Lib.hid (HST4.out.setj 1 (.slice a1 cs.length c1) (by simp)); have HO5 := Lib.hid (ownsRow_setCell_below ho1 (a := ⟨w1.heap.size + 1, 1, none⟩) (Nat.lt_trans (Nat.lt_succ_self _) HST.out.at_.lt) (.slice a1 cs.length c1)); clear ho1 ha1 hg1 h4)
                | (go_at_call_of 174 (Value.string ⟨#[111, 108, 100]⟩); refine (HPt2.out _ _ HST5.out).mono ?_; rintro e w6 h6; obtain ⟨a2, c2, rfl, ho2, _, _, ha2, hg2⟩ := h6.2 os r2 rfl; rw [Hk2.out] at ha2; have HST6 := Lib.hid (HST5.out.gb hg2 ha2); have j2 : w6.cell? ⟨w1.heap.size + 1, 2, none⟩ = some (.slice none 0 0) := (by simpa using HST6.out.j.cell 2); have f2 := HST6.out.j.free 2; have HST7 := Lib.hid (HST6.out.setj 2 (.slice a2 os.length c2) (by simp)); have HO71 := Lib.hid (ownsRow_setCell_below (own_gb HO5.out hg2 HST.out.at_.lt) (a := ⟨w1.heap.size + 1, 2, none⟩) (Nat.lt_trans (Nat.lt_succ_self _) HST.out.at_.lt) (.slice a2 os.length c2)); have HO72 := Lib.hid (ownsRow_setCell_below ho2 (a := ⟨w1.heap.size + 1, 2, none⟩) (Nat.lt_trans (Nat.lt_succ_self _) HST5.out.at_.lt) (.slice a2 os.length c2)); have p0 := HST7.out.at_.cell 0; have p1 := HST7.out.ln.cell 0; have p2 := HRk.out _ HST7.out.row; clear ho2 ha2 hg2 h6)
                | (go_at_call 172; refine (HNo.out _ _).mono ?_; rintro e wn ⟨rfl, hbn⟩; have HNn := Lib.hid ((HST7.out.res).below hbn); have HBn := Lib.hid (bstep (HST7.out.z) hbn); have n0 := HNn.out.cell 0; have n1 := HNn.out.cell 1; have n2 := HNn.out.cell 2; have g0 := HNn.out.free 0; have g1 := HNn.out.free 1; have g2 := HNn.out.free 2))
              have HS9 := Lib.hid (jstore3 HNn.out HBn.out (Nat.le_refl _) (.string ⟨#[]⟩) (.slice none 0 0) (.slice none 0 0))
              clear n0 n1 n2 g0 g1 g2
              have d0 := HS9.out.1.cell 0
              have d1 := HS9.out.1.cell 1
              have d2 := HS9.out.1.cell 2
              refine bodyPost_ret (v := .tuple #[.agg #[.string ⟨#[]⟩, .slice none 0 0, .slice none 0 0], .int .i64 8]) ?_ rfl (pj_no HS9.out.2)
              simp [results, Tryz.results84, go_sem, d0, d1, d2]
  · have hPr := HPn.out (HT1.out ht)
    have gt : decide ((0 : Int) ≤ tn) = true := decide_eq_true (HT2.out ht)
    subst hPr
    clear ht
    go_wp2_with (go_at_call 172; refine (HNo.out _ _).mono ?_; rintro e wn ⟨rfl, hbn⟩; have HNn := Lib.hid ((HNa.out).below hbn); have HBn := Lib.hid (bstep (HZa.out) hbn); have n0 := HNn.out.cell 0; have n1 := HNn.out.cell 1; have n2 := HNn.out.cell 2; have g0 := HNn.out.free 0; have g1 := HNn.out.free 1; have g2 := HNn.out.free 2)
    have HS9 := Lib.hid (jstore3 HNn.out HBn.out (Nat.le_refl _) (.string ⟨#[]⟩) (.slice none 0 0) (.slice none 0 0))
    clear n0 n1 n2 g0 g1 g2
    have d0 := HS9.out.1.cell 0
    have d1 := HS9.out.1.cell 1
    have d2 := HS9.out.1.cell 2
    refine bodyPost_ret (v := .tuple #[.agg #[.string ⟨#[]⟩, .slice none 0 0, .slice none 0 0], .int .i64 8]) ?_ rfl (pj_no HS9.out.2)
    simp [results, Tryz.results84, go_sem, d0, d1, d2]
end Go.Proofs.YtomikcemiacjmaaGreatDoor
