/- Walks: outref1's PrintChanges of right changes. -/
import Derived.Test.YtomikcemiacjmaaGreatDoorZTRPrint
import Derived.Test.YtomikcemiacjmaaGreatDoorZMWFit

namespace Go.Proofs.YtomikcemiacjmaaGreatDoor
open Go.RowKit Go.Lib Go.Shelf

/-- the builder's text -/
structure QS (w W : World) (l : P.B) : Prop where
  o : Bld w.heap.size w.heap.size l W
  b : Below w.heap.size w W
theorem QS.alloc {w W : World} {l : P.B} (h : QS w W l) (o : Obj) : QS w (W.alloc o) l := ⟨h.o.alloc o, bstep h.b (below_alloc W o)⟩
theorem QS.drew {w W : World} {l : P.B} (h : QS w W l) : QS w W.drew l := ⟨h.o.drew, h.b.drew⟩
theorem QS.below {w W W' : World} {l : P.B} (h : QS w W l) (hb : Below W.heap.size W W') : QS w W' l := ⟨h.o.below hb, bstep h.b hb⟩
theorem QS.wrote {w W W' : World} {l l' : P.B} (h : QS w W l) (hb : Below w.heap.size W W') (ho : Bld w.heap.size w.heap.size l' W') : QS w W' l' := ⟨ho, h.b.trans hb⟩
theorem chs_take (L : List P.Chg) (k : Nat) (hk : k < L.length) : P.chsL (L.take (k + 1)) = P.chsL (L.take k) ++ (chT L[k]).data.toList ++ [10] := by
  unfold P.chsL
  rw [List.take_succ_eq_append_getElem hk, List.map_append]
  exact P.linesL_snoc _ _
theorem chs_take_le (L : List P.Chg) (k : Nat) : (P.chsL (L.take k)).length ≤ (P.chsL L).length := by
  have e : P.chsL L = P.chsL (L.take k) ++ P.chsL (L.drop k) := by
    unfold P.chsL
    rw [← P.linesL_append, ← List.map_append, List.take_append_drop]
  rw [e, List.length_append]; omega

set_option maxRecDepth 100000 in
set_option maxHeartbeats 40000000 in
theorem rprintC_any (L : List P.Chg) (a : Option Addr) (cap : Nat) (hr : ∀ c ∈ L, P.chE c = 0) (hpl : (P.chsL L).length ≤ 1000000000000) (hl : L.length ≤ 4000000000) (w : World) (h : ChsAt w.heap.size w a L cap) :
    Calls Tryz.prog 64 #[.slice a L.length cap] w fun e w' => e = .returned (.string (P.txt (P.chsL L))) ∧ Below w.heap.size w w' := by
  have HQ := Lib.hid (fun s (hs : s.size ≤ 65536) w => rquote_any s (by omega) w)
  have HWr := Lib.hid (fun (l : P.B) (t : ByteArray) (W : World) (h : Bld w.heap.size w.heap.size l W) (hn : l.length + t.size ≤ 140737488355328) => writeString_any _ _ l t W h hn (Nat.le_of_lt h.lt))
  have HBy : Hid (∀ (l : P.B) (W : World), Bld w.heap.size w.heap.size l W → l.length + 1 ≤ 140737488355328 → Calls Tryz.prog 149 #[.pointer (some ⟨w.heap.size, 0, none⟩), .int .u8 10] W fun e w' => e = .returned .nilIface ∧ Bld w.heap.size w.heap.size (l ++ [10]) w' ∧ Below w.heap.size W w') :=
    Lib.hid (fun l W h hn => writeByte_any _ _ l 10 W h hn (Nat.le_of_lt h.lt))
  have HA := Lib.hid h
  have HPr := Lib.hid hr
  have HPl := Lib.hid hpl
  have H0 : Hid (QS w (w.alloc (.cells #[.pointer none, .slice none 0 0] 171)) []) := Lib.hid ⟨Bld.fresh w, below_alloc _ _⟩
  clear h hr hpl
  go_enter Tryz.func64, Tryz.ntmps64
  go_wp2_with fail
  go_loopw [9] (fun i wr => ∃ k : Nat, k ≤ L.length ∧ i = .int .i64 k ∧ Hid (QS w wr (P.chsL (L.take k)))) (fun i _ => L.length - (RowKit.intOf i).toNat)
  case atStart => exact ⟨0, Nat.zero_le _, rfl, H0⟩
  case round =>
    obtain ⟨k, hk, rfl, HS⟩ := hrel
    by_cases hlt : k < L.length
    · obtain ⟨b, off, rfl, hbm, hc⟩ := (HA.out.below HS.out.b).at_ (ne_nil_of_lt hlt)
      obtain ⟨d0, d1, d2, d3, d4, d5, d6, d7, d8, d9⟩ := hc k hlt
      have hK1 : IntKind.i64.wrap ((k : Int) + 1) = ((k + 1 : Nat) : Int) := by rw [IntKind.wrap_i64]; omega
      have h0 := HPr.out L[k] (List.getElem_mem hlt)
      have hz := P.chE_small h0
      have hkd := P.kind_of (P.chE_zero.1 h0).1
      have hl' : Hid (∀ W, Bld w.heap.size w.heap.size (P.chsL (L.take k) ++ (chT L[k]).data.toList ++ [10]) W → Bld w.heap.size w.heap.size (P.chsL (L.take (k + 1))) W) := Lib.hid (fun W h => by rw [chs_take L k hlt]; exact h)
      have hll : (P.chsL (L.take k)).length ≤ 1000000000000 := Nat.le_trans (chs_take_le L k) HPl.out
      clear hc h0
      generalize P.chsL (L.take k) = l at *
      generalize L[k] = c at *
      obtain ⟨kd, ⟨fp, fd, fr⟩, ⟨sk, sv⟩, ⟨vn, vp, va, vo⟩⟩ := c
      simp only at d0 d1 d2 d3 d4 d5 d6 d7 d8 d9 hkd
      rcases hkd with rfl | rfl | rfl | rfl | rfl | rfl
      · cases fr
        · have hT : ((⟨#[112, 117, 116, 32]⟩ : ByteArray) ++ fp ++ ⟨#[32]⟩ ++ P.quote fd).data.toList = (chT ⟨1, ⟨fp, fd, false⟩, ⟨sk, sv⟩, ⟨vn, vp, va, vo⟩⟩).data.toList := by
            show _ = (lineT _ _ _).data.toList
            unfold lineT; simp only [ByteArray.data_append, Array.toList_append, P.quote, P.txt_list, List.append_assoc]; rfl
          have HE : Hid (∀ W, Bld w.heap.size w.heap.size (l ++ ((⟨#[112, 117, 116, 32]⟩ : ByteArray) ++ fp ++ ⟨#[32]⟩ ++ P.quote fd).data.toList ++ [10]) W → Bld w.heap.size w.heap.size (P.chsL (L.take (k + 1))) W) := Lib.hid (fun W h => by rw [hT] at h; exact hl'.out W h)
          clear hT hl'
          have HX := Lib.hid (QS.alloc HS.out (.cells #[.int .i64 1, .string fp, .string fd, .bool false, .string sk, .string sv, .string vn, .string vp, .bool va, .bool vo] 73))
          obtain ⟨r0, r1, r2, r3, r4, r5, r6, r7, r8, r9⟩ := hrow10 (HasRow.new wr #[.int .i64 1, .string fp, .string fd, .bool false, .string sk, .string sv, .string vn, .string vp, .bool va, .bool vo] 73)
          have HQk := Lib.hid (fun W => HQ.out fd (hz.fd) W)
          have hq := P.quote_size fd
          have hb1 := hz.fp
          have hb2' := hz.fd
          simp only at hb1 hb2'
          generalize P.quote fd = q at *
          have g0 : ¬ 9223372036854775807 < 4 + fp.size := by omega
          have g1 : ¬ 9223372036854775807 < 4 + fp.size + 1 := by omega
          have g2 : ¬ 9223372036854775807 < 4 + fp.size + 1 + q.size := by omega
          have hsz : ((((⟨#[112, 117, 116, 32]⟩ : ByteArray) ++ fp ++ ⟨#[32]⟩ ++ q)) : ByteArray).size ≤ 1000000000 := by simp only [ByteArray.size_append]; show 4 + _ + 1 + _ ≤ _; omega
          have HLn := Lib.hid (show l.length + ((((⟨#[112, 117, 116, 32]⟩ : ByteArray) ++ fp ++ ⟨#[32]⟩ ++ q)) : ByteArray).size ≤ 140737488355328 by omega)
          have HLn2 := Lib.hid (show (l ++ ((((⟨#[112, 117, 116, 32]⟩ : ByteArray) ++ fp ++ ⟨#[32]⟩ ++ q)) : ByteArray).data.toList).length + 1 ≤ 140737488355328 by rw [List.length_append, P.size_len]; omega)
          clear hz hq hb1 hb2' hsz hll
          go_wp2_with fail
          clear d0 d1 d2 d3 d4 d5 d6 d7 d8 d9
          go_region_with (first
            | (go_at_call 58; refine (HQk.out _).mono ?_; rintro e w2 ⟨rfl, hb2⟩; have q0 := cell_keep hb2 r0; have q1 := cell_keep hb2 r1; have q2 := cell_keep hb2 r2; have q3 := cell_keep hb2 r3; have q4 := cell_keep hb2 r4; have q5 := cell_keep hb2 r5; have q6 := cell_keep hb2 r6; have q7 := cell_keep hb2 r7; have q8 := cell_keep hb2 r8; have q9 := cell_keep hb2 r9; have HX2 := Lib.hid (HX.out.drew.below hb2))
            | (go_at_call 144; refine (HWr.out l _ _ HX2.out.o HLn.out).mono ?_; rintro e w3 ⟨rfl, hB, hb3⟩; have HX3 := Lib.hid (HX2.out.wrote hb3 hB)))
          all_goals
            clear hb2 r0 r1 r2 r3 r4 r5 r6 r7 r8 r9 q0 q1 q2 q3 q4 q5 q6 q7 q8 q9 g0 g1 g2
            go_wp2_with (go_at_call 149; refine (HBy.out _ _ HX3.out.o HLn2.out).mono ?_; rintro e w4 ⟨rfl, hB4, hb4⟩; have HN := Lib.hid (HX3.out.wrote hb4 (HE.out _ hB4)))
            go_roundw
            case rel => exact ⟨k + 1, by omega, by go_num, HN⟩
            case measure => simp [RowKit.intOf]; omega
        · have hT : ((⟨#[112, 117, 116, 114, 117, 110, 32]⟩ : ByteArray) ++ fp ++ ⟨#[32]⟩ ++ P.quote fd).data.toList = (chT ⟨1, ⟨fp, fd, true⟩, ⟨sk, sv⟩, ⟨vn, vp, va, vo⟩⟩).data.toList := by
            show _ = (lineT _ _ _).data.toList
            unfold lineT; simp only [ByteArray.data_append, Array.toList_append, P.quote, P.txt_list, List.append_assoc]; rfl
          have HE : Hid (∀ W, Bld w.heap.size w.heap.size (l ++ ((⟨#[112, 117, 116, 114, 117, 110, 32]⟩ : ByteArray) ++ fp ++ ⟨#[32]⟩ ++ P.quote fd).data.toList ++ [10]) W → Bld w.heap.size w.heap.size (P.chsL (L.take (k + 1))) W) := Lib.hid (fun W h => by rw [hT] at h; exact hl'.out W h)
          clear hT hl'
          have HX := Lib.hid (QS.alloc HS.out (.cells #[.int .i64 1, .string fp, .string fd, .bool true, .string sk, .string sv, .string vn, .string vp, .bool va, .bool vo] 73))
          obtain ⟨r0, r1, r2, r3, r4, r5, r6, r7, r8, r9⟩ := hrow10 (HasRow.new wr #[.int .i64 1, .string fp, .string fd, .bool true, .string sk, .string sv, .string vn, .string vp, .bool va, .bool vo] 73)
          have HQk := Lib.hid (fun W => HQ.out fd (hz.fd) W)
          have hq := P.quote_size fd
          have hb1 := hz.fp
          have hb2' := hz.fd
          simp only at hb1 hb2'
          generalize P.quote fd = q at *
          have g0 : ¬ 9223372036854775807 < 7 + fp.size := by omega
          have g1 : ¬ 9223372036854775807 < 7 + fp.size + 1 := by omega
          have g2 : ¬ 9223372036854775807 < 7 + fp.size + 1 + q.size := by omega
          have hsz : ((((⟨#[112, 117, 116, 114, 117, 110, 32]⟩ : ByteArray) ++ fp ++ ⟨#[32]⟩ ++ q)) : ByteArray).size ≤ 1000000000 := by simp only [ByteArray.size_append]; show 7 + _ + 1 + _ ≤ _; omega
          have HLn := Lib.hid (show l.length + ((((⟨#[112, 117, 116, 114, 117, 110, 32]⟩ : ByteArray) ++ fp ++ ⟨#[32]⟩ ++ q)) : ByteArray).size ≤ 140737488355328 by omega)
          have HLn2 := Lib.hid (show (l ++ ((((⟨#[112, 117, 116, 114, 117, 110, 32]⟩ : ByteArray) ++ fp ++ ⟨#[32]⟩ ++ q)) : ByteArray).data.toList).length + 1 ≤ 140737488355328 by rw [List.length_append, P.size_len]; omega)
          clear hz hq hb1 hb2' hsz hll
          go_wp2_with fail
          clear d0 d1 d2 d3 d4 d5 d6 d7 d8 d9
          go_region_with (first
            | (go_at_call 58; refine (HQk.out _).mono ?_; rintro e w2 ⟨rfl, hb2⟩; have q0 := cell_keep hb2 r0; have q1 := cell_keep hb2 r1; have q2 := cell_keep hb2 r2; have q3 := cell_keep hb2 r3; have q4 := cell_keep hb2 r4; have q5 := cell_keep hb2 r5; have q6 := cell_keep hb2 r6; have q7 := cell_keep hb2 r7; have q8 := cell_keep hb2 r8; have q9 := cell_keep hb2 r9; have HX2 := Lib.hid (HX.out.drew.below hb2))
            | (go_at_call 144; refine (HWr.out l _ _ HX2.out.o HLn.out).mono ?_; rintro e w3 ⟨rfl, hB, hb3⟩; have HX3 := Lib.hid (HX2.out.wrote hb3 hB)))
          all_goals
            clear hb2 r0 r1 r2 r3 r4 r5 r6 r7 r8 r9 q0 q1 q2 q3 q4 q5 q6 q7 q8 q9 g0 g1 g2
            go_wp2_with (go_at_call 149; refine (HBy.out _ _ HX3.out.o HLn2.out).mono ?_; rintro e w4 ⟨rfl, hB4, hb4⟩; have HN := Lib.hid (HX3.out.wrote hb4 (HE.out _ hB4)))
            go_roundw
            case rel => exact ⟨k + 1, by omega, by go_num, HN⟩
            case measure => simp [RowKit.intOf]; omega
      · have hT : ((⟨#[114, 101, 109, 111, 118, 101, 32]⟩ : ByteArray) ++ fp).data.toList = (chT ⟨2, ⟨fp, fd, fr⟩, ⟨sk, sv⟩, ⟨vn, vp, va, vo⟩⟩).data.toList := by
          show _ = (_ ++ _ : ByteArray).data.toList
          rfl
        have HE : Hid (∀ W, Bld w.heap.size w.heap.size (l ++ ((⟨#[114, 101, 109, 111, 118, 101, 32]⟩ : ByteArray) ++ fp).data.toList ++ [10]) W → Bld w.heap.size w.heap.size (P.chsL (L.take (k + 1))) W) := Lib.hid (fun W h => by rw [hT] at h; exact hl'.out W h)
        clear hT hl'
        have HX := Lib.hid (QS.alloc HS.out (.cells #[.int .i64 2, .string fp, .string fd, .bool fr, .string sk, .string sv, .string vn, .string vp, .bool va, .bool vo] 73))
        obtain ⟨r0, r1, r2, r3, r4, r5, r6, r7, r8, r9⟩ := hrow10 (HasRow.new wr #[.int .i64 2, .string fp, .string fd, .bool fr, .string sk, .string sv, .string vn, .string vp, .bool va, .bool vo] 73)
        have hb1 := hz.fp
        simp only at hb1
        have g0 : ¬ 9223372036854775807 < 7 + fp.size := by omega
        have hsz : ((⟨#[114, 101, 109, 111, 118, 101, 32]⟩ : ByteArray) ++ fp).size ≤ 1000000000 := by simp only [ByteArray.size_append]; show 7 + _ ≤ _; omega
        have HLn := Lib.hid (show l.length + ((⟨#[114, 101, 109, 111, 118, 101, 32]⟩ : ByteArray) ++ fp).size ≤ 140737488355328 by omega)
        have HLn2 := Lib.hid (show (l ++ ((⟨#[114, 101, 109, 111, 118, 101, 32]⟩ : ByteArray) ++ fp).data.toList).length + 1 ≤ 140737488355328 by rw [List.length_append, P.size_len]; omega)
        clear hz hb1 hsz hll
        go_wp2_with (first
          | (go_at_call 144; refine (HWr.out l _ _ HX.out.o HLn.out).mono ?_; rintro e w3 ⟨rfl, hB, hb3⟩; have HX3 := Lib.hid (HX.out.wrote hb3 hB))
          | (go_at_call 149; refine (HBy.out _ _ HX3.out.o HLn2.out).mono ?_; rintro e w4 ⟨rfl, hB4, hb4⟩; have HN := Lib.hid (HX3.out.wrote hb4 (HE.out _ hB4))))
        go_roundw
        case rel => exact ⟨k + 1, by omega, by go_num, HN⟩
        case measure => simp [RowKit.intOf]; omega
      · have hT : ((⟨#[115, 101, 116, 32]⟩ : ByteArray) ++ sk ++ ⟨#[32]⟩ ++ P.quote sv).data.toList = (chT ⟨3, ⟨fp, fd, fr⟩, ⟨sk, sv⟩, ⟨vn, vp, va, vo⟩⟩).data.toList := by
          show _ = (lineT _ _ _).data.toList
          unfold lineT; simp only [ByteArray.data_append, Array.toList_append, P.quote, P.txt_list, List.append_assoc]; rfl
        have HE : Hid (∀ W, Bld w.heap.size w.heap.size (l ++ ((⟨#[115, 101, 116, 32]⟩ : ByteArray) ++ sk ++ ⟨#[32]⟩ ++ P.quote sv).data.toList ++ [10]) W → Bld w.heap.size w.heap.size (P.chsL (L.take (k + 1))) W) := Lib.hid (fun W h => by rw [hT] at h; exact hl'.out W h)
        clear hT hl'
        have HX := Lib.hid (QS.alloc HS.out (.cells #[.int .i64 3, .string fp, .string fd, .bool fr, .string sk, .string sv, .string vn, .string vp, .bool va, .bool vo] 73))
        obtain ⟨r0, r1, r2, r3, r4, r5, r6, r7, r8, r9⟩ := hrow10 (HasRow.new wr #[.int .i64 3, .string fp, .string fd, .bool fr, .string sk, .string sv, .string vn, .string vp, .bool va, .bool vo] 73)
        have HQk := Lib.hid (fun W => HQ.out sv (hz.sv) W)
        have hq := P.quote_size sv
        have hb1 := hz.sk
        have hb2' := hz.sv
        simp only at hb1 hb2'
        generalize P.quote sv = q at *
        have g0 : ¬ 9223372036854775807 < 4 + sk.size := by omega
        have g1 : ¬ 9223372036854775807 < 4 + sk.size + 1 := by omega
        have g2 : ¬ 9223372036854775807 < 4 + sk.size + 1 + q.size := by omega
        have hsz : ((((⟨#[115, 101, 116, 32]⟩ : ByteArray) ++ sk ++ ⟨#[32]⟩ ++ q)) : ByteArray).size ≤ 1000000000 := by simp only [ByteArray.size_append]; show 4 + _ + 1 + _ ≤ _; omega
        have HLn := Lib.hid (show l.length + ((((⟨#[115, 101, 116, 32]⟩ : ByteArray) ++ sk ++ ⟨#[32]⟩ ++ q)) : ByteArray).size ≤ 140737488355328 by omega)
        have HLn2 := Lib.hid (show (l ++ ((((⟨#[115, 101, 116, 32]⟩ : ByteArray) ++ sk ++ ⟨#[32]⟩ ++ q)) : ByteArray).data.toList).length + 1 ≤ 140737488355328 by rw [List.length_append, P.size_len]; omega)
        clear hz hq hb1 hb2' hsz hll
        go_wp2_with fail
        clear d0 d1 d2 d3 d4 d5 d6 d7 d8 d9
        go_region_with (first
          | (go_at_call 58; refine (HQk.out _).mono ?_; rintro e w2 ⟨rfl, hb2⟩; have q0 := cell_keep hb2 r0; have q1 := cell_keep hb2 r1; have q2 := cell_keep hb2 r2; have q3 := cell_keep hb2 r3; have q4 := cell_keep hb2 r4; have q5 := cell_keep hb2 r5; have q6 := cell_keep hb2 r6; have q7 := cell_keep hb2 r7; have q8 := cell_keep hb2 r8; have q9 := cell_keep hb2 r9; have HX2 := Lib.hid (HX.out.drew.below hb2))
          | (go_at_call 144; refine (HWr.out l _ _ HX2.out.o HLn.out).mono ?_; rintro e w3 ⟨rfl, hB, hb3⟩; have HX3 := Lib.hid (HX2.out.wrote hb3 hB)))
        all_goals
          clear hb2 r0 r1 r2 r3 r4 r5 r6 r7 r8 r9 q0 q1 q2 q3 q4 q5 q6 q7 q8 q9 g0 g1 g2
          go_wp2_with (go_at_call 149; refine (HBy.out _ _ HX3.out.o HLn2.out).mono ?_; rintro e w4 ⟨rfl, hB4, hb4⟩; have HN := Lib.hid (HX3.out.wrote hb4 (HE.out _ hB4)))
          go_roundw
          case rel => exact ⟨k + 1, by omega, by go_num, HN⟩
          case measure => simp [RowKit.intOf]; omega
      · have hT : ((⟨#[117, 110, 115, 101, 116, 32]⟩ : ByteArray) ++ sk).data.toList = (chT ⟨4, ⟨fp, fd, fr⟩, ⟨sk, sv⟩, ⟨vn, vp, va, vo⟩⟩).data.toList := by
          show _ = (_ ++ _ : ByteArray).data.toList
          rfl
        have HE : Hid (∀ W, Bld w.heap.size w.heap.size (l ++ ((⟨#[117, 110, 115, 101, 116, 32]⟩ : ByteArray) ++ sk).data.toList ++ [10]) W → Bld w.heap.size w.heap.size (P.chsL (L.take (k + 1))) W) := Lib.hid (fun W h => by rw [hT] at h; exact hl'.out W h)
        clear hT hl'
        have HX := Lib.hid (QS.alloc HS.out (.cells #[.int .i64 4, .string fp, .string fd, .bool fr, .string sk, .string sv, .string vn, .string vp, .bool va, .bool vo] 73))
        obtain ⟨r0, r1, r2, r3, r4, r5, r6, r7, r8, r9⟩ := hrow10 (HasRow.new wr #[.int .i64 4, .string fp, .string fd, .bool fr, .string sk, .string sv, .string vn, .string vp, .bool va, .bool vo] 73)
        have hb1 := hz.sk
        simp only at hb1
        have g0 : ¬ 9223372036854775807 < 6 + sk.size := by omega
        have hsz : ((⟨#[117, 110, 115, 101, 116, 32]⟩ : ByteArray) ++ sk).size ≤ 1000000000 := by simp only [ByteArray.size_append]; show 6 + _ ≤ _; omega
        have HLn := Lib.hid (show l.length + ((⟨#[117, 110, 115, 101, 116, 32]⟩ : ByteArray) ++ sk).size ≤ 140737488355328 by omega)
        have HLn2 := Lib.hid (show (l ++ ((⟨#[117, 110, 115, 101, 116, 32]⟩ : ByteArray) ++ sk).data.toList).length + 1 ≤ 140737488355328 by rw [List.length_append, P.size_len]; omega)
        clear hz hb1 hsz hll
        go_wp2_with (first
          | (go_at_call 144; refine (HWr.out l _ _ HX.out.o HLn.out).mono ?_; rintro e w3 ⟨rfl, hB, hb3⟩; have HX3 := Lib.hid (HX.out.wrote hb3 hB))
          | (go_at_call 149; refine (HBy.out _ _ HX3.out.o HLn2.out).mono ?_; rintro e w4 ⟨rfl, hB4, hb4⟩; have HN := Lib.hid (HX3.out.wrote hb4 (HE.out _ hB4))))
        go_roundw
        case rel => exact ⟨k + 1, by omega, by go_num, HN⟩
        case measure => simp [RowKit.intOf]; omega
      · have hT : ((⟨#[115, 101, 114, 118, 105, 99, 101, 32]⟩ : ByteArray) ++ P.txt (P.wordsL ⟨vn, vp, va, vo⟩)).data.toList = (chT ⟨5, ⟨fp, fd, fr⟩, ⟨sk, sv⟩, ⟨vn, vp, va, vo⟩⟩).data.toList := by
          show _ = (svcT _).data.toList
          unfold svcT; simp only [ByteArray.data_append, Array.toList_append, P.txt_list]
        have HE : Hid (∀ W, Bld w.heap.size w.heap.size (l ++ ((⟨#[115, 101, 114, 118, 105, 99, 101, 32]⟩ : ByteArray) ++ P.txt (P.wordsL ⟨vn, vp, va, vo⟩)).data.toList ++ [10]) W → Bld w.heap.size w.heap.size (P.chsL (L.take (k + 1))) W) := Lib.hid (fun W h => by rw [hT] at h; exact hl'.out W h)
        clear hT hl'
        have HX := Lib.hid (QS.alloc HS.out (.cells #[.int .i64 5, .string fp, .string fd, .bool fr, .string sk, .string sv, .string vn, .string vp, .bool va, .bool vo] 73))
        obtain ⟨r0, r1, r2, r3, r4, r5, r6, r7, r8, r9⟩ := hrow10 (HasRow.new wr #[.int .i64 5, .string fp, .string fd, .bool fr, .string sk, .string sv, .string vn, .string vp, .bool va, .bool vo] 73)
        have HSW := Lib.hid (fun W => serviceWords_any ⟨vn, vp, va, vo⟩ (Nat.le_trans hz.vn (by decide)) (Nat.le_trans hz.vp (by decide)) W)
        have hwl : (P.txt (P.wordsL ⟨vn, vp, va, vo⟩)).size ≤ 900000000 := by
          have h1 := hz.vn
          have h2 := hz.vp
          simp only at h1 h2
          rw [P.txt_size]; unfold P.wordsL; simp only [List.length_append, P.size_len, P.bitL_len, List.length_cons, List.length_nil]; omega
        generalize P.txt (P.wordsL ⟨vn, vp, va, vo⟩) = q at *
        have g0 : ¬ 9223372036854775807 < 8 + q.size := by omega
        have hsz : ((⟨#[115, 101, 114, 118, 105, 99, 101, 32]⟩ : ByteArray) ++ q).size ≤ 1000000000 := by simp only [ByteArray.size_append]; show 8 + _ ≤ _; omega
        have HLn := Lib.hid (show l.length + ((⟨#[115, 101, 114, 118, 105, 99, 101, 32]⟩ : ByteArray) ++ q).size ≤ 140737488355328 by omega)
        have HLn2 := Lib.hid (show (l ++ ((⟨#[115, 101, 114, 118, 105, 99, 101, 32]⟩ : ByteArray) ++ q).data.toList).length + 1 ≤ 140737488355328 by rw [List.length_append, P.size_len]; omega)
        clear hz hwl hsz hll
        go_wp2_with (first
          | (go_at_call 145; refine (HSW.out _).mono ?_; rintro e w2 ⟨rfl, hb2⟩; have HX2 := Lib.hid (HX.out.below hb2))
          | (go_at_call 144; refine (HWr.out l _ _ HX2.out.o HLn.out).mono ?_; rintro e w3 ⟨rfl, hB, hb3⟩; have HX3 := Lib.hid (HX2.out.wrote hb3 hB))
          | (go_at_call 149; refine (HBy.out _ _ HX3.out.o HLn2.out).mono ?_; rintro e w4 ⟨rfl, hB4, hb4⟩; have HN := Lib.hid (HX3.out.wrote hb4 (HE.out _ hB4))))
        go_roundw
        case rel => exact ⟨k + 1, by omega, by go_num, HN⟩
        case measure => simp [RowKit.intOf]; omega
      · have hT : ((⟨#[100, 114, 111, 112, 32]⟩ : ByteArray) ++ vn).data.toList = (chT ⟨6, ⟨fp, fd, fr⟩, ⟨sk, sv⟩, ⟨vn, vp, va, vo⟩⟩).data.toList := by
          show _ = (_ ++ _ : ByteArray).data.toList
          rfl
        have HE : Hid (∀ W, Bld w.heap.size w.heap.size (l ++ ((⟨#[100, 114, 111, 112, 32]⟩ : ByteArray) ++ vn).data.toList ++ [10]) W → Bld w.heap.size w.heap.size (P.chsL (L.take (k + 1))) W) := Lib.hid (fun W h => by rw [hT] at h; exact hl'.out W h)
        clear hT hl'
        have HX := Lib.hid (QS.alloc HS.out (.cells #[.int .i64 6, .string fp, .string fd, .bool fr, .string sk, .string sv, .string vn, .string vp, .bool va, .bool vo] 73))
        obtain ⟨r0, r1, r2, r3, r4, r5, r6, r7, r8, r9⟩ := hrow10 (HasRow.new wr #[.int .i64 6, .string fp, .string fd, .bool fr, .string sk, .string sv, .string vn, .string vp, .bool va, .bool vo] 73)
        have hb1 := hz.vn
        simp only at hb1
        have g0 : ¬ 9223372036854775807 < 5 + vn.size := by omega
        have hsz : ((⟨#[100, 114, 111, 112, 32]⟩ : ByteArray) ++ vn).size ≤ 1000000000 := by simp only [ByteArray.size_append]; show 5 + _ ≤ _; omega
        have HLn := Lib.hid (show l.length + ((⟨#[100, 114, 111, 112, 32]⟩ : ByteArray) ++ vn).size ≤ 140737488355328 by omega)
        have HLn2 := Lib.hid (show (l ++ ((⟨#[100, 114, 111, 112, 32]⟩ : ByteArray) ++ vn).data.toList).length + 1 ≤ 140737488355328 by rw [List.length_append, P.size_len]; omega)
        clear hz hb1 hsz hll
        go_wp2_with (first
          | (go_at_call 144; refine (HWr.out l _ _ HX.out.o HLn.out).mono ?_; rintro e w3 ⟨rfl, hB, hb3⟩; have HX3 := Lib.hid (HX.out.wrote hb3 hB))
          | (go_at_call 149; refine (HBy.out _ _ HX3.out.o HLn2.out).mono ?_; rintro e w4 ⟨rfl, hB4, hb4⟩; have HN := Lib.hid (HX3.out.wrote hb4 (HE.out _ hB4))))
        go_roundw
        case rel => exact ⟨k + 1, by omega, by go_num, HN⟩
        case measure => simp [RowKit.intOf]; omega
    · have hkl : k = L.length := by omega
      subst hkl
      have HN := Lib.hid (by have := HS.out; rwa [List.take_length] at this)
      clear HS hk hlt
      have HY : Hid (Calls Tryz.prog 146 #[.pointer (some ⟨w.heap.size, 0, none⟩)] wr fun e w' => e = .returned (.string (P.txt (P.chsL L))) ∧ Below w.heap.size wr w') := Lib.hid (string_any _ _ _ wr HN.out.o (Nat.le_of_lt HN.out.o.lt))
      obtain ⟨tx, hT⟩ : ∃ tx, P.txt (P.chsL L) = tx := ⟨_, rfl⟩
      rw [hT] at HY
      have HT := Lib.hid hT
      clear hT
      go_wp2_with (go_at_call 146; refine HY.out.mono ?_; rintro e w2 ⟨rfl, hb2⟩)
      go_ret
      exact ⟨by rw [HT.out]; rfl, HN.out.b.trans hb2⟩
end Go.Proofs.YtomikcemiacjmaaGreatDoor
