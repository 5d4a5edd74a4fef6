/- Walks: stage's printChanges, PrintJournal. -/
import Derived.Test.YtomikcemiacjmaaGreatDoorZJNumber
import Derived.Test.YtomikcemiacjmaaGreatDoorZJLink
import Derived.Test.YtomikcemiacjmaaGreatDoorZGRdL
import Derived.Test.YtomikcemiacjmaaGreatDoorZMOpen

namespace Go.Proofs.YtomikcemiacjmaaGreatDoor
open Go.RowKit Go.Lib Go.Shelf Go.Maps

namespace P
/-- how many changes there are, behind a word, and these -/
noncomputable def partL (w : B) (L : List Chg) : B := w ++ Lib.itoa (L.length : Int) ++ [10] ++ chsL L
theorem jText_part (id : B) (cs os : List Chg) : jText id cs os = jW ++ id ++ [10] ++ partL cW cs ++ partL oW os := rfl
theorem itoa_len (n : Nat) (h : n ≤ 4000000000) : (Lib.itoa (n : Int)).length ≤ 21 := Lib.itoa_length_le _ (by omega) (by omega)
end P

set_option maxRecDepth 100000 in
theorem printChanges_any (word : ByteArray) (hwl : word.size ≤ 100) (L : List P.Chg) (a : Option Addr) (cap : Nat) (hl : L.length ≤ 4000000000) (hs : ∀ c ∈ L, P.CSm 4294967280 c) (h0 : P.chEs L = 0) (w : World) (hw : JW w) (h : ChsAt w.heap.size w a L cap) :
    Calls Tryz.prog 167 #[.string word, .slice a L.length cap] w fun e w' => (∃ s, e = .returned (.tuple #[.string s, .int .i64 (if (P.chsL L).length ≤ 4194304 then 0 else 4)]) ∧ ((P.chsL L).length ≤ 4194304 → s = P.txt (P.partL word.data.toList L))) ∧ Below w.heap.size w w' := by
  have HP := Lib.hid (dprintC_any L a cap hl hs w hw.g h)
  rw [if_pos h0] at HP
  unfold joinOut at HP
  have Hw := Lib.hid hw
  have HI := Lib.hid (fun W hW => itoa_any (L.length : Int) (by omega) (by omega) W hW)
  have hi := P.itoa_len L.length hl
  have his : (P.txt (Lib.itoa (L.length : Int))).size ≤ 21 := by rw [P.txt_size]; exact hi
  by_cases hlen : (P.chsL L).length ≤ 4194304
  · rw [if_pos hlen] at HP ⊢
    have hts : (P.txt (P.chsL L)).size ≤ 4194304 := by rw [P.txt_size]; exact hlen
    have he : ((word ++ P.txt (Lib.itoa (L.length : Int))) ++ ⟨#[10]⟩) ++ P.txt (P.chsL L) = P.txt (P.partL word.data.toList L) := by
      apply P.ba_inj
      simp only [ByteArray.data_append, Array.toList_append, P.txt_list]
      rfl
    have HE := Lib.hid he
    clear he hlen h0 hs hw h hi
    generalize P.txt (P.partL word.data.toList L) = R at *
    generalize P.txt (P.chsL L) = t at *
    generalize P.txt (Lib.itoa (L.length : Int)) = I at *
    go_enter Tryz.func167, Tryz.ntmps167
    go_wp2_with (first
      | (go_at_call 62; refine HP.out.mono ?_; rintro e w1 ⟨rfl, hb1⟩; have HB1 := Lib.hid hb1; clear hb1)
      | (go_at_call 168; refine (HI.out _ (Hw.out.mono HB1.out)).mono ?_; rintro e w2 ⟨rfl, hb2⟩; have HB2 := Lib.hid (bstep HB1.out hb2); clear hb2))
    go_ret2
    exact ⟨⟨_, rfl, fun _ => HE.out⟩, HB2.out⟩
  · rw [if_neg hlen] at HP ⊢
    have Hn := Lib.hid hlen
    clear hlen h0 hs hw h hi
    generalize P.txt (Lib.itoa (L.length : Int)) = I at *
    go_enter Tryz.func167, Tryz.ntmps167
    go_wp2_with (first
      | (go_at_call 62; refine HP.out.mono ?_; rintro e w1 ⟨rfl, hb1⟩; have HB1 := Lib.hid hb1; clear hb1)
      | (go_at_call 168; refine (HI.out _ (Hw.out.mono HB1.out)).mono ?_; rintro e w2 ⟨rfl, hb2⟩; have HB2 := Lib.hid (bstep HB1.out hb2); clear hb2))
    go_ret2
    exact ⟨⟨_, rfl, fun h => absurd h Hn.out⟩, HB2.out⟩

/-- the boxes of PrintJournal -/
structure PJS (w wr : World) (a1 : Option Addr) (n1 c1 : Nat) (a2 : Option Addr) (n2 c2 : Nat) (id : ByteArray) : Prop where
  j : HasRow wr w.heap.size #[.string id, .slice a1 n1 c1, .slice a2 n2 c2]
  l : HasRow wr (w.heap.size + 1) #[.slice a1 n1 c1, .slice a2 n2 c2]
  z : Below w.heap.size w wr
theorem PJS.below {w wr W : World} {a1 : Option Addr} {n1 c1 : Nat} {a2 : Option Addr} {n2 c2 : Nat} {id : ByteArray} (h : PJS w wr a1 n1 c1 a2 n2 c2 id) (hb : Below wr.heap.size wr W) : PJS w W a1 n1 c1 a2 n2 c2 id :=
  ⟨h.j.below hb, h.l.below hb, bstep h.z hb⟩
/-- a change's cells, wherever the list lies -/
theorem ChsAt.cellsAt {m : Nat} {w : World} {a : Option Addr} {L : List P.Chg} {cap : Nat} (h : ChsAt m w a L cap) : ∀ k (hk : k < L.length), ∃ b off, a = some ⟨b, off, none⟩ ∧ b < m ∧ ChCells w b (off + k * 10) L[k] := by
  intro k hk
  obtain ⟨b, off, e, hb, hc⟩ := h.at_ (fun e => by rw [e] at hk; simp at hk)
  exact ⟨b, off, e, hb, hc k hk⟩

set_option maxRecDepth 100000 in
set_option maxHeartbeats 16000000 in
theorem dprintJ_any (id : ByteArray) (hid : id.size ≤ 1048576) (cs : List P.Chg) (a1 : Option Addr) (c1 : Nat) (os : List P.Chg) (a2 : Option Addr) (c2 : Nat) (hl1 : cs.length ≤ 4000000000) (hl2 : os.length ≤ 4000000000)
    (hs1 : ∀ c ∈ cs, P.CSm 4294967280 c) (hs2 : ∀ c ∈ os, P.CSm 4294967280 c) (w : World) (hw : JW w) (h1 : ChsAt w.heap.size w a1 cs c1) (h2 : ChsAt w.heap.size w a2 os c2) :
    Calls Tryz.prog 80 #[.agg #[.string id, .slice a1 cs.length c1, .slice a2 os.length c2]] w fun e w' => e = .returned (.tuple #[.string (P.printJ id cs os).1, .int .i64 (P.printJ id cs os).2]) ∧ Below w.heap.size w w' := by
  have Hw := Lib.hid hw
  have HN := Lib.hid (fun W => isName_any id (by omega) W)
  have hr1 := fun n => P.print_name (id := id) (cs := cs) (os := os) n
  have hr2 := fun n => P.print_ch (id := id) (cs := cs) (os := os) n
  have hr3 := fun n => P.print_old (id := id) (cs := cs) (os := os) n
  have hr4 := fun n => P.print_large (id := id) (cs := cs) (os := os) n
  have hr5 := fun n => P.print_ok (id := id) (cs := cs) (os := os) n
  generalize P.printJ id cs os = R at *
  have Z1 := Lib.hid (below_alloc w (.cells #[.string id, .slice a1 cs.length c1, .slice a2 os.length c2] 106))
  have J1 := Lib.hid (HasRow.new w #[.string id, .slice a1 cs.length c1, .slice a2 os.length c2] 106)
  cases hn : P.nameS id with
  | false =>
    have hR := hr1 hn
    rw [hn] at HN
    subst hR
    have k0 := J1.out.cell 0
    clear hn hr1 hr2 hr3 hr4 hr5 h1 h2 hs1 hs2 hw
    go_enter Tryz.func80, Tryz.ntmps80
    go_wp2_with (go_at_call 85; refine (HN.out _).mono ?_; rintro e w1 ⟨rfl, rfl⟩)
    go_ret2
    exact ⟨rfl, Z1.out⟩
  | true =>
    rw [hn] at HN
    replace hr2 := Lib.hid (hr2 hn)
    replace hr3 := Lib.hid (hr3 hn)
    replace hr4 := Lib.hid (hr4 hn)
    replace hr5 := Lib.hid (hr5 hn)
    have HC1 := Lib.hid h1.cellsAt
    have HC2 := Lib.hid h2.cellsAt
    have HK1 := Lib.hid (fun c (hc : c ∈ cs) W (hW : JW W) => checkChange_any c (hs1 c hc) W hW.g)
    have HK2 := Lib.hid (fun c (hc : c ∈ os) W (hW : JW W) => checkChange_any c (hs2 c hc) W hW.g)
    have HP1 := Lib.hid (fun (e0 : P.chEs cs = 0) W (hb : Below w.heap.size w W) => printChanges_any P.cT (by decide) cs a1 c1 hl1 hs1 e0 W (hw.mono hb) ((h1.below hb).up hb.size))
    have HP2 := Lib.hid (fun (e0 : P.chEs os = 0) W (hb : Below w.heap.size w W) => printChanges_any P.oT (by decide) os a2 c2 hl2 hs2 e0 W (hw.mono hb) ((h2.below hb).up hb.size))
    have HS := Lib.hid (fun s hs W (hW : JW W) => dsumOf_any s hs W hW.t hW.g)
    have k0 := J1.out.cell 0
    have k1 := J1.out.cell 1
    have k2 := J1.out.cell 2
    have hn1 : (cs.length : Int) ≤ 4000000000 := by omega
    have hn2 : (os.length : Int) ≤ 4000000000 := by omega
    have HL1 : Hid (cs.length ≤ 4000000000 ∧ os.length ≤ 4000000000) := Lib.hid ⟨hl1, hl2⟩
    have HD : Hid (id.size ≤ 1048576) := Lib.hid hid
    clear hn hr1 h1 h2 hs1 hs2 hw hl1 hl2
    have HS0 : Hid (PJS w ((w.alloc (.cells #[.string id, .slice a1 cs.length c1, .slice a2 os.length c2] 106)).alloc (.cells #[.slice a1 cs.length c1, .slice a2 os.length c2] 27)) a1 cs.length c1 a2 os.length c2 id) := Lib.hid ⟨J1.out.alloc _, (by
      have := HasRow.new (w.alloc (.cells #[.string id, .slice a1 cs.length c1, .slice a2 os.length c2] 106)) #[.slice a1 cs.length c1, .slice a2 os.length c2] 27
      rwa [World.size_alloc] at this), below2 _ _ _⟩
    go_enter Tryz.func80, Tryz.ntmps80
    go_wp2_with (go_at_call 85; refine (HN.out _).mono ?_; rintro e w1 ⟨rfl, rfl⟩)
    clear k0 k1 k2
    go_loopw [23] (fun i wr => ∃ j : Nat, i = .int .i64 j ∧ j ≤ 2 ∧ Hid (PJS w wr a1 cs.length c1 a2 os.length c2 id) ∧ Hid (1 ≤ j → P.chEs cs = 0) ∧ Hid (2 ≤ j → P.chEs os = 0)) (fun i _ => 2 - (RowKit.intOf i).toNat)
    case atStart => exact ⟨0, rfl, by omega, HS0, Lib.hid (fun h => absurd h (by omega)), Lib.hid (fun h => absurd h (by omega))⟩
    case round =>
      obtain ⟨j, rfl, hj, HST, E1, E2⟩ := hrel
      rcases (show j = 0 ∨ j = 1 ∨ j = 2 by omega) with rfl | rfl | rfl
      · have l0 := HST.out.l.cell 0
        go_wp2_with fail
        go_loopw [29] (fun i wr => ∃ k : Nat, i = .int .i64 k ∧ k ≤ cs.length ∧ Hid (PJS w wr a1 cs.length c1 a2 os.length c2 id) ∧ Hid (P.chEs (cs.drop k) = P.chEs cs)) (fun i _ => cs.length - (RowKit.intOf i).toNat)
        case atStart => exact ⟨0, rfl, Nat.zero_le _, HST, Lib.hid rfl⟩
        case round =>
          obtain ⟨k, rfl, hk, HQ, HR⟩ := hrel
          by_cases hlt : k < cs.length
          · obtain ⟨b, off, rfl, hbm, hcc⟩ := HC1.out k hlt
            obtain ⟨c0, c1', c2', c3, c4, c5, c6, c7, c8, c9⟩ := hcc.below HQ.out.z hbm
            have HCk := Lib.hid (fun W hW => HK1.out cs[k] (List.getElem_mem hlt) W hW)
            have hg := Lib.hid (fun h0 => P.chEs_good (k := k) hlt h0)
            have hb := Lib.hid (fun h0 => P.chEs_bad (k := k) hlt h0)
            have hK1 : IntKind.i64.wrap ((k : Int) + 1) = ((k + 1 : Nat) : Int) := by rw [IntKind.wrap_i64]; omega
            generalize P.chE cs[k] = r at *
            generalize cs[k] = c at *
            obtain ⟨kd, ⟨fp, fd, fr⟩, ⟨sk, sv⟩, ⟨vn, vp, va, vo⟩⟩ := c
            unfold chAgg chA at HCk
            simp only at c0 c1' c2' c3 c4 c5 c6 c7 c8 c9 HCk
            have HQa := Lib.hid (HQ.out.below (below_alloc wr (.cells #[.int .i64 kd, .string fp, .string fd, .bool fr, .string sk, .string sv, .string vn, .string vp, .bool va, .bool vo] 73)))
            by_cases h0 : r = 0
            · have hr := Lib.hid (hg.out h0)
              subst h0
              clear hg hb hcc
              go_wp2_with (go_at_call 43; refine (HCk.out _ (Hw.out.mono HQa.out.z)).mono ?_; rintro e w2 ⟨rfl, hb2⟩)
              go_roundw
              case rel => exact ⟨_, _, _, _, _, _, _, _, _, _, _, _, _, _, ⟨k + 1, by go_num, by omega, Lib.hid (HQa.out.below hb2), Lib.hid (hr.out.symm.trans HR.out)⟩, rfl⟩
              case measure => simp [RowKit.intOf]; omega
            · have hr := Lib.hid (hb.out h0)
              have g : (r != 0) = true := by simpa using h0
              have hR := hr2.out (by rw [← HR.out, hr.out]; exact h0)
              rw [← HR.out, hr.out] at hR
              clear hg hb h0 hcc hr2 hr3 hr4 hr5
              subst hR
              go_wp2_with (go_at_call 43; refine (HCk.out _ (Hw.out.mono HQa.out.z)).mono ?_; rintro e w2 ⟨rfl, hb2⟩)
              go_ret2
              exact ⟨rfl, bstep HQa.out.z hb2⟩
          · have hr := Lib.hid (P.chEs_end (L := cs) (k := k) (by omega))
            go_wp2_with fail
            go_roundw
            case rel => exact ⟨1, by go_num, by omega, HQ, Lib.hid (fun _ => by rw [← HR.out, hr.out]), Lib.hid (fun h => absurd h (by omega))⟩
            case measure => simp [RowKit.intOf]
      · have l1 := HST.out.l.cell 1
        go_wp2_with fail
        go_loopw [29] (fun i wr => ∃ k : Nat, i = .int .i64 k ∧ k ≤ os.length ∧ Hid (PJS w wr a1 cs.length c1 a2 os.length c2 id) ∧ Hid (P.chEs (os.drop k) = P.chEs os)) (fun i _ => os.length - (RowKit.intOf i).toNat)
        case atStart => exact ⟨0, rfl, Nat.zero_le _, HST, Lib.hid rfl⟩
        case round =>
          obtain ⟨k, rfl, hk, HQ, HR⟩ := hrel
          by_cases hlt : k < os.length
          · obtain ⟨b, off, rfl, hbm, hcc⟩ := HC2.out k hlt
            obtain ⟨c0, c1', c2', c3, c4, c5, c6, c7, c8, c9⟩ := hcc.below HQ.out.z hbm
            have HCk := Lib.hid (fun W hW => HK2.out os[k] (List.getElem_mem hlt) W hW)
            have hg := Lib.hid (fun h0 => P.chEs_good (k := k) hlt h0)
            have hb := Lib.hid (fun h0 => P.chEs_bad (k := k) hlt h0)
            have hK1 : IntKind.i64.wrap ((k : Int) + 1) = ((k + 1 : Nat) : Int) := by rw [IntKind.wrap_i64]; omega
            generalize P.chE os[k] = r at *
            generalize os[k] = c at *
            obtain ⟨kd, ⟨fp, fd, fr⟩, ⟨sk, sv⟩, ⟨vn, vp, va, vo⟩⟩ := c
            unfold chAgg chA at HCk
            simp only at c0 c1' c2' c3 c4 c5 c6 c7 c8 c9 HCk
            have HQa := Lib.hid (HQ.out.below (below_alloc wr (.cells #[.int .i64 kd, .string fp, .string fd, .bool fr, .string sk, .string sv, .string vn, .string vp, .bool va, .bool vo] 73)))
            by_cases h0 : r = 0
            · have hr := Lib.hid (hg.out h0)
              subst h0
              clear hg hb hcc
              go_wp2_with (go_at_call 43; refine (HCk.out _ (Hw.out.mono HQa.out.z)).mono ?_; rintro e w2 ⟨rfl, hb2⟩)
              go_roundw
              case rel => exact ⟨_, _, _, _, _, _, _, _, _, _, _, _, _, _, ⟨k + 1, by go_num, by omega, Lib.hid (HQa.out.below hb2), Lib.hid (hr.out.symm.trans HR.out)⟩, rfl⟩
              case measure => simp [RowKit.intOf]; omega
            · have hr := Lib.hid (hb.out h0)
              have g : (r != 0) = true := by simpa using h0
              have hR := hr3.out (E1.out (by omega)) (by rw [← HR.out, hr.out]; exact h0)
              rw [← HR.out, hr.out] at hR
              clear hg hb h0 hcc hr2 hr3 hr4 hr5
              subst hR
              go_wp2_with (go_at_call 43; refine (HCk.out _ (Hw.out.mono HQa.out.z)).mono ?_; rintro e w2 ⟨rfl, hb2⟩)
              go_ret2
              exact ⟨rfl, bstep HQa.out.z hb2⟩
          · have hr := Lib.hid (P.chEs_end (L := os) (k := k) (by omega))
            go_wp2_with fail
            go_roundw
            case rel => exact ⟨2, by go_num, by omega, HQ, Lib.hid (fun _ => E1.out (by omega)), Lib.hid (fun _ => by rw [← HR.out, hr.out])⟩
            case measure => simp [RowKit.intOf]
      · have k0 := HST.out.j.cell 0
        have k1 := HST.out.j.cell 1
        have k2 := HST.out.j.cell 2
        have e1 := E1.out (by omega)
        have e2 := E2.out (by omega)
        have HA := Lib.hid (HP1.out e1)
        have HB := Lib.hid (HP2.out e2)
        replace hr4 := Lib.hid (hr4.out e1 e2)
        replace hr5 := Lib.hid (hr5.out e1 e2)
        clear e1 e2
        unfold P.cT at HA
        unfold P.oT at HB
        have hJ : (P.jAll id.data.toList cs os).length = (P.jText id.data.toList cs os).length + 21 := by
          unfold P.jAll; simp only [List.length_append, P.sumL_len]; rfl
        have hT := congrArg List.length (P.jText_part id.data.toList cs os)
        simp only [List.length_append, P.size_len] at hT
        have hp1 : (P.chsL cs).length ≤ (P.partL P.cW cs).length := by unfold P.partL; simp only [List.length_append]; omega
        have hp2 : (P.chsL os).length ≤ (P.partL P.oW os).length := by unfold P.partL; simp only [List.length_append]; omega
        by_cases b1 : (P.chsL cs).length ≤ 4194304
        · rw [if_pos b1] at HA
          by_cases b2 : (P.chsL os).length ≤ 4194304
          · rw [if_pos b2] at HB
            have q1 : (P.partL P.cW cs).length ≤ 5000000 := by
              have := P.itoa_len cs.length HL1.out.1
              unfold P.partL; simp only [List.length_append]; have e : P.cW.length = 8 := rfl; simp only [e, List.length_cons, List.length_nil]; omega
            have q2 : (P.partL P.oW os).length ≤ 5000000 := by
              have := P.itoa_len os.length HL1.out.2
              unfold P.partL; simp only [List.length_append]; have e : P.oW.length = 4 := rfl; simp only [e, List.length_cons, List.length_nil]; omega
            have HTx : Hid ((((⟨#[106, 111, 117, 114, 110, 97, 108, 32]⟩ : ByteArray) ++ id ++ ⟨#[10]⟩) ++ P.txt (P.partL P.cW cs)) ++ P.txt (P.partL P.oW os) = P.txt (P.jText id.data.toList cs os)) := Lib.hid (by
              apply P.ba_inj
              simp only [ByteArray.data_append, Array.toList_append, P.txt_list, P.jText_part]
              rfl)
            have HAl : Hid (P.txt (P.jText id.data.toList cs os) ++ ((⟨#[115, 117, 109, 32]⟩ : ByteArray) ++ P.sumOf (P.txt (P.jText id.data.toList cs os)) ++ ⟨#[10]⟩) = P.txt (P.jAll id.data.toList cs os)) := Lib.hid (by
              apply P.ba_inj
              unfold P.jAll P.sumOf
              simp only [ByteArray.data_append, Array.toList_append, P.txt_list]
              rfl)
            have s1 : (P.txt (P.partL P.cW cs)).size ≤ 5000000 := by rw [P.txt_size]; exact q1
            have s2 : (P.txt (P.partL P.oW os)).size ≤ 5000000 := by rw [P.txt_size]; exact q2
            have s3 : (P.txt (P.jText id.data.toList cs os)).size ≤ 12000000 := by rw [P.txt_size]; have := HD.out; have e : P.jW.length = 8 := rfl; simp only [e, List.length_cons, List.length_nil] at hT; omega
            have s4 : (P.sumOf (P.txt (P.jText id.data.toList cs os))).size = 16 := by unfold P.sumOf; rw [P.txt_size, P.sumL_len]
            have s5 := P.txt_size (P.jAll id.data.toList cs os)
            have HSm := Lib.hid (fun W hW => HS.out (P.txt (P.jText id.data.toList cs os)) (by omega) W hW)
            have HA2 := Lib.hid (fun W hb => (HA.out W hb).mono (fun e w' (h : _ ∧ _) => (⟨let ⟨⟨s, h1, h2⟩, h3⟩ := h; (by rw [h2 b1] at h1; exact h1 : e = .returned (.tuple #[.string (P.txt (P.partL P.cW cs)), .int .i64 0])), h.2⟩ : e = .returned (.tuple #[.string (P.txt (P.partL P.cW cs)), .int .i64 0]) ∧ Below W.heap.size W w')))
            have HB2 := Lib.hid (fun W hb => (HB.out W hb).mono (fun e w' (h : _ ∧ _) => (⟨let ⟨⟨s, h1, h2⟩, h3⟩ := h; (by rw [h2 b2] at h1; exact h1 : e = .returned (.tuple #[.string (P.txt (P.partL P.oW os)), .int .i64 0])), h.2⟩ : e = .returned (.tuple #[.string (P.txt (P.partL P.oW os)), .int .i64 0]) ∧ Below W.heap.size W w')))
            clear HA HB hT hJ hp1 hp2 q1 q2 b1 b2
            have hfin : (65536 < (P.txt (P.jAll id.data.toList cs os)).size ∧ R = (⟨#[]⟩, 4)) ∨ ((P.txt (P.jAll id.data.toList cs os)).size ≤ 65536 ∧ R = (P.txt (P.jAll id.data.toList cs os), 0)) := by
              rw [s5]
              rcases Nat.lt_or_ge 65536 (P.jAll id.data.toList cs os).length with h | h
              · exact .inl ⟨h, hr4.out h⟩
              · exact .inr ⟨h, hr5.out (by omega)⟩
            clear hr2 hr3 hr4 hr5 s5
            have e1 := HTx.out
            have e2 := HAl.out
            generalize P.sumOf (P.txt (P.jText id.data.toList cs os)) = S at *
            generalize P.txt (P.jText id.data.toList cs os) = X at *
            generalize P.txt (P.jAll id.data.toList cs os) = Y at *
            generalize P.txt (P.partL P.cW cs) = C at *
            generalize P.txt (P.partL P.oW os) = O at *
            clear HTx HAl
            have HX := Lib.hid e1
            rcases hfin with ⟨g, hR⟩ | ⟨g, hR⟩
            · have g1 : decide ((65536 : Int) < (Y.size : Int)) = true := decide_eq_true (by omega)
              subst hR
              go_wp2_with (first
                | (go_at_call_of 167 (Value.string ⟨#[99, 104, 97, 110, 103, 101, 115, 32]⟩); refine (HA2.out _ HST.out.z).mono ?_; rintro e w2 ⟨rfl, hb2⟩; have HS2 := Lib.hid (HST.out.below hb2); have m0 := HS2.out.j.cell 0; have m2 := HS2.out.j.cell 2; clear hb2)
                | (go_at_call_of 167 (Value.string ⟨#[111, 108, 100, 32]⟩); refine (HB2.out _ HS2.out.z).mono ?_; rintro e w3 ⟨rfl, hb3⟩; have HS3 := Lib.hid (HS2.out.below hb3); have n0 := HS3.out.j.cell 0; clear hb3)
                | (go_at_call 51; refine (HSm.out _ (Hw.out.mono HS3.out.z)).mono ?_; rintro e w4 ⟨rfl, hb4⟩; have HS4 := Lib.hid (HS3.out.below hb4); clear hb4))
              go_ret2
              exact ⟨rfl, HS4.out.z⟩
            · have g1 : decide ((65536 : Int) < (Y.size : Int)) = false := decide_eq_false (by omega)
              subst hR
              go_wp2_with (first
                | (go_at_call_of 167 (Value.string ⟨#[99, 104, 97, 110, 103, 101, 115, 32]⟩); refine (HA2.out _ HST.out.z).mono ?_; rintro e w2 ⟨rfl, hb2⟩; have HS2 := Lib.hid (HST.out.below hb2); have m0 := HS2.out.j.cell 0; have m2 := HS2.out.j.cell 2; clear hb2)
                | (go_at_call_of 167 (Value.string ⟨#[111, 108, 100, 32]⟩); refine (HB2.out _ HS2.out.z).mono ?_; rintro e w3 ⟨rfl, hb3⟩; have HS3 := Lib.hid (HS2.out.below hb3); have n0 := HS3.out.j.cell 0; clear hb3)
                | (go_at_call 51; refine (HSm.out _ (Hw.out.mono HS3.out.z)).mono ?_; rintro e w4 ⟨rfl, hb4⟩; have HS4 := Lib.hid (HS3.out.below hb4); clear hb4))
              go_ret2
              exact ⟨rfl, HS4.out.z⟩
          · rw [if_neg b2] at HB
            have hR := hr4.out (by omega)
            subst hR
            clear hT hJ hp1 hp2 b1 b2 hr2 hr3 hr4 hr5
            go_wp2_with (first
              | (go_at_call_of 167 (Value.string ⟨#[99, 104, 97, 110, 103, 101, 115, 32]⟩); refine (HA.out _ HST.out.z).mono ?_; rintro e w2 ⟨⟨s, rfl, _⟩, hb2⟩; have HS2 := Lib.hid (HST.out.below hb2); have m0 := HS2.out.j.cell 0; have m2 := HS2.out.j.cell 2; clear hb2)
              | (go_at_call_of 167 (Value.string ⟨#[111, 108, 100, 32]⟩); refine (HB.out _ HS2.out.z).mono ?_; rintro e w3 ⟨⟨s', rfl, _⟩, hb3⟩; have HS3 := Lib.hid (HS2.out.below hb3); clear hb3))
            go_ret2
            exact ⟨rfl, HS3.out.z⟩
        · rw [if_neg b1] at HA
          have hR := hr4.out (by omega)
          subst hR
          clear hT hJ hp1 hp2 b1 hr2 hr3 hr4 hr5
          go_wp2_with (go_at_call_of 167 (Value.string ⟨#[99, 104, 97, 110, 103, 101, 115, 32]⟩); refine (HA.out _ HST.out.z).mono ?_; rintro e w2 ⟨⟨s, rfl, _⟩, hb2⟩; have HS2 := Lib.hid (HST.out.below hb2); clear hb2)
          go_ret2
          exact ⟨rfl, HS2.out.z⟩
end Go.Proofs.YtomikcemiacjmaaGreatDoor
