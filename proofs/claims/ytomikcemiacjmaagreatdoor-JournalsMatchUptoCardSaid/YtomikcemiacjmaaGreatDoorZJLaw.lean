/- Walks: the law JournalsMatch. -/
import Derived.Test.YtomikcemiacjmaaGreatDoorZJRParse
import Derived.Test.YtomikcemiacjmaaGreatDoorZJFrame
import Derived.Test.YtomikcemiacjmaaGreatDoorZJPure
import Derived.Test.YtomikcemiacjmaaGreatDoorZMNames

namespace Go.Proofs.YtomikcemiacjmaaGreatDoor
open Go.RowKit Go.Lib Go.Shelf Go.Maps

theorem nameJ_a : P.nameS ⟨#[97]⟩ = true := by decide +kernel
theorem landedJ_any (w : World) : Calls Tryz.prog 13 #[] w fun e w' => e = .returned (.bool true) ∧ w = w' := by
  have H := fun W => isName_any ⟨#[97]⟩ (by decide) W
  rw [nameJ_a] at H
  replace H := Lib.hid H
  go_enter Tryz.func13, Tryz.ntmps13
  go_wp2_with (go_at_call 85; refine (H.out _).mono ?_; rintro e w' ⟨rfl, rfl⟩)
  go_ret
  exact ⟨rfl, rfl⟩
theorem ChsAt.go {w w' : World} {a : Option Addr} {L : List P.Chg} {c : Nat} (h : ChsAt w.heap.size w a L c) (hb : Below w.heap.size w w') : ChsAt w'.heap.size w' a L c := (h.below hb).up hb.size
theorem ChsAt.set3 {W : World} {a : Option Addr} {L : List P.Chg} {c n k : Nat} (h : ChsAt W.heap.size W a L c) (hg : ∀ g, (Value.slice a L.length c).ownBlock = some g → n ≤ g) (hk : k < n) (x y z : Value) :
    ChsAt (((W.setCell ⟨k, 0, none⟩ x).setCell ⟨k, 1, none⟩ y).setCell ⟨k, 2, none⟩ z).heap.size (((W.setCell ⟨k, 0, none⟩ x).setCell ⟨k, 1, none⟩ y).setCell ⟨k, 2, none⟩ z) a L c :=
  h.gb ((((Gb.refl k W).set 0 x).set 1 y).set 2 z) (fun _ g e => by have := hg g e; omega)
namespace P
theorem readJ_len {t : ByteArray} {id : B} {cs os : List Chg} {sm : B} (h : readJ t = some (id, cs, os, sm)) : cs.length ≤ t.size + 1 ∧ os.length ≤ t.size + 1 := by
  by_cases ht : torn t = -1
  · have hl := lns_le t
    rw [readJ_eq ht] at h
    obtain ⟨⟨i, l1⟩, h1, h⟩ := Option.bind_eq_some_iff.1 h
    obtain ⟨⟨c, l2⟩, h2, h⟩ := Option.bind_eq_some_iff.1 h
    obtain ⟨⟨o, l3⟩, h3, h⟩ := Option.bind_eq_some_iff.1 h
    obtain ⟨⟨s, l4⟩, h4, h⟩ := Option.bind_eq_some_iff.1 h
    have e1 := (sBehind_text h1).2
    have e2 := sPart_len h2
    have e3 := sPart_len h3
    simp only at e2 e3 h
    split at h
    · obtain ⟨_, rfl, rfl, _⟩ : i = id ∧ c = cs ∧ o = os ∧ s = sm := by simpa using h
      omega
    · cases h
  · rw [readJ_torn ht] at h; cases h
theorem parseJ_len (t : ByteArray) (ht : t.size ≤ 1048576) : (parseJ t).1.2.1.length ≤ 4000000000 ∧ (parseJ t).1.2.2.length ≤ 4000000000 := by
  have z : jz.2.1.length ≤ 4000000000 ∧ jz.2.2.length ≤ 4000000000 := ⟨Nat.zero_le _, Nat.zero_le _⟩
  unfold parseJ
  split
  · exact z
  · rename_i x hx
    obtain ⟨id, cs, os, sm⟩ := x
    have := readJ_len hx
    show (judgeJ t id cs os sm).1.2.1.length ≤ _ ∧ (judgeJ t id cs os sm).1.2.2.length ≤ _
    unfold judgeJ
    split
    · exact z
    · split
      · exact z
      · split
        · exact z
        · split
          · exact z
          · split
            · exact z
            · split
              · exact z
              · exact ⟨by simp only; omega, by simp only; omega⟩
end P

set_option maxRecDepth 100000 in
set_option maxHeartbeats 8000000 in
theorem law_jbad (id : ByteArray) (hid : id.size ≤ 1048576) (cs : List P.Chg) (a1 : Option Addr) (c1 : Nat) (os : List P.Chg) (a2 : Option Addr) (c2 : Nat) (n1 : cs.length ≤ 1048576) (n2 : os.length ≤ 1048576)
    (s1 : ∀ c ∈ cs, P.CSm 4294967280 c) (s2 : ∀ c ∈ os, P.CSm 4294967280 c) (at' : Int) (ha1 : IntKind.i64.min ≤ at') (ha2 : at' ≤ IntKind.i64.max) (by' : Int) (hb1 : IntKind.u8.min ≤ by') (hb2 : by' ≤ IntKind.u8.max)
    (raw : ByteArray) (hraw : raw.size ≤ 1048576) (w : World) (hw : JW w) (h1 : ChsAt w.heap.size w a1 cs c1) (h2 : ChsAt w.heap.size w a2 os c2) (hne : (P.printJ id cs os).2 ≠ 0) :
    Calls Tryz.prog 12 #[.agg #[.string id, .slice a1 cs.length c1, .slice a2 os.length c2], .int .i64 at', .int .u8 by', .string raw] w fun e w' => e = .returned (.bool true) ∧ Below w.heap.size w w' := by
  have HL0 := Lib.hid landedJ_any
  have Z0 := Lib.hid (below_alloc w (.cells #[.string id, .slice a1 cs.length c1, .slice a2 os.length c2] 106))
  have J0 := Lib.hid (HasRow.new w #[.string id, .slice a1 cs.length c1, .slice a2 os.length c2] 106)
  have HPD := Lib.hid (fun W (hb : Below w.heap.size w W) => dprintJ_any id hid cs a1 c1 os a2 c2 (by omega) (by omega) s1 s2 W (hw.mono hb) (h1.go hb) (h2.go hb))
  have HPR := Lib.hid (fun W (hb : Below w.heap.size w W) => rprintJ_any id hid cs a1 c1 os a2 c2 (by omega) (by omega) s1 s2 W (hw.mono hb) (h1.go hb) (h2.go hb))
  have HRd := Lib.hid (fun W (hb : Below w.heap.size w W) => dparseJ_any raw hraw W (hw.mono hb))
  have HRr := Lib.hid (fun W (hb : Below w.heap.size w W) => rparseJ_any raw hraw W (hw.mono hb))
  have hrl := P.parseJ_len raw hraw
  obtain ⟨⟨⟨ri, rcs, ros⟩, rx⟩, hrr⟩ : ∃ r, P.parseJ raw = r := ⟨_, rfl⟩
  rw [hrr] at HRd HRr hrl
  unfold PJ at HRd HRr
  simp only at HRd HRr hrl
  have HSr := Lib.hid (fun b1 d1 b2 d2 e1 f1 e2 f2 W h1 h2 g1 g2 => same_any ri rcs ros hrl.1 hrl.2 b1 d1 b2 d2 e1 f1 e2 f2 W h1 h2 g1 g2)
  clear hrr hrl
  obtain ⟨p, x, hp⟩ : ∃ p x, P.printJ id cs os = (p, x) := ⟨_, _, rfl⟩
  rw [hp] at HPD HPR hne
  simp only at HPD HPR hne
  have g : (x == 0) = false := by simpa using hne
  have hpp : (p.toList == p.toList) = true := by simp
  clear hne hp hw h1 h2 s1 s2
  go_enter Tryz.func12, Tryz.ntmps12
  go_wp2_with (first
    | (go_at_call 13; refine (HL0.out _).mono ?_; rintro e w0 ⟨rfl, rfl⟩)
    | (go_at_call 80; refine (HPD.out _ Z0.out).mono ?_; rintro e w1 ⟨rfl, hb1'⟩; have HB1 := Lib.hid (bstep Z0.out hb1'); have J1 := Lib.hid (J0.out.below hb1'); have k0 := J1.out.cell 0; have k1 := J1.out.cell 1; have k2 := J1.out.cell 2; clear hb1')
    | (go_at_call 81; refine (HPR.out _ HB1.out).mono ?_; rintro e w2 ⟨rfl, hb2'⟩; have HB2 := Lib.hid (bstep HB1.out hb2'); have J2 := Lib.hid (J1.out.below hb2'); clear hb2')
    | (go_at_call_of 82 (Value.string raw); refine (HRd.out _ HB2.out).mono ?_; rintro e wp ⟨ra1, rc1, ra2, rc2, rfl, hA1, hA2, hbp, _, _⟩; have HBp := Lib.hid (bstep (bstep (HB2.out) hbp) (below_alloc wp (.cells #[.string ri, .slice ra1 rcs.length rc1, .slice ra2 ros.length rc2] 106))); have HKp := Lib.hid (HasRow.new wp #[.string ri, .slice ra1 rcs.length rc1, .slice ra2 ros.length rc2] 106); have HA1 := Lib.hid (hA1.go (below_alloc wp (.cells #[.string ri, .slice ra1 rcs.length rc1, .slice ra2 ros.length rc2] 106))); have HA2 := Lib.hid (hA2.go (below_alloc wp (.cells #[.string ri, .slice ra1 rcs.length rc1, .slice ra2 ros.length rc2] 106))); clear hA1 hA2 hbp)
    | (go_at_call_of 84 (Value.string raw); refine (HRr.out _ HBp.out).mono ?_; rintro e wq ⟨sa1, sc1, sa2, sc2, rfl, hS1, hS2, hbq, _, _⟩; have HKq := Lib.hid ((HKp.out.below hbq).alloc (.cells #[.string ri, .slice sa1 rcs.length sc1, .slice sa2 ros.length sc2] 106)); have HBq := Lib.hid (bstep (bstep HBp.out hbq) (below_alloc wq (.cells #[.string ri, .slice sa1 rcs.length sc1, .slice sa2 ros.length sc2] 106))); have HA1q := Lib.hid ((HA1.out.go hbq).go (below_alloc wq (.cells #[.string ri, .slice sa1 rcs.length sc1, .slice sa2 ros.length sc2] 106))); have HA2q := Lib.hid ((HA2.out.go hbq).go (below_alloc wq (.cells #[.string ri, .slice sa1 rcs.length sc1, .slice sa2 ros.length sc2] 106))); have HS1 := Lib.hid (hS1.go (below_alloc wq (.cells #[.string ri, .slice sa1 rcs.length sc1, .slice sa2 ros.length sc2] 106))); have HS2 := Lib.hid (hS2.go (below_alloc wq (.cells #[.string ri, .slice sa1 rcs.length sc1, .slice sa2 ros.length sc2] 106))); have m0 := HKq.out.cell 0; have m1 := HKq.out.cell 1; have m2 := HKq.out.cell 2; clear hS1 hS2 hbq)
    | (go_at_call_of 83 (Value.agg #[.string ri, .slice ra1 rcs.length rc1, .slice ra2 ros.length rc2]); refine (HSr.out _ _ _ _ _ _ _ _ _ HA1q.out HA2q.out HS1.out HS2.out).mono ?_; rintro e wz ⟨rfl, hbz⟩; have HBz := Lib.hid (bstep HBq.out hbz)))
  go_ret
  exact ⟨rfl, HBz.out⟩

set_option maxRecDepth 100000 in
set_option maxHeartbeats 16000000 in
theorem law_jgood (id : ByteArray) (hid : id.size ≤ 1048576) (cs : List P.Chg) (a1 : Option Addr) (c1 : Nat) (os : List P.Chg) (a2 : Option Addr) (c2 : Nat) (n1 : cs.length ≤ 1048576) (n2 : os.length ≤ 1048576)
    (s1 : ∀ c ∈ cs, P.CSm 4294967280 c) (s2 : ∀ c ∈ os, P.CSm 4294967280 c) (at' : Int) (ha1 : IntKind.i64.min ≤ at') (ha2 : at' ≤ IntKind.i64.max) (by' : Int) (hb1 : IntKind.u8.min ≤ by') (hb2 : by' ≤ IntKind.u8.max)
    (raw : ByteArray) (hraw : raw.size ≤ 1048576) (w : World) (hw : JW w) (h1 : ChsAt w.heap.size w a1 cs c1) (h2 : ChsAt w.heap.size w a2 os c2) (hze : (P.printJ id cs os).2 = 0) :
    Calls Tryz.prog 12 #[.agg #[.string id, .slice a1 cs.length c1, .slice a2 os.length c2], .int .i64 at', .int .u8 by', .string raw] w fun e w' => e = .returned (.bool true) ∧ Below w.heap.size w w' := by
  have HL0 := Lib.hid landedJ_any
  have Z0 := Lib.hid (below_alloc w (.cells #[.string id, .slice a1 cs.length c1, .slice a2 os.length c2] 106))
  have J0 := Lib.hid (HasRow.new w #[.string id, .slice a1 cs.length c1, .slice a2 os.length c2] 106)
  have HPD := Lib.hid (fun W (hb : Below w.heap.size w W) => dprintJ_any id hid cs a1 c1 os a2 c2 (by omega) (by omega) s1 s2 W (hw.mono hb) (h1.go hb) (h2.go hb))
  have HPR := Lib.hid (fun W (hb : Below w.heap.size w W) => rprintJ_any id hid cs a1 c1 os a2 c2 (by omega) (by omega) s1 s2 W (hw.mono hb) (h1.go hb) (h2.go hb))
  have HRd := Lib.hid (fun W (hb : Below w.heap.size w W) => dparseJ_any raw hraw W (hw.mono hb))
  have HRr := Lib.hid (fun W (hb : Below w.heap.size w W) => rparseJ_any raw hraw W (hw.mono hb))
  have hrl := P.parseJ_len raw hraw
  obtain ⟨⟨⟨ri, rcs, ros⟩, rx⟩, hrr⟩ : ∃ r, P.parseJ raw = r := ⟨_, rfl⟩
  rw [hrr] at HRd HRr hrl
  unfold PJ at HRd HRr
  simp only at HRd HRr hrl
  have HSr := Lib.hid (fun b1 d1 b2 d2 e1 f1 e2 f2 W h1 h2 g1 g2 => same_any ri rcs ros hrl.1 hrl.2 b1 d1 b2 d2 e1 f1 e2 f2 W h1 h2 g1 g2)
  clear hrr hrl
  obtain ⟨s, x, hp⟩ : ∃ p x, P.printJ id cs os = (p, x) := ⟨_, _, rfl⟩
  rw [hp] at HPD HPR hze
  simp only at HPD HPR hze
  subst hze
  have hpp : (s.toList == s.toList) = true := by simp
  have hlen := P.print_len hp
  have HPs := Lib.hid (fun W (hb : Below w.heap.size w W) => dparseJ_any s (by omega) W (hw.mono hb))
  rw [P.parse_print hp (by omega) (by omega)] at HPs
  unfold PJ at HPs
  simp only at HPs
  have HSj := Lib.hid (fun b1 d1 b2 d2 W h1 h2 g1 g2 => same_any id cs os (by omega) (by omega) a1 c1 a2 c2 b1 d1 b2 d2 W h1 h2 g1 g2)
  have HCA := Lib.hid (fun W (hb : Below w.heap.size w W) => h1.go hb)
  have HCB := Lib.hid (fun W (hb : Below w.heap.size w W) => h2.go hb)
  -- the byte that is changed
  have e63 : IntKind.i64.min = -9223372036854775808 := rfl
  have e64 : IntKind.i64.max = 9223372036854775807 := rfl
  have e8 : IntKind.u8.min = 0 := rfl
  have e9 : IntKind.u8.max = 255 := rfl
  rw [e63] at ha1
  rw [e64] at ha2
  rw [e8] at hb1
  rw [e9] at hb2
  obtain ⟨bu, hbu⟩ : ∃ bu : UInt8, by' = (bu.toNat : Int) := ⟨UInt8.ofNat by'.toNat, by rw [UInt8.toNat_ofNat', Nat.mod_eq_of_lt (by omega)]; omega⟩
  subst hbu
  obtain ⟨r1, hr1⟩ : ∃ r1, Int.tmod at' (s.size : Int) = r1 := ⟨_, rfl⟩
  have hn0 : (0 : Int) < (s.size : Int) := by omega
  have hr1a : -(s.size : Int) < r1 ∧ r1 < (s.size : Int) := by
    rw [← hr1]
    have h1 := Int.tmod_lt_of_pos at' hn0
    have h2 := Int.neg_tmod at' (s.size : Int)
    have h3 := Int.tmod_lt_of_pos (-at') hn0
    omega
  obtain ⟨r2, hr2⟩ : ∃ r2 : Int, r1 + (s.size : Int) = r2 := ⟨_, rfl⟩
  obtain ⟨i, hi⟩ : ∃ i : Nat, Int.tmod r2 (s.size : Int) = (i : Int) := ⟨(Int.tmod r2 (s.size : Int)).toNat, by
    rw [Int.toNat_of_nonneg (Int.tmod_nonneg _ (by omega))]⟩
  have hil : i < s.data.toList.length := by
    rw [P.size_len]
    have := Int.tmod_lt_of_pos r2 hn0
    omega
  go_enter Tryz.func12, Tryz.ntmps12
  go_wp2_with (first
    | (go_at_call 13; refine (HL0.out _).mono ?_; rintro e w0 ⟨rfl, rfl⟩)
    | (go_at_call 80; refine (HPD.out _ Z0.out).mono ?_; rintro e w1 ⟨rfl, hb1'⟩; have HB1 := Lib.hid (bstep Z0.out hb1'); have J1 := Lib.hid (J0.out.below hb1'); have k0 := J1.out.cell 0; have k1 := J1.out.cell 1; have k2 := J1.out.cell 2; clear hb1')
    | (go_at_call 81; refine (HPR.out _ HB1.out).mono ?_; rintro e w2 ⟨rfl, hb2'⟩; have HB2 := Lib.hid (bstep HB1.out hb2'); have J2 := Lib.hid (J1.out.below hb2'); clear hb2')
    | (go_at_call_of 82 (Value.string s); refine (HPs.out _ HB2.out).mono ?_; rintro e w3 ⟨b1, d1, b2, d2, rfl, hK1, hK2, hb3, _, _⟩; have HKm : Hid (w.heap.size ≤ w3.heap.size) := Lib.hid (bstep HB2.out hb3).size; have HB3 := Lib.hid (bstep (bstep HB2.out hb3) (below_alloc w3 (.cells #[.string id, .slice b1 cs.length d1, .slice b2 os.length d2] 106))); have J3 := Lib.hid ((J2.out.below hb3).alloc (.cells #[.string id, .slice b1 cs.length d1, .slice b2 os.length d2] 106)); have K3 := Lib.hid (HasRow.new w3 #[.string id, .slice b1 cs.length d1, .slice b2 os.length d2] 106); have HK1 := Lib.hid (hK1.go (below_alloc w3 (.cells #[.string id, .slice b1 cs.length d1, .slice b2 os.length d2] 106))); have HK2 := Lib.hid (hK2.go (below_alloc w3 (.cells #[.string id, .slice b1 cs.length d1, .slice b2 os.length d2] 106))); have t0 := J3.out.cell 0; have t1 := J3.out.cell 1; have t2 := J3.out.cell 2; clear hK1 hK2 hb3)
    | (go_at_call_of 83 (Value.agg #[.string id, .slice a1 cs.length c1, .slice a2 os.length c2]); refine (HSj.out _ _ _ _ _ (HCA.out _ HB3.out) (HCB.out _ HB3.out) HK1.out HK2.out).mono ?_; rintro e w5 ⟨rfl, hb5⟩; have HB5 := Lib.hid (bstep HB3.out hb5); have K5 := Lib.hid (K3.out.below hb5); clear hb5))
  rw [conv_to]
  have HB6 := Lib.hid (bstep HB5.out (bytes_below w5 s))
  have K6 := Lib.hid (K5.out.below (bytes_below w5 s))
  have HBR := Lib.hid (BR.new w5 s)
  have y0 := HBR.out.cell i hil
  have y1 := HBR.out.free i hil
  generalize grownCap w5 s.size 0 5 = cap at *
  go_wp2_with fail
  rw [xor8]
  have hset := HBR.out.set i hil (s.data[i] ^^^ bu)
  rw [conv_back hset s.size cap (by rw [List.length_set, P.size_len])]
  have HB7 := Lib.hid (HB6.out.setCell (p := ⟨w5.heap.size, i, none⟩) HB5.out.size (.int .u8 ((s.data[i] ^^^ bu).toNat : Int)))
  have K7 := Lib.hid (K6.out.other i (.int .u8 ((s.data[i] ^^^ bu).toNat : Int)) (Nat.ne_of_lt K5.out.lt))
  have hrs : (P.txt (s.data.toList.set i (s.data[i] ^^^ bu))).size ≤ 1048576 := by rw [P.txt_size, List.length_set, P.size_len]; omega
  have hch : bu ≠ 0 → (P.parseJ (P.txt (s.data.toList.set i (s.data[i] ^^^ bu)))).2 ≠ 0 := fun hb => P.changed_set hp i hil _ (by
    have e : s.data.toList[i] = s.data[i] := Array.getElem_toList _
    rw [e]; exact P.xor_ne hb)
  have HP4 := Lib.hid (fun W (hb : Below w.heap.size w W) => dparseJ_any (P.txt (s.data.toList.set i (s.data[i] ^^^ bu))) hrs W (hw.mono hb))
  have HP5 := Lib.hid (fun W (hb : Below w.heap.size w W) => rparseJ_any (P.txt (s.data.toList.set i (s.data[i] ^^^ bu))) hrs W (hw.mono hb))
  have hql := P.parseJ_len (P.txt (s.data.toList.set i (s.data[i] ^^^ bu))) hrs
  obtain ⟨⟨⟨qi, qc, qo⟩, qx⟩, hq⟩ : ∃ r, P.parseJ (P.txt (s.data.toList.set i (s.data[i] ^^^ bu))) = r := ⟨_, rfl⟩
  rw [hq] at HP4 HP5 hql hch
  unfold PJ at HP4 HP5
  simp only at HP4 HP5 hql hch
  have HSq := Lib.hid (fun b1 d1 b2 d2 e1 f1 e2 f2 W h1 h2 g1 g2 => same_any qi qc qo hql.1 hql.2 b1 d1 b2 d2 e1 f1 e2 f2 W h1 h2 g1 g2)
  clear hq hql hrs hset y0 y1
  have h3b : w3.heap.size < w5.heap.size := K5.out.lt
  have hwk : w.heap.size ≤ w3.heap.size := HKm.out
  generalize (Lib.bytesWorld w5 5 s).setCell ⟨w5.heap.size, i, none⟩ (.int .u8 ((s.data[i] ^^^ bu).toNat : Int)) = w7 at *
  generalize P.txt (s.data.toList.set i (s.data[i] ^^^ bu)) = rt at *
  clear hr1a hn0 HBR HB6 K6 hlen hp
  have Hwk := Lib.hid hwk
  clear hwk h3b
  by_cases hbz : bu = 0
  · subst hbz
    have z0 : (((0 : UInt8).toNat : Int) != 0) = false := rfl
    clear hch
    go_wp2_with (first
      | (go_at_call_of 82 (Value.string rt); refine (HP4.out _ HB7.out).mono ?_; rintro e w8 ⟨e1, f1, e2, f2, rfl, hE1, hE2, hb8, hG1, hG2⟩; have HB8 := Lib.hid (bstep HB7.out hb8); have K8 := Lib.hid (K7.out.below hb8); have x0 := K8.out.cell 0; have x1 := K8.out.cell 1; have x2 := K8.out.cell 2; have xf0 := K8.out.free 0; have xf1 := K8.out.free 1; have xf2 := K8.out.free 2; have S9 := Lib.hid (jstore3 K8.out HB8.out Hwk.out (.string qi) (.slice e1 qc.length f1) (.slice e2 qo.length f2)); have HE1 := Lib.hid (hE1.set3 hG1 K7.out.lt (.string qi) (.slice e1 qc.length f1) (.slice e2 qo.length f2)); have HE2 := Lib.hid (hE2.set3 hG2 K7.out.lt (.string qi) (.slice e1 qc.length f1) (.slice e2 qo.length f2)); clear hE1 hE2 hG1 hG2 hb8)
      | (go_at_call_of 84 (Value.string rt); refine (HP5.out _ S9.out.2).mono ?_; rintro e wA ⟨u1, v1, u2, v2, rfl, hU1, hU2, hbA, _, _⟩; have HBA := Lib.hid (bstep (bstep S9.out.2 hbA) (below_alloc wA (.cells #[.string qi, .slice u1 qc.length v1, .slice u2 qo.length v2] 106))); have KA := Lib.hid ((S9.out.1.below hbA).alloc (.cells #[.string qi, .slice u1 qc.length v1, .slice u2 qo.length v2] 106)); have HE1A := Lib.hid ((HE1.out.go hbA).go (below_alloc wA (.cells #[.string qi, .slice u1 qc.length v1, .slice u2 qo.length v2] 106))); have HE2A := Lib.hid ((HE2.out.go hbA).go (below_alloc wA (.cells #[.string qi, .slice u1 qc.length v1, .slice u2 qo.length v2] 106))); have HU1 := Lib.hid (hU1.go (below_alloc wA (.cells #[.string qi, .slice u1 qc.length v1, .slice u2 qo.length v2] 106))); have HU2 := Lib.hid (hU2.go (below_alloc wA (.cells #[.string qi, .slice u1 qc.length v1, .slice u2 qo.length v2] 106))); have v0 := KA.out.cell 0; have v1' := KA.out.cell 1; have v2' := KA.out.cell 2; clear hU1 hU2 hbA)
      | (go_at_call_of 83 (Value.agg #[.string qi, .slice e1 qc.length f1, .slice e2 qo.length f2]); refine (HSq.out _ _ _ _ _ _ _ _ _ HE1A.out HE2A.out HU1.out HU2.out).mono ?_; rintro e wC ⟨rfl, hbC⟩; have HBC := Lib.hid (bstep HBA.out hbC))
      | (go_at_call_of 82 (Value.string raw); refine (HRd.out _ HBC.out).mono ?_; rintro e wp ⟨ra1, rc1, ra2, rc2, rfl, hA1, hA2, hbp, _, _⟩; have HBp := Lib.hid (bstep (bstep (HBC.out) hbp) (below_alloc wp (.cells #[.string ri, .slice ra1 rcs.length rc1, .slice ra2 ros.length rc2] 106))); have HKp := Lib.hid (HasRow.new wp #[.string ri, .slice ra1 rcs.length rc1, .slice ra2 ros.length rc2] 106); have HA1 := Lib.hid (hA1.go (below_alloc wp (.cells #[.string ri, .slice ra1 rcs.length rc1, .slice ra2 ros.length rc2] 106))); have HA2 := Lib.hid (hA2.go (below_alloc wp (.cells #[.string ri, .slice ra1 rcs.length rc1, .slice ra2 ros.length rc2] 106))); clear hA1 hA2 hbp)
      | (go_at_call_of 84 (Value.string raw); refine (HRr.out _ HBp.out).mono ?_; rintro e wq ⟨sa1, sc1, sa2, sc2, rfl, hS1, hS2, hbq, _, _⟩; have HKq := Lib.hid ((HKp.out.below hbq).alloc (.cells #[.string ri, .slice sa1 rcs.length sc1, .slice sa2 ros.length sc2] 106)); have HBq := Lib.hid (bstep (bstep HBp.out hbq) (below_alloc wq (.cells #[.string ri, .slice sa1 rcs.length sc1, .slice sa2 ros.length sc2] 106))); have HA1q := Lib.hid ((HA1.out.go hbq).go (below_alloc wq (.cells #[.string ri, .slice sa1 rcs.length sc1, .slice sa2 ros.length sc2] 106))); have HA2q := Lib.hid ((HA2.out.go hbq).go (below_alloc wq (.cells #[.string ri, .slice sa1 rcs.length sc1, .slice sa2 ros.length sc2] 106))); have HS1 := Lib.hid (hS1.go (below_alloc wq (.cells #[.string ri, .slice sa1 rcs.length sc1, .slice sa2 ros.length sc2] 106))); have HS2 := Lib.hid (hS2.go (below_alloc wq (.cells #[.string ri, .slice sa1 rcs.length sc1, .slice sa2 ros.length sc2] 106))); have m0 := HKq.out.cell 0; have m1 := HKq.out.cell 1; have m2 := HKq.out.cell 2; clear hS1 hS2 hbq)
      | (go_at_call_of 83 (Value.agg #[.string ri, .slice ra1 rcs.length rc1, .slice ra2 ros.length rc2]); refine (HSr.out _ _ _ _ _ _ _ _ _ HA1q.out HA2q.out HS1.out HS2.out).mono ?_; rintro e wz ⟨rfl, hbz⟩; have HBz := Lib.hid (bstep HBq.out hbz)))
    go_ret
    exact ⟨rfl, HBz.out⟩
  · have hqx := hch hbz
    have gq : (qx == 0) = false := by simpa using hqx
    have z0 : ((bu.toNat : Int) != 0) = true := by
      rw [bne_iff_ne]
      intro e
      apply hbz
      apply UInt8.toNat_inj.1
      show bu.toNat = 0
      omega
    clear hch hqx
    go_wp2_with (first
      | (go_at_call_of 82 (Value.string rt); refine (HP4.out _ HB7.out).mono ?_; rintro e w8 ⟨e1, f1, e2, f2, rfl, hE1, hE2, hb8, hG1, hG2⟩; have HB8 := Lib.hid (bstep HB7.out hb8); have K8 := Lib.hid (K7.out.below hb8); have x0 := K8.out.cell 0; have x1 := K8.out.cell 1; have x2 := K8.out.cell 2; have xf0 := K8.out.free 0; have xf1 := K8.out.free 1; have xf2 := K8.out.free 2; have S9 := Lib.hid (jstore3 K8.out HB8.out Hwk.out (.string qi) (.slice e1 qc.length f1) (.slice e2 qo.length f2)); have HE1 := Lib.hid (hE1.set3 hG1 K7.out.lt (.string qi) (.slice e1 qc.length f1) (.slice e2 qo.length f2)); have HE2 := Lib.hid (hE2.set3 hG2 K7.out.lt (.string qi) (.slice e1 qc.length f1) (.slice e2 qo.length f2)); clear hE1 hE2 hG1 hG2 hb8)
      | (go_at_call_of 84 (Value.string rt); refine (HP5.out _ S9.out.2).mono ?_; rintro e wA ⟨u1, v1, u2, v2, rfl, hU1, hU2, hbA, _, _⟩; have HBA := Lib.hid (bstep (bstep S9.out.2 hbA) (below_alloc wA (.cells #[.string qi, .slice u1 qc.length v1, .slice u2 qo.length v2] 106))); have KA := Lib.hid ((S9.out.1.below hbA).alloc (.cells #[.string qi, .slice u1 qc.length v1, .slice u2 qo.length v2] 106)); have HE1A := Lib.hid ((HE1.out.go hbA).go (below_alloc wA (.cells #[.string qi, .slice u1 qc.length v1, .slice u2 qo.length v2] 106))); have HE2A := Lib.hid ((HE2.out.go hbA).go (below_alloc wA (.cells #[.string qi, .slice u1 qc.length v1, .slice u2 qo.length v2] 106))); have HU1 := Lib.hid (hU1.go (below_alloc wA (.cells #[.string qi, .slice u1 qc.length v1, .slice u2 qo.length v2] 106))); have HU2 := Lib.hid (hU2.go (below_alloc wA (.cells #[.string qi, .slice u1 qc.length v1, .slice u2 qo.length v2] 106))); have v0 := KA.out.cell 0; have v1' := KA.out.cell 1; have v2' := KA.out.cell 2; clear hU1 hU2 hbA)
      | (go_at_call_of 83 (Value.agg #[.string qi, .slice e1 qc.length f1, .slice e2 qo.length f2]); refine (HSq.out _ _ _ _ _ _ _ _ _ HE1A.out HE2A.out HU1.out HU2.out).mono ?_; rintro e wC ⟨rfl, hbC⟩; have HBC := Lib.hid (bstep HBA.out hbC))
      | (go_at_call_of 82 (Value.string raw); refine (HRd.out _ HBC.out).mono ?_; rintro e wp ⟨ra1, rc1, ra2, rc2, rfl, hA1, hA2, hbp, _, _⟩; have HBp := Lib.hid (bstep (bstep (HBC.out) hbp) (below_alloc wp (.cells #[.string ri, .slice ra1 rcs.length rc1, .slice ra2 ros.length rc2] 106))); have HKp := Lib.hid (HasRow.new wp #[.string ri, .slice ra1 rcs.length rc1, .slice ra2 ros.length rc2] 106); have HA1 := Lib.hid (hA1.go (below_alloc wp (.cells #[.string ri, .slice ra1 rcs.length rc1, .slice ra2 ros.length rc2] 106))); have HA2 := Lib.hid (hA2.go (below_alloc wp (.cells #[.string ri, .slice ra1 rcs.length rc1, .slice ra2 ros.length rc2] 106))); clear hA1 hA2 hbp)
      | (go_at_call_of 84 (Value.string raw); refine (HRr.out _ HBp.out).mono ?_; rintro e wq ⟨sa1, sc1, sa2, sc2, rfl, hS1, hS2, hbq, _, _⟩; have HKq := Lib.hid ((HKp.out.below hbq).alloc (.cells #[.string ri, .slice sa1 rcs.length sc1, .slice sa2 ros.length sc2] 106)); have HBq := Lib.hid (bstep (bstep HBp.out hbq) (below_alloc wq (.cells #[.string ri, .slice sa1 rcs.length sc1, .slice sa2 ros.length sc2] 106))); have HA1q := Lib.hid ((HA1.out.go hbq).go (below_alloc wq (.cells #[.string ri, .slice sa1 rcs.length sc1, .slice sa2 ros.length sc2] 106))); have HA2q := Lib.hid ((HA2.out.go hbq).go (below_alloc wq (.cells #[.string ri, .slice sa1 rcs.length sc1, .slice sa2 ros.length sc2] 106))); have HS1 := Lib.hid (hS1.go (below_alloc wq (.cells #[.string ri, .slice sa1 rcs.length sc1, .slice sa2 ros.length sc2] 106))); have HS2 := Lib.hid (hS2.go (below_alloc wq (.cells #[.string ri, .slice sa1 rcs.length sc1, .slice sa2 ros.length sc2] 106))); have m0 := HKq.out.cell 0; have m1 := HKq.out.cell 1; have m2 := HKq.out.cell 2; clear hS1 hS2 hbq)
      | (go_at_call_of 83 (Value.agg #[.string ri, .slice ra1 rcs.length rc1, .slice ra2 ros.length rc2]); refine (HSr.out _ _ _ _ _ _ _ _ _ HA1q.out HA2q.out HS1.out HS2.out).mono ?_; rintro e wz ⟨rfl, hbz⟩; have HBz := Lib.hid (bstep HBq.out hbz)))
    go_ret
    exact ⟨rfl, HBz.out⟩
theorem law_journals (id : ByteArray) (hid : id.size ≤ 1048576) (cs : List P.Chg) (a1 : Option Addr) (c1 : Nat) (os : List P.Chg) (a2 : Option Addr) (c2 : Nat) (n1 : cs.length ≤ 1048576) (n2 : os.length ≤ 1048576)
    (s1 : ∀ c ∈ cs, P.CSm 4294967280 c) (s2 : ∀ c ∈ os, P.CSm 4294967280 c) (at' : Int) (ha1 : IntKind.i64.min ≤ at') (ha2 : at' ≤ IntKind.i64.max) (by' : Int) (hb1 : IntKind.u8.min ≤ by') (hb2 : by' ≤ IntKind.u8.max)
    (raw : ByteArray) (hraw : raw.size ≤ 1048576) (w : World) (hw : JW w) (h1 : ChsAt w.heap.size w a1 cs c1) (h2 : ChsAt w.heap.size w a2 os c2) :
    Calls Tryz.prog 12 #[.agg #[.string id, .slice a1 cs.length c1, .slice a2 os.length c2], .int .i64 at', .int .u8 by', .string raw] w fun e w' => e = .returned (.bool true) ∧ Below w.heap.size w w' := by
  by_cases hz : (P.printJ id cs os).2 = 0
  · exact law_jgood id hid cs a1 c1 os a2 c2 n1 n2 s1 s2 at' ha1 ha2 by' hb1 hb2 raw hraw w hw h1 h2 hz
  · exact law_jbad id hid cs a1 c1 os a2 c2 n1 n2 s1 s2 at' ha1 ha2 by' hb1 hb2 raw hraw w hw h1 h2 hz
end Go.Proofs.YtomikcemiacjmaaGreatDoor
