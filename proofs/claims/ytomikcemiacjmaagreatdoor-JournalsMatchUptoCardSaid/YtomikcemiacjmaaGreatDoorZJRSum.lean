/- Walks: outref1.SumOf of a long text. -/
/- Walks: outref1's PrintJournal. -/
import Derived.Test.YtomikcemiacjmaaGreatDoorZTPure
import Derived.Test.YtomikcemiacjmaaGreatDoorZJPrintD
import Derived.Test.YtomikcemiacjmaaGreatDoorZGRPrint
import Derived.Deep.RegionHeld3

namespace Go.Proofs.YtomikcemiacjmaaGreatDoor
open Go.RowKit Go.Lib Go.Shelf

set_option maxHeartbeats 1000000 in
theorem rsumL_any (s : ByteArray) (hs : s.size ≤ 2000000000000) (w : World) (hT : Tz w) (hw : Good w) :
    Calls Tryz.prog 52 #[.string s] w fun e w' => e = .returned (.string (P.sumOf s)) ∧ Below w.heap.size w w' := by
  have HF := Lib.hid (formatUint_any (P.fnv s.data.toList) (P.fnv_lt _) w hT hw)
  have HR := Lib.hid (fun W => repeat_any (P.hex (P.fnv s.data.toList)) (P.hex_le _) W)
  have HE : Hid (P.txt (Lib.repeatL [48] (16 - (P.hex (P.fnv s.data.toList)).length)) ++ P.txt (P.hex (P.fnv s.data.toList)) = P.sumOf s) := Lib.hid (P.txt_eq (by rw [ByteArray.data_append, Array.toList_append, P.txt_list, P.txt_list]; rfl))
  have hD : (P.txt (P.hex (P.fnv s.data.toList))).size ≤ 16 := by rw [P.txt_size]; exact P.hex_le _
  have hZ : (P.txt (Lib.repeatL [48] (16 - (P.hex (P.fnv s.data.toList)).length))).size ≤ 16 := by rw [P.txt_size, Lib.repeatL_length]; simp
  generalize P.txt (Lib.repeatL [48] (16 - (P.hex (P.fnv s.data.toList)).length)) = Z at *
  generalize P.txt (P.hex (P.fnv s.data.toList)) = D at *
  have hl := P.size_len s
  clear hT hw
  go_enter Tryz.func52, Tryz.ntmps52
  go_wp2_with fail
  go_loop [3, 8] (fun h i => ∃ k : Nat, k ≤ s.size ∧ i = .int .i64 k ∧ Hid (h = .int .u64 (P.fnv (s.data.toList.take k)))) (fun _ i => s.size - (RowKit.intOf i).toNat)
  case atStart => exact ⟨0, Nat.zero_le _, rfl, Lib.hid (P.fnv_start _)⟩
  case round =>
    obtain ⟨k, hk, rfl, HH⟩ := hrel
    have hh := HH.out
    clear HH
    subst hh
    by_cases hlt : k < s.size
    · have hlt2 : k < s.data.toList.length := by omega
      have hst := fnv_walk (P.fnv (s.data.toList.take k)) s[k] (P.fnv_lt _)
      have hsn := P.fnv_snoc s.data.toList k hlt2
      have hg : s.data.toList[k] = s[k] := by rw [ByteArray.getElem_eq_getElem_data, Array.getElem_toList]
      rw [hg] at hsn
      rw [← hsn] at hst
      have HS := Lib.hid hst
      clear hst hsn hg
      generalize P.fnv (s.data.toList.take k) = h0 at *
      generalize hh1 : P.fnv (s.data.toList.take (k + 1)) = h1 at *
      have HE1 := Lib.hid hh1
      clear hh1
      have hst := HS.out
      go_wp2_with fail
      go_round
      case rel => exact ⟨k + 1, by omega, by go_num, Lib.hid (by rw [HE1.out])⟩
      case measure => simp [RowKit.intOf]; omega
    · have hkl : k = s.size := by omega
      subst hkl
      rw [List.take_of_length_le (by omega)]
      go_wp2_with fail
      refine HF.out.mono ?_
      rintro e w' ⟨rfl, hb⟩
      have HB := Lib.hid hb
      clear hb
      go_wp2_with fail
      refine (HR.out _).mono ?_
      rintro e w2 ⟨rfl, hb⟩
      have HB2 := Lib.hid (bstep HB.out hb)
      clear hb
      go_wp2_with fail
      go_ret
      exact ⟨by rw [HE.out]; rfl, HB2.out⟩
end Go.Proofs.YtomikcemiacjmaaGreatDoor

namespace Go.Proofs.YtomikcemiacjmaaGreatDoor
open Go.RowKit Go.Lib Go.Shelf Go.Maps

/-- the box of the journal stays -/
theorem jb_keep {w W W' : World} {id : ByteArray} {s1 s2 : Value} (h : W.cell? ⟨w.heap.size, 0, none⟩ = some (.string id) ∧ W.cell? ⟨w.heap.size, 1, none⟩ = some s1 ∧ W.cell? ⟨w.heap.size, 2, none⟩ = some s2 ∧ w.heap.size < W.heap.size ∧ Below w.heap.size w W) (hb : Below W.heap.size W W') :
    W'.cell? ⟨w.heap.size, 0, none⟩ = some (.string id) ∧ W'.cell? ⟨w.heap.size, 1, none⟩ = some s1 ∧ W'.cell? ⟨w.heap.size, 2, none⟩ = some s2 ∧ w.heap.size < W'.heap.size ∧ Below w.heap.size w W' :=
  ⟨(hb.cell (p := ⟨w.heap.size, 0, none⟩) h.2.2.2.1).trans h.1, (hb.cell (p := ⟨w.heap.size, 1, none⟩) h.2.2.2.1).trans h.2.1, (hb.cell (p := ⟨w.heap.size, 2, none⟩) h.2.2.2.1).trans h.2.2.1, Nat.lt_of_lt_of_le h.2.2.2.1 hb.size, bstep h.2.2.2.2 hb⟩
theorem jb_z {w W : World} {A B C D : Prop} (h : A ∧ B ∧ C ∧ D ∧ Below w.heap.size w W) : Below w.heap.size w W := h.2.2.2.2
theorem jb_start (w : World) (id : ByteArray) (s1 s2 : Value) (t : TypeId) : (w.alloc (.cells #[.string id, s1, s2] t)).cell? ⟨w.heap.size, 0, none⟩ = some (.string id) ∧ (w.alloc (.cells #[.string id, s1, s2] t)).cell? ⟨w.heap.size, 1, none⟩ = some s1 ∧
    (w.alloc (.cells #[.string id, s1, s2] t)).cell? ⟨w.heap.size, 2, none⟩ = some s2 ∧ w.heap.size < (w.alloc (.cells #[.string id, s1, s2] t)).heap.size ∧ Below w.heap.size w (w.alloc (.cells #[.string id, s1, s2] t)) :=
  ⟨World.cell?_alloc_at _ _ _ _ rfl, World.cell?_alloc_at _ _ _ _ rfl, World.cell?_alloc_at _ _ _ _ rfl, by simp, below_alloc _ _⟩
theorem jb_drew {w W : World} {id : ByteArray} {s1 s2 : Value} (h : W.cell? ⟨w.heap.size, 0, none⟩ = some (.string id) ∧ W.cell? ⟨w.heap.size, 1, none⟩ = some s1 ∧ W.cell? ⟨w.heap.size, 2, none⟩ = some s2 ∧ w.heap.size < W.heap.size ∧ Below w.heap.size w W) :
    W.drew.cell? ⟨w.heap.size, 0, none⟩ = some (.string id) ∧ W.drew.cell? ⟨w.heap.size, 1, none⟩ = some s1 ∧ W.drew.cell? ⟨w.heap.size, 2, none⟩ = some s2 ∧ w.heap.size < W.drew.heap.size ∧ Below w.heap.size w W.drew := jb_keep h (Below.refl _ _).drew

set_option maxRecDepth 100000 in
set_option maxHeartbeats 16000000 in
theorem rprintJ_any (id : ByteArray) (hid : id.size ≤ 1048576) (cs : List P.Chg) (a1 : Option Addr) (c1 : Nat) (os : List P.Chg) (a2 : Option Addr) (c2 : Nat) (hl1 : cs.length ≤ 2000000) (hl2 : os.length ≤ 2000000)
    (hs1 : ∀ c ∈ cs, P.CSm 4294967280 c) (hs2 : ∀ c ∈ os, P.CSm 4294967280 c) (w : World) (hw : JW w) (h1 : ChsAt w.heap.size w a1 cs c1) (h2 : ChsAt w.heap.size w a2 os c2) :
    Calls Tryz.prog 81 #[.agg #[.string id, .slice a1 cs.length c1, .slice a2 os.length c2]] w fun e w' => e = .returned (.tuple #[.string (P.printJ id cs os).1, .int .i64 (P.printJ id cs os).2]) ∧ Below w.heap.size w w' := by
  have Hw := Lib.hid hw
  have HN := Lib.hid (fun W => rname_any id (by omega) W)
  have hS0 := jb_start w id (.slice a1 cs.length c1) (.slice a2 os.length c2) 106
  cases hn : P.nameS id with
  | false =>
    rw [P.print_name hn]
    rw [hn] at HN
    obtain ⟨k0, _, _, _, HB⟩ := hS0
    replace HB := Lib.hid HB
    clear hn h1 h2 hs1 hs2 hw
    go_enter Tryz.func81, Tryz.ntmps81
    go_wp2_with (go_at_call 39; refine (HN.out _).mono ?_; rintro e w1 ⟨rfl, rfl⟩)
    go_ret2
    exact ⟨rfl, HB.out⟩
  | true =>
    rw [hn] at HN
    have HE1 := Lib.hid (fun W (hb : Below w.heap.size w W) => changesError_any cs a1 c1 (by omega) hs1 W (hw.mono hb).g ((h1.below hb).up hb.size))
    have HE2 := Lib.hid (fun W (hb : Below w.heap.size w W) => changesError_any os a2 c2 (by omega) hs2 W (hw.mono hb).g ((h2.below hb).up hb.size))
    by_cases hz : P.chEs cs = 0 ∧ P.chEs os = 0
    · obtain ⟨z1, z2⟩ := hz
      rw [z1] at HE1
      rw [z2] at HE2
      have hO : P.orE 0 0 = 0 := rfl
      have HO := Lib.hid (fun nb W hn => rfirst2r 0 0 0 hO nb W hn)
      have HP1 := Lib.hid (fun W (hb : Below w.heap.size w W) => rprintC_any cs a1 c1 (P.chEs_zero z1) (by have := P.chsL_len (P.chEs_zero z1); omega) (by omega) W ((h1.below hb).up hb.size))
      have HP2 := Lib.hid (fun W (hb : Below w.heap.size w W) => rprintC_any os a2 c2 (P.chEs_zero z2) (by have := P.chsL_len (P.chEs_zero z2); omega) (by omega) W ((h2.below hb).up hb.size))
      have HI1 := Lib.hid (fun W (hb : Below w.heap.size w W) => itoa_any (cs.length : Int) (by omega) (by omega) W (hw.mono hb))
      have HI2 := Lib.hid (fun W (hb : Below w.heap.size w W) => itoa_any (os.length : Int) (by omega) (by omega) W (hw.mono hb))
      have b1 := P.chsL_len (P.chEs_zero z1)
      have b2 := P.chsL_len (P.chEs_zero z2)
      have i1 := P.itoa_len cs.length (by omega)
      have i2 := P.itoa_len os.length (by omega)
      have HTx : Hid ((((((((((⟨#[106, 111, 117, 114, 110, 97, 108, 32]⟩ : ByteArray) ++ id) ++ ⟨#[10, 99, 104, 97, 110, 103, 101, 115, 32]⟩) ++ P.txt (Lib.itoa (cs.length : Int))) ++ ⟨#[10]⟩) ++ P.txt (P.chsL cs)) ++ ⟨#[111, 108, 100, 32]⟩) ++ P.txt (Lib.itoa (os.length : Int))) ++ ⟨#[10]⟩) ++ P.txt (P.chsL os) = P.txt (P.jText id.data.toList cs os)) := Lib.hid (by
        apply P.ba_inj
        unfold P.jText
        simp only [ByteArray.data_append, Array.toList_append, P.txt_list, List.append_assoc]
        rfl)
      have HAl : Hid (P.txt (P.jText id.data.toList cs os) ++ ((⟨#[115, 117, 109, 32]⟩ : ByteArray) ++ P.sumOf (P.txt (P.jText id.data.toList cs os)) ++ ⟨#[10]⟩) = P.txt (P.jAll id.data.toList cs os)) := Lib.hid (by
        apply P.ba_inj
        unfold P.jAll P.sumOf
        simp only [ByteArray.data_append, Array.toList_append, P.txt_list]
        rfl)
      have hsz := congrArg ByteArray.size HTx.out
      have t1 : (P.txt (Lib.itoa (cs.length : Int))).size ≤ 21 := by rw [P.txt_size]; exact i1
      have t2 : (P.txt (Lib.itoa (os.length : Int))).size ≤ 21 := by rw [P.txt_size]; exact i2
      have t3 : (P.txt (P.chsL cs)).size ≤ 800002000000 := by rw [P.txt_size]; omega
      have t4 : (P.txt (P.chsL os)).size ≤ 800002000000 := by rw [P.txt_size]; omega
      simp only [ByteArray.size_append] at hsz
      have q1 : (⟨#[106, 111, 117, 114, 110, 97, 108, 32]⟩ : ByteArray).size = 8 := rfl
      have q2 : (⟨#[10, 99, 104, 97, 110, 103, 101, 115, 32]⟩ : ByteArray).size = 9 := rfl
      have q3 : (⟨#[10]⟩ : ByteArray).size = 1 := rfl
      have q4 : (⟨#[111, 108, 100, 32]⟩ : ByteArray).size = 4 := rfl
      have hX : (P.txt (P.jText id.data.toList cs os)).size ≤ 1700000000000 := by omega
      have HSm := Lib.hid (fun W (hb : Below w.heap.size w W) => rsumL_any (P.txt (P.jText id.data.toList cs os)) (by omega) W (hw.mono hb).t (hw.mono hb).g)
      have s4 : (P.sumOf (P.txt (P.jText id.data.toList cs os))).size = 16 := by unfold P.sumOf; rw [P.txt_size, P.sumL_len]
      have s5 := P.txt_size (P.jAll id.data.toList cs os)
      have hfin : (65536 < (P.txt (P.jAll id.data.toList cs os)).size ∧ P.printJ id cs os = (⟨#[]⟩, 4)) ∨ ((P.txt (P.jAll id.data.toList cs os)).size ≤ 65536 ∧ P.printJ id cs os = (P.txt (P.jAll id.data.toList cs os), 0)) := by
        rw [s5]
        rcases Nat.lt_or_ge 65536 (P.jAll id.data.toList cs os).length with h | h
        · exact .inl ⟨h, P.print_large hn z1 z2 h⟩
        · exact .inr ⟨h, P.print_ok hn z1 z2 (by omega)⟩
      generalize P.printJ id cs os = R at *
      have e1 := HTx.out
      have e2 := HAl.out
      clear HTx HAl hsz s5 z1 z2 hn hw h1 h2 hs1 hs2 b1 b2 i1 i2
      generalize P.sumOf (P.txt (P.jText id.data.toList cs os)) = S at *
      generalize P.txt (P.jText id.data.toList cs os) = X at *
      generalize P.txt (P.jAll id.data.toList cs os) = Y at *
      generalize P.txt (Lib.itoa (cs.length : Int)) = I1 at *
      generalize P.txt (Lib.itoa (os.length : Int)) = I2 at *
      generalize P.txt (P.chsL cs) = C at *
      generalize P.txt (P.chsL os) = O at *
      have cat1 := fun W => run_string_add_sum (P := Tryz.prog) W (⟨#[106, 111, 117, 114, 110, 97, 108, 32]⟩ : ByteArray) id (by rw [q1]; omega)
      have cat2 := fun W => run_string_add_sum (P := Tryz.prog) W ((⟨#[106, 111, 117, 114, 110, 97, 108, 32]⟩ : ByteArray) ++ id) ⟨#[10, 99, 104, 97, 110, 103, 101, 115, 32]⟩ (by rw [ByteArray.size_append, q1, q2]; omega)
      have cat3 := fun W => run_string_add_sum (P := Tryz.prog) W (((⟨#[106, 111, 117, 114, 110, 97, 108, 32]⟩ : ByteArray) ++ id) ++ ⟨#[10, 99, 104, 97, 110, 103, 101, 115, 32]⟩) I1 (by rw [ByteArray.size_append, ByteArray.size_append, q1, q2]; omega)
      have cat4 := fun W => run_string_add_sum (P := Tryz.prog) W ((((⟨#[106, 111, 117, 114, 110, 97, 108, 32]⟩ : ByteArray) ++ id) ++ ⟨#[10, 99, 104, 97, 110, 103, 101, 115, 32]⟩) ++ I1) ⟨#[10]⟩ (by rw [ByteArray.size_append, ByteArray.size_append, ByteArray.size_append, q1, q2, q3]; omega)
      have cat5 := fun W => run_string_add_sum (P := Tryz.prog) W (((((⟨#[106, 111, 117, 114, 110, 97, 108, 32]⟩ : ByteArray) ++ id) ++ ⟨#[10, 99, 104, 97, 110, 103, 101, 115, 32]⟩) ++ I1) ++ ⟨#[10]⟩) C (by rw [ByteArray.size_append, ByteArray.size_append, ByteArray.size_append, ByteArray.size_append, q1, q2, q3]; omega)
      have cat6 := fun W => run_string_add_sum (P := Tryz.prog) W ((((((⟨#[106, 111, 117, 114, 110, 97, 108, 32]⟩ : ByteArray) ++ id) ++ ⟨#[10, 99, 104, 97, 110, 103, 101, 115, 32]⟩) ++ I1) ++ ⟨#[10]⟩) ++ C) ⟨#[111, 108, 100, 32]⟩ (by rw [ByteArray.size_append, ByteArray.size_append, ByteArray.size_append, ByteArray.size_append, ByteArray.size_append, q1, q2, q3, q4]; omega)
      have cat7 := fun W => run_string_add_sum (P := Tryz.prog) W (((((((⟨#[106, 111, 117, 114, 110, 97, 108, 32]⟩ : ByteArray) ++ id) ++ ⟨#[10, 99, 104, 97, 110, 103, 101, 115, 32]⟩) ++ I1) ++ ⟨#[10]⟩) ++ C) ++ ⟨#[111, 108, 100, 32]⟩) I2 (by rw [ByteArray.size_append, ByteArray.size_append, ByteArray.size_append, ByteArray.size_append, ByteArray.size_append, ByteArray.size_append, q1, q2, q3, q4]; omega)
      have cat8 := fun W => run_string_add_sum (P := Tryz.prog) W ((((((((⟨#[106, 111, 117, 114, 110, 97, 108, 32]⟩ : ByteArray) ++ id) ++ ⟨#[10, 99, 104, 97, 110, 103, 101, 115, 32]⟩) ++ I1) ++ ⟨#[10]⟩) ++ C) ++ ⟨#[111, 108, 100, 32]⟩) ++ I2) ⟨#[10]⟩ (by rw [ByteArray.size_append, ByteArray.size_append, ByteArray.size_append, ByteArray.size_append, ByteArray.size_append, ByteArray.size_append, ByteArray.size_append, q1, q2, q3, q4]; omega)
      have cat9 := fun W => run_string_add_sum (P := Tryz.prog) W (((((((((⟨#[106, 111, 117, 114, 110, 97, 108, 32]⟩ : ByteArray) ++ id) ++ ⟨#[10, 99, 104, 97, 110, 103, 101, 115, 32]⟩) ++ I1) ++ ⟨#[10]⟩) ++ C) ++ ⟨#[111, 108, 100, 32]⟩) ++ I2) ++ ⟨#[10]⟩) O (by rw [ByteArray.size_append, ByteArray.size_append, ByteArray.size_append, ByteArray.size_append, ByteArray.size_append, ByteArray.size_append, ByteArray.size_append, ByteArray.size_append, q1, q2, q3, q4]; omega)
      rw [e1] at cat9
      clear q1 q2 q3 q4 t1 t2 t3 t4 e1
      have k0 := hS0.1
      go_enter Tryz.func81, Tryz.ntmps81
      go_wp2_with (go_at_call 39; refine (HN.out _).mono ?_; rintro e w1 ⟨rfl, rfl⟩)
      clear k0
      go_region_held3 (fun W => W.cell? ⟨w.heap.size, 0, none⟩ = some (.string id) ∧ W.cell? ⟨w.heap.size, 1, none⟩ = some (.slice a1 cs.length c1) ∧ W.cell? ⟨w.heap.size, 2, none⟩ = some (.slice a2 os.length c2) ∧ w.heap.size < W.heap.size ∧ Below w.heap.size w W)
        (first | with_reducible assumption | exact jb_drew (by with_reducible assumption) | exact jb_keep (by with_reducible assumption) (by with_reducible assumption) | exact jb_keep (by with_reducible assumption) (below_alloc _ _))
        (first
          | (go_at_call 88; refine (HO.out _ _ (by simp)).mono ?_; rintro e w4 ⟨rfl, rfl⟩)
          | (go_at_call_of 63 (Value.slice a1 cs.length c1); refine (HE1.out _ (jb_z (by with_reducible assumption))).mono ?_; rintro e w2 ⟨rfl, hb1⟩)
          | (go_at_call_of 63 (Value.slice a2 os.length c2); refine (HE2.out _ (jb_z (by with_reducible assumption))).mono ?_; rintro e w3 ⟨rfl, hb2⟩))
      clear HE1 HE2 HO hO
      go_upto_region 6 with fail
      go_region_held3 (fun W => W.cell? ⟨w.heap.size, 0, none⟩ = some (.string id) ∧ W.cell? ⟨w.heap.size, 1, none⟩ = some (.slice a1 cs.length c1) ∧ W.cell? ⟨w.heap.size, 2, none⟩ = some (.slice a2 os.length c2) ∧ w.heap.size < W.heap.size ∧ Below w.heap.size w W)
        (first | with_reducible assumption | exact jb_drew (by with_reducible assumption) | exact jb_keep (by with_reducible assumption) (by with_reducible assumption) | exact jb_keep (by with_reducible assumption) (below_alloc _ _))
        (first
          | (go_at_call_of 168 (Value.int IntKind.i64 (cs.length : Int)); refine (HI1.out _ (jb_z (by with_reducible assumption))).mono ?_; rintro e w5 ⟨rfl, hb5⟩)
          | (go_at_call_of 168 (Value.int IntKind.i64 (os.length : Int)); refine (HI2.out _ (jb_z (by with_reducible assumption))).mono ?_; rintro e w6 ⟨rfl, hb6⟩)
          | (go_at_call_of 64 (Value.slice a1 cs.length c1); refine (HP1.out _ (jb_z (by with_reducible assumption))).mono ?_; rintro e w7 ⟨rfl, hb7⟩)
          | (go_at_call_of 64 (Value.slice a2 os.length c2); refine (HP2.out _ (jb_z (by with_reducible assumption))).mono ?_; rintro e w8 ⟨rfl, hb8⟩))
      clear cat1 cat2 cat3 cat4 cat5 cat6 cat7 cat8 cat9 HI1 HI2 HP1 HP2
      have hX' : (X.size : Int) ≤ 1700000000000 := by omega
      have catS1 := fun W => run_string_add_sum (P := Tryz.prog) W (⟨#[115, 117, 109, 32]⟩ : ByteArray) S (by rw [s4]; decide)
      have catS2 := fun W => run_string_add_sum (P := Tryz.prog) W ((⟨#[115, 117, 109, 32]⟩ : ByteArray) ++ S) ⟨#[10]⟩ (by rw [ByteArray.size_append, s4]; decide)
      have hS5 : (((⟨#[115, 117, 109, 32]⟩ : ByteArray) ++ S) ++ ⟨#[10]⟩).size = 21 := by rw [ByteArray.size_append, ByteArray.size_append, s4]; rfl
      have catS3 := fun W => run_string_add_sum (P := Tryz.prog) W X (((⟨#[115, 117, 109, 32]⟩ : ByteArray) ++ S) ++ ⟨#[10]⟩) (by rw [hS5]; omega)
      rw [e2] at catS3
      clear hX hX' s4 hS5 e2
      rcases hfin with ⟨g, hR⟩ | ⟨g, hR⟩
      · have g1 : decide ((65536 : Int) < (Y.size : Int)) = true := decide_eq_true (by omega)
        subst hR
        clear g
        go_wp2_with (go_at_call 52; refine (HSm.out _ (jb_z (by with_reducible assumption))).mono ?_; rintro e w9 ⟨rfl, hb9⟩; have HB9 := Lib.hid (jb_z (jb_keep (by with_reducible assumption) hb9)))
        go_ret2
        exact ⟨rfl, HB9.out⟩
      · have g1 : decide ((65536 : Int) < (Y.size : Int)) = false := decide_eq_false (by omega)
        subst hR
        clear g
        go_wp2_with (go_at_call 52; refine (HSm.out _ (jb_z (by with_reducible assumption))).mono ?_; rintro e w9 ⟨rfl, hb9⟩; have HB9 := Lib.hid (jb_z (jb_keep (by with_reducible assumption) hb9)))
        go_ret2
        exact ⟨rfl, HB9.out⟩
    · have hR : P.printJ id cs os = (⟨#[]⟩, P.orE (P.chEs cs) (P.chEs os)) ∧ P.orE (P.chEs cs) (P.chEs os) ≠ 0 := by
        unfold P.orE
        by_cases z1 : P.chEs cs = 0
        · have z2 : P.chEs os ≠ 0 := fun z2 => hz ⟨z1, z2⟩
          rw [if_pos z1]
          exact ⟨P.print_old hn z1 z2, z2⟩
        · rw [if_neg z1]
          exact ⟨P.print_ch hn z1, z1⟩
      obtain ⟨hR, hr0⟩ := hR
      rw [hR]
      have HO := Lib.hid (fun nb W hn => rfirst2r (P.chEs cs) (P.chEs os) _ rfl nb W hn)
      generalize P.orE (P.chEs cs) (P.chEs os) = r at *
      generalize P.chEs cs = x at *
      generalize P.chEs os = y at *
      have g : (r != 0) = true := by simpa using hr0
      clear hn hw h1 h2 hs1 hs2 hz hR hr0 hl1 hl2
      have k0 := hS0.1
      go_enter Tryz.func81, Tryz.ntmps81
      go_wp2_with (go_at_call 39; refine (HN.out _).mono ?_; rintro e w1 ⟨rfl, rfl⟩)
      clear k0
      go_region_held3 (fun W => W.cell? ⟨w.heap.size, 0, none⟩ = some (.string id) ∧ W.cell? ⟨w.heap.size, 1, none⟩ = some (.slice a1 cs.length c1) ∧ W.cell? ⟨w.heap.size, 2, none⟩ = some (.slice a2 os.length c2) ∧ w.heap.size < W.heap.size ∧ Below w.heap.size w W)
        (first | with_reducible assumption | exact jb_drew (by with_reducible assumption) | exact jb_keep (by with_reducible assumption) (by with_reducible assumption) | exact jb_keep (by with_reducible assumption) (below_alloc _ _))
        (first
          | (go_at_call 88; refine (HO.out _ _ (by simp)).mono ?_; rintro e w4 ⟨rfl, rfl⟩)
          | (go_at_call_of 63 (Value.slice a1 cs.length c1); refine (HE1.out _ (jb_z (by with_reducible assumption))).mono ?_; rintro e w2 ⟨rfl, hb1⟩)
          | (go_at_call_of 63 (Value.slice a2 os.length c2); refine (HE2.out _ (jb_z (by with_reducible assumption))).mono ?_; rintro e w3 ⟨rfl, hb2⟩))
      go_wp2_with fail
      go_ret2
      exact ⟨rfl, jb_z (by with_reducible assumption)⟩
end Go.Proofs.YtomikcemiacjmaaGreatDoor
