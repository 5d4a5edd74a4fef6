/- Plain: changes that are read line by line; the state of the loop. -/
/- Walks: stage's brief of a short line; the reader's changes. -/
import Derived.Test.YtomikcemiacjmaaGreatDoorZJRd
import Derived.Test.YtomikcemiacjmaaGreatDoorZJNumber

namespace Go.Proofs.YtomikcemiacjmaaGreatDoor
open Go.RowKit Go.Lib Go.Shelf Go.Maps

namespace P
/-- so many lines of a text, read as changes; what is left -/
noncomputable def rMany : Nat → ByteArray → Option (List Chg × ByteArray)
  | 0, t => some ([], t)
  | n + 1, t => if cutOk t 10 = true ∧ (chRead (cutA t 10)).2 = true then (rMany n (cutB t 10)).map (fun r => ((chRead (cutA t 10)).1 :: r.1, r.2)) else none
noncomputable def chgsO (w t : ByteArray) : Option (List Chg × ByteArray) := (numO w t).bind fun n => rMany n (lineR t)
theorem chE_ne8 (c : Chg) : chE c ≠ 8 := by
  have hf : ∀ x : Fi, fileErr x ≠ 8 := by intro x; unfold fileErr; (repeat' split) <;> decide
  have hs : ∀ x : St, setErr x ≠ 8 := by intro x; unfold setErr; (repeat' split) <;> decide
  have hv : ∀ x : Sv, svcErr x ≠ 8 := by intro x; unfold svcErr; (repeat' split) <;> decide
  have ht : thE c ≠ 8 := by
    unfold thE
    (repeat' split) <;> first | exact hf _ | exact hs _ | exact hv _ | decide
  rw [chE_eq]
  split
  · split <;> decide
  · exact ht
theorem chEs_snoc (pre : List Chg) (c : Chg) : chEs (pre ++ [c]) = if chEs pre = 0 then chE c else chEs pre := by
  induction pre with
  | nil => show (if chE c = 0 then chEs [] else chE c) = _; by_cases h : chE c = 0 <;> simp [chEs, h]
  | cons a l ih =>
    show (if chE a = 0 then chEs (l ++ [c]) else chE a) = if (if chE a = 0 then chEs l else chE a) = 0 then chE c else (if chE a = 0 then chEs l else chE a)
    by_cases h : chE a = 0
    · rw [if_pos h, if_pos h, ih]
    · rw [if_neg h, if_neg h, if_neg h]
theorem parseC_nil : parseC ⟨#[]⟩ = ([], 0, 0) := by
  have h : crdAll [] ⟨#[]⟩ 0 = ([], 0, 0) := crdAll_nil (by rw [Lib.toList_data])
  rw [parseC_ok (by decide) (by rw [h]) (by rw [h]; rfl), h]
theorem lineA_no {t : ByteArray} (h : cutOk t 10 = false) : lineA t = ⟨#[]⟩ ∧ lineR t = t ∧ lineX t false = true := by unfold lineA lineR lineX; rw [h]; exact ⟨rfl, rfl, rfl⟩
theorem lineA_yes {t : ByteArray} (h : cutOk t 10 = true) : lineA t = txt ((cutA t 10).data.toList ++ [10]) ∧ lineR t = cutB t 10 ∧ lineX t false = false := by
  unfold lineA lineR lineX
  rw [h]
  refine ⟨?_, rfl, rfl⟩
  apply ba_inj
  rw [if_pos rfl, txt_list, ByteArray.data_append, Array.toList_append]
theorem lineA_le (t : ByteArray) : (lineA t).size ≤ t.size := by
  cases h : cutOk t 10 with
  | false => rw [(lineA_no h).1]; exact Nat.zero_le _
  | true =>
    rw [(lineA_yes h).1, txt_size, List.length_append]
    have h3 := congrArg List.length (cut_join h)
    rw [List.length_append, List.length_cons, size_len, size_len] at h3
    rw [size_len]
    simp only [List.length_cons, List.length_nil]
    omega
/-- THE LOOP's STATE -/
structure CI (word t : ByteArray) (x : Bool) (i : Nat) (many : Int) (L : List Chg) (f : Int) (T : ByteArray) (X : Bool) : Prop where
  len : L.length ≤ i
  size : T.size ≤ t.size
  small : i ≤ t.size + 1 ∧ (X = false → i + T.size ≤ t.size)
  good : X = false → x = false ∧ ∃ (k : Nat) (pre : List Chg), numO word t = some k ∧ many = (k : Int) ∧ i ≤ k ∧ rMany k (lineR t) = (rMany (k - i) T).map (fun r => (pre ++ r.1, r.2)) ∧ f = chEs pre ∧ (chEs pre = 0 → L = pre)
  bad : X = true → x = true ∨ chgsO word t = none
theorem CI.start {word t : ByteArray} {x : Bool} {many : Int} (h : ∀ k, numO word t = some k → many = (k : Int)) : CI word t x 0 many [] 0 (lineR t) (if (numO word t).isSome then x else true) := by
  refine ⟨Nat.le_refl _, lineR_le t, ⟨Nat.zero_le _, fun _ => by have := lineR_le t; omega⟩, ?_, ?_⟩
  · intro hX
    cases hn : numO word t with
    | none => rw [hn] at hX; cases hX
    | some k =>
      rw [hn] at hX
      refine ⟨hX, k, [], rfl, h k hn, Nat.zero_le _, ?_, rfl, fun _ => rfl⟩
      rw [Nat.sub_zero]
      cases rMany k (lineR t) <;> rfl
  · intro hX
    cases hn : numO word t with
    | none => right; unfold chgsO; rw [hn]; rfl
    | some k => rw [hn] at hX; exact .inl hX
/-- a line that is none, or is read as no change -/
theorem CI.stop {word t : ByteArray} {x : Bool} {i : Nat} {many : Int} {L : List Chg} {f : Int} {T : ByteArray} (h : CI word t x i many L f T false) (hi : (i : Int) < many) (hr : cutOk T 10 = true → (chRead (cutA T 10)).2 = false) (f' : Int) :
    CI word t x (i + 1) many L f' (lineR T) true := by
  obtain ⟨hx, k, pre, h1, h2, h3, h4, _⟩ := h.good rfl
  have hs := h.small.2 rfl
  have hle := lineR_le T
  refine ⟨Nat.le_succ_of_le h.len, Nat.le_trans hle h.size, ⟨by omega, (fun e => by cases e)⟩, (fun e => by cases e), fun _ => .inr ?_⟩
  unfold chgsO
  rw [h1]
  show rMany k (lineR t) = none
  obtain ⟨n, hn⟩ : ∃ n, k - i = n + 1 := ⟨k - i - 1, by omega⟩
  rw [h4, hn, rMany]
  rw [if_neg (fun e => by rw [hr e.1] at e; exact absurd e.2 (by decide))]
  rfl
theorem CI.next {word t : ByteArray} {x : Bool} {i : Nat} {many : Int} {L : List Chg} {f : Int} {T : ByteArray} (h : CI word t x i many L f T false) (hi : (i : Int) < many) (hc : cutOk T 10 = true) (hr : (chRead (cutA T 10)).2 = true) :
    CI word t x (i + 1) many (L ++ (if chE (chRead (cutA T 10)).1 = 0 then [(chRead (cutA T 10)).1] else [])) (if f = 0 then chE (chRead (cutA T 10)).1 else f) (lineR T) false := by
  obtain ⟨hx, k, pre, h1, h2, h3, h4, h5, h6⟩ := h.good rfl
  have hs := h.small.2 rfl
  have hlt := cutB_lt' hc
  have eR := (lineA_yes hc).2.1
  rw [eR]
  generalize hy : (chRead (cutA T 10)).1 = c at *
  refine ⟨?_, by have := h.size; omega, ⟨by omega, fun _ => by omega⟩, fun _ => ⟨hx, k, pre ++ [c], h1, h2, by omega, ?_, ?_, ?_⟩, (fun e => by cases e)⟩
  · have := h.len
    split <;> simp only [List.length_append, List.length_cons, List.length_nil] <;> omega
  · obtain ⟨n, hn⟩ : ∃ n, k - i = n + 1 := ⟨k - i - 1, by omega⟩
    rw [h4, hn, show k - (i + 1) = n by omega, rMany, if_pos ⟨hc, hr⟩, hy]
    cases rMany n (cutB T 10) with
    | none => rfl
    | some r => simp
  · rw [chEs_snoc, h5]
  · rw [chEs_snoc]
    intro hz
    by_cases h0 : chEs pre = 0
    · rw [if_pos h0] at hz
      rw [if_pos hz, h6 h0]
    · rw [if_neg h0] at hz; exact absurd hz h0
/-- what the whole leaves -/
def CR (word t : ByteArray) (x : Bool) (L : List Chg) (f : Int) (T : ByteArray) (X : Bool) : Prop :=
  (∀ cs T', chgsO word t = some (cs, T') → x = false → X = false ∧ T = T' ∧ f = chEs cs ∧ (chEs cs = 0 → L = cs)) ∧ (chgsO word t = none → X = true) ∧ (x = true → X = true)
theorem CI.done {word t : ByteArray} {x : Bool} {i : Nat} {many : Int} {L : List Chg} {f : Int} {T : ByteArray} {X : Bool} (h : CI word t x i many L f T X) (hd : X = true ∨ many ≤ (i : Int)) : CR word t x L f T X := by
  cases X with
  | true =>
    refine ⟨fun cs T' h1 hx => ?_, fun _ => rfl, fun _ => rfl⟩
    rcases h.bad rfl with h2 | h2
    · rw [h2] at hx; cases hx
    · rw [h2] at h1; cases h1
  | false =>
    obtain ⟨hx, k, pre, h1, h2, h3, h4, h5, h6⟩ := h.good rfl
    have hk : k = i := by rcases hd with e | e; · cases e
                          · omega
    have e : chgsO word t = some (pre, T) := by
      unfold chgsO
      rw [h1]
      show rMany k (lineR t) = _
      rw [h4, hk, Nat.sub_self, rMany]
      simp
    refine ⟨fun cs T' h7 _ => ?_, fun h7 => (by rw [e] at h7; cases h7), fun h7 => (by rw [hx] at h7; cases h7)⟩
    rw [e] at h7
    obtain ⟨rfl, rfl⟩ : pre = cs ∧ T = T' := by simpa using h7
    exact ⟨rfl, rfl, h5, h6⟩
/-- what ParseChanges makes of a line -/
theorem jparse_line {T : ByteArray} (hs : T.size ≤ 4194304) : (cutOk T 10 = false ∧ parseC (lineA T) = ([], 0, 0) ∧ lineX T false = true) ∨
    (cutOk T 10 = true ∧ lineX T false = false ∧ ((chRead (cutA T 10)).2 = false ∧ parseC (lineA T) = ([], 0, 8) ∨
      (chRead (cutA T 10)).2 = true ∧ parseC (lineA T) = ((if chE (chRead (cutA T 10)).1 = 0 then [(chRead (cutA T 10)).1] else []), 0, chE (chRead (cutA T 10)).1))) := by
  cases hc : cutOk T 10 with
  | false =>
    obtain ⟨e1, _, e3⟩ := lineA_no hc
    exact .inl ⟨rfl, by rw [e1]; exact parseC_nil, e3⟩
  | true =>
    obtain ⟨e1, _, e3⟩ := lineA_yes hc
    have hl := lineA_le T
    rw [e1, txt_size, List.length_append] at hl
    have h1 := parseC_one (x := (cutA T 10).data.toList) (cutA_free 10 T) (by simp only [List.length_cons, List.length_nil] at hl; omega)
    rw [← e1, txt_self] at h1
    refine .inr ⟨rfl, e3, ?_⟩
    cases hr : (chRead (cutA T 10)).2 with
    | false => rw [if_pos hr] at h1; exact .inl ⟨rfl, h1⟩
    | true =>
      rw [if_neg (by rw [hr]; decide)] at h1
      refine .inr ⟨rfl, ?_⟩
      rw [h1]
      by_cases h0 : chE (chRead (cutA T 10)).1 = 0
      · rw [if_neg (by simpa using h0), if_pos h0, h0]
      · rw [if_pos h0, if_neg h0]
end P
end Go.Proofs.YtomikcemiacjmaaGreatDoor

namespace Go.Proofs.YtomikcemiacjmaaGreatDoor
open Go.RowKit Go.Lib Go.Shelf Go.Maps

theorem brief_any (l : ByteArray) (h : l.size ≤ 4194304) (w : World) : Calls Tryz.prog 242 #[.string l] w fun e w' => e = .returned (.string l) ∧ w = w' := by
  have g : decide ((l.size : Int) ≤ 4194304) = true := decide_eq_true (by omega)
  clear h
  go_enter Tryz.func242, Tryz.ntmps242
  go_wp2_with fail
  go_ret
  exact ⟨rfl, rfl⟩

/-- what changes leaves -/
def CHG (w : World) (b : Nat) (word t : ByteArray) (x : Bool) (e : Ending) (w' : World) : Prop :=
  ∃ (a : Option Addr) (c : Nat) (L : List P.Chg) (f : Int) (T : ByteArray) (X : Bool), e = .returned (.tuple #[.slice a L.length c, .int .i64 f]) ∧ w'.ownsRow w.heap.size 73 10 (.slice a L.length c) L.length (flat chC L) ∧
    HasRow w' b #[.string T, .bool X] ∧ Gb b w w' ∧ T.size ≤ t.size ∧ L.length ≤ t.size + 1 ∧ P.CR word t x L f T X

set_option maxRecDepth 100000 in
set_option maxHeartbeats 8000000 in
theorem changes_any (word : ByteArray) (h10 : (10 : UInt8) ∉ word.data.toList) (hw0 : word.data.toList ≠ []) (t : ByteArray) (hs : t.size ≤ 1048576) (x : Bool) (b : Nat) (h8 : 8 ≤ b) (w : World) (hw : JW w) (h : HasRow w b #[.string t, .bool x]) :
    Calls Tryz.prog 170 #[.pointer (some ⟨b, 0, none⟩), .string word] w fun e w' => CHG w b word t x e w' := by
  have HN := Lib.hid (number_any word h10 hw0 t (by omega) x b h8 w hw h)
  have HJ := Lib.hid (fun W (hg : Gb b w W) => hw.gb hg h8 h.lt)
  have HLn := Lib.hid (fun T (hT : T.size ≤ 1000000000) X W hR => line_any T hT X b W hR)
  have HBr := Lib.hid brief_any
  have HPC := Lib.hid (fun l W (hW : JW W) => dparseC_any l W hW.g hW.e)
  have Hb : Hid (b < w.heap.size) := Lib.hid h.lt
  have Hs := Lib.hid hs
  clear hw h hs h10 hw0
  go_enter Tryz.func170, Tryz.ntmps170
  go_wp2_with (go_at_call 241; refine HN.out.mono ?_; rintro e w1 ⟨many, rfl, hm, hr1, hg1⟩; have HM := Lib.hid hm; have HR := Lib.hid hr1; have HG := Lib.hid hg1; clear hm hr1 hg1)
  have HC0 := Lib.hid (P.CI.start (x := x) HM.out)
  generalize (if (P.numO word t).isSome then x else true) = x1 at *
  go_loopw [7, 8, 9] (fun l f i wr => ∃ (a : Option Addr) (c : Nat) (L : List P.Chg) (F : Int) (T : ByteArray) (X : Bool) (k : Nat), l = .slice a L.length c ∧ f = .int .i64 F ∧ i = .int .i64 k ∧ Hid (P.CI word t x k many L F T X) ∧
    Hid (wr.ownsRow w.heap.size 73 10 (.slice a L.length c) L.length (flat chC L)) ∧ Hid (HasRow wr b #[.string T, .bool X]) ∧ Hid (Gb b w wr)) (fun _ _ i _ => (many - RowKit.intOf i).toNat)
  case atStart => exact ⟨none, 0, [], 0, _, x1, 0, rfl, rfl, rfl, HC0, Lib.hid ⟨rfl, .inl ⟨rfl, rfl⟩⟩, HR, HG⟩
  case round =>
    obtain ⟨a, c, L, F, T, X, k, rfl, rfl, rfl, HC, HO, HRw, HGw⟩ := hrel
    by_cases hi : (k : Int) < many
    · have c1 := HRw.out.cell 1
      cases X with
      | true =>
        have HD := Lib.hid (HC.out.done (.inl rfl))
        go_wp2_with fail
        go_ret2
        exact ⟨a, c, L, F, T, true, rfl, HO.out, HRw.out, HGw.out, HC.out.size, Nat.le_trans HC.out.len HC.out.small.1, HD.out⟩
      | false =>
        have HLt := Lib.hid (HLn.out T (by have := HC.out.size; have := Hs.out; omega) false wr HRw.out)
        have HBt := Lib.hid (fun W => HBr.out (P.lineA T) (by have := P.lineA_le T; have := HC.out.size; have := Hs.out; omega) W)
        have HPt := Lib.hid (fun W hW => HPC.out (P.lineA T) W hW)
        have hp := P.jparse_line (T := T) (by have := HC.out.size; have := Hs.out; omega)
        have hK1 : IntKind.i64.wrap ((k : Int) + 1) = ((k + 1 : Nat) : Int) := by rw [IntKind.wrap_i64]; have := HC.out.small.1; have := Hs.out; omega
        have hstep : ∃ (M : List P.Chg) (E : Int) (X1 : Bool), P.parseC (P.lineA T) = (M, 0, E) ∧ M.length ≤ 1 ∧ P.lineX T false = X1 ∧ (E = 8 → M = []) ∧
            (E = 8 → P.CI word t x (k + 1) many (L ++ M) F (P.lineR T) true) ∧ (E ≠ 8 → F = 0 → P.CI word t x (k + 1) many (L ++ M) E (P.lineR T) X1) ∧ (E ≠ 8 → F ≠ 0 → P.CI word t x (k + 1) many (L ++ M) F (P.lineR T) X1) := by
          rcases hp with ⟨p1, p2, p3⟩ | ⟨p1, p3, ⟨p4, p2⟩ | ⟨p4, p2⟩⟩
          · refine ⟨[], 0, true, p2, by simp, p3, fun _ => rfl, fun e => absurd e (by decide), fun _ _ => ?_, fun _ _ => ?_⟩
            · rw [List.append_nil]; exact HC.out.stop hi (fun e => by rw [p1] at e; cases e) _
            · rw [List.append_nil]; exact HC.out.stop hi (fun e => by rw [p1] at e; cases e) _
          · refine ⟨[], 8, false, p2, by simp, p3, fun _ => rfl, fun _ => ?_, fun e => absurd rfl e, fun e => absurd rfl e⟩
            rw [List.append_nil]; exact HC.out.stop hi (fun _ => p4) _
          · have hn := HC.out.next hi p1 p4
            refine ⟨_, _, false, p2, by split <;> simp, p3, fun e => absurd e (P.chE_ne8 _), fun e => absurd e (P.chE_ne8 _), fun _ h0 => ?_, fun _ h0 => ?_⟩
            · rw [if_pos h0] at hn; exact hn
            · rw [if_neg h0] at hn; exact hn
        obtain ⟨M, E, X1, e1, e2, e3, hM8, hA, hB, hD⟩ := hstep
        rw [e3] at HLt
        rw [e1] at HPt
        unfold PAC at HPt
        simp only at HPt
        have HL7 : Hid (L.length ≤ 10000000) := Lib.hid (by have := HC.out.len; have := HC.out.small.1; have := Hs.out; omega)
        have HM1 := Lib.hid e2
        clear hp e1 e2 e3
        generalize P.lineA T = l at *
        generalize P.lineR T = T1 at *
        by_cases h0 : E = 8
        · have HS := Lib.hid (hA h0)
          have hM := hM8 h0
          subst hM
          subst h0
          clear hA hB hD hM8
          go_wp2_with (first
            | (go_at_call 240; refine HLt.out.mono ?_; rintro e w2 ⟨rfl, hr2, hg2⟩; have HR2 := Lib.hid hr2; have HG2 := Lib.hid (HGw.out.trans hg2); have HO2 := Lib.hid (own_gb HO.out hg2 Hb.out); clear hr2 hg2)
            | (go_at_call 242; refine (HBt.out _).mono ?_; rintro e w3 ⟨rfl, rfl⟩)
            | (go_at_call 65; refine (HPt.out _ (HJ.out _ HG2.out)).mono ?_; rintro e w4 ⟨q, cq, rfl, hA4, hb4⟩; have HR4 := Lib.hid (HR2.out.below hb4); have HG4 := Lib.hid (HG2.out.trans (Gb.of hb4)); have HO4 := Lib.hid (own_below HO2.out hb4); have HA4 := Lib.hid hA4; have f1 := HR4.out.free 1; have d1 := HR4.out.cell 1; clear hb4 hA4)
            | (at_builtin; refine wpList_append_chs rfl _ _ rfl w.heap.size a c L rfl (own_gb HO4.out ((Gb.refl b _).set 1 _) Hb.out) q [] cq HM1.out rfl ⟨HA4.out.le, fun h => absurd rfl h⟩ HL7.out (HG4.out.set 1 _).size ?_; intro p' c' w5 hown hgrow))
          have HG5 := Lib.hid ((HG4.out.set 1 (.bool true)).grown hgrow (own_ge HO.out))
          have HR5 := Lib.hid ((HR4.out.set 1 (.bool true) (by simp)).grown hgrow (fun e => by have := own_ge HO.out _ e.symm; have := Hb.out; omega))
          go_roundw
          case rel => exact ⟨p', c', L ++ [], F, T1, true, k + 1, by simp, rfl, by go_num, HS, Lib.hid hown, Lib.hid (by simpa using HR5.out), HG5⟩
          case measure => simp [RowKit.intOf]; omega
        · have g8 : (E == 8) = false := by simpa using h0
          by_cases hF : F = 0
          · have HS := Lib.hid (hB h0 hF)
            subst hF
            clear hA hB hD h0 hM8
            go_wp2_with (first
              | (go_at_call 240; refine HLt.out.mono ?_; rintro e w2 ⟨rfl, hr2, hg2⟩; have HR2 := Lib.hid hr2; have HG2 := Lib.hid (HGw.out.trans hg2); have HO2 := Lib.hid (own_gb HO.out hg2 Hb.out); clear hr2 hg2)
              | (go_at_call 242; refine (HBt.out _).mono ?_; rintro e w3 ⟨rfl, rfl⟩)
              | (go_at_call 65; refine (HPt.out _ (HJ.out _ HG2.out)).mono ?_; rintro e w4 ⟨q, cq, rfl, hA4, hb4⟩; have HR4 := Lib.hid (HR2.out.below hb4); have HG4 := Lib.hid (HG2.out.trans (Gb.of hb4)); have HO4 := Lib.hid (own_below HO2.out hb4); have HA4 := Lib.hid hA4; clear hb4 hA4)
              | (at_builtin; refine wpList_append_chs rfl _ _ rfl w.heap.size a c L rfl HO4.out q M cq HM1.out rfl HA4.out HL7.out HG4.out.size ?_; intro p' c' w5 hown hgrow))
            have HG5 := Lib.hid (HG4.out.grown hgrow (own_ge HO.out))
            have HR5 := Lib.hid (HR4.out.grown hgrow (fun e => by have := own_ge HO.out _ e.symm; have := Hb.out; omega))
            go_roundw
            case rel => exact ⟨p', c', L ++ M, E, T1, X1, k + 1, by rw [List.length_append], rfl, by go_num, HS, Lib.hid hown, HR5, HG5⟩
            case measure => simp [RowKit.intOf]; omega
          · have HS := Lib.hid (hD h0 hF)
            have g0 : (F == 0) = false := by simpa using hF
            clear hA hB hD h0 hF hM8
            go_wp2_with (first
              | (go_at_call 240; refine HLt.out.mono ?_; rintro e w2 ⟨rfl, hr2, hg2⟩; have HR2 := Lib.hid hr2; have HG2 := Lib.hid (HGw.out.trans hg2); have HO2 := Lib.hid (own_gb HO.out hg2 Hb.out); clear hr2 hg2)
              | (go_at_call 242; refine (HBt.out _).mono ?_; rintro e w3 ⟨rfl, rfl⟩)
              | (go_at_call 65; refine (HPt.out _ (HJ.out _ HG2.out)).mono ?_; rintro e w4 ⟨q, cq, rfl, hA4, hb4⟩; have HR4 := Lib.hid (HR2.out.below hb4); have HG4 := Lib.hid (HG2.out.trans (Gb.of hb4)); have HO4 := Lib.hid (own_below HO2.out hb4); have HA4 := Lib.hid hA4; clear hb4 hA4)
              | (at_builtin; refine wpList_append_chs rfl _ _ rfl w.heap.size a c L rfl HO4.out q M cq HM1.out rfl HA4.out HL7.out HG4.out.size ?_; intro p' c' w5 hown hgrow))
            have HG5 := Lib.hid (HG4.out.grown hgrow (own_ge HO.out))
            have HR5 := Lib.hid (HR4.out.grown hgrow (fun e => by have := own_ge HO.out _ e.symm; have := Hb.out; omega))
            go_roundw
            case rel => exact ⟨p', c', L ++ M, F, T1, X1, k + 1, by rw [List.length_append], rfl, by go_num, HS, Lib.hid hown, HR5, HG5⟩
            case measure => simp [RowKit.intOf]; omega
    · have HD := Lib.hid (HC.out.done (.inr (by omega)))
      go_wp2_with fail
      go_ret2
      exact ⟨a, c, L, F, T, X, rfl, HO.out, HRw.out, HGw.out, HC.out.size, Nat.le_trans HC.out.len HC.out.small.1, HD.out⟩
end Go.Proofs.YtomikcemiacjmaaGreatDoor
