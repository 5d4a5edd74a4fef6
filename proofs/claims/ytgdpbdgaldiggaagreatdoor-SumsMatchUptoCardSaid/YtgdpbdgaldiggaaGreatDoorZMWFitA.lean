/- Walks: outlaw1's fit: it makes a right machine of any. -/
import Derived.Test.YtgdpbdgaldiggaaGreatDoorZMWApply
import Derived.Test.YtgdpbdgaldiggaaGreatDoorZMWSort
import Derived.Test.YtgdpbdgaldiggaaGreatDoorZMWCompact

namespace Go.Proofs.YtgdpbdgaldiggaaGreatDoor
open Go.RowKit Go.Shelf Go.Maps

theorem wpList_append_sl {P : Program} {w : World} {ops : Array Oper} {rest : List Oper} {o : Oper} {a : Act} {Q : Exit → Act → World → Prop} (hgd : o.guard = none) (s x : Operand) (t : TypeId)
    (ho : o.op = .call { callee := .builtin .append, args := #[s, x], argTypes := #[t, t] })
    (base : Nat) (e : TypeId) (i : TypeInfo) (z : Value) (size bytes : Nat) (ht : P.underlying t = some (.slice e)) (hi : P.info? e = some i) (hz : i.zero = some z)
    (hsize : i.size = size) (hby : i.bytes = bytes) (hzs : z.cells.size = size) (hsz : 0 < size)
    (v : Value) (n : Nat) (xs : List Value) (hs : a.eval s = v) (hown : w.ownsRow base e size v n xs)
    (ad : Addr) (m c : Nat) (news : List Value) (hx : a.eval x = .slice (some ad) m c) (hl : news.length = m * size) (hnews : ∀ j u, news[j]? = some u → w.cell? (ad.add j) = some u) (h1 : ∀ u ∈ news, u.oneCell' = true)
    (h63 : n + m ≤ maxLen) (hbytes : (n + m) * bytes ≤ 140737488355328) (hbase : base ≤ w.heap.size)
    (h : ∀ p' c' w', w'.ownsRow base e size (.slice p' (n + m) c') (n + m) (xs ++ news) → w.grownBy w' v.ownBlock → wpList P ops Q rest (a.put o.dst (.slice p' (n + m) c')) w') : wpList P ops Q (o :: rest) a w :=
  wpList_append_own w hgd s x t ho base e i z size bytes ht hi hz hsize hby hzs hsz v n xs hs hown ad m c news hx hl hnews h1 h63 hbytes hbase fun v' w' h2 h3 _ => by
    obtain ⟨p', c', rfl⟩ : ∃ p c, v' = .slice p (n + m) c := by
      obtain ⟨_, ⟨rfl, e0⟩ | ⟨g, cap, cur, rfl, _⟩⟩ := h2
      · exact ⟨none, 0, by rw [e0]⟩
      · exact ⟨_, _, rfl⟩
    exact h p' c' w' h2 h3
/-- what fit owes -/
def FitPost (A : Ad) (m : P.Mach) (w : World) (e : Ending) (w' : World) : Prop :=
  ∃ A' m', e = .returned (machV A' m') ∧ P.Right m' ∧ Lies w'.heap.size w' A' m' ∧ Below w.heap.size w w' ∧ ((A' = A ∧ m' = m) ∨ Up w.heap.size w' A' m')
/-- fit's boxes -/
structure FSt (w wr : World) (b : Nat) (r1 : Array Value) : Prop where
  m : HasRow wr w.heap.size r1
  z : HasRow wr (w.heap.size + 1) mz
  bel : Below w.heap.size w wr
  hb : w.heap.size + 1 < b
/-- the state of the first loop -/
structure F1 (w wr : World) (b : Nat) (r1 : Array Value) (p : Option Addr) (n c : Nat) (L : List P.St) : Prop where
  st : FSt w wr b r1
  x : HasRow wr b #[.slice p n c, .slice none 0 0, .slice none 0 0, .slice none 0 0]
  o : wr.ownsRow (b + 1) 62 2 (.slice p n c) n (flat cellsS L)
  ln : n = L.length
  l : n ≤ 20
  a : ∀ x ∈ L, P.factErr x = 0
section
variable {w wr W' w3 : World} {b n c n' c' : Nat} {r1 : Array Value} {p p' : Option Addr} {L : List P.St}
theorem FSt.below (h : FSt w wr b r1) (hb : Below wr.heap.size wr W') : FSt w W' b r1 := ⟨h.m.below hb, h.z.below hb, bstep h.bel hb, h.hb⟩
theorem FSt.grown {row : Option Nat} (h : FSt w wr b r1) (hg : wr.grownBy W' row) (hr : ∀ k, row = some k → b ≤ k) : FSt w W' b r1 :=
  ⟨h.m.grown hg (fun e => by have := hr _ e.symm; have := h.hb; omega), h.z.grown hg (fun e => by have := hr _ e.symm; have := h.hb; omega), h.bel.grown hg h.bel.size (fun j e => by have := hr _ e; have := h.hb; omega), h.hb⟩
theorem F1.below (h : F1 w wr b r1 p n c L) (hb : Below wr.heap.size wr W') : F1 w W' b r1 p n c L := ⟨h.st.below hb, h.x.below hb, own_below h.o hb, h.ln, h.l, h.a⟩
theorem F1.push (h : F1 w wr b r1 p n c L) (o : Obj) (hg : (wr.alloc o).grownBy w3 (Value.slice p n c).ownBlock) (x : P.St) (ho : w3.ownsRow (b + 1) 62 2 (.slice p' (n + 1) c') (n + 1) (flat cellsS L ++ cellsS x)) (hl : n < 20) (ha : P.factErr x = 0) :
    F1 w (w3.setCell ⟨b, 0, none⟩ (.slice p' (n + 1) c')) b r1 p' (n + 1) c' (L ++ [x]) := by
  have hge : ∀ k, (Value.slice p n c).ownBlock = some k → b ≤ k := fun k e => Nat.le_of_succ_le (own_ge h.o k e)
  have h1 := (h.st.below (below_alloc wr o)).grown hg hge
  have h2 := (h.x.alloc o).grown hg (fun e => by have := own_ge h.o _ e.symm; omega)
  have hs : w3.grownBy (w3.setCell ⟨b, 0, none⟩ (.slice p' (n + 1) c')) (some b) := grown_set _ _ _
  refine ⟨h1.grown hs (fun k e => by cases e; exact Nat.le_refl _), h2.set 0 _ (by simp), ?_, by simp [h.ln], by omega, fun y hy => ?_⟩
  · rw [flat_snoc]; exact own_store ho (Nat.lt_succ_self b)
  · rcases List.mem_append.1 hy with hy | hy
    · exact h.a y hy
    · simp at hy; subst hy; exact ha
end
theorem rnameB {s : ByteArray} (hs : s.size ≤ 4294967280) (w : World) : Calls Tryz.prog 35 #[.string s] w fun e w' => e = .returned (.bool (P.nameS s)) ∧ Below w.heap.size w w' := (rname_any s hs w).mono (fun _ _ ⟨h1, h2⟩ => ⟨h1, h2 ▸ Below.refl _ _⟩)
theorem rvalueB {s : ByteArray} (hs : s.size ≤ 4294967280) (w : World) : Calls Tryz.prog 61 #[.string s] w fun e w' => e = .returned (.bool (P.valueS s)) ∧ Below w.heap.size w w' := (rvalue_any s hs w).mono (fun _ _ ⟨h1, h2⟩ => ⟨h1, h2 ▸ Below.refl _ _⟩)

set_option maxRecDepth 100000 in
set_option maxHeartbeats 16000000 in
theorem fit_any (A : Ad) (m : P.Mach) (hf : m.fit) (w : World) (hw : Good w) (hl : Lies w.heap.size w A m) :
    Calls Tryz.prog 26 #[machV A m] w (FitPost A m w) := by
  have HE := Lib.hid (fun W hW hL => rcheck_any A m hf W hW hL)
  have HR := Lib.hid (P.right_iff m)
  obtain ⟨i0, hi, hz0, hz1, hz2⟩ := info_parts info62
  have HP : Hid (P.Right m → ∀ w', Below w.heap.size w w' → FitPost A m w (.returned (machV A m)) w') := Lib.hid (fun h w' hb => ⟨A, m, rfl, h, (hl.below hb).up hb.size, hb, .inl ⟨rfl, rfl⟩⟩)
  generalize P.machErr m = e0 at *
  have HW := Lib.hid hw
  have HL := Lib.hid hl
  have HF := Lib.hid hf
  clear hw hl hf
  obtain ⟨a1, a2, a3, a4, c1, c2, c3, c4⟩ := A
  obtain ⟨F, I, S, V⟩ := m
  unfold machV at HE HP ⊢
  simp only at HE HP ⊢
  have HM1 := Lib.hid ((HasRow.new w #[.slice a1 F.length c1, .slice a2 I.length c2, .slice a3 S.length c3, .slice a4 V.length c4] 26).alloc (.cells mz 26))
  have HZ1 := Lib.hid (HasRow.new (w.alloc (.cells #[.slice a1 F.length c1, .slice a2 I.length c2, .slice a3 S.length c3, .slice a4 V.length c4] 26)) mz 26)
  rw [World.size_alloc] at HZ1
  have HB1 := Lib.hid (below2 w (.cells #[.slice a1 F.length c1, .slice a2 I.length c2, .slice a3 S.length c3, .slice a4 V.length c4] 26) (.cells mz 26))
  go_enter Tryz.func26, Tryz.ntmps26
  go_wp2_with fail
  refine (HE.out _ (HW.out.mono HB1.out) ((HL.out.below HB1.out).up HB1.out.size)).mono ?_
  rintro e w2 ⟨rfl, hb2⟩
  have HM2 := Lib.hid (HM1.out.below hb2)
  have HZ2 := Lib.hid (HZ1.out.below hb2)
  have HB2 := Lib.hid (bstep HB1.out hb2)
  clear hb2 HM1 HZ1 HB1 HE
  obtain ⟨d0, d1, d2, d3, hml⟩ := hrow4 HM2.out
  by_cases h0 : e0 = 0
  · have HR2 := Lib.hid (HR.out.1 h0)
    have hR := HZ2.out
    obtain ⟨g0, g1, g2, g3, _⟩ := hrow4 hR
    have f0 := hR.free 0
    have f1 := hR.free 1
    have f2 := hR.free 2
    have f3 := hR.free 3
    have HS4 := Lib.hid (store4 hR HB2.out (Nat.le_succ _) (.slice a1 F.length c1) (.slice a2 I.length c2) (.slice a3 S.length c3) (.slice a4 V.length c4))
    clear hR HR
    subst h0
    go_wp2_with fail
    refine bodyPost_ret (v := .agg #[.slice a1 F.length c1, .slice a2 I.length c2, .slice a3 S.length c3, .slice a4 V.length c4]) ?_ rfl (HP.out HR2.out _ HS4.out.2)
    clear g0 g1 g2 g3 f0 f1 f2 f3
    obtain ⟨y0, y1, y2, y3, _⟩ := hrow4 HS4.out.1
    simp [results, Tryz.results26, go_sem, y0, y1, y2, y3]
  · have hz : (e0 == 0) = false := by simpa using h0
    have HST := Lib.hid (show F1 w (w2.alloc (.cells mz 26)) w2.heap.size #[.slice a1 F.length c1, .slice a2 I.length c2, .slice a3 S.length c3, .slice a4 V.length c4] none 0 0 [] from
      ⟨⟨HM2.out.alloc _, HZ2.out.alloc _, bstep HB2.out (below_alloc _ _), HZ2.out.lt⟩, HasRow.new w2 mz 26, World.ownsRow_nil _ _ _ _, rfl, by simp, by simp⟩)
    clear HP HR HM2 HZ2 h0
    go_wp2_with fail
    generalize w2.heap.size = b at *
    go_loopw [21] (fun i wr => ∃ (k : Nat) (p : Option Addr) (n c : Nat) (L : List P.St), k ≤ F.length ∧ i = .int .i64 k ∧ n ≤ 20 ∧ Hid (F1 w wr b #[.slice a1 F.length c1, .slice a2 I.length c2, .slice a3 S.length c3, .slice a4 V.length c4] p n c L)) (fun i _ => F.length - (intOf i).toNat)
    case atStart => exact ⟨0, none, 0, 0, [], Nat.zero_le _, rfl, by omega, HST⟩
    case round =>
      obtain ⟨k, p, n, c, L, hk, rfl, hn20, HQ⟩ := hrel
      clear HST HB2 d0 d1 d2 d3 hml
      have hLF : F.length ≤ 4294967280 := HF.out.l1
      by_cases hlt : k < F.length
      · obtain ⟨bb, off, rfl, hbm, hc⟩ := (HL.out.f.below HQ.out.st.bel).at_ (ne_nil_of_lt hlt)
        obtain ⟨d0, d1⟩ := hc k hlt
        obtain ⟨hs1, hs2⟩ := HF.out.f k hlt
        have HN := Lib.hid (fun W => rnameB hs1 W)
        have HVl := Lib.hid (fun W => rvalueB hs2 W)
        have HZe := Lib.hid (@P.factErr_zero F[k])
        clear hc hs1 hs2
        generalize F[k] = x at *
        generalize P.nameS x.k = q1 at *
        generalize P.valueS x.v = q2 at *
        go_wp2_with fail
        refine (HN.out _).mono ?_
        rintro e w4 ⟨rfl, hb4⟩
        have HQ4 := Lib.hid ((HQ.out.below (below_alloc _ _)).below hb4)
        have HX4 := Lib.hid ((HasRow.new wr #[.string x.k, .string x.v] 62).below hb4)
        clear hb4 HQ
        cases q1 with
        | false =>
          clear HZe
          go_wp2_with fail
          go_roundw
          case rel => exact ⟨k + 1, p, n, c, L, by omega, by go_num, hn20, HQ4⟩
          case measure => simp [intOf]; omega
        | true =>
          have x1 : w4.cell? ⟨wr.heap.size, 1, none⟩ = some (.string x.v) := HX4.out.cell 1
          go_wp2_with fail
          refine (HVl.out _).mono ?_
          rintro e w5 ⟨rfl, hb5⟩
          have HQ5 := Lib.hid (HQ4.out.below hb5)
          have HX5 := Lib.hid (HX4.out.below hb5)
          clear hb5 HQ4 HX4 x1
          cases q2 with
          | false =>
            clear HZe
            go_wp2_with fail
            go_roundw
            case rel => exact ⟨k + 1, p, n, c, L, by omega, by go_num, hn20, HQ5⟩
            case measure => simp [intOf]; omega
          | true =>
            have HZx := Lib.hid (HZe.out.2 (by simp))
            obtain ⟨y0, y1, y2, y3, ylt⟩ := hrow4 HQ5.out.x
            have f0 := HQ5.out.x.free 0
            clear HZe
            by_cases hn : n < 20
            · obtain ⟨x0, x1, xlt⟩ := hrow2 HX5.out
              have hwb : b + 1 ≤ (w5.alloc (.cells #[.string x.k, .string x.v] 62)).heap.size := by simp; omega
              go_wp2_with (at_builtin; refine wpList_append_sl rfl _ _ 22 rfl (b + 1) 62 i0 (.agg #[.string ⟨#[]⟩, .string ⟨#[]⟩]) 2 32 Tryz.underlying22 hi hz0 hz1 hz2 rfl (by decide) (.slice p n c) n (flat cellsS L) rfl (own_below HQ5.out.o (below_alloc w5 (.cells #[.string x.k, .string x.v] 62))) ⟨w5.heap.size, 0, none⟩ 1 1 (cellsS x) rfl rfl (cells_new w5 (cellsS x) 62) (by intro u hu; simp [cellsS] at hu; rcases hu with rfl | rfl <;> rfl) (by unfold maxLen; omega) (by omega) hwb ?_; intro p' c' w6 hown6 hgrow6; have hx6 := (HQ5.out.x.alloc (.cells #[.string x.k, .string x.v] 62)).grown hgrow6 (fun e => by have := own_ge HQ5.out.o _ e.symm; omega); have y6 := hx6.cell 0; have f6 := hx6.free 0; have HQ6 := Lib.hid (HQ5.out.push (.cells #[.string x.k, .string x.v] 62) hgrow6 x hown6 hn HZx.out); clear hx6 hown6 hgrow6)
              go_roundw
              case rel => exact ⟨k + 1, p', n + 1, c', L ++ [x], by omega, by go_num, by omega, HQ6⟩
              case measure => simp [intOf]; omega
            · have hn2 : decide ((n : Int) < 20) = false := decide_eq_false (by omega)
              go_wp2_with fail
              go_roundw
              case rel => exact ⟨k + 1, p, n, c, L, by omega, by go_num, hn20, HQ5⟩
              case measure => simp [intOf]; omega
      · obtain rfl : k = F.length := by omega
        obtain ⟨y0, y1, y2, y3, ylt⟩ := hrow4 HQ.out.x
        have HSo := Lib.hid (sortStable_any L (b + 1) (.slice p n c) (by rw [← HQ.out.ln]; omega) wr (by have h := HQ.out.o; have e := HQ.out.ln; rw [e] at h ⊢; exact h))
        clear hlt hk
        rename World => wI
        go_wp2_with fail
        refine HSo.out.mono ?_
        rintro e w6 ⟨rfl, M', hperm, hsort, hown6, hgrow6⟩
        have hge : ∀ k, (Value.slice p n c).ownBlock = some k → b + 1 ≤ k := own_ge HQ.out.o
        have hx6 := HQ.out.x.grown hgrow6 (fun e => by have := hge _ e.symm; omega)
        have HS6 := Lib.hid (HQ.out.st.grown hgrow6 (fun k e => Nat.le_of_succ_le (hge k e)))
        have hlen : M'.length = n := by rw [hperm.length_eq, ← HQ.out.ln]
        have HA6 : Hid (∀ x ∈ M', P.factErr x = 0) := Lib.hid (fun x hx => HQ.out.a x (hperm.mem_iff.1 hx))
        have HCo := Lib.hid (compact_any M' (b + 1) (.slice p n c) (by omega) hsort w6 hown6)
        have HX6 := Lib.hid hx6
        have HGe := Lib.hid hge
        have hn20' : M'.length ≤ 20 := by omega
        unfold CompPost at HCo
        obtain ⟨y0, y1, y2, y3, ylt⟩ := hrow4 hx6
        clear hx6 hge hperm hsort hown6 hgrow6 HQ HSo hlen
        go_wp2_with fail
        refine HCo.out.mono ?_
        rintro e w7 ⟨a7, A7, c7, rfl, hrise, hle7, hmem, hsts, hblk, hgr7⟩
        have hx7 := HX6.out.grown hgr7 (fun e => by have := HGe.out _ e.symm; omega)
        have HS7 := Lib.hid (HS6.out.grown hgr7 (fun k e => Nat.le_of_succ_le (HGe.out k e)))
        have hg8 : w7.grownBy (w7.setCell ⟨b, 0, none⟩ (.slice a7 A7.length c7)) (some b) := grown_set _ _ _
        have HBx : Hid (Box (w7.setCell ⟨b, 0, none⟩ (.slice a7 A7.length c7)) b) := Lib.hid ⟨⟨⟨a7, none, none, none, c7, 0, 0, 0⟩, ⟨A7, [], [], []⟩, hx7.set 0 _ (by simp), P.right_facts (by omega) (fun x hx => HA6.out x (hmem x hx)) hrise,
          Up.grown (W := w7) ⟨⟨hsts, ⟨Nat.le_refl _, fun h => absurd rfl h⟩, ⟨Nat.le_refl _, fun h => absurd rfl h⟩, ⟨Nat.le_refl _, fun h => absurd rfl h⟩⟩, fun p e => hblk p e, by simp, by simp, by simp⟩ hg8 (Nat.lt_succ_self b)⟩⟩
        have HS8 := Lib.hid (HS7.out.grown hg8 (fun k e => by cases e; exact Nat.le_refl _))
        have y7 := hx7.cell 0
        have f7 := hx7.free 0
        clear hx7 hg8 hrise hle7 hmem hsts hblk hgr7 HS6 HS7 HX6 HGe HA6 HCo y0 y1 y2 y3
        obtain ⟨m0, m1, m2, m3, mlt⟩ := hrow4 HS8.out.m
        obtain ⟨t2, e2, ht2, ht2b⟩ : ∃ t : Nat, min (I.length : Int) 40 = (t : Int) ∧ t ≤ I.length ∧ t ≤ 40 := ⟨min I.length 40, by omega, by omega, by omega⟩
        have hc2 : t2 ≤ c2 := Nat.le_trans ht2 HL.out.i.le
        go_wp2_with fail
        clear e2 m0 m1 m2 m3
        have HS2I := HS8
        clear HS8
        have HBy := HBx
        clear HBx
        go_loopw [62] (fun i wr => ∃ k : Nat, k ≤ t2 ∧ i = .int .i64 k ∧ Hid (FSt w wr b #[.slice a1 F.length c1, .slice a2 I.length c2, .slice a3 S.length c3, .slice a4 V.length c4]) ∧ Hid (Box wr b)) (fun i _ => t2 - (intOf i).toNat)
        case atStart => exact ⟨0, Nat.zero_le _, rfl, HS2I, HBy⟩
        case round =>
          obtain ⟨k, hk, rfl, HS, HB⟩ := hrel
          clear HS2I HBy
          by_cases hlt : k < t2
          · have hlt2 : k < I.length := by omega
            obtain ⟨bb, off, rfl, hbm, hc⟩ := (HL.out.i.below HS.out.bel).at_ (ne_nil_of_lt hlt2)
            obtain ⟨d0, d1, d2⟩ := hc k hlt2
            obtain ⟨hs1, hs2⟩ := HF.out.i k hlt2
            clear hc
            generalize I[k] = x at *
            obtain ⟨td, e3, htd⟩ : ∃ t : Nat, min (x.d.size : Int) 3000 = (t : Int) ∧ t ≤ x.d.size := ⟨min x.d.size 3000, by omega, by omega⟩
            have HPu := Lib.hid (putF_any ⟨x.p, x.d.extract 0 td, x.r⟩ hs1 (by rw [ByteArray.size_extract]; omega) b (wr.alloc (.cells #[.string x.p, .string (x.d.extract 0 td), .bool x.r] 42)) (HW.out.mono (bstep HS.out.bel (below_alloc wr _))) (HB.out.below (below_alloc wr _)))
            go_wp2_with fail
            refine HPu.out.mono ?_
            rintro e w9 ⟨rfl, hbx, hgr⟩
            have HS9 := Lib.hid ((HS.out.below (below_alloc wr (.cells #[.string x.p, .string (x.d.extract 0 td), .bool x.r] 42))).grown hgr (fun k e => by cases e; exact Nat.le_refl _))
            have HB9 := Lib.hid hbx
            clear hbx hgr HPu
            go_wp2_with fail
            go_roundw
            case rel => exact ⟨k + 1, by omega, by go_num, HS9, HB9⟩
            case measure => simp [intOf]; omega
          · obtain rfl : k = t2 := by omega
            have HS8 := HS
            have HBx := HB
            clear HS HB hlt hk
            rename World => wJ
            obtain ⟨m0, m1, m2, m3, mlt⟩ := hrow4 HS8.out.m
            obtain ⟨t3, e2, ht3, ht3b⟩ : ∃ t : Nat, min (S.length : Int) 40 = (t : Int) ∧ t ≤ S.length ∧ t ≤ 40 := ⟨min S.length 40, by omega, by omega, by omega⟩
            have hc3 : t3 ≤ c3 := Nat.le_trans ht3 HL.out.s.le
            go_wp2_with fail
            clear e2 m0 m1 m2 m3
            have HS2S := HS8
            clear HS8
            have HBy := HBx
            clear HBx
            go_loopw [87] (fun i wr => ∃ k : Nat, k ≤ t3 ∧ i = .int .i64 k ∧ Hid (FSt w wr b #[.slice a1 F.length c1, .slice a2 I.length c2, .slice a3 S.length c3, .slice a4 V.length c4]) ∧ Hid (Box wr b)) (fun i _ => t3 - (intOf i).toNat)
            case atStart => exact ⟨0, Nat.zero_le _, rfl, HS2S, HBy⟩
            case round =>
              obtain ⟨k, hk, rfl, HS, HB⟩ := hrel
              clear HS2S HBy
              by_cases hlt : k < t3
              · have hlt2 : k < S.length := by omega
                obtain ⟨bb, off, rfl, hbm, hc⟩ := (HL.out.s.below HS.out.bel).at_ (ne_nil_of_lt hlt2)
                obtain ⟨d0, d1⟩ := hc k hlt2
                obtain ⟨hs1, hs2⟩ := HF.out.s k hlt2
                clear hc
                generalize S[k] = x at *
                have HPu := Lib.hid (putS_any x hs1 hs2 b (wr.alloc (.cells #[.string x.k, .string x.v] 62)) (HW.out.mono (bstep HS.out.bel (below_alloc wr _))) (HB.out.below (below_alloc wr _)))
                go_wp2_with fail
                refine HPu.out.mono ?_
                rintro e w9 ⟨rfl, hbx, hgr⟩
                have HS9 := Lib.hid ((HS.out.below (below_alloc wr (.cells #[.string x.k, .string x.v] 62))).grown hgr (fun k e => by cases e; exact Nat.le_refl _))
                have HB9 := Lib.hid hbx
                clear hbx hgr HPu
                go_wp2_with fail
                go_roundw
                case rel => exact ⟨k + 1, by omega, by go_num, HS9, HB9⟩
                case measure => simp [intOf]; omega
              · obtain rfl : k = t3 := by omega
                have HS8 := HS
                have HBx := HB
                clear HS HB hlt hk
                rename World => wK
                obtain ⟨m0, m1, m2, m3, mlt⟩ := hrow4 HS8.out.m
                obtain ⟨t4, e2, ht4, ht4b⟩ : ∃ t : Nat, min (V.length : Int) 40 = (t : Int) ∧ t ≤ V.length ∧ t ≤ 40 := ⟨min V.length 40, by omega, by omega, by omega⟩
                have hc4 : t4 ≤ c4 := Nat.le_trans ht4 HL.out.v.le
                go_wp2_with fail
                clear e2 m0 m1 m2 m3
                have HS2V := HS8
                clear HS8
                have HBy := HBx
                clear HBx
                go_loopw [104] (fun i wr => ∃ k : Nat, k ≤ t4 ∧ i = .int .i64 k ∧ Hid (FSt w wr b #[.slice a1 F.length c1, .slice a2 I.length c2, .slice a3 S.length c3, .slice a4 V.length c4]) ∧ Hid (Box wr b)) (fun i _ => t4 - (intOf i).toNat)
                case atStart => exact ⟨0, Nat.zero_le _, rfl, HS2V, HBy⟩
                case round =>
                  obtain ⟨k, hk, rfl, HS, HB⟩ := hrel
                  clear HS2V HBy
                  by_cases hlt : k < t4
                  · have hlt2 : k < V.length := by omega
                    obtain ⟨bb, off, rfl, hbm, hc⟩ := (HL.out.v.below HS.out.bel).at_ (ne_nil_of_lt hlt2)
                    obtain ⟨d0, d1, d2, d3⟩ := hc k hlt2
                    obtain ⟨hs1, hs2⟩ := HF.out.v k hlt2
                    clear hc
                    generalize V[k] = x at *
                    have HPu := Lib.hid (putV_any x hs1 hs2 b (wr.alloc (.cells #[.string x.n, .string x.p, .bool x.a, .bool x.o] 46)) (HW.out.mono (bstep HS.out.bel (below_alloc wr _))) (HB.out.below (below_alloc wr _)))
                    go_wp2_with fail
                    refine HPu.out.mono ?_
                    rintro e w9 ⟨rfl, hbx, hgr⟩
                    have HS9 := Lib.hid ((HS.out.below (below_alloc wr (.cells #[.string x.n, .string x.p, .bool x.a, .bool x.o] 46))).grown hgr (fun k e => by cases e; exact Nat.le_refl _))
                    have HB9 := Lib.hid hbx
                    clear hbx hgr HPu
                    go_wp2_with fail
                    go_roundw
                    case rel => exact ⟨k + 1, by omega, by go_num, HS9, HB9⟩
                    case measure => simp [intOf]; omega
                  · obtain rfl : k = t4 := by omega
                    have HS8 := HS
                    have HBx := HB
                    clear HS HB hlt hk
                    obtain ⟨A9, M9, hrow, hright, hup⟩ := HBx.out.of
                    obtain ⟨b0, b1, b2, b3, _⟩ := hrow4 hrow
                    have hR := HS8.out.z
                    obtain ⟨g0, g1, g2, g3, _⟩ := hrow4 hR
                    have f0 := hR.free 0
                    have f1 := hR.free 1
                    have f2 := hR.free 2
                    have f3 := hR.free 3
                    have HS4 := Lib.hid (store4 hR HS8.out.bel (Nat.le_succ _) (.slice A9.a1 M9.facts.length A9.c1) (.slice A9.a2 M9.files.length A9.c2) (.slice A9.a3 M9.sets.length A9.c3) (.slice A9.a4 M9.svcs.length A9.c4))
                    have HFi : Hid (FitPost ⟨a1, a2, a3, a4, c1, c2, c3, c4⟩ ⟨F, I, S, V⟩ w (.returned (.agg #[.slice A9.a1 M9.facts.length A9.c1, .slice A9.a2 M9.files.length A9.c2, .slice A9.a3 M9.sets.length A9.c3, .slice A9.a4 M9.svcs.length A9.c4])) _) := Lib.hid ⟨A9, M9, rfl, hright, (hup.grown (grown_set4 _ (w.heap.size + 1) (.slice A9.a1 M9.facts.length A9.c1) (.slice A9.a2 M9.files.length A9.c2) (.slice A9.a3 M9.sets.length A9.c3) (.slice A9.a4 M9.svcs.length A9.c4)) (Nat.lt_succ_of_lt HS8.out.hb)).l, HS4.out.2, .inr ((hup.grown (grown_set4 _ (w.heap.size + 1) (.slice A9.a1 M9.facts.length A9.c1) (.slice A9.a2 M9.files.length A9.c2) (.slice A9.a3 M9.sets.length A9.c3) (.slice A9.a4 M9.svcs.length A9.c4)) (Nat.lt_succ_of_lt HS8.out.hb)).base (by have := HS8.out.hb; omega))⟩
                    clear hR hrow hright hup
                    go_wp2_with fail
                    refine bodyPost_ret (v := .agg #[.slice A9.a1 M9.facts.length A9.c1, .slice A9.a2 M9.files.length A9.c2, .slice A9.a3 M9.sets.length A9.c3, .slice A9.a4 M9.svcs.length A9.c4]) ?_ rfl HFi.out
                    clear g0 g1 g2 g3 f0 f1 f2 f3 b0 b1 b2 b3
                    obtain ⟨y0, y1, y2, y3, _⟩ := hrow4 HS4.out.1
                    simp [results, Tryz.results26, go_sem, y0, y1, y2, y3]
end Go.Proofs.YtgdpbdgaldiggaaGreatDoor
