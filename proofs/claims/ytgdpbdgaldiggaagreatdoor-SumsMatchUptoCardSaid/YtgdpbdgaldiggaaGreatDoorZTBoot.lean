/- Walks: slices.Clone of files and services; both Boot; Size. -/
/- Walks: package disk: Boot. -/
import Derived.Test.YtgdpbdgaldiggaaGreatDoorZTPure
import Derived.Test.YtgdpbdgaldiggaaGreatDoorZMWApply
import Derived.Laws.OwnMore

namespace Go.Proofs.YtgdpbdgaldiggaaGreatDoor
open Go.RowKit Go.Shelf

theorem fil_nil {L : List P.Fi} {m cap : Nat} {w : World} (h : FisAt m w none L cap) : L = [] := by
  cases L with
  | nil => rfl
  | cons x r => obtain ⟨b, off, e, _⟩ := h.at_ (by simp); cases e
theorem fil_cells {L : List P.Fi} {m cap : Nat} {w : World} {ad : Addr} (h : FisAt m w (some ad) L cap) : ∀ j u, (flat cellsF L)[j]? = some u → w.cell? (ad.add j) = some u := by
  intro j u hj
  have hne : L ≠ [] := fun e => by subst e; simp [flat] at hj
  obtain ⟨b, off, e, _, hc⟩ := h.at_ hne
  cases e
  have hlt : j < L.length * 3 := by rw [← flat_len cellsF 3 (fun _ => rfl)]; exact (List.getElem?_eq_some_iff.1 hj).1
  have e2 : j = j / 3 * 3 + j % 3 := by omega
  have hq : j / 3 < L.length := by omega
  rw [e2, flat_get cellsF 3 (fun _ => rfl) L (j / 3) hq (j % 3) (by omega)] at hj
  have e1 : (⟨b, off, none⟩ : Addr).add j = ⟨b, off + j, none⟩ := by simp [Addr.add]
  rw [e1]
  obtain ⟨d0, d1, d2⟩ := hc (j / 3) hq
  rcases (show j % 3 = 0 ∨ j % 3 = 1 ∨ j % 3 = 2 by omega) with h2 | h2 | h2
  · rw [h2] at hj; simp [cellsF] at hj; rw [show off + j = off + j / 3 * 3 by omega, d0, hj]
  · rw [h2] at hj; simp [cellsF] at hj; rw [show off + j = off + j / 3 * 3 + 1 by omega, d1, hj]
  · rw [h2] at hj; simp [cellsF] at hj; rw [show off + j = off + j / 3 * 3 + 1 + 1 by omega, d2, hj]
theorem fil_one (L : List P.Fi) : ∀ u ∈ flat cellsF L, u.oneCell' = true := flat_one cellsF (fun x u hu => by simp [cellsF] at hu; rcases hu with rfl | rfl | rfl <;> rfl) L

set_option maxHeartbeats 4000000 in
set_option maxRecDepth 100000 in
theorem cloneFx_any (L : List P.Fi) (a : Option Addr) (cap : Nat) (hl : L.length ≤ 4294967280) (w : World) (hm : FisAt w.heap.size w a L cap) :
    Calls Tryz.prog 145 #[.slice a L.length cap] w fun e w' => ∃ v, e = .returned v ∧ w'.ownsRow w.heap.size 42 3 v L.length (flat cellsF L) ∧ Below w.heap.size w w' := by
  obtain ⟨i0, hi, hz0, hz1, hz2⟩ := info_parts info42
  have q : ∀ (w : World) (a : Option Addr) (n c n' c' : Nat), (binOp .eql 23 (.slice a n c) (.slice none n' c')).run Tryz.prog w = .ok (.bool a.isNone) w := fun w a n c n' c' => Lib.run_eql_slice_nil w _ _ a n c n' c' Tryz.underlying23
  cases a with
  | none =>
    have hL := fil_nil hm
    subst hL
    clear hm
    go_enter Tryz.func145, Tryz.ntmps145
    go_wp2_with fail
    go_ret
    exact ⟨_, rfl, World.ownsRow_nil _ _ _ _, Below.refl _ _⟩
  | some ad =>
    have HC := Lib.hid (fun j u h => cell_keep (below_alloc w (.cells #[] 42)) (fil_cells hm j u h))
    have hone := fil_one L
    have hlen := flat_len cellsF 3 (fun _ => rfl) L
    generalize flat cellsF L = news at *
    generalize L.length = n at *
    clear hm
    go_enter Tryz.func145, Tryz.ntmps145
    go_wp2_with (at_builtin; refine wpList_append_own _ rfl _ _ 23 rfl w.heap.size 42 i0 _ 3 40 Tryz.underlying23 hi hz0 hz1 hz2 rfl (by decide) _ _ _ rfl (World.ownsRow_made w #[] 0 (Nat.le_refl _) (Nat.zero_le _) (by simp)) ad n cap news rfl hlen HC.out hone (by unfold maxLen; omega) (by omega) (by simp) ?_; intro v' w1 hown hgrow hnil)
    go_ret
    refine ⟨v', rfl, by simpa using hown, ?_⟩
    exact (below_alloc w _).grown hgrow (by simp) (fun k hk => by have h2 : some w.heap.size = some k := hk; injection h2 with h2; omega)

theorem svl_nil {L : List P.Sv} {m cap : Nat} {w : World} (h : SvsAt m w none L cap) : L = [] := by
  cases L with
  | nil => rfl
  | cons x r => obtain ⟨b, off, e, _⟩ := h.at_ (by simp); cases e
theorem svl_cells {L : List P.Sv} {m cap : Nat} {w : World} {ad : Addr} (h : SvsAt m w (some ad) L cap) : ∀ j u, (flat cellsV L)[j]? = some u → w.cell? (ad.add j) = some u := by
  intro j u hj
  have hne : L ≠ [] := fun e => by subst e; simp [flat] at hj
  obtain ⟨b, off, e, _, hc⟩ := h.at_ hne
  cases e
  have hlt : j < L.length * 4 := by rw [← flat_len cellsV 4 (fun _ => rfl)]; exact (List.getElem?_eq_some_iff.1 hj).1
  have e2 : j = j / 4 * 4 + j % 4 := by omega
  have hq : j / 4 < L.length := by omega
  rw [e2, flat_get cellsV 4 (fun _ => rfl) L (j / 4) hq (j % 4) (by omega)] at hj
  have e1 : (⟨b, off, none⟩ : Addr).add j = ⟨b, off + j, none⟩ := by simp [Addr.add]
  rw [e1]
  obtain ⟨d0, d1, d2, d3⟩ := hc (j / 4) hq
  rcases (show j % 4 = 0 ∨ j % 4 = 1 ∨ j % 4 = 2 ∨ j % 4 = 3 by omega) with h2 | h2 | h2 | h2
  · rw [h2] at hj; simp [cellsV] at hj; rw [show off + j = off + j / 4 * 4 by omega, d0, hj]
  · rw [h2] at hj; simp [cellsV] at hj; rw [show off + j = off + j / 4 * 4 + 1 by omega, d1, hj]
  · rw [h2] at hj; simp [cellsV] at hj; rw [show off + j = off + j / 4 * 4 + 1 + 1 by omega, d2, hj]
  · rw [h2] at hj; simp [cellsV] at hj; rw [show off + j = off + j / 4 * 4 + 1 + 1 + 1 by omega, d3, hj]
theorem svl_one (L : List P.Sv) : ∀ u ∈ flat cellsV L, u.oneCell' = true := flat_one cellsV (fun x u hu => by simp [cellsV] at hu; rcases hu with rfl | rfl | rfl | rfl <;> rfl) L

set_option maxHeartbeats 4000000 in
set_option maxRecDepth 100000 in
theorem cloneSx_any (L : List P.Sv) (a : Option Addr) (cap : Nat) (hl : L.length ≤ 4294967280) (w : World) (hm : SvsAt w.heap.size w a L cap) :
    Calls Tryz.prog 119 #[.slice a L.length cap] w fun e w' => ∃ v, e = .returned v ∧ w'.ownsRow w.heap.size 46 4 v L.length (flat cellsV L) ∧ Below w.heap.size w w' := by
  obtain ⟨i0, hi, hz0, hz1, hz2⟩ := info_parts info46
  have q : ∀ (w : World) (a : Option Addr) (n c n' c' : Nat), (binOp .eql 24 (.slice a n c) (.slice none n' c')).run Tryz.prog w = .ok (.bool a.isNone) w := fun w a n c n' c' => Lib.run_eql_slice_nil w _ _ a n c n' c' Tryz.underlying24
  cases a with
  | none =>
    have hL := svl_nil hm
    subst hL
    clear hm
    go_enter Tryz.func119, Tryz.ntmps119
    go_wp2_with fail
    go_ret
    exact ⟨_, rfl, World.ownsRow_nil _ _ _ _, Below.refl _ _⟩
  | some ad =>
    have HC := Lib.hid (fun j u h => cell_keep (below_alloc w (.cells #[] 46)) (svl_cells hm j u h))
    have hone := svl_one L
    have hlen := flat_len cellsV 4 (fun _ => rfl) L
    generalize flat cellsV L = news at *
    generalize L.length = n at *
    clear hm
    go_enter Tryz.func119, Tryz.ntmps119
    go_wp2_with (at_builtin; refine wpList_append_own _ rfl _ _ 24 rfl w.heap.size 46 i0 _ 4 40 Tryz.underlying24 hi hz0 hz1 hz2 rfl (by decide) _ _ _ rfl (World.ownsRow_made w #[] 0 (Nat.le_refl _) (Nat.zero_le _) (by simp)) ad n cap news rfl hlen HC.out hone (by unfold maxLen; omega) (by omega) (by simp) ?_; intro v' w1 hown hgrow hnil)
    go_ret
    refine ⟨v', rfl, by simpa using hown, ?_⟩
    exact (below_alloc w _).grown hgrow (by simp) (fun k hk => by have h2 : some w.heap.size = some k := hk; injection h2 with h2; omega)

theorem cloneS_at (L : List P.St) (a : Option Addr) (cap : Nat) (hl : L.length ≤ 4294967280) (w : World) (hm : StsAt w.heap.size w a L cap) :
    Calls Tryz.prog 144 #[.slice a L.length cap] w fun e w' => ∃ p c, e = .returned (.slice p L.length c) ∧ (StsAt w'.heap.size w' p L c ∧ ∀ q, p = some q → w.heap.size ≤ q.block ∧ q.block < w'.heap.size) ∧ Below w.heap.size w w' :=
  (cloneS_any L a cap hl w hm).mono fun e w' ⟨v, h1, h2, h3⟩ => by
    obtain ⟨p, c, rfl, h4, h5⟩ := ownAtS h2
    exact ⟨p, c, h1, ⟨h4, h5⟩, h3⟩
theorem cloneF_at (L : List P.Fi) (a : Option Addr) (cap : Nat) (hl : L.length ≤ 4294967280) (w : World) (hm : FisAt w.heap.size w a L cap) :
    Calls Tryz.prog 145 #[.slice a L.length cap] w fun e w' => ∃ p c, e = .returned (.slice p L.length c) ∧ (FisAt w'.heap.size w' p L c ∧ ∀ q, p = some q → w.heap.size ≤ q.block ∧ q.block < w'.heap.size) ∧ Below w.heap.size w w' :=
  (cloneFx_any L a cap hl w hm).mono fun e w' ⟨v, h1, h2, h3⟩ => by
    obtain ⟨p, c, rfl, h4, h5⟩ := ownAtF h2
    exact ⟨p, c, h1, ⟨h4, h5⟩, h3⟩

set_option maxHeartbeats 4000000 in
theorem dsize_any (A : Ad) (m : P.Mach) (hr : P.Right m) (w : World) (hw : Good w) (hl : Lies w.heap.size w A m) :
    Calls Tryz.prog 13 #[machV A m] w fun e w' => e = .returned (.tuple #[.int .i64 (P.sizeOf m.files), .int .i64 0]) ∧ Below w.heap.size w w' := by
  have hC := fun W (hb : Below w.heap.size w W) => dcheck_any A m hr.fit W (hw.mono hb) ((hl.below hb).up hb.size)
  rw [(P.right_iff m).2 hr] at hC
  have HC := Lib.hid hC
  have HL := Lib.hid hl
  have HR := Lib.hid hr
  clear hC hl hw hr
  obtain ⟨a1, a2, a3, a4, c1, c2, c3, c4⟩ := A
  obtain ⟨F, I, S, V⟩ := m
  unfold machV at HC ⊢
  simp only at HC ⊢
  have hlI : I.length ≤ 2000 := HR.out.l2
  have HSz : Hid (∀ k, P.sizeOf (I.take k) ≤ 131072000) := Lib.hid (fun k => by
    have := P.sizeOf_le (L := I.take k) (n := 65536) (fun x hx => (P.fileErr_zero.1 (HR.out.a2 x (List.mem_of_mem_take hx))).2)
    have := List.length_take_le' k I
    omega)
  have HX : Hid (∀ k (hk : k < I.length), I[k].d.size ≤ 65536) := Lib.hid (fun k hk => (P.fileErr_zero.1 (HR.out.a2 _ (List.getElem_mem hk))).2)
  have HR0 := Lib.hid (HasRow.new w #[.slice a1 F.length c1, .slice a2 I.length c2, .slice a3 S.length c3, .slice a4 V.length c4] 26)
  clear HR
  go_enter Tryz.func13, Tryz.ntmps13
  go_wp2_with fail
  refine (HC.out _ (below_alloc _ _)).mono ?_
  rintro e w1 ⟨rfl, hb1⟩
  have HB1 := Lib.hid (bstep (below_alloc _ _) hb1)
  obtain ⟨g0, g1, g2, g3, _⟩ := hrow4 (HR0.out.below hb1)
  clear hb1 HR0 HC
  go_wp2_with fail
  go_loopw [5, 16] (fun z i wr => ∃ k : Nat, k ≤ I.length ∧ i = .int .i64 k ∧ Hid (z = .int .i64 (P.sizeOf (I.take k))) ∧ Hid (Below w.heap.size w wr)) (fun _ i _ => I.length - (intOf i).toNat)
  case atStart => exact ⟨0, Nat.zero_le _, rfl, Lib.hid rfl, HB1⟩
  case round =>
    obtain ⟨k, hk, rfl, HZ, HW⟩ := hrel
    have hz := HZ.out
    clear HZ
    subst hz
    have hs0 := HSz.out k
    by_cases hlt : k < I.length
    · obtain ⟨b, off, rfl, hbm, hc⟩ := (HL.out.i.below HW.out).at_ (ne_nil_of_lt hlt)
      obtain ⟨d0, d1, d2⟩ := hc k hlt
      have hx := HX.out k hlt
      have HS := Lib.hid (P.size_snoc I k hlt)
      clear hc
      generalize P.sizeOf (I.take k) = z at *
      generalize I[k] = x at *
      go_wp2_with fail
      go_roundw
      case rel => exact ⟨k + 1, by omega, by go_num, Lib.hid (by rw [HS.out]; go_num), Lib.hid (bstep HW.out (below_alloc _ _))⟩
      case measure => simp [intOf]; omega
    · have hkl : k = I.length := by omega
      subst hkl
      rw [List.take_length]
      go_wp2_with fail
      go_ret2
      exact ⟨rfl, HW.out⟩

namespace P
def bootV (x : Sv) : Sv := { x with o := x.a }
def bk (V : List Sv) (k : Nat) : List Sv := (V.take k).map bootV ++ V.drop k
theorem bk_zero (V : List Sv) : bk V 0 = V := by unfold bk; simp
theorem bk_all (V : List Sv) : bk V V.length = V.map bootV := by unfold bk; simp
theorem bk_length (V : List Sv) {k : Nat} (hk : k ≤ V.length) : (bk V k).length = V.length := by unfold bk; simp; omega
theorem bk_get (V : List Sv) {k : Nat} (hk : k < V.length) : (bk V k)[k]? = some V[k] := by
  unfold bk
  have e : ((V.take k).map bootV).length = k := by simp; omega
  rw [List.getElem?_append_right (by omega), e, Nat.sub_self, List.getElem?_drop]
  simp [hk]
theorem bk_step (V : List Sv) {k : Nat} (hk : k < V.length) : (bk V k).set k (bootV V[k]) = bk V (k + 1) := by
  unfold bk
  have e : ((V.take k).map bootV).length = k := by simp; omega
  rw [List.set_append_right _ _ (by omega), e, Nat.sub_self, List.drop_eq_getElem_cons hk, List.set_cons_zero, List.take_succ_eq_append_getElem hk, List.map_append, List.append_assoc]
  rfl
end P
theorem flat_set (L : List P.Sv) (b : Bool) : ∀ (k : Nat) (x : P.Sv), L[k]? = some x → (flat cellsV L).set (k * 4 + 3) (.bool b) = flat cellsV (L.set k { x with o := b }) := by
  induction L with
  | nil => intro k x h; simp at h
  | cons y L ih =>
    intro k x h
    show (cellsV y ++ flat cellsV L).set _ _ = _
    cases k with
    | zero => simp at h; subst h; rfl
    | succ k =>
      rw [List.set_append_right _ _ (by show 4 ≤ _; omega), show (k + 1) * 4 + 3 - (cellsV y).length = k * 4 + 3 from (by show (k + 1) * 4 + 3 - 4 = _; omega), ih k x (by simpa using h)]
      rfl

/-- the state of the reference's Boot -/
structure RB (w wr : World) (ra : Array Value) (v : Value) (V : List P.Sv) (k : Nat) : Prop where
  m : HasRow wr w.heap.size ra
  r : HasRow wr (w.heap.size + 1) mz
  o : wr.ownsRow (w.heap.size + 1 + 1) 46 4 v V.length (flat cellsV (P.bk V k))
  b : Below w.heap.size w wr
theorem RB.drew {w wr : World} {ra : Array Value} {v : Value} {V : List P.Sv} {k : Nat} (h : RB w wr ra v V k) : RB w wr.drew ra v V k := ⟨h.m.drew, h.r.drew, own_below h.o ((Below.refl _ _).drew), h.b.drew⟩
set_option maxRecDepth 100000 in
set_option maxHeartbeats 8000000 in
theorem rboot_any (A : Ad) (m : P.Mach) (hf : m.fit) (w : World) (hl : Lies w.heap.size w A m) :
    Calls Tryz.prog 51 #[machV A m] w fun e w' => ∃ p c, e = .returned (machV { A with a4 := p, c4 := c } (P.boot m)) ∧ (Lies w'.heap.size w' { A with a4 := p, c4 := c } (P.boot m) ∧ ∀ q, p = some q → w.heap.size ≤ q.block) ∧ Below w.heap.size w w' := by
  have HV := Lib.hid (fun W (h : Below w.heap.size w W) => cloneSx_any m.svcs A.a4 A.c4 hf.l4 W ((hl.below h).up h.size).v)
  have HL := Lib.hid hl
  have hlV : m.svcs.length ≤ 4294967280 := hf.l4
  clear hl hf
  obtain ⟨a1, a2, a3, a4, c1, c2, c3, c4⟩ := A
  obtain ⟨F, I, S, V⟩ := m
  unfold machV P.boot
  simp only at HV hlV ⊢
  have hA := (HasRow.new w #[.slice a1 F.length c1, .slice a2 I.length c2, .slice a3 S.length c3, .slice a4 V.length c4] 26).alloc (.cells mz 26)
  have hB := HasRow.new (w.alloc (.cells #[.slice a1 F.length c1, .slice a2 I.length c2, .slice a3 S.length c3, .slice a4 V.length c4] 26)) mz 26
  rw [World.size_alloc] at hB
  have hZ := below2 w (.cells #[.slice a1 F.length c1, .slice a2 I.length c2, .slice a3 S.length c3, .slice a4 V.length c4] 26) (.cells mz 26)
  have hs2 : ((w.alloc (.cells #[.slice a1 F.length c1, .slice a2 I.length c2, .slice a3 S.length c3, .slice a4 V.length c4] 26)).alloc (.cells mz 26)).heap.size = w.heap.size + 1 + 1 := by simp
  have HA := Lib.hid hA
  have HB := Lib.hid hB
  have HZ := Lib.hid hZ
  have HS2 := Lib.hid hs2
  clear hA hB hZ hs2
  go_enter Tryz.func51, Tryz.ntmps51
  go_wp2_with fail
  refine (HV.out _ HZ.out).mono ?_
  rintro e w1 ⟨v, rfl, hown, hb⟩
  rw [HS2.out] at hown
  have hm := HA.out.below hb
  obtain ⟨m0, m1, m2, m3, _⟩ := hrow4 hm
  have f3 := hm.free 3
  obtain ⟨p, c, rfl, _⟩ := ownAtV hown
  have HR : Hid (RB w (w1.setCell ⟨w.heap.size, 3, none⟩ (.slice p V.length c)) #[.slice a1 F.length c1, .slice a2 I.length c2, .slice a3 S.length c3, .slice p V.length c] (.slice p V.length c) V 0) := Lib.hid
    ⟨hm.set 3 _ (by simp), (HB.out.below hb).other 3 _ (by omega), by rw [P.bk_zero]; exact own_store hown (by omega), (bstep HZ.out hb).setCell (p := ⟨w.heap.size, 3, none⟩) (Nat.le_refl _) _⟩
  clear hown hb hm HA HB HZ HS2
  have e3 := HR.out.m.cell 3
  go_wp2_with fail
  clear m0 m1 m2 m3 f3 e3
  go_loopw [11] (fun i wr => ∃ k : Nat, k ≤ V.length ∧ i = .int .i64 k ∧ Hid (RB w wr #[.slice a1 F.length c1, .slice a2 I.length c2, .slice a3 S.length c3, .slice p V.length c] (.slice p V.length c) V k)) (fun i _ => V.length - (intOf i).toNat)
  case atStart => exact ⟨0, Nat.zero_le _, rfl, HR⟩
  case round =>
    obtain ⟨k, hk, rfl, HQ⟩ := hrel
    obtain ⟨m0, m1, m2, m3, _⟩ := hrow4 HQ.out.m
    by_cases hlt : k < V.length
    · have i0 : (0 : Int) ≤ (k : Int) := by omega
      have i1 : (k : Int) < (V.length : Int) := by omega
      have hbl := P.bk_length V hk
      obtain ⟨g, hp⟩ : ∃ g, p = some ⟨g, 0, none⟩ := by
        obtain ⟨_, ⟨_, q2⟩ | ⟨g, cap, cur, q1, _⟩⟩ := HQ.out.o
        · omega
        · injection q1 with q1; exact ⟨g, q1⟩
      have hob := HQ.out.o
      rw [← hbl] at hob
      obtain ⟨a, cap, e1, hat, hbase⟩ := ownAtV hob
      obtain ⟨g2, off, e2, hg, hc⟩ := hat.at_ (ne_nil_of_lt (by rw [hbl]; exact hlt))
      injection e1 with e1 _ e4
      subst e4
      rw [← e1, hp] at e2
      injection e2 with e2
      injection e2 with e2 e3 _
      subst e2 e3 hp
      subst e1
      obtain ⟨d0, d1, d2, d3⟩ := hc k (by rw [hbl]; exact hlt)
      have hget : (P.bk V k)[k]'(by rw [hbl]; exact hlt) = V[k] := by
        have := P.bk_get V hlt
        rw [List.getElem?_eq_getElem (by rw [hbl]; exact hlt)] at this
        injection this
      rw [hget] at d2 d3
      rw [Nat.zero_add] at d2 d3
      have hfz := World.ownsRow.frozenAt HQ.out.o (k * 4 + 1 + 1 + 1)
      have hst := World.ownsRow.stored HQ.out.o (k * 4 + 3) (.bool V[k].a)
      rw [flat_set (P.bk V k) V[k].a k V[k] (P.bk_get V hlt)] at hst
      have hstep := P.bk_step V hlt
      unfold P.bootV at hstep
      rw [hstep] at hst
      have hbs := hbase ⟨g, 0, none⟩ rfl
      have HN : Hid (RB w ((wr.setCell ⟨g, k * 4 + 3, none⟩ (.bool V[k].a))) #[.slice a1 F.length c1, .slice a2 I.length c2, .slice a3 S.length c3, .slice (some ⟨g, 0, none⟩) V.length c] (.slice (some ⟨g, 0, none⟩) V.length c) V (k + 1)) := Lib.hid
        ⟨HQ.out.m.grown hst.2 (fun e => by injection e with e; have := hbs.1; simp only at this; omega), HQ.out.r.grown hst.2 (fun e => by injection e with e; have := hbs.1; simp only at this; omega), hst.1, HQ.out.b.setCell (p := ⟨g, k * 4 + 3, none⟩) (by have := hbs.1; simp only at this; show w.heap.size ≤ g; omega) _⟩
      clear hc hget hst hstep hob hat d0 d1 hbase
      go_wp2_with fail
      go_region
      have HN2 := Lib.hid HN.out.drew
      go_wp2_with fail
      go_roundw
      case rel => exact ⟨k + 1, by omega, by go_num, HN2⟩
      case measure => simp [intOf]; omega
    · have hkl : k = V.length := by omega
      subst hkl
      have hown := HQ.out.o
      rw [P.bk_all] at hown
      have hlm : (V.map P.bootV).length = V.length := List.length_map _
      obtain ⟨p2, cap, e1, hat, _⟩ := ownAtV (M := V.map P.bootV) (by rw [hlm]; exact hown)
      rw [hlm] at e1
      injection e1 with e1 _ e4
      subst e1
      subst e4
      have hR := HQ.out.r
      obtain ⟨g0, g1, g2, g3, _⟩ := hrow4 hR
      have f0 := hR.free 0
      have f1 := hR.free 1
      have f2 := hR.free 2
      have f3 := hR.free 3
      have HS4 := Lib.hid (store4 hR HQ.out.b (Nat.le_succ _) (.slice a1 F.length c1) (.slice a2 I.length c2) (.slice a3 S.length c3) (.slice p V.length c))
      have HP : Hid (Lies ((((wr.setCell ⟨w.heap.size + 1, 0, none⟩ (.slice a1 F.length c1)).setCell ⟨w.heap.size + 1, 1, none⟩ (.slice a2 I.length c2)).setCell ⟨w.heap.size + 1, 2, none⟩ (.slice a3 S.length c3)).setCell ⟨w.heap.size + 1, 3, none⟩ (.slice p V.length c)).heap.size ((((wr.setCell ⟨w.heap.size + 1, 0, none⟩ (.slice a1 F.length c1)).setCell ⟨w.heap.size + 1, 1, none⟩ (.slice a2 I.length c2)).setCell ⟨w.heap.size + 1, 2, none⟩ (.slice a3 S.length c3)).setCell ⟨w.heap.size + 1, 3, none⟩ (.slice p V.length c)) { a1 := a1, a2 := a2, a3 := a3, a4 := p, c1 := c1, c2 := c2, c3 := c3, c4 := c } { facts := F, files := I, sets := S, svcs := V.map P.bootV }) := Lib.hid (by
        have h1 := (HL.out.below HS4.out.2).up HS4.out.2.size
        have hg4 := grown_set4 wr (w.heap.size + 1) (.slice a1 F.length c1) (.slice a2 I.length c2) (.slice a3 S.length c3) (.slice p V.length c)
        exact ⟨h1.f, h1.i, h1.s, svs_but hat hg4 (fun q e => by
          have := (World.ownsRow.lt HQ.out.o q.block (by rw [show p = some q from e]; rfl)).1
          omega)⟩)
      have HPl := Lib.hid (fun q (e : p = some q) => show w.heap.size ≤ q.block by have := (World.ownsRow.lt HQ.out.o q.block (by rw [show p = some q from e]; rfl)).1; omega)
      clear hown hat hR
      go_wp2_with fail
      refine bodyPost_ret (v := .agg #[.slice a1 F.length c1, .slice a2 I.length c2, .slice a3 S.length c3, .slice p V.length c]) ?_ rfl ⟨p, c, by first | rfl | simp, ⟨HP.out, HPl.out⟩, HS4.out.2⟩
      clear g0 g1 g2 g3 f0 f1 f2 f3
      obtain ⟨y0, y1, y2, y3, _⟩ := hrow4 HS4.out.1
      simp [results, Tryz.results51, go_sem, y0, y1, y2, y3]
end Go.Proofs.YtgdpbdgaldiggaaGreatDoor

namespace Go.Proofs.YtgdpbdgaldiggaaGreatDoor
open Go.RowKit Go.Shelf

theorem keep4' {W W' : World} {p0 p1 p2 p3 : Addr} {v0 v1 v2 v3 : Value} (h : W.cell? p0 = some v0 ∧ W.cell? p1 = some v1 ∧ W.cell? p2 = some v2 ∧ W.cell? p3 = some v3) (hb : Below W.heap.size W W') :
    W'.cell? p0 = some v0 ∧ W'.cell? p1 = some v1 ∧ W'.cell? p2 = some v2 ∧ W'.cell? p3 = some v3 := ⟨cell_keep hb h.1, cell_keep hb h.2.1, cell_keep hb h.2.2.1, cell_keep hb h.2.2.2⟩
/-- the state of disk's boot: the machine's box, the result's, the new machine's box N behind the clones -/
structure DB (w wN wr : World) (N : Nat) (ra : Array Value) (s1 s2 s3 : Value) (v : Value) (V : List P.Sv) (k : Nat) : Prop where
  x : HasRow wr N #[s1, s2, s3, v]
  o : wr.ownsRow wN.heap.size 46 4 v k (flat cellsV ((V.take k).map P.bootV))
  g : wN.grownBy wr (some N)
  m : HasRow wr w.heap.size ra
  r : HasRow wr (w.heap.size + 1) mz
  b : Below w.heap.size w wr
  n : w.heap.size + 1 + 1 ≤ N
  l : N < wN.heap.size
theorem svs_flat (V : List P.Sv) (k : Nat) (hk : k < V.length) : flat cellsV ((V.take (k + 1)).map P.bootV) = flat cellsV ((V.take k).map P.bootV) ++ cellsV (P.bootV V[k]) := by
  rw [List.take_succ_eq_append_getElem hk, List.map_append]
  unfold flat
  rw [List.flatMap_append]; simp

theorem DB.step {w wN wr w3 : World} {N : Nat} {ra : Array Value} {s1 s2 s3 v v' : Value} {V : List P.Sv} {k : Nat} {o o' : Obj} (h : DB w wN wr N ra s1 s2 s3 v V k) (hk : k < V.length)
    (hown : w3.ownsRow wN.heap.size 46 4 v' (k + 1) (flat cellsV ((V.take k).map P.bootV) ++ cellsV (P.bootV V[k]))) (hg : ((wr.alloc o).alloc o').grownBy w3 v.ownBlock) :
    w3.cell? ⟨N, 3, none⟩ = some v ∧ w3.frozen? ⟨N, 3, none⟩ = false ∧ DB w wN (w3.setCell ⟨N, 3, none⟩ v') N ra s1 s2 s3 v' V (k + 1) := by
  have hv := own_ge h.o
  have hn := h.n
  have hl := h.l
  have hNe : ∀ j, j < wN.heap.size → some j ≠ v.ownBlock := fun j hj e => by have := hv j e.symm; omega
  have hx : HasRow w3 N #[s1, s2, s3, v] := ((h.x.alloc o).alloc o').grown hg (hNe N hl)
  have hgs : w3.grownBy (w3.setCell ⟨N, 3, none⟩ v') (some N) := ⟨rfl, rfl, rfl, by simp [World.setCell], fun k _ hk => Below.heap_setCell _ _ _ k (fun e => hk (by rw [e]))⟩
  have hg3 : wN.grownBy w3 (some N) := by
    have h1 : wN.grownBy ((wr.alloc o).alloc o') (some N) := (h.g.trans (World.grownBy_alloc wr o _)).trans (World.grownBy_alloc _ o' _)
    exact ⟨hg.os.trans h1.os, hg.tape.trans h1.tape, hg.output.trans h1.output, Nat.le_trans h1.size hg.size, fun k hk hne => (hg.block k (Nat.lt_of_lt_of_le hk h1.size) (hNe k hk)).trans (h1.block k hk hne)⟩
  refine ⟨hx.cell 3, hx.free 3, hx.set 3 v' (by simp), ?_, hg3.trans hgs, ?_, ?_, ?_, hn, hl⟩
  · rw [svs_flat V k hk]; exact own_store hown hl
  · exact (((h.m.alloc o).alloc o').grown hg (hNe _ (by omega))).grown hgs (fun e => by injection e with e; omega)
  · exact (((h.r.alloc o).alloc o').grown hg (hNe _ (by omega))).grown hgs (fun e => by injection e with e; omega)
  · exact (((bstep (bstep h.b (below_alloc wr o)) (below_alloc _ o')).grown hg (Nat.le_trans h.b.size (by simp [Nat.le_add_right, Nat.add_assoc])) (fun j e => by have := hv j e; omega))).setCell (p := ⟨N, 3, none⟩) (show w.heap.size ≤ N by omega) _
theorem cell_set4 {W : World} {k i N : Nat} {v : Value} (h : W.cell? ⟨k, i, none⟩ = some v) (hne : k ≠ N) (x y z u : Value) :
    ((((W.setCell ⟨N, 0, none⟩ x).setCell ⟨N, 1, none⟩ y).setCell ⟨N, 2, none⟩ z).setCell ⟨N, 3, none⟩ u).cell? ⟨k, i, none⟩ = some v := by
  have hn : ∀ j, (⟨N, j, none⟩ : Addr) ≠ ⟨k, i, none⟩ := fun j e => hne (by injection e with e; exact e.symm)
  rw [World.cell?_setCell_other (h := hn 3), World.cell?_setCell_other (h := hn 2), World.cell?_setCell_other (h := hn 1), World.cell?_setCell_other (h := hn 0)]
  exact h
theorem keep4s {W : World} {k N : Nat} {v0 v1 v2 v3 : Value} (h : W.cell? ⟨k, 0, none⟩ = some v0 ∧ W.cell? ⟨k, 1, none⟩ = some v1 ∧ W.cell? ⟨k, 2, none⟩ = some v2 ∧ W.cell? ⟨k, 3, none⟩ = some v3) (hne : k ≠ N) {x y z u : Value} :
    ((((W.setCell ⟨N, 0, none⟩ x).setCell ⟨N, 1, none⟩ y).setCell ⟨N, 2, none⟩ z).setCell ⟨N, 3, none⟩ u).cell? ⟨k, 0, none⟩ = some v0 ∧ ((((W.setCell ⟨N, 0, none⟩ x).setCell ⟨N, 1, none⟩ y).setCell ⟨N, 2, none⟩ z).setCell ⟨N, 3, none⟩ u).cell? ⟨k, 1, none⟩ = some v1 ∧ ((((W.setCell ⟨N, 0, none⟩ x).setCell ⟨N, 1, none⟩ y).setCell ⟨N, 2, none⟩ z).setCell ⟨N, 3, none⟩ u).cell? ⟨k, 2, none⟩ = some v2 ∧ ((((W.setCell ⟨N, 0, none⟩ x).setCell ⟨N, 1, none⟩ y).setCell ⟨N, 2, none⟩ z).setCell ⟨N, 3, none⟩ u).cell? ⟨k, 3, none⟩ = some v3 :=
  ⟨cell_set4 h.1 hne _ _ _ _, cell_set4 h.2.1 hne _ _ _ _, cell_set4 h.2.2.1 hne _ _ _ _, cell_set4 h.2.2.2 hne _ _ _ _⟩
theorem lt_of_cell {W : World} {k i : Nat} {v : Value} (h : W.cell? ⟨k, i, none⟩ = some v) : k < W.heap.size := World.block_lt_of_cell? W ⟨k, i, none⟩ h
/-- the clones lie beside the new machine's box, and behind lo -/
def Beside3 (W : World) (N lo : Nat) (p1 p2 p3 : Option Addr) (F : List P.St) (I : List P.Fi) (S : List P.St) (k1 k2 k3 : Nat) : Prop :=
  (StsAt W.heap.size W p1 F k1 ∧ ∀ q, p1 = some q → q.block ≠ N ∧ lo ≤ q.block) ∧ (FisAt W.heap.size W p2 I k2 ∧ ∀ q, p2 = some q → q.block ≠ N ∧ lo ≤ q.block) ∧ (StsAt W.heap.size W p3 S k3 ∧ ∀ q, p3 = some q → q.block ≠ N ∧ lo ≤ q.block)
theorem Beside3.but {W W' : World} {N lo : Nat} {p1 p2 p3 : Option Addr} {F : List P.St} {I : List P.Fi} {S : List P.St} {k1 k2 k3 : Nat} (h : Beside3 W N lo p1 p2 p3 F I S k1 k2 k3) (hg : W.grownBy W' (some N)) : Beside3 W' N lo p1 p2 p3 F I S k1 k2 k3 :=
  ⟨⟨sts_but h.1.1 hg fun q e => (h.1.2 q e).1, h.1.2⟩, ⟨fis_but h.2.1.1 hg fun q e => (h.2.1.2 q e).1, h.2.1.2⟩, ⟨sts_but h.2.2.1 hg fun q e => (h.2.2.2 q e).1, h.2.2.2⟩⟩
theorem Beside3.low {W W' : World} {N lo k : Nat} {p1 p2 p3 : Option Addr} {F : List P.St} {I : List P.Fi} {S : List P.St} {k1 k2 k3 : Nat} (h : Beside3 W N lo p1 p2 p3 F I S k1 k2 k3) (hg : W.grownBy W' (some k)) (hk : k < lo) : Beside3 W' N lo p1 p2 p3 F I S k1 k2 k3 :=
  ⟨⟨sts_but h.1.1 hg fun q e => Nat.ne_of_gt (Nat.lt_of_lt_of_le hk (h.1.2 q e).2), h.1.2⟩, ⟨fis_but h.2.1.1 hg fun q e => Nat.ne_of_gt (Nat.lt_of_lt_of_le hk (h.2.1.2 q e).2), h.2.1.2⟩, ⟨sts_but h.2.2.1 hg fun q e => Nat.ne_of_gt (Nat.lt_of_lt_of_le hk (h.2.2.2 q e).2), h.2.2.2⟩⟩
theorem sts_up {W W' : World} {a : Option Addr} {L : List P.St} {cap : Nat} (h : StsAt W.heap.size W a L cap) (hb : Below W.heap.size W W') : StsAt W'.heap.size W' a L cap :=
  ⟨h.le, fun hn => let ⟨b, off, e, h1, h2⟩ := (h.below hb).at_ hn; ⟨b, off, e, Nat.lt_of_lt_of_le h1 hb.size, h2⟩⟩
theorem fis_up {W W' : World} {a : Option Addr} {L : List P.Fi} {cap : Nat} (h : FisAt W.heap.size W a L cap) (hb : Below W.heap.size W W') : FisAt W'.heap.size W' a L cap :=
  ⟨h.le, fun hn => let ⟨b, off, e, h1, h2⟩ := (h.below hb).at_ hn; ⟨b, off, e, Nat.lt_of_lt_of_le h1 hb.size, h2⟩⟩
theorem boot_first {w W : World} {N : Nat} {ra vs : Array Value} {p1 p2 p3 : Option Addr} {F : List P.St} {I : List P.Fi} {S : List P.St} {k1 k2 k3 : Nat} (hA : HasRow W w.heap.size ra) (hB : HasRow W (w.heap.size + 1) mz) (hb : Below w.heap.size w W)
    (h1 : StsAt W.heap.size W p1 F k1) (h2 : FisAt W.heap.size W p2 I k2) (h3 : StsAt W.heap.size W p3 S k3) (hN : HasRow W N vs) (hle : w.heap.size + 1 + 1 ≤ N) (hvs : vs = #[.slice p1 F.length k1, .slice p2 I.length k2, .slice p3 S.length k3, .slice none 0 0])
    (n1 : ∀ q, p1 = some q → q.block ≠ N ∧ w.heap.size + 1 + 1 ≤ q.block) (n2 : ∀ q, p2 = some q → q.block ≠ N ∧ w.heap.size + 1 + 1 ≤ q.block) (n3 : ∀ q, p3 = some q → q.block ≠ N ∧ w.heap.size + 1 + 1 ≤ q.block) (V : List P.Sv) :
    DB w W W N ra (.slice p1 F.length k1) (.slice p2 I.length k2) (.slice p3 S.length k3) (.slice none 0 0) V 0 ∧ Beside3 W N (w.heap.size + 1 + 1) p1 p2 p3 F I S k1 k2 k3 :=
  ⟨⟨hvs ▸ hN, World.ownsRow_nil _ _ _ _, World.grownBy_refl' _ _, hA, hB, hb, hle, hN.lt⟩, ⟨h1, n1⟩, ⟨h2, n2⟩, ⟨h3, n3⟩⟩
theorem boot_set {w W : World} {N : Nat} {ra : Array Value} {p1 p2 p3 : Option Addr} {F : List P.St} {I : List P.Fi} {S : List P.St} {k1 k2 k3 : Nat} (hA : HasRow W w.heap.size ra) (hB : HasRow W (w.heap.size + 1) mz) (hb : Below w.heap.size w W)
    (h1 : StsAt W.heap.size W p1 F k1) (h2 : FisAt W.heap.size W p2 I k2) (h3 : StsAt W.heap.size W p3 S k3) (hN : HasRow W N mz) (hle : w.heap.size + 1 + 1 ≤ N)
    (n1 : ∀ q, p1 = some q → q.block ≠ N ∧ w.heap.size + 1 + 1 ≤ q.block) (n2 : ∀ q, p2 = some q → q.block ≠ N ∧ w.heap.size + 1 + 1 ≤ q.block) (n3 : ∀ q, p3 = some q → q.block ≠ N ∧ w.heap.size + 1 + 1 ≤ q.block) (V : List P.Sv) :
    let W' := (((W.setCell ⟨N, 0, none⟩ (.slice p1 F.length k1)).setCell ⟨N, 1, none⟩ (.slice p2 I.length k2)).setCell ⟨N, 2, none⟩ (.slice p3 S.length k3)).setCell ⟨N, 3, none⟩ (.slice none 0 0)
    DB w W' W' N ra (.slice p1 F.length k1) (.slice p2 I.length k2) (.slice p3 S.length k3) (.slice none 0 0) V 0 ∧ Beside3 W' N (w.heap.size + 1 + 1) p1 p2 p3 F I S k1 k2 k3 := by
  have hg := grown_set4 W N (.slice p1 F.length k1) (.slice p2 I.length k2) (.slice p3 S.length k3) (.slice none 0 0)
  have hs := store4 hN hb (by omega) (.slice p1 F.length k1) (.slice p2 I.length k2) (.slice p3 S.length k3) (.slice none 0 0)
  exact boot_first (row_but hA hg (by omega)) (row_but hB hg (by omega)) hs.2 (sts_but h1 hg fun q e => (n1 q e).1) (fis_but h2 hg fun q e => (n2 q e).1) (sts_but h3 hg fun q e => (n3 q e).1) hs.1 hle rfl n1 n2 n3 V
set_option maxRecDepth 100000 in
set_option maxHeartbeats 16000000 in
theorem dboot_any (A : Ad) (m : P.Mach) (hf : m.fit) (w : World) (hl : Lies w.heap.size w A m) :
    Calls Tryz.prog 86 #[machV A m] w fun e w' => ∃ A', e = .returned (machV A' (P.boot m)) ∧ Up w.heap.size w' A' (P.boot m) ∧ Below w.heap.size w w' := by
  obtain ⟨i0, hi, hz0, hz1, hz2⟩ := info_parts info46
  have HC1 := Lib.hid (fun W (h : Below w.heap.size w W) => cloneS_at m.facts A.a1 A.c1 hf.l1 W ((hl.below h).up h.size).f)
  have HC2 := Lib.hid (fun W (h : Below w.heap.size w W) => cloneF_at m.files A.a2 A.c2 hf.l2 W ((hl.below h).up h.size).i)
  have HC3 := Lib.hid (fun W (h : Below w.heap.size w W) => cloneS_at m.sets A.a3 A.c3 hf.l3 W ((hl.below h).up h.size).s)
  have HL := Lib.hid hl
  have hlV : m.svcs.length ≤ 4294967280 := hf.l4
  clear hl hf
  obtain ⟨a1, a2, a3, a4, c1, c2, c3, c4⟩ := A
  obtain ⟨F, I, S, V⟩ := m
  unfold machV P.boot
  simp only at HC1 HC2 HC3 hlV ⊢
  have hZ := below2 w (.cells #[.slice a1 F.length c1, .slice a2 I.length c2, .slice a3 S.length c3, .slice a4 V.length c4] 26) (.cells mz 26)
  have hz0' : w.heap.size + 1 + 1 ≤ (((w.alloc (.cells #[.slice a1 F.length c1, .slice a2 I.length c2, .slice a3 S.length c3, .slice a4 V.length c4] 26)).alloc (.cells mz 26))).heap.size := by simp
  replace HC1 := Lib.hid (fun W (h : Below (((w.alloc (.cells #[.slice a1 F.length c1, .slice a2 I.length c2, .slice a3 S.length c3, .slice a4 V.length c4] 26)).alloc (.cells mz 26))).heap.size (((w.alloc (.cells #[.slice a1 F.length c1, .slice a2 I.length c2, .slice a3 S.length c3, .slice a4 V.length c4] 26)).alloc (.cells mz 26))) W) => HC1.out W (bstep hZ h))
  replace HC2 := Lib.hid (fun W (h : Below (((w.alloc (.cells #[.slice a1 F.length c1, .slice a2 I.length c2, .slice a3 S.length c3, .slice a4 V.length c4] 26)).alloc (.cells mz 26))).heap.size (((w.alloc (.cells #[.slice a1 F.length c1, .slice a2 I.length c2, .slice a3 S.length c3, .slice a4 V.length c4] 26)).alloc (.cells mz 26))) W) => HC2.out W (bstep hZ h))
  replace HC3 := Lib.hid (fun W (h : Below (((w.alloc (.cells #[.slice a1 F.length c1, .slice a2 I.length c2, .slice a3 S.length c3, .slice a4 V.length c4] 26)).alloc (.cells mz 26))).heap.size (((w.alloc (.cells #[.slice a1 F.length c1, .slice a2 I.length c2, .slice a3 S.length c3, .slice a4 V.length c4] 26)).alloc (.cells mz 26))) W) => HC3.out W (bstep hZ h))
  have HZ := Lib.hid hZ
  have hA := (HasRow.new w #[.slice a1 F.length c1, .slice a2 I.length c2, .slice a3 S.length c3, .slice a4 V.length c4] 26).alloc (.cells mz 26)
  have hB := HasRow.new (w.alloc (.cells #[.slice a1 F.length c1, .slice a2 I.length c2, .slice a3 S.length c3, .slice a4 V.length c4] 26)) mz 26
  rw [World.size_alloc] at hB
  have hN00 := (HasRow.new (((w.alloc (.cells #[.slice a1 F.length c1, .slice a2 I.length c2, .slice a3 S.length c3, .slice a4 V.length c4] 26)).alloc (.cells mz 26))) mz 26).drew
  rw [World.size_alloc, World.size_alloc] at hN00
  have HN00 := Lib.hid hN00
  obtain ⟨d0, d1, d2, d3, _⟩ := hrow4 hA
  have hA0 := (Below.refl (((w.alloc (.cells #[.slice a1 F.length c1, .slice a2 I.length c2, .slice a3 S.length c3, .slice a4 V.length c4] 26)).alloc (.cells mz 26))).heap.size (((w.alloc (.cells #[.slice a1 F.length c1, .slice a2 I.length c2, .slice a3 S.length c3, .slice a4 V.length c4] 26)).alloc (.cells mz 26)))).drew
  have hAd := (below_alloc (((w.alloc (.cells #[.slice a1 F.length c1, .slice a2 I.length c2, .slice a3 S.length c3, .slice a4 V.length c4] 26)).alloc (.cells mz 26))) (.cells mz 26)).drew
  have hS : (((w.alloc (.cells #[.slice a1 F.length c1, .slice a2 I.length c2, .slice a3 S.length c3, .slice a4 V.length c4] 26)).alloc (.cells mz 26)).drew).cell? ⟨w.heap.size, 0, none⟩ = some (.slice a1 F.length c1) ∧ (((w.alloc (.cells #[.slice a1 F.length c1, .slice a2 I.length c2, .slice a3 S.length c3, .slice a4 V.length c4] 26)).alloc (.cells mz 26)).drew).cell? ⟨w.heap.size, 1, none⟩ = some (.slice a2 I.length c2) ∧ (((w.alloc (.cells #[.slice a1 F.length c1, .slice a2 I.length c2, .slice a3 S.length c3, .slice a4 V.length c4] 26)).alloc (.cells mz 26)).drew).cell? ⟨w.heap.size, 2, none⟩ = some (.slice a3 S.length c3) ∧ (((w.alloc (.cells #[.slice a1 F.length c1, .slice a2 I.length c2, .slice a3 S.length c3, .slice a4 V.length c4] 26)).alloc (.cells mz 26)).drew).cell? ⟨w.heap.size, 3, none⟩ = some (.slice a4 V.length c4) := ⟨d0, d1, d2, d3⟩
  have hSd := keep4' (And.intro d0 (And.intro d1 (And.intro d2 d3))) hAd
  have HA := Lib.hid hA
  have HB := Lib.hid hB
  have HZ0' := Lib.hid hz0'
  clear hA hB hZ hN00 d0 d1 d2 d3 hz0'
  go_enter Tryz.func86, Tryz.ntmps86
  go_upto_region 1 with fail
  go_cut [3] (fun t wx => ∃ N p1 k1 p2 k2 p3 k3, t = .pointer (some ⟨N, 0, none⟩) ∧ Hid (DB w wx wx N #[.slice a1 F.length c1, .slice a2 I.length c2, .slice a3 S.length c3, .slice a4 V.length c4] (.slice p1 F.length k1) (.slice p2 I.length k2) (.slice p3 S.length k3) (.slice none 0 0) V 0) ∧ Hid (Beside3 wx N (w.heap.size + 1 + 1) p1 p2 p3 F I S k1 k2 k3))
  case first =>
    go_region_held3 (fun W => W.cell? ⟨w.heap.size, 0, none⟩ = some (.slice a1 F.length c1) ∧ W.cell? ⟨w.heap.size, 1, none⟩ = some (.slice a2 I.length c2) ∧ W.cell? ⟨w.heap.size, 2, none⟩ = some (.slice a3 S.length c3) ∧ W.cell? ⟨w.heap.size, 3, none⟩ = some (.slice a4 V.length c4))
      (first | with_reducible assumption | with_reducible exact hS2b _ | with_reducible exact hS3b _ | with_reducible exact hS4b _ | with_reducible exact hS5 _ _ _ _ | with_reducible exact hS6 _ _ _ _)
      (first
        | (go_at_call 144; have hx := hA2; with_reducible refine (HC3.out _ hA2).mono ?_; rintro e w4 ⟨p3, k3, rfl, h3, hb3⟩; have hS4 := keep4' hS3 hb3; have hA3 := bstep hA2 hb3; have hS4b := fun o => keep4' hS4 (below_alloc w4 o); try replace HN0 := Lib.hid (And.intro (HN0.out.1.below hb3) HN0.out.2); (have hS6 := fun x y z u => keep4s (x := x) (y := y) (z := z) (u := u) (hS4b (.cells mz 26)) (Nat.ne_of_lt (lt_of_cell hS4.1))); try (have hS5 := fun x y z u => keep4s (x := x) (y := y) (z := z) (u := u) hS4 (Nat.ne_of_lt (Nat.le_trans (Nat.le_add_right (w.heap.size + 1) 1) HN0.out.2))); (first | (have f0 := HN0.out.1.free 0; have f1 := HN0.out.1.free 1; have f2 := HN0.out.1.free 2; have f3 := HN0.out.1.free 3; obtain ⟨e0, e1, e2, e3, _⟩ := hrow4 HN0.out.1) | (have hnew := HasRow.new w4 mz 26; have f0 := hnew.free 0; have f1 := hnew.free 1; have f2 := hnew.free 2; have f3 := hnew.free 3; obtain ⟨e0, e1, e2, e3, _⟩ := hrow4 hnew; clear hnew)))
        | (go_at_call 144; have hx := hA2; with_reducible refine (HC3.out _ (bstep hA2 (below_alloc _ (.cells mz 26)))).mono ?_; rintro e w4 ⟨p3, k3, rfl, h3, hb3⟩; have hS4 := keep4' (hS3b _) hb3; have hA3 := bstep (bstep hA2 (below_alloc _ (.cells mz 26))) hb3; have hS4b := fun o => keep4' hS4 (below_alloc w4 o); have HN0 := Lib.hid (And.intro ((HasRow.new _ mz 26).below hb3) (Nat.le_trans HZ0'.out hA2.size)); (have hS6 := fun x y z u => keep4s (x := x) (y := y) (z := z) (u := u) (hS4b (.cells mz 26)) (Nat.ne_of_lt (lt_of_cell hS4.1))); try (have hS5 := fun x y z u => keep4s (x := x) (y := y) (z := z) (u := u) hS4 (Nat.ne_of_lt (Nat.le_trans (Nat.le_add_right (w.heap.size + 1) 1) HN0.out.2))); (first | (have f0 := HN0.out.1.free 0; have f1 := HN0.out.1.free 1; have f2 := HN0.out.1.free 2; have f3 := HN0.out.1.free 3; obtain ⟨e0, e1, e2, e3, _⟩ := hrow4 HN0.out.1) | (have hnew := HasRow.new w4 mz 26; have f0 := hnew.free 0; have f1 := hnew.free 1; have f2 := hnew.free 2; have f3 := hnew.free 3; obtain ⟨e0, e1, e2, e3, _⟩ := hrow4 hnew; clear hnew)))
        | (go_at_call 145; have hx := hA1; with_reducible refine (HC2.out _ hA1).mono ?_; rintro e w3 ⟨p2, k2, rfl, h2, hb2⟩; have hS3 := keep4' hS2 hb2; have hA2 := bstep hA1 hb2; have hS3b := fun o => keep4' hS3 (below_alloc w3 o); try replace HN0 := Lib.hid (And.intro (HN0.out.1.below hb2) HN0.out.2))
        | (go_at_call 145; have hx := hA1; with_reducible refine (HC2.out _ (bstep hA1 (below_alloc _ (.cells mz 26)))).mono ?_; rintro e w3 ⟨p2, k2, rfl, h2, hb2⟩; have hS3 := keep4' (hS2b _) hb2; have hA2 := bstep (bstep hA1 (below_alloc _ (.cells mz 26))) hb2; have hS3b := fun o => keep4' hS3 (below_alloc w3 o); have HN0 := Lib.hid (And.intro ((HasRow.new _ mz 26).below hb2) (Nat.le_trans HZ0'.out hA1.size)))
        | (go_at_call 144; with_reducible refine (HC1.out _ hA0).mono ?_; rintro e w2 ⟨p1, k1, rfl, h1, hb1⟩; have hS2 := keep4' hS hb1; have hA1 := bstep hA0 hb1; have hS2b := fun o => keep4' hS2 (below_alloc w2 o); try replace HN0 := Lib.hid (And.intro (HN0.out.1.below hb1) HN0.out.2))
        | (go_at_call 144; with_reducible refine (HC1.out _ hAd).mono ?_; rintro e w2 ⟨p1, k1, rfl, h1, hb1⟩; have hS2 := keep4' hSd hb1; have hA1 := bstep hAd hb1; have hS2b := fun o => keep4' hS2 (below_alloc w2 o); have HN0 := Lib.hid (And.intro (HN00.out.below hb1) (Nat.le_refl (w.heap.size + 1 + 1)))))
    · obtain ⟨u1, u2⟩ := boot_first (hA := (HA.out.below hA3).alloc _) (hB := (HB.out.below hA3).alloc _) (hb := bstep (bstep HZ.out hA3) (below_alloc w4 _)) (h1 := sts_up (sts_up (sts_up h1.1 hb2) hb3) (below_alloc w4 _)) (h2 := fis_up (fis_up h2.1 hb3) (below_alloc w4 _)) (h3 := sts_up h3.1 (below_alloc w4 _)) (hN := HasRow.new w4 _ 26) (hle := Nat.le_trans HZ0'.out hA3.size) (hvs := rfl)
        (n1 := fun q e => ⟨Nat.ne_of_lt (Nat.lt_of_lt_of_le (h1.2 q e).2 (Nat.le_trans hb2.size hb3.size)), Nat.le_trans HZ0'.out (h1.2 q e).1⟩) (n2 := fun q e => ⟨Nat.ne_of_lt (Nat.lt_of_lt_of_le (h2.2 q e).2 hb3.size), Nat.le_trans (Nat.le_trans HZ0'.out hA1.size) (h2.2 q e).1⟩) (n3 := fun q e => ⟨Nat.ne_of_lt (h3.2 q e).2, Nat.le_trans (Nat.le_trans HZ0'.out hA2.size) (h3.2 q e).1⟩) (V := V)
      go_wp2_with fail
      go_meet
      exact ⟨_, p1, k1, p2, k2, p3, k3, rfl, Lib.hid u1, Lib.hid u2⟩
    · obtain ⟨u1, u2⟩ := boot_set (hA := HA.out.below hA3) (hB := HB.out.below hA3) (hb := bstep HZ.out hA3) (h1 := sts_up h1.1 (bstep hb2 (bstep (below_alloc w3 (.cells mz 26)) hb3))) (h2 := fis_up h2.1 (bstep (below_alloc w3 (.cells mz 26)) hb3)) (h3 := h3.1) (hN := HN0.out.1) (hle := HN0.out.2)
        (n1 := fun q e => ⟨Nat.ne_of_lt (Nat.lt_of_lt_of_le (h1.2 q e).2 hb2.size), Nat.le_trans HZ0'.out (h1.2 q e).1⟩) (n2 := fun q e => ⟨Nat.ne_of_lt (h2.2 q e).2, Nat.le_trans (Nat.le_trans HZ0'.out hA1.size) (h2.2 q e).1⟩) (n3 := fun q e => ⟨Nat.ne_of_gt (Nat.lt_of_lt_of_le (by simp) (h3.2 q e).1), Nat.le_trans (Nat.le_trans HZ0'.out (Nat.le_trans hA2.size (by simp))) (h3.2 q e).1⟩) (V := V)
      go_wp2_with fail
      go_meet
      exact ⟨_, p1, k1, p2, k2, p3, k3, rfl, Lib.hid u1, Lib.hid u2⟩
    · obtain ⟨u1, u2⟩ := boot_set (hA := HA.out.below hA3) (hB := HB.out.below hA3) (hb := bstep HZ.out hA3) (h1 := sts_up h1.1 (bstep (bstep (below_alloc w2 (.cells mz 26)) hb2) hb3)) (h2 := fis_up h2.1 hb3) (h3 := h3.1) (hN := HN0.out.1) (hle := HN0.out.2)
        (n1 := fun q e => ⟨Nat.ne_of_lt (h1.2 q e).2, Nat.le_trans HZ0'.out (h1.2 q e).1⟩) (n2 := fun q e => ⟨Nat.ne_of_gt (Nat.lt_of_lt_of_le (by simp) (h2.2 q e).1), Nat.le_trans (Nat.le_trans HZ0'.out (Nat.le_trans hA1.size (by simp))) (h2.2 q e).1⟩) (n3 := fun q e => ⟨Nat.ne_of_gt (Nat.lt_of_lt_of_le (Nat.lt_of_lt_of_le (by simp) hb2.size) (h3.2 q e).1), Nat.le_trans (Nat.le_trans HZ0'.out hA2.size) (h3.2 q e).1⟩) (V := V)
      go_wp2_with fail
      go_meet
      exact ⟨_, p1, k1, p2, k2, p3, k3, rfl, Lib.hid u1, Lib.hid u2⟩
    · obtain ⟨u1, u2⟩ := boot_set (hA := HA.out.below hA3) (hB := HB.out.below hA3) (hb := bstep HZ.out hA3) (h1 := sts_up (sts_up h1.1 hb2) hb3) (h2 := fis_up h2.1 hb3) (h3 := h3.1) (hN := HN0.out.1) (hle := HN0.out.2)
        (n1 := fun q e => ⟨Nat.ne_of_gt (Nat.lt_of_lt_of_le (by simp) (h1.2 q e).1), Nat.le_trans (Nat.le_trans HZ0'.out (by simp)) (h1.2 q e).1⟩) (n2 := fun q e => ⟨Nat.ne_of_gt (Nat.lt_of_lt_of_le (Nat.lt_of_lt_of_le (by simp) hb1.size) (h2.2 q e).1), Nat.le_trans (Nat.le_trans HZ0'.out hA1.size) (h2.2 q e).1⟩) (n3 := fun q e => ⟨Nat.ne_of_gt (Nat.lt_of_lt_of_le (Nat.lt_of_lt_of_le (by simp) (Nat.le_trans hb1.size hb2.size)) (h3.2 q e).1), Nat.le_trans (Nat.le_trans HZ0'.out hA2.size) (h3.2 q e).1⟩) (V := V)
      go_wp2_with fail
      go_meet
      exact ⟨_, p1, k1, p2, k2, p3, k3, rfl, Lib.hid u1, Lib.hid u2⟩
  case rest =>
    obtain ⟨N, p1, k1, p2, k2, p3, k3, rfl, HD, HQ⟩ := hcut
    obtain ⟨m0, m1, m2, m3, _⟩ := hrow4 HD.out.m
    go_wp2_with fail
    clear m0 m1 m2 m3
    go_loopw [19] (fun i wr => ∃ (k : Nat) (p : Option Addr) (c : Nat), k ≤ V.length ∧ i = .int .i64 k ∧ Hid (DB w wc wr N #[.slice a1 F.length c1, .slice a2 I.length c2, .slice a3 S.length c3, .slice a4 V.length c4] (.slice p1 F.length k1) (.slice p2 I.length k2) (.slice p3 S.length k3) (.slice p k c) V k)) (fun i _ => V.length - (intOf i).toNat)
    case atStart => exact ⟨0, none, 0, Nat.zero_le _, rfl, HD⟩
    case round =>
      obtain ⟨k, p, c, hk, rfl, HR⟩ := hrel
      obtain ⟨m0, m1, m2, m3, _⟩ := hrow4 HR.out.m
      obtain ⟨x0, x1, x2, x3, _⟩ := hrow4 HR.out.x
      by_cases hlt : k < V.length
      · have i0' : (0 : Int) ≤ (k : Int) := by omega
        have i1' : (k : Int) < (V.length : Int) := by omega
        obtain ⟨b, off, ea, hg, hc⟩ := (HL.out.v.below HR.out.b).at_ (ne_nil_of_lt hlt)
        simp only at ea
        subst ea
        obtain ⟨d0, d1, d2, d3⟩ := hc k hlt
        clear hc
        have HX := Lib.hid (show ∀ j u, (cellsV (P.bootV V[k]))[j]? = some u → ((wr.alloc (.cells #[.string V[k].n, .string V[k].p, .bool V[k].a, .bool V[k].a] 46)).alloc (.cells #[.string V[k].n, .string V[k].p, .bool V[k].a, .bool V[k].a] 46)).cell? ((⟨wr.heap.size + 1, 0, none⟩ : Addr).add j) = some u from fun j u hj => by
          have := cells_new (wr.alloc (.cells #[.string V[k].n, .string V[k].p, .bool V[k].a, .bool V[k].a] 46)) (cellsV (P.bootV V[k])) 46 j u hj
          rw [World.size_alloc] at this
          exact this)
        have HO := Lib.hid (own_below HR.out.o (bstep (below_alloc wr (.cells #[.string V[k].n, .string V[k].p, .bool V[k].a, .bool V[k].a] 46)) (below_alloc _ (.cells #[.string V[k].n, .string V[k].p, .bool V[k].a, .bool V[k].a] 46))))
        have hbs : wc.heap.size ≤ ((wr.alloc (.cells #[.string V[k].n, .string V[k].p, .bool V[k].a, .bool V[k].a] 46)).alloc (.cells #[.string V[k].n, .string V[k].p, .bool V[k].a, .bool V[k].a] 46)).heap.size := Nat.le_trans HR.out.g.size (by simp [Nat.le_add_right, Nat.add_assoc])
        go_wp2_with (at_builtin; refine wpList_append_own _ rfl _ _ 24 rfl wc.heap.size 46 i0 _ 4 40 Tryz.underlying24 hi hz0 hz1 hz2 rfl (by decide) _ _ _ rfl HO.out ⟨wr.heap.size + 1, 0, none⟩ 1 1 (cellsV (P.bootV V[k])) rfl rfl HX.out (by intro u hu; simp [cellsV] at hu; rcases hu with rfl | rfl | rfl | rfl <;> rfl) (by unfold maxLen; omega) (by omega) hbs ?_; intro v' w3 hown3 hgrow3 _; obtain ⟨p', c', rfl, _⟩ := ownAtV (M := (V.take (k + 1)).map P.bootV) (by rw [svs_flat V k hlt, List.length_map, List.length_take, Nat.min_eq_left hlt]; exact hown3); rw [List.length_map, List.length_take, Nat.min_eq_left hlt] at hown3 ⊢; obtain ⟨t1, t2, t3⟩ := HR.out.step hlt hown3 hgrow3; have HT := Lib.hid t3; clear t3 hown3 hgrow3)
        go_roundw
        case rel => exact ⟨k + 1, p', c', by omega, by go_num, HT⟩
        case measure => simp [intOf]; omega
      · have hkl : k = V.length := by omega
        subst hkl
        have hown := HR.out.o
        rw [List.take_length] at hown
        have hlm : (V.map P.bootV).length = V.length := List.length_map _
        obtain ⟨p', cap, e1, hat, hlo⟩ := ownAtV (M := V.map P.bootV) (by rw [hlm]; exact hown)
        rw [hlm] at e1
        injection e1 with e1 _ e4
        subst e1
        subst e4
        have hR := HR.out.r
        obtain ⟨g0, g1, g2, g3, _⟩ := hrow4 hR
        have f0 := hR.free 0
        have f1 := hR.free 1
        have f2 := hR.free 2
        have f3 := hR.free 3
        have HS4 := Lib.hid (store4 hR HR.out.b (Nat.le_succ _) (.slice p1 F.length k1) (.slice p2 I.length k2) (.slice p3 S.length k3) (.slice p V.length c))
        have HP : Hid (Up w.heap.size ((((wr.setCell ⟨w.heap.size + 1, 0, none⟩ (.slice p1 F.length k1)).setCell ⟨w.heap.size + 1, 1, none⟩ (.slice p2 I.length k2)).setCell ⟨w.heap.size + 1, 2, none⟩ (.slice p3 S.length k3)).setCell ⟨w.heap.size + 1, 3, none⟩ (.slice p V.length c)) { a1 := p1, a2 := p2, a3 := p3, a4 := p, c1 := k1, c2 := k2, c3 := k3, c4 := c } { facts := F, files := I, sets := S, svcs := V.map P.bootV }) := Lib.hid (by
          have hg4 := grown_set4 wr (w.heap.size + 1) (.slice p1 F.length k1) (.slice p2 I.length k2) (.slice p3 S.length k3) (.slice p V.length c)
          have h4 := (HQ.out.but HR.out.g).low hg4 (Nat.lt_succ_self _)
          have hn := HR.out.n
          have hl := HR.out.l
          refine ⟨⟨h4.1.1, h4.2.1.1, h4.2.2.1, svs_but hat hg4 (fun q e => ?_)⟩, fun q e => ?_, fun q e => ?_, fun q e => ?_, fun q e => ?_⟩
          · have := (hlo q e).1; omega
          · have := (h4.1.2 q e).2; omega
          · have := (h4.2.1.2 q e).2; omega
          · have := (h4.2.2.2 q e).2; omega
          · have := (hlo q e).1; omega)
        clear hown hat hR
        go_wp2_with fail
        refine bodyPost_ret (v := .agg #[.slice p1 F.length k1, .slice p2 I.length k2, .slice p3 S.length k3, .slice p V.length c]) ?_ rfl ⟨{ a1 := p1, a2 := p2, a3 := p3, a4 := p, c1 := k1, c2 := k2, c3 := k3, c4 := c }, by first | rfl | simp, HP.out, HS4.out.2⟩
        clear g0 g1 g2 g3 f0 f1 f2 f3
        obtain ⟨y0, y1, y2, y3, _⟩ := hrow4 HS4.out.1
        simp [results, Tryz.results86, go_sem, y0, y1, y2, y3]

set_option maxHeartbeats 4000000 in
theorem dBoot_any (A : Ad) (m : P.Mach) (hr : P.Right m) (w : World) (hw : Good w) (hl : Lies w.heap.size w A m) :
    Calls Tryz.prog 16 #[machV A m] w fun e w' => ∃ A', e = .returned (.tuple #[machV A' (P.boot m), .int .i64 0]) ∧ Lies w'.heap.size w' A' (P.boot m) ∧ Below w.heap.size w w' := by
  have hC := fun W (hb : Below w.heap.size w W) => dcheck_any A m hr.fit W (hw.mono hb) ((hl.below hb).up hb.size)
  rw [(P.right_iff m).2 hr] at hC
  have HC := Lib.hid hC
  have HB := Lib.hid (fun W (hb : Below w.heap.size w W) => dboot_any A m hr.fit W ((hl.below hb).up hb.size))
  clear hC hl hw hr
  obtain ⟨a1, a2, a3, a4, c1, c2, c3, c4⟩ := A
  obtain ⟨F, I, S, V⟩ := m
  generalize P.boot { facts := F, files := I, sets := S, svcs := V } = m' at *
  unfold machV at HC HB ⊢
  simp only at HC HB ⊢
  have HR0 := Lib.hid ((HasRow.new w #[.slice a1 F.length c1, .slice a2 I.length c2, .slice a3 S.length c3, .slice a4 V.length c4] 26).alloc (.cells mz 26))
  have hR1 := HasRow.new (w.alloc (.cells #[.slice a1 F.length c1, .slice a2 I.length c2, .slice a3 S.length c3, .slice a4 V.length c4] 26)) mz 26
  rw [World.size_alloc] at hR1
  have HR1 := Lib.hid hR1
  clear hR1
  have HZ := Lib.hid (below2 w (.cells #[.slice a1 F.length c1, .slice a2 I.length c2, .slice a3 S.length c3, .slice a4 V.length c4] 26) (.cells mz 26))
  go_enter Tryz.func16, Tryz.ntmps16
  go_wp2_with fail
  refine (HC.out _ HZ.out).mono ?_
  rintro e w1 ⟨rfl, hb1⟩
  have HB1 := Lib.hid (bstep HZ.out hb1)
  obtain ⟨g0, g1, g2, g3, _⟩ := hrow4 (HR0.out.below hb1)
  have HR2 := Lib.hid (HR1.out.below hb1)
  clear hb1 HR0 HC HR1
  go_wp2_with fail
  refine (HB.out _ HB1.out).mono ?_
  rintro e w2 ⟨A', rfl, hl2, hb2⟩
  have hR3 := HR2.out.below hb2
  obtain ⟨y0, y1, y2, y3, _⟩ := hrow4 hR3
  have f0 := hR3.free 0
  have f1 := hR3.free 1
  have f2 := hR3.free 2
  have f3 := hR3.free 3
  obtain ⟨b1, b2, b3, b4, e1, e2, e3, e4⟩ := A'
  simp only at hl2 ⊢
  have HS4 := Lib.hid (store4 hR3 (bstep HB1.out hb2) (Nat.le_succ _) (.slice b1 m'.facts.length e1) (.slice b2 m'.files.length e2) (.slice b3 m'.sets.length e3) (.slice b4 m'.svcs.length e4))
  have HL2 := Lib.hid (hl2.grown (grown_set4 w2 (w.heap.size + 1) (.slice b1 m'.facts.length e1) (.slice b2 m'.files.length e2) (.slice b3 m'.sets.length e3) (.slice b4 m'.svcs.length e4)) HR2.out.lt).l
  clear hl2 hb2 hR3 g0 g1 g2 g3
  go_wp2_with fail
  refine bodyPost_ret (v := .tuple #[.agg #[.slice b1 m'.facts.length e1, .slice b2 m'.files.length e2, .slice b3 m'.sets.length e3, .slice b4 m'.svcs.length e4], .int .i64 0]) ?_ rfl ⟨{ a1 := b1, a2 := b2, a3 := b3, a4 := b4, c1 := e1, c2 := e2, c3 := e3, c4 := e4 }, rfl, HL2.out, HS4.out.2⟩
  clear y0 y1 y2 y3 f0 f1 f2 f3
  obtain ⟨y0, y1, y2, y3, _⟩ := hrow4 HS4.out.1
  simp [results, Tryz.results16, go_sem, y0, y1, y2, y3]
end Go.Proofs.YtgdpbdgaldiggaaGreatDoor
