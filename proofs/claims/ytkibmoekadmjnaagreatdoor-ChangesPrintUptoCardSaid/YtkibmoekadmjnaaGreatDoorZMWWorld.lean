/- Walks: package outref1: worldOf: a machine as maps. -/
import Derived.Test.YtkibmoekadmjnaaGreatDoorZMWKeys

namespace Go.Proofs.YtkibmoekadmjnaaGreatDoor
open Go.RowKit Go.Shelf Go.Maps

/-- a machine as maps: the world's block B, the three maps -/
structure WAt (n₀ : Nat) (W : World) (B b1 b2 b3 : Nat) (A : Ad) (m : P.Mach) : Prop where
  row : HasRow W B #[.slice A.a1 m.facts.length A.c1, .map (some b1), .map (some b2), .map (some b3)]
  f : StsAt n₀ W A.a1 m.facts A.c1
  i : FilesM W b1 m.files
  s : SetsM W b2 m.sets
  v : SvcsM W b3 m.svcs
  hB : n₀ ≤ B
  h1 : n₀ ≤ b1
  h2 : n₀ ≤ b2
  h3 : n₀ ≤ b3
  n12 : b1 ≠ b2
  n13 : b1 ≠ b3
  n23 : b2 ≠ b3
  nB1 : B ≠ b1
  nB2 : B ≠ b2
  nB3 : B ≠ b3
theorem WAt.below {n₀ : Nat} {W W' : World} {B b1 b2 b3 : Nat} {A : Ad} {m : P.Mach} (h : WAt n₀ W B b1 b2 b3 A m) (hn : n₀ ≤ W.heap.size) (hb : Below W.heap.size W W') : WAt n₀ W' B b1 b2 b3 A m :=
  { h with row := h.row.below hb, f := h.f.below (hb.mono hn), i := h.i.below hb h.i.lt, s := h.s.below hb h.s.lt, v := h.v.below hb h.v.lt }

/-- the state of worldOf: the machine's box, the three maps, the world's block -/
structure WSt (w wr : World) (A1 A2 : Array Value) (Ik : List P.Fi) (Sk : List P.St) (Vk : List P.Sv) : Prop where
  rm : HasRow wr w.heap.size A1
  rw : HasRow wr (w.heap.size + 1 + 1 + 1 + 1) A2
  i : FilesM wr (w.heap.size + 1) Ik
  s : SetsM wr (w.heap.size + 1 + 1) Sk
  v : SvcsM wr (w.heap.size + 1 + 1 + 1) Vk
  bel : Below w.heap.size w wr
section
variable {w wr W2 : World} {A1 A2 : Array Value} {Ik Ik' : List P.Fi} {Sk Sk' : List P.St} {Vk Vk' : List P.Sv}
theorem WSt.start (w : World) (A1 A2 : Array Value) : WSt w (((((w.alloc (.cells A1 26)).alloc (.map #[] 0)).alloc (.map #[] 0)).alloc (.map #[] 0)).alloc (.cells A2 152)) A1 A2 [] [] [] := by
  have h1 := LMap.made codedFi P.fi0 P.Fi.p id Tryz.prog 9 (w.alloc (.cells A1 26))
  have h2 := LMap.made codedStr ⟨#[]⟩ P.St.k P.St.v Tryz.prog 9 ((w.alloc (.cells A1 26)).alloc (.map #[] 0))
  have h3 := LMap.made codedSv P.sv0 P.Sv.n id Tryz.prog 9 (((w.alloc (.cells A1 26)).alloc (.map #[] 0)).alloc (.map #[] 0))
  have h4 := HasRow.new ((((w.alloc (.cells A1 26)).alloc (.map #[] 0)).alloc (.map #[] 0)).alloc (.map #[] 0)) A2 152
  simp only [World.size_alloc] at h1 h2 h3 h4
  exact ⟨((((HasRow.new w A1 26).alloc _).alloc _).alloc _).alloc _, h4, ((h1.alloc _).alloc _).alloc _, (h2.alloc _).alloc _, h3.alloc _, bstep (bstep (bstep (bstep (below_alloc _ _) (below_alloc _ _)) (below_alloc _ _)) (below_alloc _ _)) (below_alloc _ _)⟩
theorem WSt.below (h : WSt w wr A1 A2 Ik Sk Vk) (hb : Below wr.heap.size wr W2) : WSt w W2 A1 A2 Ik Sk Vk :=
  ⟨h.rm.below hb, h.rw.below hb, h.i.below hb h.i.lt, h.s.below hb h.s.lt, h.v.below hb h.v.lt, bstep h.bel hb⟩
theorem WSt.gi (h : WSt w wr A1 A2 Ik Sk Vk) (hF : FilesM W2 (w.heap.size + 1) Ik') (hg : wr.grownBy W2 (some (w.heap.size + 1))) : WSt w W2 A1 A2 Ik' Sk Vk :=
  ⟨h.rm.grown hg (fun e => by injection e; omega), h.rw.grown hg (fun e => by injection e; omega), hF, h.s.kept hg (fun e => by injection e; omega), h.v.kept hg (fun e => by injection e; omega), h.bel.grown hg h.bel.size (fun j e => by cases e; omega)⟩
theorem WSt.gs (h : WSt w wr A1 A2 Ik Sk Vk) (hF : SetsM W2 (w.heap.size + 1 + 1) Sk') (hg : wr.grownBy W2 (some (w.heap.size + 1 + 1))) : WSt w W2 A1 A2 Ik Sk' Vk :=
  ⟨h.rm.grown hg (fun e => by injection e; omega), h.rw.grown hg (fun e => by injection e; omega), h.i.kept hg (fun e => by injection e; omega), hF, h.v.kept hg (fun e => by injection e; omega), h.bel.grown hg h.bel.size (fun j e => by cases e; omega)⟩
theorem WSt.gv (h : WSt w wr A1 A2 Ik Sk Vk) (hF : SvcsM W2 (w.heap.size + 1 + 1 + 1) Vk') (hg : wr.grownBy W2 (some (w.heap.size + 1 + 1 + 1))) : WSt w W2 A1 A2 Ik Sk Vk' :=
  ⟨h.rm.grown hg (fun e => by injection e; omega), h.rw.grown hg (fun e => by injection e; omega), h.i.kept hg (fun e => by injection e; omega), h.s.kept hg (fun e => by injection e; omega), hF, h.bel.grown hg h.bel.size (fun j e => by cases e; omega)⟩
end
/-- a box of three cells that was just laid, and a cell of another block -/
theorem wq_start {wr : World} {vs : Array Value} {t : TypeId} {k j : Nat} {ra : Array Value} (h : HasRow wr k ra) {u : Value} (hu : ra[j]? = some u) : ((wr.alloc (.cells vs t)).drew).cell? ⟨k, j, none⟩ = some u := by
  have := ((h.alloc (.cells vs t)).drew).cell j
  rw [this]; exact hu

set_option maxRecDepth 100000 in
set_option maxHeartbeats 8000000 in
theorem worldOf_any (A : Ad) (m : P.Mach) (hr : P.Right m) (hf : m.fit) (w : World) (hl : Lies w.heap.size w A m) :
    Calls Tryz.prog 128 #[machV A m] w fun e w' => ∃ B b1 b2 b3, e = .returned (.pointer (some ⟨B, 0, none⟩)) ∧ WAt w.heap.size w' B b1 b2 b3 A m ∧ Below w.heap.size w w' := by
  obtain ⟨a1, a2, a3, a4, c1, c2, c3, c4⟩ := A
  obtain ⟨F, I, S, V⟩ := m
  unfold machV
  simp only
  have hmm := @run_makeMap Tryz.prog
  have HR := Lib.hid hr
  have HS := Lib.hid hf
  have HL := Lib.hid hl
  clear hr hf hl
  go_enter Tryz.func128, Tryz.ntmps128
  go_wp2_with fail
  go_loopw [20] (fun i wr => ∃ k : Nat, k ≤ I.length ∧ i = .int .i64 k ∧ Hid (WSt w wr #[.slice a1 F.length c1, .slice a2 I.length c2, .slice a3 S.length c3, .slice a4 V.length c4] #[.slice a1 F.length c1, .map (some (w.heap.size + 1)), .map (some (w.heap.size + 1 + 1)), .map (some (w.heap.size + 1 + 1 + 1))] (I.take k) [] [])) (fun i _ => I.length - (intOf i).toNat)
  case atStart => exact ⟨0, Nat.zero_le _, rfl, Lib.hid (WSt.start w _ _)⟩
  case round =>
    obtain ⟨k, hk, rfl, HQ⟩ := hrel
    have hLL : I.length ≤ 4294967280 := by have := HR.out.l2; simp only at this; omega
    by_cases hlt : k < I.length
    · obtain ⟨b, off, rfl, hbm, hc⟩ := (HL.out.i.below HQ.out.bel).at_ (ne_nil_of_lt hlt)
      obtain ⟨d0, d1, d2⟩ := hc k hlt
      have hsz : I[k].p.size ≤ maxLen := Nat.le_trans (show I[k].p.size ≤ 4294967280 from (HS.out.i k hlt).1) (by decide)
      obtain ⟨W2, hrun, hF, hg⟩ := ((HQ.out.i.alloc (.cells #[.string I[k].p, .string I[k].d, .bool I[k].r] 42)).drew).put (t := 148) Tryz.underlying9 Tryz.underlying148 (P.rising_take HR.out.r2 k) (by have := HR.out.l2; simp only at this; simp; unfold maxLen; omega) I[k] hsz
      rw [P.insK_take HR.out.r2 hlt] at hF
      change (Instr.mapUpdate 148 (.map (some (w.heap.size + 1))) (.string I[k].p) (.agg #[.string I[k].p, .string I[k].d, .bool I[k].r])).run _ _ = _ at hrun
      have hne : wr.heap.size ≠ w.heap.size + 1 := by have := HQ.out.i.lt; omega
      have hx := wq_start (wr := wr) (vs := #[.string I[k].p, .string I[k].d, .bool I[k].r]) (t := 42) HQ.out.rw (j := 1) (u := .map (some (w.heap.size + 1))) rfl
      have HQ2 := Lib.hid ((show WSt w ((wr.alloc (.cells #[.string I[k].p, .string I[k].d, .bool I[k].r] 42)).drew) _ _ _ _ _ from ⟨(HQ.out.rm.alloc _).drew, (HQ.out.rw.alloc _).drew, (HQ.out.i.alloc _).drew, (HQ.out.s.alloc _).drew, (HQ.out.v.alloc _).drew, (bstep HQ.out.bel (below_alloc _ _)).drew⟩).gi hF hg)
      have hy : W2.cell? ⟨w.heap.size + 1 + 1 + 1 + 1, 1, none⟩ = some (.map (some (w.heap.size + 1))) := HQ2.out.rw.cell 1
      have hbox := g3_start wr (.string I[k].p) (.string I[k].d) (.bool I[k].r) 42
      have H0 := Lib.hid (And.intro hx hbox)
      have H2 := Lib.hid (And.intro hy (g3_grown hne hbox hg))
      clear hc hF hg hx hy hbox hsz
      generalize I[k] = x at *
      go_wp2_with fail
      go_region_held3 (fun W => W.cell? ⟨w.heap.size + 1 + 1 + 1 + 1, 1, none⟩ = some (.map (some (w.heap.size + 1))) ∧ W.cell? ⟨wr.heap.size, 0, none⟩ = some (.string x.p) ∧ W.cell? ⟨wr.heap.size, 1, none⟩ = some (.string x.d) ∧ W.cell? ⟨wr.heap.size, 2, none⟩ = some (.bool x.r))
        (first | exact H0.out | exact H2.out)
        (fail)
      clear H0 H2 hrun hne
      go_wp2_with fail
      go_roundw
      case rel => exact ⟨k + 1, by omega, by go_num, HQ2⟩
      case measure => simp [intOf]; omega
    · have hkl : k = I.length := by omega
      subst hkl
      have HE := Lib.hid (by have := HQ.out; rwa [List.take_length] at this)
      clear HQ hk hlt
      rename World => wI
      obtain ⟨p1, p2, p3, p4⟩ := hrows HE.out.rm
      go_wp2_with fail
      go_loopw [35] (fun i wr => ∃ k : Nat, k ≤ S.length ∧ i = .int .i64 k ∧ Hid (WSt w wr #[.slice a1 F.length c1, .slice a2 I.length c2, .slice a3 S.length c3, .slice a4 V.length c4] #[.slice a1 F.length c1, .map (some (w.heap.size + 1)), .map (some (w.heap.size + 1 + 1)), .map (some (w.heap.size + 1 + 1 + 1))] I (S.take k) [])) (fun i _ => S.length - (intOf i).toNat)
      case atStart => exact ⟨0, Nat.zero_le _, rfl, HE⟩
      case round =>
        obtain ⟨k, hk, rfl, HQ⟩ := hrel
        have hLL : S.length ≤ 4294967280 := by have := HR.out.l3; simp only at this; omega
        by_cases hlt : k < S.length
        · obtain ⟨b, off, rfl, hbm, hc⟩ := (HL.out.s.below HQ.out.bel).at_ (ne_nil_of_lt hlt)
          obtain ⟨d0, d1⟩ := hc k hlt
          have hsz : S[k].k.size ≤ maxLen := Nat.le_trans (show S[k].k.size ≤ 4294967280 from (HS.out.s k hlt).1) (by decide)
          obtain ⟨W2, hrun, hF, hg⟩ := ((HQ.out.s.alloc (.cells #[.string S[k].k, .string S[k].v] 62)).drew).put (t := 149) Tryz.underlying9 Tryz.underlying149 (P.rising_take HR.out.r3 k) (by have := HR.out.l3; simp only at this; simp; unfold maxLen; omega) S[k] hsz
          rw [P.insK_take HR.out.r3 hlt] at hF
          change (Instr.mapUpdate 149 (.map (some (w.heap.size + 1 + 1))) (.string S[k].k) (.string S[k].v)).run _ _ = _ at hrun
          have hne : wr.heap.size ≠ w.heap.size + 1 + 1 := by have := HQ.out.s.lt; omega
          have hx := wq_start (wr := wr) (vs := #[.string S[k].k, .string S[k].v]) (t := 62) HQ.out.rw (j := 2) (u := .map (some (w.heap.size + 1 + 1))) rfl
          have HQ2 := Lib.hid ((show WSt w ((wr.alloc (.cells #[.string S[k].k, .string S[k].v] 62)).drew) _ _ _ _ _ from ⟨(HQ.out.rm.alloc _).drew, (HQ.out.rw.alloc _).drew, (HQ.out.i.alloc _).drew, (HQ.out.s.alloc _).drew, (HQ.out.v.alloc _).drew, (bstep HQ.out.bel (below_alloc _ _)).drew⟩).gs hF hg)
          have hy : W2.cell? ⟨w.heap.size + 1 + 1 + 1 + 1, 2, none⟩ = some (.map (some (w.heap.size + 1 + 1))) := HQ2.out.rw.cell 2
          have hbox := g2_start wr (.string S[k].k) (.string S[k].v) 62
          have H0 := Lib.hid (And.intro hx hbox)
          have H2 := Lib.hid (And.intro hy (g2_grown hne hbox hg))
          clear hc hF hg hx hy hbox hsz
          generalize S[k] = x at *
          go_wp2_with fail
          go_region_held3 (fun W => W.cell? ⟨w.heap.size + 1 + 1 + 1 + 1, 2, none⟩ = some (.map (some (w.heap.size + 1 + 1))) ∧ W.cell? ⟨wr.heap.size, 0, none⟩ = some (.string x.k) ∧ W.cell? ⟨wr.heap.size, 1, none⟩ = some (.string x.v))
            (first | exact H0.out | exact H2.out)
            (fail)
          clear H0 H2 hrun hne
          go_wp2_with fail
          go_roundw
          case rel => exact ⟨k + 1, by omega, by go_num, HQ2⟩
          case measure => simp [intOf]; omega
        · have hkl : k = S.length := by omega
          subst hkl
          have HE := Lib.hid (by have := HQ.out; rwa [List.take_length] at this)
          clear HQ hk hlt
          rename World => wS
          obtain ⟨p1, p2, p3, p4⟩ := hrows HE.out.rm
          go_wp2_with fail
          go_loopw [51] (fun i wr => ∃ k : Nat, k ≤ V.length ∧ i = .int .i64 k ∧ Hid (WSt w wr #[.slice a1 F.length c1, .slice a2 I.length c2, .slice a3 S.length c3, .slice a4 V.length c4] #[.slice a1 F.length c1, .map (some (w.heap.size + 1)), .map (some (w.heap.size + 1 + 1)), .map (some (w.heap.size + 1 + 1 + 1))] I S (V.take k))) (fun i _ => V.length - (intOf i).toNat)
          case atStart => exact ⟨0, Nat.zero_le _, rfl, HE⟩
          case round =>
            obtain ⟨k, hk, rfl, HQ⟩ := hrel
            have hLL : V.length ≤ 4294967280 := by have := HR.out.l4; simp only at this; omega
            by_cases hlt : k < V.length
            · obtain ⟨b, off, rfl, hbm, hc⟩ := (HL.out.v.below HQ.out.bel).at_ (ne_nil_of_lt hlt)
              obtain ⟨d0, d1, d2, d3⟩ := hc k hlt
              have hsz : V[k].n.size ≤ maxLen := Nat.le_trans (show V[k].n.size ≤ 4294967280 from (HS.out.v k hlt).1) (by decide)
              obtain ⟨W2, hrun, hF, hg⟩ := ((HQ.out.v.alloc (.cells #[.string V[k].n, .string V[k].p, .bool V[k].a, .bool V[k].o] 46)).drew).put (t := 150) Tryz.underlying9 Tryz.underlying150 (P.rising_take HR.out.r4 k) (by have := HR.out.l4; simp only at this; simp; unfold maxLen; omega) V[k] hsz
              rw [P.insK_take HR.out.r4 hlt] at hF
              change (Instr.mapUpdate 150 (.map (some (w.heap.size + 1 + 1 + 1))) (.string V[k].n) (.agg #[.string V[k].n, .string V[k].p, .bool V[k].a, .bool V[k].o])).run _ _ = _ at hrun
              have hne : wr.heap.size ≠ w.heap.size + 1 + 1 + 1 := by have := HQ.out.v.lt; omega
              have hx := wq_start (wr := wr) (vs := #[.string V[k].n, .string V[k].p, .bool V[k].a, .bool V[k].o]) (t := 46) HQ.out.rw (j := 3) (u := .map (some (w.heap.size + 1 + 1 + 1))) rfl
              have HQ2 := Lib.hid ((show WSt w ((wr.alloc (.cells #[.string V[k].n, .string V[k].p, .bool V[k].a, .bool V[k].o] 46)).drew) _ _ _ _ _ from ⟨(HQ.out.rm.alloc _).drew, (HQ.out.rw.alloc _).drew, (HQ.out.i.alloc _).drew, (HQ.out.s.alloc _).drew, (HQ.out.v.alloc _).drew, (bstep HQ.out.bel (below_alloc _ _)).drew⟩).gv hF hg)
              have hy : W2.cell? ⟨w.heap.size + 1 + 1 + 1 + 1, 3, none⟩ = some (.map (some (w.heap.size + 1 + 1 + 1))) := HQ2.out.rw.cell 3
              have hbox := g4_start wr (.string V[k].n) (.string V[k].p) (.bool V[k].a) (.bool V[k].o) 46
              have H0 := Lib.hid (And.intro hx hbox)
              have H2 := Lib.hid (And.intro hy (g4_grown hne hbox hg))
              clear hc hF hg hx hy hbox hsz
              generalize V[k] = x at *
              go_wp2_with fail
              go_region_held3 (fun W => W.cell? ⟨w.heap.size + 1 + 1 + 1 + 1, 3, none⟩ = some (.map (some (w.heap.size + 1 + 1 + 1))) ∧ W.cell? ⟨wr.heap.size, 0, none⟩ = some (.string x.n) ∧ W.cell? ⟨wr.heap.size, 1, none⟩ = some (.string x.p) ∧ W.cell? ⟨wr.heap.size, 2, none⟩ = some (.bool x.a) ∧ W.cell? ⟨wr.heap.size, 3, none⟩ = some (.bool x.o))
                (first | exact H0.out | exact H2.out)
                (fail)
              clear H0 H2 hrun hne
              go_wp2_with fail
              go_roundw
              case rel => exact ⟨k + 1, by omega, by go_num, HQ2⟩
              case measure => simp [intOf]; omega
            · have hkl : k = V.length := by omega
              subst hkl
              have HE := Lib.hid (by have := HQ.out; rwa [List.take_length] at this)
              clear HQ hk hlt
              rename World => wV
              obtain ⟨p1, p2, p3, p4⟩ := hrows HE.out.rm
              go_wp2_with fail
              go_ret
              exact ⟨_, _, _, _, rfl, ⟨HE.out.rw, HL.out.f.below HE.out.bel, HE.out.i, HE.out.s, HE.out.v, by omega, by omega, by omega, by omega, by omega, by omega, by omega, by omega, by omega, by omega⟩, HE.out.bel⟩
end Go.Proofs.YtkibmoekadmjnaaGreatDoor
