/- Plain: what is read out of a text is no longer than the text. -/
/- Walks: disk's Parse of whatever text. -/
import Derived.Test.YtomikcemiacjmaaGreatDoorZUSvc

namespace Go.Proofs.YtomikcemiacjmaaGreatDoor
open Go.RowKit Go.Lib

namespace P
/-- all strings are of so many bytes at most -/
structure Small (n : Nat) (m : Mach) : Prop where
  f : ∀ x ∈ m.facts, x.k.size ≤ n ∧ x.v.size ≤ n
  i : ∀ x ∈ m.files, x.p.size ≤ n ∧ x.d.size ≤ n
  s : ∀ x ∈ m.sets, x.k.size ≤ n ∧ x.v.size ≤ n
  v : ∀ x ∈ m.svcs, x.n.size ≤ n ∧ x.p.size ≤ n
theorem unquote_le (s : ByteArray) : (unquote s).1.size ≤ s.size := by
  by_cases h : quote (txt (unqD (inner s).data.toList)) = s
  · rw [unquote_yes h]
    simp only
    rw [txt_size]
    have := unqD_len (inner s).data.toList
    rw [size_len] at this
    have h2 : (inner s).size ≤ s.size := by unfold inner; rw [ByteArray.size_extract]; omega
    omega
  · rw [unquote_no h]
    show (0 : Nat) ≤ _
    omega
theorem pairK_le (s : ByteArray) : (pairK s).size ≤ s.size := cutA_le s 32
theorem pairV_le (s : ByteArray) : (pairV s).size ≤ s.size := Nat.le_trans (unquote_le _) (cutB_le s 32)
theorem svcWords_le (s : ByteArray) : ∀ x ∈ svcWords s, x.size ≤ s.size := fun x hx => splitB_size _ _ _ x hx
theorem svcRead_le {l : List ByteArray} {n : Nat} (h : ∀ x ∈ l, x.size ≤ n) : (svcRead l).1.n.size ≤ n ∧ (svcRead l).1.p.size ≤ n := by
  by_cases h4 : l.length = 4
  · match l, h4 with
    | [a, b, c, d], _ =>
      show (if (isFlag c && isFlag d) = true then ((⟨a, b, c.toList == [49], d.toList == [49]⟩ : Sv), isWord a && isWord b) else (svc0, false)).1.n.size ≤ n ∧ (if (isFlag c && isFlag d) = true then ((⟨a, b, c.toList == [49], d.toList == [49]⟩ : Sv), isWord a && isWord b) else (svc0, false)).1.p.size ≤ n
      split
      · exact ⟨h a (by simp), h b (by simp)⟩
      · exact ⟨Nat.zero_le _, Nat.zero_le _⟩
  · rw [svcRead_other h4]; exact ⟨Nat.zero_le _, Nat.zero_le _⟩
theorem small_snoc {α : Type} {L : List α} {x : α} {Q : α → Prop} (h : ∀ y ∈ L, Q y) (hx : Q x) : ∀ y ∈ L ++ [x], Q y := by
  intro y hy
  rcases List.mem_append.1 hy with hy | hy
  · exact h y hy
  · rcases List.mem_cons.1 hy with rfl | hy
    · exact hx
    · cases hy
theorem Small.thing {n : Nat} {m : Mach} (h : Small n m) {l : ByteArray} (hl : l.size ≤ n) : Small n (readThing m l).1 := by
  have hb := Nat.le_trans (cutB_le l 32) hl
  have hk := Nat.le_trans (pairK_le (cutB l 32)) hb
  have hv := Nat.le_trans (pairV_le (cutB l 32)) hb
  unfold readThing readFact readFile readSet readSvc
  split
  · exact { h with f := small_snoc h.f ⟨hk, hv⟩ }
  · split
    · exact { h with i := small_snoc h.i ⟨hk, hv⟩ }
    · split
      · exact { h with i := small_snoc h.i ⟨hk, hv⟩ }
      · split
        · exact { h with s := small_snoc h.s ⟨hk, hv⟩ }
        · split
          · exact { h with v := small_snoc h.v (svcRead_le fun x hx => Nat.le_trans (svcWords_le _ x hx) hb) }
          · exact h
theorem Small.all {n : Nat} : ∀ (f : Nat) (m : Mach) (t : ByteArray) (k : Nat), Small n m → t.size ≤ n → Small n (readF f m t k).1
  | 0, _, _, _, h, _ => h
  | f + 1, m, t, k, h, ht => by
    unfold readF
    split
    · exact h
    · split
      · exact h
      · split
        · exact h.thing (Nat.le_trans (cutA_le t 10) ht)
        · exact Small.all f _ _ _ (h.thing (Nat.le_trans (cutA_le t 10) ht)) (Nat.le_trans (cutB_le t 10) ht)
end P
end Go.Proofs.YtomikcemiacjmaaGreatDoor

namespace Go.Proofs.YtomikcemiacjmaaGreatDoor
open Go.RowKit Go.Lib Go.Shelf Go.Maps

namespace P
abbrev m0 : Mach := ⟨[], [], [], []⟩
end P
/-- what Parse leaves -/
def PA (w : World) (r : P.Mach × Nat × Int) (e : Ending) (w' : World) : Prop := ∃ A', e = .returned (.tuple #[machV A' r.1, .int .i64 (r.2.1 : Int), .int .i64 r.2.2]) ∧ Lies w'.heap.size w' A' r.1 ∧ Below w.heap.size w w'
theorem lies_none (n : Nat) (w : World) : Lies n w adz P.m0 := ⟨⟨Nat.le_refl _, fun h => absurd rfl h⟩, ⟨Nat.le_refl _, fun h => absurd rfl h⟩, ⟨Nat.le_refl _, fun h => absurd rfl h⟩, ⟨Nat.le_refl _, fun h => absurd rfl h⟩⟩

set_option maxRecDepth 100000 in
set_option maxHeartbeats 4000000 in
/-- .. where something is wrong: r is not read to its end, or is no right machine -/
theorem dparse_wrong (t0 : ByteArray) (e0 : Int) (k0 : Nat) (L : Nat) (hs : t0.size ≤ L) (hL : L ≤ 4194304) (hR : (P.readAll P.m0 t0 0).2.1 = k0 ∧ (P.readAll P.m0 t0 0).2.2 = e0) (h0 : e0 ≠ 0) (w : World) (hw : Good w) (he : Es w) :
    Calls Tryz.prog 60 #[.string t0] w fun e w' => PA w (P.m0, k0, e0) e w' := by
  have hB0 := below2 w (.cells mz 26) (.cells mz 26)
  have H := readLines_any t0 L hs hL (w.heap.size + 2) (w.heap.size + 1) (by have := hw.sz; omega) adz ((w.alloc (.cells mz 26)).alloc (.cells mz 26)) (hw.mono hB0) (he.mono hw hB0) (PS.start w)
  generalize P.readAll P.m0 t0 0 = R at *
  obtain ⟨m, k, e⟩ := R
  simp only at hR
  obtain ⟨rfl, rfl⟩ := hR
  have HL := Lib.hid H
  have HZ := Lib.hid hB0
  have HR0 := Lib.hid ((HasRow.new w mz 26).alloc (.cells mz 26))
  have g : (e != 0) = true := by simpa using h0
  clear hL hs hw he hB0 H h0
  unfold RL at HL
  simp only at HL
  go_enter Tryz.func60, Tryz.ntmps60
  go_wp2_with (go_at_call 151; refine HL.out.mono ?_; rintro e w1 ⟨A', rfl, hp1, hb1⟩; have HB1 := Lib.hid (HZ.out.trans (hb1.mono (Nat.le_succ _))); have HR2 := Lib.hid (HR0.out.belowN hb1 (Nat.lt_succ_self _)); obtain ⟨y0, y1, y2, y3, _⟩ := hrow4 HR2.out; have f0 := HR2.out.free 0; have f1 := HR2.out.free 1; have f2 := HR2.out.free 2; have f3 := HR2.out.free 3)
  have HS := Lib.hid (store4 HR2.out HB1.out (Nat.le_refl _) (.slice none 0 0) (.slice none 0 0) (.slice none 0 0) (.slice none 0 0))
  clear y0 y1 y2 y3 f0 f1 f2 f3
  obtain ⟨d0, d1, d2, d3, _⟩ := hrow4 HS.out.1
  refine bodyPost_ret (v := .tuple #[machV adz P.m0, .int .i64 (k : Int), .int .i64 e]) ?_ rfl ⟨adz, rfl, lies_none _ _, HS.out.2⟩
  unfold machV
  simp [results, Tryz.results60, go_sem, d0, d1, d2, d3]

set_option maxRecDepth 100000 in
set_option maxHeartbeats 4000000 in
/-- .. where what is read is no right machine -/
theorem dparse_bad (t0 : ByteArray) (L : Nat) (hs : t0.size ≤ L) (hL : L ≤ 4194304) (m : P.Mach) (hf : m.fit) (hR : ∃ k, P.readAll P.m0 t0 0 = (m, k, 0)) (h0 : P.machErr m ≠ 0) (w : World) (hw : Good w) (he : Es w) :
    Calls Tryz.prog 60 #[.string t0] w fun e w' => PA w (P.m0, 0, P.machErr m) e w' := by
  have hB0 := below2 w (.cells mz 26) (.cells mz 26)
  have H := readLines_any t0 L hs hL (w.heap.size + 2) (w.heap.size + 1) (by have := hw.sz; omega) adz ((w.alloc (.cells mz 26)).alloc (.cells mz 26)) (hw.mono hB0) (he.mono hw hB0) (PS.start w)
  obtain ⟨k, hR⟩ := hR
  rw [hR] at H
  have HL := Lib.hid H
  have HC := Lib.hid (fun A W hW hl => dcheck_any A m hf W hW hl)
  have g : (P.machErr m != 0) = true := by simpa using h0
  generalize P.machErr m = e1 at *
  have Hw := Lib.hid hw
  have HZ := Lib.hid hB0
  have HR0 := Lib.hid ((HasRow.new w mz 26).alloc (.cells mz 26))
  clear hL hs hw he hB0 H hR h0 hf
  unfold RL at HL
  simp only at HL
  go_enter Tryz.func60, Tryz.ntmps60
  go_wp2_with (first
    | (go_at_call 151; refine HL.out.mono ?_; rintro e w1 ⟨A', rfl, hp1, hb1⟩; obtain ⟨r0, r1, r2, r3, _⟩ := hrow4 hp1.row; have HB1 := Lib.hid (HZ.out.trans (hb1.mono (Nat.le_succ _))); have HLi := Lib.hid hp1.own.lies)
    | (go_at_call 15; refine (HC.out A' _ (Hw.out.mono HB1.out) HLi.out).mono ?_; rintro e w2 ⟨rfl, hb2⟩; have HR2 := Lib.hid ((HR0.out.belowN hb1 (Nat.lt_succ_self _)).below hb2); obtain ⟨y0, y1, y2, y3, _⟩ := hrow4 HR2.out; have f0 := HR2.out.free 0; have f1 := HR2.out.free 1; have f2 := HR2.out.free 2; have f3 := HR2.out.free 3))
  have HS := Lib.hid (store4 HR2.out (bstep HB1.out hb2) (Nat.le_refl _) (.slice none 0 0) (.slice none 0 0) (.slice none 0 0) (.slice none 0 0))
  clear y0 y1 y2 y3 f0 f1 f2 f3 r0 r1 r2 r3
  obtain ⟨d0, d1, d2, d3, _⟩ := hrow4 HS.out.1
  refine bodyPost_ret (v := .tuple #[machV adz P.m0, .int .i64 ((0 : Nat) : Int), .int .i64 e1]) ?_ rfl ⟨adz, rfl, lies_none _ _, HS.out.2⟩
  unfold machV
  simp [results, Tryz.results60, go_sem, d0, d1, d2, d3]

namespace P
end P
end Go.Proofs.YtomikcemiacjmaaGreatDoor
