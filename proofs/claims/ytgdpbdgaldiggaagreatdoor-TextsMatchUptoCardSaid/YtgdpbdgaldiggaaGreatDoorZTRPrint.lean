/- Walks: package outref1: Print. -/
import Derived.Test.YtgdpbdgaldiggaaGreatDoorZTQuote
import Derived.Test.YtgdpbdgaldiggaaGreatDoorZMWMach
import Derived.Deep.RegionWith

namespace Go.Proofs.YtgdpbdgaldiggaaGreatDoor
open Go.RowKit Go.Lib Go.Shelf

theorem bit_any (b : Bool) (w : World) : Calls Tryz.prog 177 #[.bool b] w fun e w' => e = .returned (.string (P.txt (P.bitL b))) ∧ w = w' := by
  cases b
  all_goals
    go_enter Tryz.func177, Tryz.ntmps177
    go_wp2_with fail
    go_ret
    exact ⟨rfl, rfl⟩
namespace P
theorem quote_size (s : ByteArray) : (quote s).size ≤ 4 * s.size + 2 := by
  unfold quote; rw [txt_size]; have := quoteL_le s.data.toList; rw [size_len] at this; exact this
theorem flat_take_le {α : Type} (f : α → B) (L : List α) (k : Nat) {n : Nat} (h : (L.flatMap f).length ≤ n) : ((L.take k).flatMap f).length ≤ n := by
  have e : L.flatMap f = (L.take k).flatMap f ++ (L.drop k).flatMap f := by rw [← List.flatMap_append, List.take_append_drop]
  rw [e, List.length_append] at h; omega
def wordsL (x : Sv) : B := x.n.data.toList ++ [32] ++ x.p.data.toList ++ [32] ++ bitL x.a ++ [32] ++ bitL x.o
theorem svcL_words (x : Sv) : svcL x = [115, 101, 114, 118, 105, 99, 101, 32] ++ wordsL x ++ [10] := rfl
end P
set_option maxRecDepth 100000 in
set_option maxHeartbeats 4000000 in
theorem serviceWords_any (x : P.Sv) (hn : x.n.size ≤ 4294967280) (hp : x.p.size ≤ 4294967280) (w : World) :
    Calls Tryz.prog 117 #[.agg #[.string x.n, .string x.p, .bool x.a, .bool x.o]] w fun e w' => e = .returned (.string (P.txt (P.wordsL x))) ∧ Below w.heap.size w w' := by
  have HB := Lib.hid bit_any
  have HE : Hid (x.n ++ ⟨#[32]⟩ ++ x.p ++ ⟨#[32]⟩ ++ P.txt (P.bitL x.a) ++ ⟨#[32]⟩ ++ P.txt (P.bitL x.o) = P.txt (P.wordsL x)) := Lib.hid (P.txt_eq (by
    simp only [ByteArray.data_append, Array.toList_append, P.txt_list]; rfl))
  have h1 : (P.txt (P.bitL x.a)).size ≤ 1 := by rw [P.txt_size, P.bitL_len]; exact Nat.le_refl _
  have h2 : (P.txt (P.bitL x.o)).size ≤ 1 := by rw [P.txt_size, P.bitL_len]; exact Nat.le_refl _
  obtain ⟨n, p, a, o⟩ := x
  simp only at hn hp h1 h2 HE ⊢
  have HB1 := Lib.hid (HB.out a)
  have HB2 := Lib.hid (HB.out o)
  have g1 : ¬ 9223372036854775807 < n.size + 1 := by omega
  have g2 : ¬ 9223372036854775807 < n.size + 1 + p.size := by omega
  have g3 : ¬ 9223372036854775807 < n.size + 1 + p.size + 1 := by omega
  have g4 : ¬ 9223372036854775807 < n.size + 1 + p.size + 1 + (P.txt (P.bitL a)).size := by omega
  have g5 : ¬ 9223372036854775807 < n.size + 1 + p.size + 1 + (P.txt (P.bitL a)).size + 1 := by omega
  have g6 : ¬ 9223372036854775807 < n.size + 1 + p.size + 1 + (P.txt (P.bitL a)).size + 1 + (P.txt (P.bitL o)).size := by omega
  have HR := HasRow.new w #[.string n, .string p, .bool a, .bool o] 46
  obtain ⟨c0, c1, c2, c3, _⟩ := hrow4 HR.drew
  have hS := And.intro c0 (And.intro c1 (And.intro c2 c3))
  clear HR c0 c1 c2 c3
  go_enter Tryz.func117, Tryz.ntmps117
  go_wp2_with fail
  go_region_held3 (fun W => W.cell? ⟨w.heap.size, 0, none⟩ = some (.string n) ∧ W.cell? ⟨w.heap.size, 1, none⟩ = some (.string p) ∧ W.cell? ⟨w.heap.size, 2, none⟩ = some (.bool a) ∧ W.cell? ⟨w.heap.size, 3, none⟩ = some (.bool o))
    (first | with_reducible assumption)
    (first | (go_at_call 177; refine (HB.out _ _).mono ?_; rintro e w' ⟨rfl, rfl⟩))
  have HZ := Lib.hid ((below_alloc w (.cells #[.string n, .string p, .bool a, .bool o] 46)).drew)
  go_wp2_with fail
  go_ret
  exact ⟨by rw [← HE.out]; rfl, HZ.out⟩

theorem HasRow.low {B : Nat} {W W' : World} {k : Nat} {vs : Array Value} (h : HasRow W k vs) (hb : Below B W W') (hk : k < B) : HasRow W' k vs :=
  ⟨fun i => by rw [hb.cell (p := ⟨k, i, none⟩) hk]; exact h.cell i, fun i => by rw [hb.frozen (p := ⟨k, i, none⟩) hk]; exact h.free i, Nat.lt_of_lt_of_le h.lt hb.size⟩
theorem Bld.alloc {B b : Nat} {l : List UInt8} {W : World} (h : Bld B b l W) (o : Obj) : Bld B b l (W.alloc o) := by
  have hb := below_alloc W o
  have hlt := h.lt
  rcases h with ⟨h1, v, h2, h3, h4⟩ | ⟨h1, v, h2, h3, h4⟩
  · exact .inl ⟨h1, v, (hb.block _ hlt).trans h2, own_below h3 hb, h4⟩
  · exact .inr ⟨h1, v, (hb.block _ hlt).trans h2, own_below h3 hb, h4⟩
theorem Bld.below {B b : Nat} {l : List UInt8} {W W' : World} (h : Bld B b l W) (hb : Below W.heap.size W W') : Bld B b l W' := by
  have hlt := h.lt
  rcases h with ⟨h1, v, h2, h3, h4⟩ | ⟨h1, v, h2, h3, h4⟩
  · exact .inl ⟨h1, v, (hb.block _ hlt).trans h2, own_below h3 hb, h4⟩
  · exact .inr ⟨h1, v, (hb.block _ hlt).trans h2, own_below h3 hb, h4⟩
/-- the state of Print: the machine's box, the builder behind it -/
structure PSt (w W : World) (r : Array Value) (l : P.B) : Prop where
  m : HasRow W w.heap.size r
  o : Bld (w.heap.size + 1) (w.heap.size + 1) l W
  b : Below w.heap.size w W
theorem PSt.alloc {w W : World} {r : Array Value} {l : P.B} (h : PSt w W r l) (o : Obj) : PSt w (W.alloc o) r l := ⟨h.m.alloc o, h.o.alloc o, bstep h.b (below_alloc W o)⟩
theorem PSt.drew {w W : World} {r : Array Value} {l : P.B} (h : PSt w W r l) : PSt w W.drew r l := ⟨h.m.drew, h.o.drew, h.b.drew⟩
theorem PSt.below {w W W' : World} {r : Array Value} {l : P.B} (h : PSt w W r l) (hb : Below W.heap.size W W') : PSt w W' r l := ⟨h.m.below hb, h.o.below hb, bstep h.b hb⟩
theorem PSt.wrote {w W W' : World} {r : Array Value} {l l' : P.B} (h : PSt w W r l) (hb : Below (w.heap.size + 1) W W') (ho : Bld (w.heap.size + 1) (w.heap.size + 1) l' W') : PSt w W' r l' := ⟨h.m.low hb (Nat.lt_succ_self _), ho, h.b.trans (hb.mono (Nat.le_succ _))⟩

set_option maxRecDepth 100000 in
set_option maxHeartbeats 8000000 in
theorem rprint_any (A : Ad) (m : P.Mach) (hr : P.Right m) (w : World) (hl : Lies w.heap.size w A m) :
    Calls Tryz.prog 50 #[machV A m] w fun e w' => e = .returned (.string (P.txt (P.printL m))) ∧ Below w.heap.size w w' := by
  have hf := hr.fit
  have hpl := P.print_le hr
  have HQ := Lib.hid (fun s hs w => rquote_any s hs w)
  have HWr : Hid (∀ (l : P.B) (t : ByteArray) (W : World), Bld (w.heap.size + 1) (w.heap.size + 1) l W → l.length + t.size ≤ 140737488355328 → Calls Tryz.prog 116 #[.pointer (some ⟨w.heap.size + 1, 0, none⟩), .string t] W fun e w' => e = .returned (.tuple #[.int .i64 t.size, .nilIface]) ∧ Bld (w.heap.size + 1) (w.heap.size + 1) (l ++ t.data.toList) w' ∧ Below (w.heap.size + 1) W w') :=
    Lib.hid (fun l t W h hn => writeString_any _ _ l t W h hn (Nat.le_of_lt h.lt))
  obtain ⟨a1, a2, a3, a4, c1, c2, c3, c4⟩ := A
  obtain ⟨F, I, S, V⟩ := m
  unfold machV
  have HL := Lib.hid hl
  have HF := Lib.hid hf
  have HPr := Lib.hid hr
  simp only
  have hlF : F.length ≤ 4294967280 := hf.l1
  have hlI : I.length ≤ 4294967280 := hf.l2
  have hlS : S.length ≤ 4294967280 := hf.l3
  have hlV : V.length ≤ 4294967280 := hf.l4
  have H0 : Hid (PSt w ((w.alloc (.cells #[.slice a1 F.length c1, .slice a2 I.length c2, .slice a3 S.length c3, .slice a4 V.length c4] 26)).alloc (.cells #[.pointer none, .slice none 0 0] 148)) #[.slice a1 F.length c1, .slice a2 I.length c2, .slice a3 S.length c3, .slice a4 V.length c4] []) := Lib.hid (by
    refine ⟨(HasRow.new w _ _).alloc _, ?_, below2 _ _ _⟩
    have := Bld.fresh (w.alloc (.cells #[.slice a1 F.length c1, .slice a2 I.length c2, .slice a3 S.length c3, .slice a4 V.length c4] 26))
    rwa [World.size_alloc] at this)
  clear hl hr hf
  go_enter Tryz.func50, Tryz.ntmps50
  go_wp2_with fail
  go_loopw [16] (fun i wr => ∃ k : Nat, k ≤ F.length ∧ i = .int .i64 k ∧ Hid (PSt w wr #[.slice a1 F.length c1, .slice a2 I.length c2, .slice a3 S.length c3, .slice a4 V.length c4] ((F.take k).flatMap P.factL))) (fun i _ => F.length - (RowKit.intOf i).toNat)
  case atStart => exact ⟨0, Nat.zero_le _, rfl, H0⟩
  case round =>
    obtain ⟨k, hk, rfl, HS⟩ := hrel
    by_cases hlt : k < F.length
    · obtain ⟨b, off, rfl, hbm, hc⟩ := (HL.out.f.below HS.out.b).at_ (ne_nil_of_lt hlt)
      obtain ⟨d0, d1⟩ := hc k hlt
      have hz := HF.out.f k hlt
      have HE : Hid (∀ W, Bld (w.heap.size + 1) (w.heap.size + 1) ((F.take k).flatMap P.factL ++ ((⟨#[102, 97, 99, 116, 32]⟩ : ByteArray) ++ F[k].k ++ ⟨#[32]⟩ ++ P.quote F[k].v ++ ⟨#[10]⟩).data.toList) W → Bld (w.heap.size + 1) (w.heap.size + 1) ((F.take (k + 1)).flatMap P.factL) W) := Lib.hid (fun W h => by
        have e : ((⟨#[102, 97, 99, 116, 32]⟩ : ByteArray) ++ F[k].k ++ ⟨#[32]⟩ ++ P.quote F[k].v ++ ⟨#[10]⟩).data.toList = P.factL F[k] := by
          simp only [ByteArray.data_append, Array.toList_append, P.quote, P.txt_list]; rfl
        rw [P.flat_snoc P.factL F k hlt, ← e]; simpa only [List.append_assoc] using h)
      have HQk := Lib.hid (fun W => HQ.out F[k].v hz.2 W)
      have hq := P.quote_size F[k].v
      have hll : ((F.take k).flatMap P.factL).length ≤ 1000000000 := by
        have := P.flat_take_le P.factL F k (n := (F.flatMap P.factL).length) (Nat.le_refl _)
        unfold P.printL at hpl; simp only [List.length_append] at hpl ⊢; omega
      clear hc
      generalize (F.take k).flatMap P.factL = l at *
      generalize P.quote F[k].v = q at *
      generalize F[k] = x at *
      have HR0 := HasRow.new wr #[.string x.k, .string x.v] 62
      obtain ⟨r0, r1, _⟩ := hrow2 HR0
      clear HR0
      have g0 : ¬ 9223372036854775807 < 5 + x.k.size := by omega
      have g1 : ¬ 9223372036854775807 < 5 + x.k.size + 1 := by omega
      have g2 : ¬ 9223372036854775807 < 5 + x.k.size + 1 + q.size := by omega
      have g3 : ¬ 9223372036854775807 < 5 + x.k.size + 1 + q.size + 1 := by omega
      go_wp2_with fail
      clear d0 d1
      go_region_with (first
        | (go_at_call 54; refine (HQk.out _).mono ?_; rintro e w2 ⟨rfl, hb2⟩; have q0 := cell_keep hb2 r0; have q1 := cell_keep hb2 r1)
        | (go_at_call 116; refine (HWr.out l _ _ (((HS.out.alloc _).drew).below hb2).o (by simp only [ByteArray.size_append]; show _ + (5 + _ + 1 + _ + 1) ≤ _; omega)).mono ?_; rintro e w3 ⟨rfl, hB, hb3⟩; have HN := Lib.hid ((((HS.out.alloc _).drew).below hb2).wrote hb3 (HE.out _ hB)); clear hB hb3))
      all_goals
        clear hb2 q0 q1 r0 r1 g0 g1 g2 g3
        go_wp2_with fail
        go_roundw
        case rel => exact ⟨k + 1, by omega, by go_num, HN⟩
        case measure => simp [RowKit.intOf]; omega
    · have hkl : k = F.length := by omega
      subst hkl
      have HN := Lib.hid (by have := HS.out; rwa [List.take_length] at this)
      clear HS hk hlt
      obtain ⟨m0, m1, m2, m3, _⟩ := hrow4 HN.out.m
      go_wp2_with fail
      clear m0 m1 m2 m3
      go_loopw [34] (fun i wr => ∃ k : Nat, k ≤ I.length ∧ i = .int .i64 k ∧ Hid (PSt w wr #[.slice a1 F.length c1, .slice a2 I.length c2, .slice a3 S.length c3, .slice a4 V.length c4] (F.flatMap P.factL ++ (I.take k).flatMap P.fileL))) (fun i _ => I.length - (RowKit.intOf i).toNat)
      case atStart => exact ⟨0, Nat.zero_le _, rfl, Lib.hid (by have := HN.out; simpa using this)⟩
      case round =>
        obtain ⟨k, hk, rfl, HS⟩ := hrel
        by_cases hlt : k < I.length
        · obtain ⟨b, off, rfl, hbm, hc⟩ := (HL.out.i.below HS.out.b).at_ (ne_nil_of_lt hlt)
          obtain ⟨d0, d1, d2⟩ := hc k hlt
          have hz := HF.out.i k hlt
          cases hrun : I[k].r
          · have HE : Hid (∀ W, Bld (w.heap.size + 1) (w.heap.size + 1) (F.flatMap P.factL ++ (I.take k).flatMap P.fileL ++ ((⟨#[102, 105, 108, 101, 32]⟩ : ByteArray) ++ I[k].p ++ ⟨#[32]⟩ ++ P.quote I[k].d ++ ⟨#[10]⟩).data.toList) W → Bld (w.heap.size + 1) (w.heap.size + 1) (F.flatMap P.factL ++ (I.take (k + 1)).flatMap P.fileL) W) := Lib.hid (fun W h => by
              have e : ((⟨#[102, 105, 108, 101, 32]⟩ : ByteArray) ++ I[k].p ++ ⟨#[32]⟩ ++ P.quote I[k].d ++ ⟨#[10]⟩).data.toList = P.fileL I[k] := by
                simp only [ByteArray.data_append, Array.toList_append, P.quote, P.txt_list]; unfold P.fileL; rw [hrun]; rfl
              rw [P.flat_snoc P.fileL I k hlt, ← e]; simpa only [List.append_assoc] using h)
            have HQk := Lib.hid (fun W => HQ.out I[k].d hz.2 W)
            have hq := P.quote_size I[k].d
            have hll : (F.flatMap P.factL ++ (I.take k).flatMap P.fileL).length ≤ 1000000000 := by
              have := P.flat_take_le P.fileL I k (n := (I.flatMap P.fileL).length) (Nat.le_refl _)
              unfold P.printL at hpl; simp only [List.length_append] at hpl ⊢; omega
            clear hc
            generalize F.flatMap P.factL ++ (I.take k).flatMap P.fileL = l at *
            generalize P.quote I[k].d = q at *
            generalize I[k] = x at *
            have HR0 := HasRow.new wr #[.string x.p, .string x.d, .bool x.r] 42
            rw [hrun] at HR0
            rw [hrun] at d2
            obtain ⟨r0, r1, r2, _⟩ := hrow3 HR0
            clear HR0
            have g0 : ¬ 9223372036854775807 < 5 + x.p.size := by omega
            have g1 : ¬ 9223372036854775807 < 5 + x.p.size + 1 := by omega
            have g2 : ¬ 9223372036854775807 < 5 + x.p.size + 1 + q.size := by omega
            have g3 : ¬ 9223372036854775807 < 5 + x.p.size + 1 + q.size + 1 := by omega
            go_wp2_with fail
            clear d0 d1 d2
            go_region_with (first
              | (go_at_call 54; refine (HQk.out _).mono ?_; rintro e w2 ⟨rfl, hb2⟩; have q0 := cell_keep hb2 r0; have q1 := cell_keep hb2 r1)
              | (go_at_call 116; refine (HWr.out l _ _ (((HS.out.alloc _).drew).below hb2).o (by simp only [ByteArray.size_append]; show _ + (5 + _ + 1 + _ + 1) ≤ _; omega)).mono ?_; rintro e w3 ⟨rfl, hB, hb3⟩; have HN := Lib.hid ((((HS.out.alloc _).drew).below hb2).wrote hb3 (HE.out _ hB)); clear hB hb3))
            all_goals
              clear hb2 q0 q1 r0 r1 g0 g1 g2 g3
              go_wp2_with fail
              go_roundw
              case rel => exact ⟨k + 1, by omega, by go_num, HN⟩
              case measure => simp [RowKit.intOf]; omega
          · have HE : Hid (∀ W, Bld (w.heap.size + 1) (w.heap.size + 1) (F.flatMap P.factL ++ (I.take k).flatMap P.fileL ++ ((⟨#[114, 117, 110, 32]⟩ : ByteArray) ++ I[k].p ++ ⟨#[32]⟩ ++ P.quote I[k].d ++ ⟨#[10]⟩).data.toList) W → Bld (w.heap.size + 1) (w.heap.size + 1) (F.flatMap P.factL ++ (I.take (k + 1)).flatMap P.fileL) W) := Lib.hid (fun W h => by
              have e : ((⟨#[114, 117, 110, 32]⟩ : ByteArray) ++ I[k].p ++ ⟨#[32]⟩ ++ P.quote I[k].d ++ ⟨#[10]⟩).data.toList = P.fileL I[k] := by
                simp only [ByteArray.data_append, Array.toList_append, P.quote, P.txt_list]; unfold P.fileL; rw [hrun]; rfl
              rw [P.flat_snoc P.fileL I k hlt, ← e]; simpa only [List.append_assoc] using h)
            have HQk := Lib.hid (fun W => HQ.out I[k].d hz.2 W)
            have hq := P.quote_size I[k].d
            have hll : (F.flatMap P.factL ++ (I.take k).flatMap P.fileL).length ≤ 1000000000 := by
              have := P.flat_take_le P.fileL I k (n := (I.flatMap P.fileL).length) (Nat.le_refl _)
              unfold P.printL at hpl; simp only [List.length_append] at hpl ⊢; omega
            clear hc
            generalize F.flatMap P.factL ++ (I.take k).flatMap P.fileL = l at *
            generalize P.quote I[k].d = q at *
            generalize I[k] = x at *
            have HR0 := HasRow.new wr #[.string x.p, .string x.d, .bool x.r] 42
            rw [hrun] at HR0
            rw [hrun] at d2
            obtain ⟨r0, r1, r2, _⟩ := hrow3 HR0
            clear HR0
            have g0 : ¬ 9223372036854775807 < 4 + x.p.size := by omega
            have g1 : ¬ 9223372036854775807 < 4 + x.p.size + 1 := by omega
            have g2 : ¬ 9223372036854775807 < 4 + x.p.size + 1 + q.size := by omega
            have g3 : ¬ 9223372036854775807 < 4 + x.p.size + 1 + q.size + 1 := by omega
            go_wp2_with fail
            clear d0 d1 d2
            go_region_with (first
              | (go_at_call 54; refine (HQk.out _).mono ?_; rintro e w2 ⟨rfl, hb2⟩; have q0 := cell_keep hb2 r0; have q1 := cell_keep hb2 r1)
              | (go_at_call 116; refine (HWr.out l _ _ (((HS.out.alloc _).drew).below hb2).o (by simp only [ByteArray.size_append]; show _ + (4 + _ + 1 + _ + 1) ≤ _; omega)).mono ?_; rintro e w3 ⟨rfl, hB, hb3⟩; have HN := Lib.hid ((((HS.out.alloc _).drew).below hb2).wrote hb3 (HE.out _ hB)); clear hB hb3))
            all_goals
              clear hb2 q0 q1 r0 r1 g0 g1 g2 g3
              go_wp2_with fail
              go_roundw
              case rel => exact ⟨k + 1, by omega, by go_num, HN⟩
              case measure => simp [RowKit.intOf]; omega
        · have hkl : k = I.length := by omega
          subst hkl
          have HN := Lib.hid (by have := HS.out; rwa [List.take_length] at this)
          clear HS hk hlt
          obtain ⟨m0, m1, m2, m3, _⟩ := hrow4 HN.out.m
          go_wp2_with fail
          clear m0 m1 m2 m3
          go_loopw [55] (fun i wr => ∃ k : Nat, k ≤ S.length ∧ i = .int .i64 k ∧ Hid (PSt w wr #[.slice a1 F.length c1, .slice a2 I.length c2, .slice a3 S.length c3, .slice a4 V.length c4] (F.flatMap P.factL ++ I.flatMap P.fileL ++ (S.take k).flatMap P.setL))) (fun i _ => S.length - (RowKit.intOf i).toNat)
          case atStart => exact ⟨0, Nat.zero_le _, rfl, Lib.hid (by have := HN.out; simpa using this)⟩
          case round =>
            obtain ⟨k, hk, rfl, HS⟩ := hrel
            by_cases hlt : k < S.length
            · obtain ⟨b, off, rfl, hbm, hc⟩ := (HL.out.s.below HS.out.b).at_ (ne_nil_of_lt hlt)
              obtain ⟨d0, d1⟩ := hc k hlt
              have hz := HF.out.s k hlt
              have HE : Hid (∀ W, Bld (w.heap.size + 1) (w.heap.size + 1) (F.flatMap P.factL ++ I.flatMap P.fileL ++ (S.take k).flatMap P.setL ++ ((⟨#[115, 101, 116, 32]⟩ : ByteArray) ++ S[k].k ++ ⟨#[32]⟩ ++ P.quote S[k].v ++ ⟨#[10]⟩).data.toList) W → Bld (w.heap.size + 1) (w.heap.size + 1) (F.flatMap P.factL ++ I.flatMap P.fileL ++ (S.take (k + 1)).flatMap P.setL) W) := Lib.hid (fun W h => by
                have e : ((⟨#[115, 101, 116, 32]⟩ : ByteArray) ++ S[k].k ++ ⟨#[32]⟩ ++ P.quote S[k].v ++ ⟨#[10]⟩).data.toList = P.setL S[k] := by
                  simp only [ByteArray.data_append, Array.toList_append, P.quote, P.txt_list]; rfl
                rw [P.flat_snoc P.setL S k hlt, ← e]; simpa only [List.append_assoc] using h)
              have HQk := Lib.hid (fun W => HQ.out S[k].v hz.2 W)
              have hq := P.quote_size S[k].v
              have hll : (F.flatMap P.factL ++ I.flatMap P.fileL ++ (S.take k).flatMap P.setL).length ≤ 1000000000 := by
                have := P.flat_take_le P.setL S k (n := (S.flatMap P.setL).length) (Nat.le_refl _)
                unfold P.printL at hpl; simp only [List.length_append] at hpl ⊢; omega
              clear hc
              generalize F.flatMap P.factL ++ I.flatMap P.fileL ++ (S.take k).flatMap P.setL = l at *
              generalize P.quote S[k].v = q at *
              generalize S[k] = x at *
              have HR0 := HasRow.new wr #[.string x.k, .string x.v] 62
              obtain ⟨r0, r1, _⟩ := hrow2 HR0
              clear HR0
              have g0 : ¬ 9223372036854775807 < 4 + x.k.size := by omega
              have g1 : ¬ 9223372036854775807 < 4 + x.k.size + 1 := by omega
              have g2 : ¬ 9223372036854775807 < 4 + x.k.size + 1 + q.size := by omega
              have g3 : ¬ 9223372036854775807 < 4 + x.k.size + 1 + q.size + 1 := by omega
              go_wp2_with fail
              clear d0 d1
              go_region_with (first
                | (go_at_call 54; refine (HQk.out _).mono ?_; rintro e w2 ⟨rfl, hb2⟩; have q0 := cell_keep hb2 r0; have q1 := cell_keep hb2 r1)
                | (go_at_call 116; refine (HWr.out l _ _ (((HS.out.alloc _).drew).below hb2).o (by simp only [ByteArray.size_append]; show _ + (4 + _ + 1 + _ + 1) ≤ _; omega)).mono ?_; rintro e w3 ⟨rfl, hB, hb3⟩; have HN := Lib.hid ((((HS.out.alloc _).drew).below hb2).wrote hb3 (HE.out _ hB)); clear hB hb3))
              all_goals
                clear hb2 q0 q1 r0 r1 g0 g1 g2 g3
                go_wp2_with fail
                go_roundw
                case rel => exact ⟨k + 1, by omega, by go_num, HN⟩
                case measure => simp [RowKit.intOf]; omega
            · have hkl : k = S.length := by omega
              subst hkl
              have HN := Lib.hid (by have := HS.out; rwa [List.take_length] at this)
              clear HS hk hlt
              obtain ⟨m0, m1, m2, m3, _⟩ := hrow4 HN.out.m
              go_wp2_with fail
              clear m0 m1 m2 m3
              go_loopw [73] (fun i wr => ∃ k : Nat, k ≤ V.length ∧ i = .int .i64 k ∧ Hid (PSt w wr #[.slice a1 F.length c1, .slice a2 I.length c2, .slice a3 S.length c3, .slice a4 V.length c4] (F.flatMap P.factL ++ I.flatMap P.fileL ++ S.flatMap P.setL ++ (V.take k).flatMap P.svcL))) (fun i _ => V.length - (RowKit.intOf i).toNat)
              case atStart => exact ⟨0, Nat.zero_le _, rfl, Lib.hid (by have := HN.out; simpa using this)⟩
              case round =>
                obtain ⟨k, hk, rfl, HS⟩ := hrel
                by_cases hlt : k < V.length
                · obtain ⟨b, off, rfl, hbm, hc⟩ := (HL.out.v.below HS.out.b).at_ (ne_nil_of_lt hlt)
                  obtain ⟨d0, d1, d2, d3⟩ := hc k hlt
                  have hz : V[k].n.size ≤ 4294967280 ∧ V[k].p.size ≤ 4294967280 := HF.out.v k hlt
                  have HE : Hid (∀ W, Bld (w.heap.size + 1) (w.heap.size + 1) (F.flatMap P.factL ++ I.flatMap P.fileL ++ S.flatMap P.setL ++ (V.take k).flatMap P.svcL ++ ((⟨#[115, 101, 114, 118, 105, 99, 101, 32]⟩ : ByteArray) ++ P.txt (P.wordsL V[k]) ++ ⟨#[10]⟩).data.toList) W → Bld (w.heap.size + 1) (w.heap.size + 1) (F.flatMap P.factL ++ I.flatMap P.fileL ++ S.flatMap P.setL ++ (V.take (k + 1)).flatMap P.svcL) W) := Lib.hid (fun W h => by
                    have e : ((⟨#[115, 101, 114, 118, 105, 99, 101, 32]⟩ : ByteArray) ++ P.txt (P.wordsL V[k]) ++ ⟨#[10]⟩).data.toList = P.svcL V[k] := by
                      simp only [ByteArray.data_append, Array.toList_append, P.txt_list]; rfl
                    rw [P.flat_snoc P.svcL V k hlt, ← e]; simpa only [List.append_assoc] using h)
                  have HQk := Lib.hid (fun W => serviceWords_any V[k] hz.1 hz.2 W)
                  have hq : (P.txt (P.wordsL V[k])).size ≤ 8589934600 := by
                    rw [P.txt_size]; unfold P.wordsL; simp only [List.length_append, P.size_len, P.bitL_len, List.length_cons, List.length_nil]; omega
                  have hll : (F.flatMap P.factL ++ I.flatMap P.fileL ++ S.flatMap P.setL ++ (V.take k).flatMap P.svcL).length ≤ 1000000000 := by
                    have := P.flat_take_le P.svcL V k (n := (V.flatMap P.svcL).length) (Nat.le_refl _)
                    unfold P.printL at hpl; simp only [List.length_append] at hpl ⊢; omega
                  clear hc
                  generalize F.flatMap P.factL ++ I.flatMap P.fileL ++ S.flatMap P.setL ++ (V.take k).flatMap P.svcL = l at *
                  generalize P.txt (P.wordsL V[k]) = q at *
                  generalize V[k] = x at *
                  have HR0 := HasRow.new wr #[.string x.n, .string x.p, .bool x.a, .bool x.o] 46
                  obtain ⟨r0, r1, r2, r3, _⟩ := hrow4 HR0
                  clear HR0
                  go_wp2_with fail
                  clear d0 d1 d2 d3
                  refine (HQk.out _).mono ?_
                  rintro e w2 ⟨rfl, hb2⟩
                  have HM := Lib.hid ((HS.out.alloc _).below hb2)
                  clear hb2 r0 r1 r2 r3
                  go_wp2_with fail
                  refine (HWr.out l _ _ HM.out.o (by simp only [ByteArray.size_append]; show _ + (8 + _ + 1) ≤ _; omega)).mono ?_
                  rintro e w3 ⟨rfl, hB, hb3⟩
                  have HN := Lib.hid (HM.out.wrote hb3 (HE.out _ hB))
                  clear hB hb3
                  go_wp2_with fail
                  go_roundw
                  case rel => exact ⟨k + 1, by omega, by go_num, HN⟩
                  case measure => simp [RowKit.intOf]; omega
                · have hkl : k = V.length := by omega
                  subst hkl
                  have HN := Lib.hid (by have := HS.out; rwa [List.take_length] at this)
                  clear HS hk hlt
                  have HY : Hid (Calls Tryz.prog 118 #[.pointer (some ⟨w.heap.size + 1, 0, none⟩)] wr fun e w' => e = .returned (.string (P.txt (P.printL ⟨F, I, S, V⟩))) ∧ Below (w.heap.size + 1) wr w') := Lib.hid (string_any _ _ _ wr HN.out.o (Nat.le_of_lt HN.out.o.lt))
                  obtain ⟨T, hT⟩ : ∃ T, P.txt (P.printL ⟨F, I, S, V⟩) = T := ⟨_, rfl⟩
                  rw [hT] at HY
                  have HT := Lib.hid hT
                  clear hT
                  go_wp2_with fail
                  refine HY.out.mono ?_
                  rintro e w' ⟨rfl, hb⟩
                  have HB := Lib.hid (HN.out.b.trans (hb.mono (Nat.le_succ _)))
                  clear hb
                  go_wp2_with fail
                  go_ret
                  exact ⟨by rw [HT.out]; rfl, HB.out⟩
end Go.Proofs.YtgdpbdgaldiggaaGreatDoor
