/- Walks: package disk: Diff of two machines that are right. -/
import Derived.Test.YtkibmoekadmjnaaGreatDoorZMApp2
import Derived.Test.YtkibmoekadmjnaaGreatDoorZMEqual
import Derived.Deep.RegionHeld3

namespace Go.Proofs.YtkibmoekadmjnaaGreatDoor
open Go.RowKit Go.Shelf

theorem cut_list {w w1 w2 : World} {v1 v2 : Value} {n m : Nat} {xs ys : List Value} {P : Prop} (h : w1.ownsRow w.heap.size 73 10 v1 n xs) (hb : Below w1.heap.size w1 w2) (_hu : w2.ownsRow w1.heap.size 73 10 v2 m ys) (k : w2.ownsRow w.heap.size 73 10 v1 n xs → P) : P := k (own_below h hb)
theorem k9_start {w W : World} {s1 s2 s3 s4 t1 t2 t3 t4 : Value} (ha : HasRow W w.heap.size #[s1, s2, s3, s4]) (hb : HasRow W (w.heap.size + 1) #[t1, t2, t3, t4]) (hB : Below w.heap.size w W) : W.drew.cell? ⟨w.heap.size, 0, none⟩ = some s1 ∧ W.drew.cell? ⟨w.heap.size, 1, none⟩ = some s2 ∧ W.drew.cell? ⟨w.heap.size, 2, none⟩ = some s3 ∧ W.drew.cell? ⟨w.heap.size, 3, none⟩ = some s4 ∧ W.drew.cell? ⟨w.heap.size + 1, 0, none⟩ = some t1 ∧ W.drew.cell? ⟨w.heap.size + 1, 1, none⟩ = some t2 ∧ W.drew.cell? ⟨w.heap.size + 1, 2, none⟩ = some t3 ∧ W.drew.cell? ⟨w.heap.size + 1, 3, none⟩ = some t4 ∧ Below w.heap.size w W.drew :=
  ⟨ha.cell 0, ha.cell 1, ha.cell 2, ha.cell 3, hb.cell 0, hb.cell 1, hb.cell 2, hb.cell 3, hB.drew⟩
theorem k9_keep {w W W' : World} {s1 s2 s3 s4 t1 t2 t3 t4 : Value} (h : W.cell? ⟨w.heap.size, 0, none⟩ = some s1 ∧ W.cell? ⟨w.heap.size, 1, none⟩ = some s2 ∧ W.cell? ⟨w.heap.size, 2, none⟩ = some s3 ∧ W.cell? ⟨w.heap.size, 3, none⟩ = some s4 ∧ W.cell? ⟨w.heap.size + 1, 0, none⟩ = some t1 ∧ W.cell? ⟨w.heap.size + 1, 1, none⟩ = some t2 ∧ W.cell? ⟨w.heap.size + 1, 2, none⟩ = some t3 ∧ W.cell? ⟨w.heap.size + 1, 3, none⟩ = some t4 ∧ Below w.heap.size w W) (hq : Below W.heap.size W W') : W'.cell? ⟨w.heap.size, 0, none⟩ = some s1 ∧ W'.cell? ⟨w.heap.size, 1, none⟩ = some s2 ∧ W'.cell? ⟨w.heap.size, 2, none⟩ = some s3 ∧ W'.cell? ⟨w.heap.size, 3, none⟩ = some s4 ∧ W'.cell? ⟨w.heap.size + 1, 0, none⟩ = some t1 ∧ W'.cell? ⟨w.heap.size + 1, 1, none⟩ = some t2 ∧ W'.cell? ⟨w.heap.size + 1, 2, none⟩ = some t3 ∧ W'.cell? ⟨w.heap.size + 1, 3, none⟩ = some t4 ∧ Below w.heap.size w W' :=
  ⟨cell_keep hq h.1, cell_keep hq h.2.1, cell_keep hq h.2.2.1, cell_keep hq h.2.2.2.1, cell_keep hq h.2.2.2.2.1, cell_keep hq h.2.2.2.2.2.1, cell_keep hq h.2.2.2.2.2.2.1, cell_keep hq h.2.2.2.2.2.2.2.1, bstep h.2.2.2.2.2.2.2.2 hq⟩

theorem cell_far {W W' : World} {p : Addr} {v : Value} {row : Option Nat} (hg : W.grownBy W' row) (h : W.cell? p = some v) (hne : ∀ k, row = some k → p.block ≠ k) : W'.cell? p = some v := by
  have hlt : p.block < W.heap.size := by
    unfold World.cell? at h
    split at h
    · rename_i hh; exact (Array.getElem?_eq_some_iff.1 hh).1
    · cases h
  rw [World.cell?_of_block (w := W) (a := p) (hg.block _ hlt (fun e => hne _ e.symm rfl))]; exact h
theorem k9_grown {w W W' : World} {s1 s2 s3 s4 t1 t2 t3 t4 : Value} {row : Option Nat} (h : W.cell? ⟨w.heap.size, 0, none⟩ = some s1 ∧ W.cell? ⟨w.heap.size, 1, none⟩ = some s2 ∧ W.cell? ⟨w.heap.size, 2, none⟩ = some s3 ∧ W.cell? ⟨w.heap.size, 3, none⟩ = some s4 ∧ W.cell? ⟨w.heap.size + 1, 0, none⟩ = some t1 ∧ W.cell? ⟨w.heap.size + 1, 1, none⟩ = some t2 ∧ W.cell? ⟨w.heap.size + 1, 2, none⟩ = some t3 ∧ W.cell? ⟨w.heap.size + 1, 3, none⟩ = some t4 ∧ Below w.heap.size w W) (hg : W.grownBy W' row) (hr : ∀ k, row = some k → w.heap.size + 2 ≤ k) : W'.cell? ⟨w.heap.size, 0, none⟩ = some s1 ∧ W'.cell? ⟨w.heap.size, 1, none⟩ = some s2 ∧ W'.cell? ⟨w.heap.size, 2, none⟩ = some s3 ∧ W'.cell? ⟨w.heap.size, 3, none⟩ = some s4 ∧ W'.cell? ⟨w.heap.size + 1, 0, none⟩ = some t1 ∧ W'.cell? ⟨w.heap.size + 1, 1, none⟩ = some t2 ∧ W'.cell? ⟨w.heap.size + 1, 2, none⟩ = some t3 ∧ W'.cell? ⟨w.heap.size + 1, 3, none⟩ = some t4 ∧ Below w.heap.size w W' :=
  ⟨cell_far hg (h.1) (fun k e => by have := hr k e; show w.heap.size ≠ k; omega), cell_far hg (h.2.1) (fun k e => by have := hr k e; show w.heap.size ≠ k; omega), cell_far hg (h.2.2.1) (fun k e => by have := hr k e; show w.heap.size ≠ k; omega), cell_far hg (h.2.2.2.1) (fun k e => by have := hr k e; show w.heap.size ≠ k; omega), cell_far hg (h.2.2.2.2.1) (fun k e => by have := hr k e; show w.heap.size + 1 ≠ k; omega), cell_far hg (h.2.2.2.2.2.1) (fun k e => by have := hr k e; show w.heap.size + 1 ≠ k; omega), cell_far hg (h.2.2.2.2.2.2.1) (fun k e => by have := hr k e; show w.heap.size + 1 ≠ k; omega), cell_far hg (h.2.2.2.2.2.2.2.1) (fun k e => by have := hr k e; show w.heap.size + 1 ≠ k; omega), (h.2.2.2.2.2.2.2.2).grown hg (h.2.2.2.2.2.2.2.2).size (fun k e => by have := hr k e; omega)⟩
theorem rmF_one (x : P.Fi) : ∀ u ∈ rmF x, u.oneCell' = true := by intro u hu; simp [rmF] at hu; rcases hu with rfl | rfl | rfl | rfl | rfl | rfl | rfl | rfl | rfl | rfl <;> rfl
theorem rmS_one (x : P.St) : ∀ u ∈ rmS x, u.oneCell' = true := by intro u hu; simp [rmS] at hu; rcases hu with rfl | rfl | rfl | rfl | rfl | rfl | rfl | rfl | rfl | rfl <;> rfl
theorem rmV_one (x : P.Sv) : ∀ u ∈ rmV x, u.oneCell' = true := by intro u hu; simp [rmV] at hu; rcases hu with rfl | rfl | rfl | rfl | rfl | rfl | rfl | rfl | rfl | rfl <;> rfl
/-- what goings and comings owe here -/
def Lists (f : Nat) (V1 V2 : Value) (w : World) : Prop := ∀ W, Below w.heap.size w W → Calls Tryz.prog f #[V1, V2] W fun e w' => ∃ v n xs, e = .returned v ∧ n ≤ 12884901840 ∧ (∀ u ∈ xs, u.oneCell' = true) ∧ w'.ownsRow W.heap.size 73 10 v n xs ∧ Below W.heap.size W w'

set_option maxRecDepth 100000 in
set_option maxHeartbeats 4000000 in
theorem diff_core (s1 s2 s3 s4 t1 t2 t3 t4 : Value) (w : World)
    (hCA : ∀ W, Below w.heap.size w W → Calls Tryz.prog 14 #[.agg #[s1, s2, s3, s4]] W fun x w' => x = .returned (.int .i64 0) ∧ Below W.heap.size W w')
    (hCB : ∀ W, Below w.heap.size w W → Calls Tryz.prog 14 #[.agg #[t1, t2, t3, t4]] W fun x w' => x = .returned (.int .i64 0) ∧ Below W.heap.size W w')
    (hEQ : ∀ W, Below w.heap.size w W → Calls Tryz.prog 49 #[s1, t1] W fun e w' => ∃ b, e = .returned (.bool b) ∧ Below W.heap.size W w')
    (hG : Lists 98 (.agg #[s1, s2, s3, s4]) (.agg #[t1, t2, t3, t4]) w) (hK : Lists 99 (.agg #[s1, s2, s3, s4]) (.agg #[t1, t2, t3, t4]) w) :
    Calls Tryz.prog 15 #[.agg #[s1, s2, s3, s4], .agg #[t1, t2, t3, t4]] w fun e w' => ∃ p n c x, e = .returned (.tuple #[.slice p n c, .int .i64 x]) ∧ Below w.heap.size w w' := by
  have HCA := Lib.hid hCA
  have HCB := Lib.hid hCB
  have HG := Lib.hid hG
  have HK := Lib.hid hK
  have HEQ := Lib.hid hEQ
  obtain ⟨i0, hi, hz0, hz1, hz2⟩ := info_parts info73
  clear hCA hCB hG hK hEQ
  go_enter Tryz.func15, Tryz.ntmps15
  go_wp2_with fail
  refine (HCA.out _ (below2 _ _ _)).mono ?_
  rintro x w1 ⟨rfl, hb⟩
  have hRB := (HasRow.new (w.alloc (.cells #[s1, s2, s3, s4] 26)) #[t1, t2, t3, t4] 26).below hb
  rw [World.size_alloc] at hRB
  have RA1 := Lib.hid (((HasRow.new w #[s1, s2, s3, s4] 26).alloc _).below hb)
  have RB1 := Lib.hid hRB
  have HB1 := Lib.hid (bstep (below2 _ _ _) hb)
  clear hb hRB
  obtain ⟨q1, q2, q3, q4, q5⟩ := hrow4 RB1.out
  go_wp2_with fail
  refine (HCB.out _ HB1.out).mono ?_
  rintro x w2 ⟨rfl, hb⟩
  have RA2 := Lib.hid (RA1.out.below hb)
  have RB2 := Lib.hid (RB1.out.below hb)
  have HB2 := Lib.hid (bstep HB1.out hb)
  clear hb q1 q2 q3 q4 q5 RA1 RB1 HB1
  obtain ⟨q1, _, _, _, q5⟩ := hrow4 RB2.out
  obtain ⟨r1, _, _, _, r5⟩ := hrow4 RA2.out
  go_wp2_with fail
  refine (HEQ.out _ HB2.out).mono ?_
  rintro x w3 ⟨bb, rfl, hb⟩
  have RA3 := Lib.hid (RA2.out.below hb)
  have RB3 := Lib.hid (RB2.out.below hb)
  have HB3 := Lib.hid (bstep HB2.out hb)
  clear hb q1 q5 r1 r5 RA2 RB2 HB2
  cases bb with
  | false =>
    go_wp2_with fail
    go_ret2
    exact ⟨_, _, _, _, rfl, HB3.out⟩
  | true =>
    have hS := k9_start RA3.out RB3.out HB3.out
    go_wp2_with fail
    go_region_held3 (fun W => W.cell? ⟨w.heap.size, 0, none⟩ = some s1 ∧ W.cell? ⟨w.heap.size, 1, none⟩ = some s2 ∧ W.cell? ⟨w.heap.size, 2, none⟩ = some s3 ∧ W.cell? ⟨w.heap.size, 3, none⟩ = some s4 ∧ W.cell? ⟨w.heap.size + 1, 0, none⟩ = some t1 ∧ W.cell? ⟨w.heap.size + 1, 1, none⟩ = some t2 ∧ W.cell? ⟨w.heap.size + 1, 2, none⟩ = some t3 ∧ W.cell? ⟨w.heap.size + 1, 3, none⟩ = some t4 ∧ Below w.heap.size w W)
      (first | with_reducible assumption | with_reducible exact k9_keep (by assumption) hb1 | exact hS5 | exact k9_grown hS5 hgrow hge)
      (first
        | (go_at_call 98; refine (HG.out _ HB3.out.drew).mono ?_; rintro x w4 ⟨v1, N1, X1, rfl, n1, _, ho1, hb1⟩; have hS4 := k9_keep (by with_reducible assumption) hb1; have hB4 := bstep HB3.out.drew hb1; have hge := (fun k e => Nat.le_trans RB3.out.lt (own_ge ho1 k e) : ∀ k, v1.ownBlock = some k → w.heap.size + 2 ≤ k))
        | (go_at_call 99; refine (HK.out _ hB4).mono ?_; rintro x w5 ⟨v2, N2, X2, rfl, n2, hone, ho2, hb2⟩; have ho1' := own_below ho1 hb2; have hB5 := bstep hB4 hb2; have hS5 := k9_keep hS4 hb2; have hsz5 := Nat.le_trans hb1.size hb2.size)
        | (refine step_append_two rfl _ _ 27 rfl 73 _ _ i0 _ 10 120 Tryz.underlying27 hi hz0 hz1 hz2 rfl (by decide) _ _ _ rfl ho1' _ _ _ rfl ho2 hone (by unfold maxLen; omega) (by omega) hsz5 ?_; intro v3 w6 hown hgrow))
    have HB6 := Lib.hid (hB5.grown hgrow hB5.size (fun k e => by have := hge k e; omega))
    obtain ⟨p3, n3, c3, rfl⟩ : ∃ p n c, v3 = .slice p n c := by
      obtain ⟨_, ⟨rfl, _⟩ | ⟨g, cap, cur, rfl, _⟩⟩ := hown
      · exact ⟨_, _, _, rfl⟩
      · exact ⟨_, _, _, rfl⟩
    clear hS4 hS5 hB4 hB5 ho1 ho1' ho2 hb1 hb2 hge hown hgrow hone hsz5 hS
    go_wp2_with fail
    go_ret2
    exact ⟨_, _, _, _, rfl, HB6.out⟩

theorem diff_runs (A B : Ad) (a b : P.Mach) (hfa : a.fit) (hfb : b.fit) (w : World) (hw : Good w) (hla : Lies w.heap.size w A a) (hlb : Lies w.heap.size w B b) (ea : P.machErr a = 0) (eb : P.machErr b = 0) :
    Calls Tryz.prog 15 #[machV A a, machV B b] w fun e w' => ∃ p n c x, e = .returned (.tuple #[.slice p n c, .int .i64 x]) ∧ Below w.heap.size w w' := by
  refine diff_core _ _ _ _ _ _ _ _ w (fun W hW => ?_) (fun W hW => ?_) (fun W hW => ?_) (fun W hW => ?_) (fun W hW => ?_)
  · have := (ChecksTo.of A a hfa w hw hla).2 W hW
    rwa [ea] at this
  · have := (ChecksTo.of B b hfb w hw hlb).2 W hW
    rwa [eb] at this
  · exact (equalS_any a.facts b.facts A.a1 B.a1 A.c1 B.c1 hfa.l1 W ((hla.f.below hW).up hW.size) ((hlb.f.below hW).up hW.size)).mono fun e w' ⟨⟨x, h1, _⟩, h2⟩ => ⟨x, h1, h2⟩
  · refine (goings_any A B a b hfa hfb W ((hla.below hW).up hW.size) ((hlb.below hW).up hW.size)).mono ?_
    rintro e w' ⟨v, h1, h2, h3⟩
    refine ⟨v, _, _, h1, ?_, ?_, h2, h3⟩
    · have x1 := List.length_filter_le (P.missF b.files) a.files
      have x2 := List.length_filter_le (P.missS b.sets) a.sets
      have x3 := List.length_filter_le (P.missV b.svcs) a.svcs
      have y1 := hfa.l2; have y2 := hfa.l3; have y3 := hfa.l4
      omega
    · intro u hu
      rcases List.mem_append.1 hu with hu | hu
      · rcases List.mem_append.1 hu with hu | hu
        · exact flat_one _ rmF_one _ u hu
        · exact flat_one _ rmS_one _ u hu
      · exact flat_one _ rmV_one _ u hu
  · refine (comings_any A B a b hfa hfb W ((hla.below hW).up hW.size) ((hlb.below hW).up hW.size)).mono ?_
    rintro e w' ⟨v, h1, h2, h3⟩
    refine ⟨v, _, _, h1, ?_, ?_, h2, h3⟩
    · have x1 := List.length_filter_le (P.unlF a.files) b.files
      have x2 := List.length_filter_le (P.unlS a.sets) b.sets
      have x3 := List.length_filter_le (P.unlV a.svcs) b.svcs
      have y1 := hfb.l2; have y2 := hfb.l3; have y3 := hfb.l4
      omega
    · intro u hu
      rcases List.mem_append.1 hu with hu | hu
      · rcases List.mem_append.1 hu with hu | hu
        · exact flat_one _ put_one _ u hu
        · exact flat_one _ set_one _ u hu
      · exact flat_one _ svc_one _ u hu
end Go.Proofs.YtkibmoekadmjnaaGreatDoor
