/- Walks: package disk: the lines of a machine's text. -/
/- Walks: package disk: lines: the texts of a list, one by one. -/
/- Walks: package disk: join at four lists of lines. -/
/- Walks: package disk: Print of a right machine. -/
/- Walks: package disk: Print and Sum of a right machine. -/
/- Walks: slices.Equal of files and of services; both Same. -/
import Derived.Test.YtgdpbdgaldiggaaGreatDoorZTQuote
import Derived.Test.YtgdpbdgaldiggaaGreatDoorZTRPrint
import Derived.Test.YtgdpbdgaldiggaaGreatDoorZMBeside
import Derived.Test.YtgdpbdgaldiggaaGreatDoorZMWApply
import Derived.LoopNIn
import Derived.Lib.BufferRead
import Derived.Test.YtgdpbdgaldiggaaGreatDoorZTPure
import Derived.Test.YtgdpbdgaldiggaaGreatDoorZMEqual
import Derived.Test.YtgdpbdgaldiggaaGreatDoorZMBad
import Derived.Deep.RegionHeld3

namespace Go.Proofs.YtgdpbdgaldiggaaGreatDoor
open Go.RowKit Go.Lib Go.Shelf

theorem flag_any (b : Bool) (w : World) : Calls Tryz.prog 143 #[.bool b] w fun e w' => e = .returned (.string (P.txt (P.bitL b))) ∧ w = w' := by
  cases b
  all_goals
    go_enter Tryz.func143, Tryz.ntmps143
    go_wp2_with fail
    go_ret
    exact ⟨rfl, rfl⟩
/-- a line without its end -/
def lineT (w k v : ByteArray) : ByteArray := w ++ ⟨#[32]⟩ ++ k ++ ⟨#[32]⟩ ++ P.quote v
set_option maxRecDepth 100000 in
theorem writePair_any (a k v : ByteArray) (ha : a.size ≤ 10) (hk : k.size ≤ 4294967280) (hv : v.size ≤ 4294967280) (w : World) :
    Calls Tryz.prog 140 #[.string a, .string k, .string v] w fun e w' => e = .returned (.string (lineT a k v)) ∧ Below w.heap.size w w' := by
  have HQ := Lib.hid (fun W => dquote_any v hv W)
  have HE : Hid (a ++ ⟨#[32]⟩ ++ k ++ ⟨#[32]⟩ ++ P.quote v = lineT a k v) := Lib.hid rfl
  have hq := P.quote_size v
  generalize P.quote v = q at *
  have g0 : ¬ 9223372036854775807 < a.size + 1 := by omega
  have g1 : ¬ 9223372036854775807 < a.size + 1 + k.size := by omega
  have g2 : ¬ 9223372036854775807 < a.size + 1 + k.size + 1 := by omega
  have g3 : ¬ 9223372036854775807 < a.size + 1 + k.size + 1 + q.size := by omega
  go_enter Tryz.func140, Tryz.ntmps140
  go_wp2_with fail
  refine (HQ.out _).mono ?_
  rintro e w' ⟨rfl, hb⟩
  have HB := Lib.hid hb
  clear hb
  go_wp2_with fail
  go_ret
  exact ⟨by rw [← HE.out]; rfl, HB.out⟩

theorem writeFact_any (x : P.St) (hk : x.k.size ≤ 4294967280) (hv : x.v.size ≤ 4294967280) (w : World) :
    Calls Tryz.prog 80 #[.agg #[.string x.k, .string x.v]] w fun e w' => e = .returned (.string (lineT ⟨#[102, 97, 99, 116]⟩ x.k x.v)) ∧ Below w.heap.size w w' := by
  have H := Lib.hid (fun W => writePair_any ⟨#[102, 97, 99, 116]⟩ x.k x.v (by decide) hk hv W)
  generalize lineT ⟨#[102, 97, 99, 116]⟩ x.k x.v = r at *
  go_enter Tryz.func80, Tryz.ntmps80
  go_wp2_with fail
  refine (H.out _).mono ?_
  rintro e w' ⟨rfl, hb⟩
  have HB := Lib.hid (bstep (below_alloc _ _) hb)
  clear hb
  go_wp2_with fail
  go_ret
  exact ⟨rfl, HB.out⟩
theorem writeSetting_any (x : P.St) (hk : x.k.size ≤ 4294967280) (hv : x.v.size ≤ 4294967280) (w : World) :
    Calls Tryz.prog 83 #[.agg #[.string x.k, .string x.v]] w fun e w' => e = .returned (.string (lineT ⟨#[115, 101, 116]⟩ x.k x.v)) ∧ Below w.heap.size w w' := by
  have H := Lib.hid (fun W => writePair_any ⟨#[115, 101, 116]⟩ x.k x.v (by decide) hk hv W)
  generalize lineT ⟨#[115, 101, 116]⟩ x.k x.v = r at *
  go_enter Tryz.func83, Tryz.ntmps83
  go_wp2_with fail
  refine (H.out _).mono ?_
  rintro e w' ⟨rfl, hb⟩
  have HB := Lib.hid (bstep (below_alloc _ _) hb)
  clear hb
  go_wp2_with fail
  go_ret
  exact ⟨rfl, HB.out⟩
def fileW (r : Bool) : ByteArray := if r then ⟨#[114, 117, 110]⟩ else ⟨#[102, 105, 108, 101]⟩
theorem writeFile_any (x : P.Fi) (hk : x.p.size ≤ 4294967280) (hv : x.d.size ≤ 4294967280) (w : World) :
    Calls Tryz.prog 82 #[.agg #[.string x.p, .string x.d, .bool x.r]] w fun e w' => e = .returned (.string (lineT (fileW x.r) x.p x.d)) ∧ Below w.heap.size w w' := by
  have H := Lib.hid (fun a ha W => writePair_any a x.p x.d ha hk hv W)
  obtain ⟨p, d, r⟩ := x
  simp only at H ⊢
  clear hk hv
  cases r
  · have H2 := Lib.hid (fun W => H.out (fileW false) (by decide) W)
    clear H
    change Hid (∀ W, Calls _ _ #[.string ⟨#[102, 105, 108, 101]⟩, _, _] _ _) at H2
    generalize lineT (fileW false) p d = q at *
    go_enter Tryz.func82, Tryz.ntmps82
    go_wp2_with fail
    refine (H2.out _).mono ?_
    rintro e w' ⟨rfl, hb⟩
    have HB := Lib.hid (bstep (below_alloc _ _) hb)
    clear hb
    go_wp2_with fail
    go_ret
    exact ⟨rfl, HB.out⟩
  · have H2 := Lib.hid (fun W => H.out (fileW true) (by decide) W)
    clear H
    change Hid (∀ W, Calls _ _ #[.string ⟨#[114, 117, 110]⟩, _, _] _ _) at H2
    generalize lineT (fileW true) p d = q at *
    go_enter Tryz.func82, Tryz.ntmps82
    go_wp2_with fail
    refine (H2.out _).mono ?_
    rintro e w' ⟨rfl, hb⟩
    have HB := Lib.hid (bstep (below_alloc _ _) hb)
    clear hb
    go_wp2_with fail
    go_ret
    exact ⟨rfl, HB.out⟩
/-- the line of a service without its end -/
def svcT (x : P.Sv) : ByteArray := P.txt ([115, 101, 114, 118, 105, 99, 101, 32] ++ P.wordsL x)
set_option maxRecDepth 100000 in
set_option maxHeartbeats 4000000 in
theorem writeService_any (x : P.Sv) (hn : x.n.size ≤ 4294967280) (hp : x.p.size ≤ 4294967280) (w : World) :
    Calls Tryz.prog 85 #[.agg #[.string x.n, .string x.p, .bool x.a, .bool x.o]] w fun e w' => e = .returned (.string (svcT x)) ∧ Below w.heap.size w w' := by
  have HB := Lib.hid flag_any
  have HE : Hid ((⟨#[115, 101, 114, 118, 105, 99, 101, 32]⟩ : ByteArray) ++ x.n ++ ⟨#[32]⟩ ++ x.p ++ ⟨#[32]⟩ ++ P.txt (P.bitL x.a) ++ ⟨#[32]⟩ ++ P.txt (P.bitL x.o) = svcT x) := Lib.hid (P.txt_eq (by
    simp only [ByteArray.data_append, Array.toList_append, P.txt_list, P.wordsL, List.append_assoc]))
  have h1 : (P.txt (P.bitL x.a)).size ≤ 1 := by rw [P.txt_size, P.bitL_len]; exact Nat.le_refl _
  have h2 : (P.txt (P.bitL x.o)).size ≤ 1 := by rw [P.txt_size, P.bitL_len]; exact Nat.le_refl _
  obtain ⟨n, p, a, o⟩ := x
  simp only at hn hp h1 h2 HE ⊢
  have g0 : ¬ 9223372036854775807 < 8 + n.size := by omega
  have g1 : ¬ 9223372036854775807 < 8 + n.size + 1 := by omega
  have g2 : ¬ 9223372036854775807 < 8 + n.size + 1 + p.size := by omega
  have g3 : ¬ 9223372036854775807 < 8 + n.size + 1 + p.size + 1 := by omega
  have g4 : ¬ 9223372036854775807 < 8 + n.size + 1 + p.size + 1 + (P.txt (P.bitL a)).size := by omega
  have g5 : ¬ 9223372036854775807 < 8 + n.size + 1 + p.size + 1 + (P.txt (P.bitL a)).size + 1 := by omega
  have g6 : ¬ 9223372036854775807 < 8 + n.size + 1 + p.size + 1 + (P.txt (P.bitL a)).size + 1 + (P.txt (P.bitL o)).size := by omega
  have HR := HasRow.new w #[.string n, .string p, .bool a, .bool o] 46
  obtain ⟨c0, c1, c2, c3, _⟩ := hrow4 HR.drew
  have hS := And.intro c0 (And.intro c1 (And.intro c2 c3))
  clear HR c0 c1 c2 c3
  go_enter Tryz.func85, Tryz.ntmps85
  go_wp2_with fail
  go_region_held3 (fun W => W.cell? ⟨w.heap.size, 0, none⟩ = some (.string n) ∧ W.cell? ⟨w.heap.size, 1, none⟩ = some (.string p) ∧ W.cell? ⟨w.heap.size, 2, none⟩ = some (.bool a) ∧ W.cell? ⟨w.heap.size, 3, none⟩ = some (.bool o))
    (first | with_reducible assumption)
    (first | (go_at_call 143; refine (HB.out _ _).mono ?_; rintro e w' ⟨rfl, rfl⟩))
  have HZ := Lib.hid ((below_alloc w (.cells #[.string n, .string p, .bool a, .bool o] 46)).drew)
  go_wp2_with fail
  go_ret
  exact ⟨by rw [← HE.out]; rfl, HZ.out⟩
end Go.Proofs.YtgdpbdgaldiggaaGreatDoor

namespace Go.Proofs.YtgdpbdgaldiggaaGreatDoor
open Go.RowKit Go.Shelf
attribute [local go_sem] Oper.semAt_some

/-- a function on things that answers a text -/
def TextFn {α : Type} (g : Nat) (enc : α → Value) (ok : α → Prop) (f : α → ByteArray) : Prop :=
  (∀ args w, (callFunc g args).run Tryz.prog w = .ok (.enter g args) w) ∧ ∀ x, ok x → ∀ w, Calls Tryz.prog g #[enc x] w fun e w' => e = .returned (.string (f x)) ∧ Below w.heap.size w w'
theorem abides_below {β : Type} {B : Nat} {J : β → World → Prop} (h : AbidesFrom B J) {s : β} {W W' : World} (hs : J s W) (hb : Below W.heap.size W W') : J s W' := h s W W' none hs (grown_of_below hb none) (fun r e => by cases e)

set_option maxRecDepth 100000 in
set_option maxHeartbeats 4000000 in
theorem linesS1_in (ga : Nat) (ok : P.St → Prop) (f : P.St → ByteArray) (hga : TextFn ga (fun x => .agg #[.string x.k, .string x.v]) ok f) (L : List P.St) (hl : L.length ≤ 4294967280) (hok : ∀ x ∈ L, ok x) (hsz : ∀ x ∈ L, (f x).size ≤ 4294967280) (a : Option Addr) (cap : Nat)
    (n : Nat) (hn : 1 ≤ n) (l Bs Bw n₀ : Nat) (_hb1 : Bs < n₀) (hb2 : Bw < n₀) (J Jx : List ByteArray → World → Prop) (hJ : ∀ ds W W', J ds W → Below W.heap.size W W' → J ds W')
    (hY : ∀ pre (x : Txt) W, J pre W → pre.length < L.length → YieldAt Fence.wide (n - 1) Tryz.prog l #[.string x.1] W fun e W' =>
      (e = .returned (.bool true) ∧ J (pre ++ [x.1]) W' ∧ Below n₀ W W') ∨ (e = .returned (.bool false) ∧ Jx (pre ++ [x.1]) W'))
    (W : World) (hn0 : n₀ ≤ W.heap.size) (hBs : W.cell? ⟨Bs, 0, none⟩ = some (.slice a L.length cap)) (hBw : W.cell? ⟨Bw, 0, none⟩ = some (.func (.func ga) #[] #[])) (hA : StsAt n₀ W a L cap) (h0 : J [] W) :
    CallsIn Fence.wide n Tryz.prog 139 #[.func (.yield l) #[] #[], .pointer (some ⟨Bs, 0, none⟩), .pointer (some ⟨Bw, 0, none⟩)] W fun e W' => (∃ v, e = .returned v) ∧
      (J (L.map f) W' ∨ (∃ k, k ≤ L.length ∧ Jx ((L.take k).map f) W')) := by
  obtain ⟨eg, hp⟩ := hga
  refine callsIn_of_wp Tryz.func139 rfl trivial ?_ rfl
  simp only [Tryz.ntmps139, List.size_toArray, List.length_cons, List.length_nil, Nat.reduceAdd, Nat.reduceSub, Array.replicate_succ, Array.replicate_zero, List.push_toArray, List.append_toArray, List.nil_append, List.cons_append]
  gi_wp2
  gi_loopw [8] (fun i wr => ∃ k : Nat, k ≤ L.length ∧ i = .int .i64 k ∧ J ((L.take k).map f) wr ∧ Below n₀ W wr)
    (fun i _ => L.length - (intOf i).toNat)
  case atStart => exact ⟨0, Nat.zero_le _, rfl, h0, Below.refl _ _⟩
  case round =>
    obtain ⟨k, hk, rfl, hJs, hnx⟩ := hrel
    by_cases hlt : k < L.length
    · obtain ⟨b, off, rfl, hbm, hc⟩ := (hA.below hnx).at_ (ne_nil_of_lt hlt)
      obtain ⟨d0, d1⟩ := hc k hlt
      have hBwk : wr.cell? ⟨Bw, 0, none⟩ = some (.func (.func ga) #[] #[]) := (hnx.cell (p := ⟨Bw, 0, none⟩) hb2).trans hBw
      have htk : (L.take (k + 1)).map f = (L.take k).map f ++ [f L[k]] := by rw [List.take_succ_eq_append_getElem hlt, List.map_append]; rfl
      have HP := Lib.hid (fun W => hp L[k] (hok _ (List.getElem_mem hlt)) W)
      have hBlt : Bw < wr.heap.size := Nat.lt_of_lt_of_le hb2 (Nat.le_trans hn0 hnx.size)
      have hBwa : (wr.alloc (.cells #[.string L[k].k, .string L[k].v] 62)).cell? ⟨Bw, 0, none⟩ = some (.func (.func ga) #[] #[]) := cell_keep (below_alloc _ _) hBwk
      gi_wp2_with fail
      refine ⟨trivial, (callsIn_wide.2 (HP.out _)).mono ?_⟩
      rintro e W2 ⟨rfl, hb2'⟩
      have hbw := bstep (below_alloc _ _) hb2'
      obtain ⟨fn, tmps, assign, body, hy, hR⟩ := hY _ ⟨f L[k], hsz _ (List.getElem_mem hlt)⟩ W2 (hJ _ _ _ hJs hbw) (by simp; omega)
      dsimp only at hy
      gi_wp2
      refine hR.mono ?_
      rintro e W3 (⟨rfl, hJ3, hk3⟩ | ⟨rfl, hJx3⟩)
      · gi_wp2
        go_roundw
        case rel => exact ⟨k + 1, by omega, by simp, by rw [htk]; exact hJ3, (hnx.trans (hbw.mono (Nat.le_trans hn0 hnx.size))).trans hk3⟩
        case measure => simp [intOf]; omega
      · gi_wp2
        refine bodyPost_ret (results_none rfl _ _ _) rfl ?_
        exact ⟨⟨_, rfl⟩, .inr ⟨k + 1, by omega, by rw [htk]; exact hJx3⟩⟩
    · obtain rfl : k = L.length := by omega
      rw [List.take_length] at hJs
      gi_wp2
      go_end0
      exact ⟨⟨_, rfl⟩, .inl hJs⟩
theorem linesS_stops (ga : Nat) (ok : P.St → Prop) (f : P.St → ByteArray) (hga : TextFn ga (fun x => .agg #[.string x.k, .string x.v]) ok f) (L : List P.St) (hl : L.length ≤ 4294967280) (hok : ∀ x ∈ L, ok x) (hsz : ∀ x ∈ L, (f x).size ≤ 4294967280) (a : Option Addr) (cap : Nat)
    (n : Nat) (hn : 1 ≤ n) (Bs Bw n₀ : Nat) (hb1 : Bs < n₀) (hb2 : Bw < n₀) (w : World) (hn0 : n₀ ≤ w.heap.size) (hBs : w.cell? ⟨Bs, 0, none⟩ = some (.slice a L.length cap)) (hBw : w.cell? ⟨Bw, 0, none⟩ = some (.func (.func ga) #[] #[])) (hA : StsAt n₀ w a L cap) :
    SeqStopsK Fence.wide n Tryz.prog 139 #[.pointer (some ⟨Bs, 0, none⟩), .pointer (some ⟨Bw, 0, none⟩)] (fun x : Txt => #[Value.string x.1]) (Below n₀) (fun ys => ys.map (·.1) = L.map f) (fun pre => ∃ k, k ≤ (L.map f).length ∧ pre.map (·.1) = (L.map f).take k) L.length w := fun l J Jx W hW hJa _ hY h0 => by
  have hb := hW.mono hn0
  refine (linesS1_in ga ok f hga L hl hok hsz a cap n hn l Bs Bw n₀ hb1 hb2 (fun ds W => ∃ xs : List Txt, xs.map (·.1) = ds ∧ J xs W) (fun ds W => ∃ xs : List Txt, xs.map (·.1) = ds ∧ Jx xs W) ?_ ?_ W (Nat.le_trans hn0 hW.size) ((hb.cell (p := ⟨Bs, 0, none⟩) hb1).trans hBs) ((hb.cell (p := ⟨Bw, 0, none⟩) hb2).trans hBw) (hA.below hb) ⟨[], rfl, h0⟩).mono ?_
  · rintro ds W1 W2 ⟨xs, h1, h2⟩ hb'
    exact ⟨xs, h1, abides_below hJa h2 hb'⟩
  · rintro pre x W1 ⟨xs, rfl, hJ⟩ hlt
    refine (hY xs x W1 hJ (by simpa using hlt)).mono ?_
    rintro e W' (⟨he, hj, hb⟩ | ⟨he, hj⟩)
    · exact .inl ⟨he, ⟨xs ++ [x], by simp, hj⟩, hb⟩
    · exact .inr ⟨he, ⟨xs ++ [x], by simp, hj⟩⟩
  · rintro e W' ⟨hv, ⟨xs, h1, hj⟩ | ⟨k, hk, xs, h1, hj⟩⟩
    · exact ⟨hv, .inl ⟨xs, h1, hj⟩⟩
    · exact ⟨hv, .inr ⟨xs, ⟨k, by simpa using hk, by rw [h1, List.map_take]⟩, hj⟩⟩
theorem linesS_any (a : Option Addr) (k cap ga : Nat) (w : World) :
    Calls Tryz.prog 79 #[.slice a k cap, .func (.func ga) #[] #[]] w fun e w' => e = .returned (.func (.func 139) #[] #[.pointer (some ⟨w.heap.size, 0, none⟩), .pointer (some ⟨w.heap.size + 1, 0, none⟩)]) ∧ w' = (w.alloc (.cells #[.slice a k cap] 22)).alloc (.cells #[.func (.func ga) #[] #[]] 96) := by
  go_enter Tryz.func79, Tryz.ntmps79
  go_wp2_with fail
  go_ret
  exact ⟨rfl, rfl⟩

set_option maxRecDepth 100000 in
set_option maxHeartbeats 4000000 in
theorem linesF1_in (ga : Nat) (ok : P.Fi → Prop) (f : P.Fi → ByteArray) (hga : TextFn ga (fun x => .agg #[.string x.p, .string x.d, .bool x.r]) ok f) (L : List P.Fi) (hl : L.length ≤ 4294967280) (hok : ∀ x ∈ L, ok x) (hsz : ∀ x ∈ L, (f x).size ≤ 4294967280) (a : Option Addr) (cap : Nat)
    (n : Nat) (hn : 1 ≤ n) (l Bs Bw n₀ : Nat) (_hb1 : Bs < n₀) (hb2 : Bw < n₀) (J Jx : List ByteArray → World → Prop) (hJ : ∀ ds W W', J ds W → Below W.heap.size W W' → J ds W')
    (hY : ∀ pre (x : Txt) W, J pre W → pre.length < L.length → YieldAt Fence.wide (n - 1) Tryz.prog l #[.string x.1] W fun e W' =>
      (e = .returned (.bool true) ∧ J (pre ++ [x.1]) W' ∧ Below n₀ W W') ∨ (e = .returned (.bool false) ∧ Jx (pre ++ [x.1]) W'))
    (W : World) (hn0 : n₀ ≤ W.heap.size) (hBs : W.cell? ⟨Bs, 0, none⟩ = some (.slice a L.length cap)) (hBw : W.cell? ⟨Bw, 0, none⟩ = some (.func (.func ga) #[] #[])) (hA : FisAt n₀ W a L cap) (h0 : J [] W) :
    CallsIn Fence.wide n Tryz.prog 141 #[.func (.yield l) #[] #[], .pointer (some ⟨Bs, 0, none⟩), .pointer (some ⟨Bw, 0, none⟩)] W fun e W' => (∃ v, e = .returned v) ∧
      (J (L.map f) W' ∨ (∃ k, k ≤ L.length ∧ Jx ((L.take k).map f) W')) := by
  obtain ⟨eg, hp⟩ := hga
  refine callsIn_of_wp Tryz.func141 rfl trivial ?_ rfl
  simp only [Tryz.ntmps141, List.size_toArray, List.length_cons, List.length_nil, Nat.reduceAdd, Nat.reduceSub, Array.replicate_succ, Array.replicate_zero, List.push_toArray, List.append_toArray, List.nil_append, List.cons_append]
  gi_wp2
  gi_loopw [8] (fun i wr => ∃ k : Nat, k ≤ L.length ∧ i = .int .i64 k ∧ J ((L.take k).map f) wr ∧ Below n₀ W wr)
    (fun i _ => L.length - (intOf i).toNat)
  case atStart => exact ⟨0, Nat.zero_le _, rfl, h0, Below.refl _ _⟩
  case round =>
    obtain ⟨k, hk, rfl, hJs, hnx⟩ := hrel
    by_cases hlt : k < L.length
    · obtain ⟨b, off, rfl, hbm, hc⟩ := (hA.below hnx).at_ (ne_nil_of_lt hlt)
      obtain ⟨d0, d1, d2⟩ := hc k hlt
      have hBwk : wr.cell? ⟨Bw, 0, none⟩ = some (.func (.func ga) #[] #[]) := (hnx.cell (p := ⟨Bw, 0, none⟩) hb2).trans hBw
      have htk : (L.take (k + 1)).map f = (L.take k).map f ++ [f L[k]] := by rw [List.take_succ_eq_append_getElem hlt, List.map_append]; rfl
      have HP := Lib.hid (fun W => hp L[k] (hok _ (List.getElem_mem hlt)) W)
      have hBlt : Bw < wr.heap.size := Nat.lt_of_lt_of_le hb2 (Nat.le_trans hn0 hnx.size)
      have hBwa : (wr.alloc (.cells #[.string L[k].p, .string L[k].d, .bool L[k].r] 42)).cell? ⟨Bw, 0, none⟩ = some (.func (.func ga) #[] #[]) := cell_keep (below_alloc _ _) hBwk
      gi_wp2_with fail
      refine ⟨trivial, (callsIn_wide.2 (HP.out _)).mono ?_⟩
      rintro e W2 ⟨rfl, hb2'⟩
      have hbw := bstep (below_alloc _ _) hb2'
      obtain ⟨fn, tmps, assign, body, hy, hR⟩ := hY _ ⟨f L[k], hsz _ (List.getElem_mem hlt)⟩ W2 (hJ _ _ _ hJs hbw) (by simp; omega)
      dsimp only at hy
      gi_wp2
      refine hR.mono ?_
      rintro e W3 (⟨rfl, hJ3, hk3⟩ | ⟨rfl, hJx3⟩)
      · gi_wp2
        go_roundw
        case rel => exact ⟨k + 1, by omega, by simp, by rw [htk]; exact hJ3, (hnx.trans (hbw.mono (Nat.le_trans hn0 hnx.size))).trans hk3⟩
        case measure => simp [intOf]; omega
      · gi_wp2
        refine bodyPost_ret (results_none rfl _ _ _) rfl ?_
        exact ⟨⟨_, rfl⟩, .inr ⟨k + 1, by omega, by rw [htk]; exact hJx3⟩⟩
    · obtain rfl : k = L.length := by omega
      rw [List.take_length] at hJs
      gi_wp2
      go_end0
      exact ⟨⟨_, rfl⟩, .inl hJs⟩
theorem linesF_stops (ga : Nat) (ok : P.Fi → Prop) (f : P.Fi → ByteArray) (hga : TextFn ga (fun x => .agg #[.string x.p, .string x.d, .bool x.r]) ok f) (L : List P.Fi) (hl : L.length ≤ 4294967280) (hok : ∀ x ∈ L, ok x) (hsz : ∀ x ∈ L, (f x).size ≤ 4294967280) (a : Option Addr) (cap : Nat)
    (n : Nat) (hn : 1 ≤ n) (Bs Bw n₀ : Nat) (hb1 : Bs < n₀) (hb2 : Bw < n₀) (w : World) (hn0 : n₀ ≤ w.heap.size) (hBs : w.cell? ⟨Bs, 0, none⟩ = some (.slice a L.length cap)) (hBw : w.cell? ⟨Bw, 0, none⟩ = some (.func (.func ga) #[] #[])) (hA : FisAt n₀ w a L cap) :
    SeqStopsK Fence.wide n Tryz.prog 141 #[.pointer (some ⟨Bs, 0, none⟩), .pointer (some ⟨Bw, 0, none⟩)] (fun x : Txt => #[Value.string x.1]) (Below n₀) (fun ys => ys.map (·.1) = L.map f) (fun pre => ∃ k, k ≤ (L.map f).length ∧ pre.map (·.1) = (L.map f).take k) L.length w := fun l J Jx W hW hJa _ hY h0 => by
  have hb := hW.mono hn0
  refine (linesF1_in ga ok f hga L hl hok hsz a cap n hn l Bs Bw n₀ hb1 hb2 (fun ds W => ∃ xs : List Txt, xs.map (·.1) = ds ∧ J xs W) (fun ds W => ∃ xs : List Txt, xs.map (·.1) = ds ∧ Jx xs W) ?_ ?_ W (Nat.le_trans hn0 hW.size) ((hb.cell (p := ⟨Bs, 0, none⟩) hb1).trans hBs) ((hb.cell (p := ⟨Bw, 0, none⟩) hb2).trans hBw) (hA.below hb) ⟨[], rfl, h0⟩).mono ?_
  · rintro ds W1 W2 ⟨xs, h1, h2⟩ hb'
    exact ⟨xs, h1, abides_below hJa h2 hb'⟩
  · rintro pre x W1 ⟨xs, rfl, hJ⟩ hlt
    refine (hY xs x W1 hJ (by simpa using hlt)).mono ?_
    rintro e W' (⟨he, hj, hb⟩ | ⟨he, hj⟩)
    · exact .inl ⟨he, ⟨xs ++ [x], by simp, hj⟩, hb⟩
    · exact .inr ⟨he, ⟨xs ++ [x], by simp, hj⟩⟩
  · rintro e W' ⟨hv, ⟨xs, h1, hj⟩ | ⟨k, hk, xs, h1, hj⟩⟩
    · exact ⟨hv, .inl ⟨xs, h1, hj⟩⟩
    · exact ⟨hv, .inr ⟨xs, ⟨k, by simpa using hk, by rw [h1, List.map_take]⟩, hj⟩⟩
theorem linesF_any (a : Option Addr) (k cap ga : Nat) (w : World) :
    Calls Tryz.prog 81 #[.slice a k cap, .func (.func ga) #[] #[]] w fun e w' => e = .returned (.func (.func 141) #[] #[.pointer (some ⟨w.heap.size, 0, none⟩), .pointer (some ⟨w.heap.size + 1, 0, none⟩)]) ∧ w' = (w.alloc (.cells #[.slice a k cap] 23)).alloc (.cells #[.func (.func ga) #[] #[]] 98) := by
  go_enter Tryz.func81, Tryz.ntmps81
  go_wp2_with fail
  go_ret
  exact ⟨rfl, rfl⟩

set_option maxRecDepth 100000 in
set_option maxHeartbeats 4000000 in
theorem linesV1_in (ga : Nat) (ok : P.Sv → Prop) (f : P.Sv → ByteArray) (hga : TextFn ga (fun x => .agg #[.string x.n, .string x.p, .bool x.a, .bool x.o]) ok f) (L : List P.Sv) (hl : L.length ≤ 4294967280) (hok : ∀ x ∈ L, ok x) (hsz : ∀ x ∈ L, (f x).size ≤ 4294967280) (a : Option Addr) (cap : Nat)
    (n : Nat) (hn : 1 ≤ n) (l Bs Bw n₀ : Nat) (_hb1 : Bs < n₀) (hb2 : Bw < n₀) (J Jx : List ByteArray → World → Prop) (hJ : ∀ ds W W', J ds W → Below W.heap.size W W' → J ds W')
    (hY : ∀ pre (x : Txt) W, J pre W → pre.length < L.length → YieldAt Fence.wide (n - 1) Tryz.prog l #[.string x.1] W fun e W' =>
      (e = .returned (.bool true) ∧ J (pre ++ [x.1]) W' ∧ Below n₀ W W') ∨ (e = .returned (.bool false) ∧ Jx (pre ++ [x.1]) W'))
    (W : World) (hn0 : n₀ ≤ W.heap.size) (hBs : W.cell? ⟨Bs, 0, none⟩ = some (.slice a L.length cap)) (hBw : W.cell? ⟨Bw, 0, none⟩ = some (.func (.func ga) #[] #[])) (hA : SvsAt n₀ W a L cap) (h0 : J [] W) :
    CallsIn Fence.wide n Tryz.prog 142 #[.func (.yield l) #[] #[], .pointer (some ⟨Bs, 0, none⟩), .pointer (some ⟨Bw, 0, none⟩)] W fun e W' => (∃ v, e = .returned v) ∧
      (J (L.map f) W' ∨ (∃ k, k ≤ L.length ∧ Jx ((L.take k).map f) W')) := by
  obtain ⟨eg, hp⟩ := hga
  refine callsIn_of_wp Tryz.func142 rfl trivial ?_ rfl
  simp only [Tryz.ntmps142, List.size_toArray, List.length_cons, List.length_nil, Nat.reduceAdd, Nat.reduceSub, Array.replicate_succ, Array.replicate_zero, List.push_toArray, List.append_toArray, List.nil_append, List.cons_append]
  gi_wp2
  gi_loopw [8] (fun i wr => ∃ k : Nat, k ≤ L.length ∧ i = .int .i64 k ∧ J ((L.take k).map f) wr ∧ Below n₀ W wr)
    (fun i _ => L.length - (intOf i).toNat)
  case atStart => exact ⟨0, Nat.zero_le _, rfl, h0, Below.refl _ _⟩
  case round =>
    obtain ⟨k, hk, rfl, hJs, hnx⟩ := hrel
    by_cases hlt : k < L.length
    · obtain ⟨b, off, rfl, hbm, hc⟩ := (hA.below hnx).at_ (ne_nil_of_lt hlt)
      obtain ⟨d0, d1, d2, d3⟩ := hc k hlt
      have hBwk : wr.cell? ⟨Bw, 0, none⟩ = some (.func (.func ga) #[] #[]) := (hnx.cell (p := ⟨Bw, 0, none⟩) hb2).trans hBw
      have htk : (L.take (k + 1)).map f = (L.take k).map f ++ [f L[k]] := by rw [List.take_succ_eq_append_getElem hlt, List.map_append]; rfl
      have HP := Lib.hid (fun W => hp L[k] (hok _ (List.getElem_mem hlt)) W)
      have hBlt : Bw < wr.heap.size := Nat.lt_of_lt_of_le hb2 (Nat.le_trans hn0 hnx.size)
      have hBwa : (wr.alloc (.cells #[.string L[k].n, .string L[k].p, .bool L[k].a, .bool L[k].o] 46)).cell? ⟨Bw, 0, none⟩ = some (.func (.func ga) #[] #[]) := cell_keep (below_alloc _ _) hBwk
      gi_wp2_with fail
      refine ⟨trivial, (callsIn_wide.2 (HP.out _)).mono ?_⟩
      rintro e W2 ⟨rfl, hb2'⟩
      have hbw := bstep (below_alloc _ _) hb2'
      obtain ⟨fn, tmps, assign, body, hy, hR⟩ := hY _ ⟨f L[k], hsz _ (List.getElem_mem hlt)⟩ W2 (hJ _ _ _ hJs hbw) (by simp; omega)
      dsimp only at hy
      gi_wp2
      refine hR.mono ?_
      rintro e W3 (⟨rfl, hJ3, hk3⟩ | ⟨rfl, hJx3⟩)
      · gi_wp2
        go_roundw
        case rel => exact ⟨k + 1, by omega, by simp, by rw [htk]; exact hJ3, (hnx.trans (hbw.mono (Nat.le_trans hn0 hnx.size))).trans hk3⟩
        case measure => simp [intOf]; omega
      · gi_wp2
        refine bodyPost_ret (results_none rfl _ _ _) rfl ?_
        exact ⟨⟨_, rfl⟩, .inr ⟨k + 1, by omega, by rw [htk]; exact hJx3⟩⟩
    · obtain rfl : k = L.length := by omega
      rw [List.take_length] at hJs
      gi_wp2
      go_end0
      exact ⟨⟨_, rfl⟩, .inl hJs⟩
theorem linesV_stops (ga : Nat) (ok : P.Sv → Prop) (f : P.Sv → ByteArray) (hga : TextFn ga (fun x => .agg #[.string x.n, .string x.p, .bool x.a, .bool x.o]) ok f) (L : List P.Sv) (hl : L.length ≤ 4294967280) (hok : ∀ x ∈ L, ok x) (hsz : ∀ x ∈ L, (f x).size ≤ 4294967280) (a : Option Addr) (cap : Nat)
    (n : Nat) (hn : 1 ≤ n) (Bs Bw n₀ : Nat) (hb1 : Bs < n₀) (hb2 : Bw < n₀) (w : World) (hn0 : n₀ ≤ w.heap.size) (hBs : w.cell? ⟨Bs, 0, none⟩ = some (.slice a L.length cap)) (hBw : w.cell? ⟨Bw, 0, none⟩ = some (.func (.func ga) #[] #[])) (hA : SvsAt n₀ w a L cap) :
    SeqStopsK Fence.wide n Tryz.prog 142 #[.pointer (some ⟨Bs, 0, none⟩), .pointer (some ⟨Bw, 0, none⟩)] (fun x : Txt => #[Value.string x.1]) (Below n₀) (fun ys => ys.map (·.1) = L.map f) (fun pre => ∃ k, k ≤ (L.map f).length ∧ pre.map (·.1) = (L.map f).take k) L.length w := fun l J Jx W hW hJa _ hY h0 => by
  have hb := hW.mono hn0
  refine (linesV1_in ga ok f hga L hl hok hsz a cap n hn l Bs Bw n₀ hb1 hb2 (fun ds W => ∃ xs : List Txt, xs.map (·.1) = ds ∧ J xs W) (fun ds W => ∃ xs : List Txt, xs.map (·.1) = ds ∧ Jx xs W) ?_ ?_ W (Nat.le_trans hn0 hW.size) ((hb.cell (p := ⟨Bs, 0, none⟩) hb1).trans hBs) ((hb.cell (p := ⟨Bw, 0, none⟩) hb2).trans hBw) (hA.below hb) ⟨[], rfl, h0⟩).mono ?_
  · rintro ds W1 W2 ⟨xs, h1, h2⟩ hb'
    exact ⟨xs, h1, abides_below hJa h2 hb'⟩
  · rintro pre x W1 ⟨xs, rfl, hJ⟩ hlt
    refine (hY xs x W1 hJ (by simpa using hlt)).mono ?_
    rintro e W' (⟨he, hj, hb⟩ | ⟨he, hj⟩)
    · exact .inl ⟨he, ⟨xs ++ [x], by simp, hj⟩, hb⟩
    · exact .inr ⟨he, ⟨xs ++ [x], by simp, hj⟩⟩
  · rintro e W' ⟨hv, ⟨xs, h1, hj⟩ | ⟨k, hk, xs, h1, hj⟩⟩
    · exact ⟨hv, .inl ⟨xs, h1, hj⟩⟩
    · exact ⟨hv, .inr ⟨xs, ⟨k, by simpa using hk, by rw [h1, List.map_take]⟩, hj⟩⟩
theorem linesV_any (a : Option Addr) (k cap ga : Nat) (w : World) :
    Calls Tryz.prog 84 #[.slice a k cap, .func (.func ga) #[] #[]] w fun e w' => e = .returned (.func (.func 142) #[] #[.pointer (some ⟨w.heap.size, 0, none⟩), .pointer (some ⟨w.heap.size + 1, 0, none⟩)]) ∧ w' = (w.alloc (.cells #[.slice a k cap] 24)).alloc (.cells #[.func (.func ga) #[] #[]] 101) := by
  go_enter Tryz.func84, Tryz.ntmps84
  go_wp2_with fail
  go_ret
  exact ⟨rfl, rfl⟩
end Go.Proofs.YtgdpbdgaldiggaaGreatDoor

namespace Go.Proofs.YtgdpbdgaldiggaaGreatDoor
open Go.RowKit Go.Shelf
attribute [local go_sem] Oper.semAt_some

theorem wpListIn_append_text8 {F : Fence} {n : Nat} (w : World) {ops : Array Oper} {rest : List Oper} {o : Oper} {a : Act} {Q : Exit → Act → World → Prop}
    (hg : o.guard = none) (s x : Operand) (hop : o.op = Op.call { callee := Callee.builtin Builtin.append, args := #[s, x], argTypes := #[146, 9] })
    (base : Nat) (v : Value) (l : List UInt8) (hs : a.eval s = v) (hown : Own8 base w v l) (t : ByteArray) (hx : a.eval x = .string t)
    (b2 : l.length + t.size ≤ 140737488355328) (b3 : base ≤ w.heap.size)
    (hK : ∀ v' w', Own8 base w' v' (l ++ t.data.toList) → w.grownBy w' v.ownBlock → wpListIn F n Tryz.prog ops Q rest (a.put o.dst v') w') :
    wpListIn F n Tryz.prog ops Q (o :: rest) a w := by
  obtain ⟨i0, hi, hz0, hz1, hz2⟩ := info_parts info5
  refine wpListIn_plain hg fun K hK' => ?_
  obtain ⟨v', w', hrun, r1, r2, r3⟩ := Lib.run_append_own_string (P := Tryz.prog) (w := w) base 146 9 o.type 5 i0 Tryz.underlying146 Tryz.underlying9 hi hz0 hz1 hz2 v l.length _ hown t (by unfold maxLen; omega) b2 b3
  unfold Oper.wpIn
  refine ⟨by simp [Oper.about, hop, resolve, Target.leads, Sem.run_pure], ?_⟩
  rw [Oper.semAt_plain F _ _ (by rw [hop]; intro c hc'; cases hc')]
  simp [execOp, hop, resolve, invoke, builtin, hs, hx, hrun, Result.andThen]
  refine hK' _ _ (hK v' w' ?_ r2)
  unfold Own8
  rw [List.length_append, P.size_len, ← byteCells_app]; exact r1
theorem wpListIn_append_byte8 {F : Fence} {n : Nat} (w : World) {ops : Array Oper} {rest : List Oper} {o : Oper} {a : Act} {Q : Exit → Act → World → Prop}
    (hg : o.guard = none) (s x : Operand) (hop : o.op = Op.call { callee := Callee.builtin Builtin.append, args := #[s, x], argTypes := #[146, 146] })
    (base : Nat) (v : Value) (l : List UInt8) (hs : a.eval s = v) (hown : Own8 base w v l) (g m c : Nat) (news : List UInt8) (hx : a.eval x = .slice (some ⟨g, 0, none⟩) m c) (hl : news.length = m) (hnews : ∀ j u, (Lib.byteCells news)[j]? = some u → w.cell? ((⟨g, 0, none⟩ : Addr).add j) = some u)
    (b2 : l.length + m ≤ 140737488355328) (b3 : base ≤ w.heap.size)
    (hK : ∀ v' w', Own8 base w' v' (l ++ news) → w.grownBy w' v.ownBlock → wpListIn F n Tryz.prog ops Q rest (a.put o.dst v') w') :
    wpListIn F n Tryz.prog ops Q (o :: rest) a w := by
  obtain ⟨i0, hi, hz0, hz1, hz2⟩ := info_parts info5
  exact wpListIn_append_own w hg s x 146 hop base 5 i0 _ 1 1 Tryz.underlying146 hi hz0 hz1 hz2 rfl (by decide) v l.length _ hs hown ⟨g, 0, none⟩ m c (Lib.byteCells news) hx (by rw [byteCells_len, hl]; omega) hnews (bytes_one _) (by unfold maxLen; omega) (by omega) b3
    (fun v' w' h1 h2 _ => hK v' w' (own8_app h1 hl) h2)
/-- string(..) of the call's own bytes, none of them too -/
theorem Own8.text' {B : Nat} {W : World} {v : Value} {l : List UInt8} (h : Own8 B W v l) : (convert 146 9 v).run Tryz.prog W = .ok (.string (P.txt l)) W := by
  cases l with
  | cons c l => exact h.text (by simp)
  | nil =>
    obtain ⟨_, ⟨rfl, _⟩ | ⟨g, cap, cur, rfl, _⟩⟩ := h
    · exact Lib.run_convert_nil_bytes W 146 9 5 0 Tryz.underlying146 Tryz.underlying5 Tryz.underlying9
    · have := Lib.run_convert_whole (P := Tryz.prog) W 146 5 9 Tryz.underlying146 Tryz.underlying5 Tryz.underlying9 g 0 (P.txt []) (fun i hi => by rw [P.txt_size] at hi; simp at hi) cap
      rwa [P.txt_size] at this
/-- the marks of loops that have ended: each is a block of its own from base on, open and empty -/
inductive Marks (base : Nat) : World → List Deferred → Prop
  | nil (W : World) : Marks base W []
  | cons {W : World} {D : Nat} {ds : List Deferred} (h : W.heap[D]? = some (.deferred (some []))) (hb : base ≤ D) (r : Marks base W ds) (hne : ∀ d ∈ ds, d.target ≠ .collected D) : Marks base W ({ target := .collected D, args := #[] } :: ds)
theorem Marks.grown {base : Nat} {W W' : World} {row : Option Nat} {ds : List Deferred} (h : Marks base W ds) (hg : W.grownBy W' row) (hr : ∀ d ∈ ds, ∀ D, d.target = .collected D → some D ≠ row) : Marks base W' ds := by
  induction h with
  | nil => exact .nil _
  | cons h hb r hne ih =>
    refine .cons ?_ hb (ih fun d hd => hr d (List.mem_cons_of_mem _ hd)) hne
    rw [hg.block _ (Array.getElem?_eq_some_iff.1 h).1 (hr _ List.mem_cons_self _ rfl)]; exact h
theorem Marks.lt {base : Nat} {W : World} {ds : List Deferred} (h : Marks base W ds) : ∀ d ∈ ds, ∀ D, d.target = .collected D → base ≤ D ∧ W.heap[D]? = some (.deferred (some [])) := by
  induction h with
  | nil => intro d hd; cases hd
  | cons h hb r hne ih =>
    intro d hd D e
    rcases List.mem_cons.1 hd with rfl | hd
    · injection e with e; subst e; exact ⟨hb, h⟩
    · exact ih d hd D e
/-- with marks alone a function leaves -/
theorem Marks.leaves {F : Fence} {n : Nat} {fn : Func} {tmps : Array Value} {R : Ending → World → Prop} {base : Nat} : ∀ {ds : List Deferred} {W : World}, Marks base W ds →
    (∀ W', (∀ k, k < W.heap.size → (W.heap[k]? ≠ some (.deferred (some []))) → W'.heap[k]? = W.heap[k]?) → Below base W W' → LeavesIn F n Tryz.prog fn tmps R [] .returning W') → LeavesInM F n Tryz.prog fn tmps R ds .returning W := by
  intro ds
  induction ds with
  | nil => intro W _ hf; exact hf W (fun _ _ _ => rfl) (Below.refl _ _)
  | cons d ds ih =>
    intro W h hf
    cases h with
    | cons h hb r hne =>
      rename_i D
      have hlt := (Array.getElem?_eq_some_iff.1 h).1
      refine ⟨by simp, .inl ⟨_, _, rfl, run_takeDeferred h, ?_⟩⟩
      have hg := grownBy_putObj' W D (.deferred none)
      refine ih (r.grown hg fun d hd D' e => ?_) fun W' h1 h2 => hf W' (fun k hk hn => ?_) ?_
      · intro e2; injection e2 with e2; subst e2; exact hne d hd e
      · have hkD : k ≠ D := fun e => hn (by rw [e]; exact h)
        have e1 : (W.putObj D (.deferred none)).heap[k]? = W.heap[k]? := hg.block k hk (fun e => hkD (by injection e))
        rw [h1 k (Nat.lt_of_lt_of_le hk hg.size) (by rw [e1]; exact hn), e1]
      · exact ((Below.refl base W).grown hg (Nat.le_of_lt (Nat.lt_of_le_of_lt hb hlt)) (fun j e => by cases e; exact hb)).trans h2

namespace P
def linesL (L : List ByteArray) : B := L.flatMap fun t => t.data.toList ++ [10]
theorem linesL_append (L M : List ByteArray) : linesL (L ++ M) = linesL L ++ linesL M := by unfold linesL; exact List.flatMap_append
theorem linesL_snoc (L : List ByteArray) (t : ByteArray) : linesL (L ++ [t]) = linesL L ++ t.data.toList ++ [10] := by rw [linesL_append]; unfold linesL; simp
end P
def upT (Ts : Nat → List ByteArray) : Nat → List ByteArray
  | 0 => []
  | j + 1 => upT Ts j ++ Ts j
/-- what join answers -/
def joinOut (T : P.B) : Value := if T.length ≤ 4194304 then .tuple #[.string (P.txt T), .int .i64 0] else .tuple #[.string ⟨#[]⟩, .int .i64 4]
/-- join's boxes -/
structure JB (n₀ : Nat) (W : World) (e1 : ByteArray) (e2 : Int) (v : Value) (l : P.B) : Prop where
  r1 : HasRow W n₀ #[.string e1]
  r2 : HasRow W (n₀ + 1) #[.int .i64 e2]
  t : HasRow W (n₀ + 1 + 1) #[v]
  o : Own8 (n₀ + 1 + 1 + 1) W v l
/-- the state between join's lists -/
def JSt (Ts : Nat → List ByteArray) (bl : Nat) (w : World) (m : Nat) (a : Act) (W : World) : Prop :=
  ∃ j ds u6 u7 u11 u12 u13 u14 u15 u16 u17 u18 u19 u20 u21 u22 u23 u24 u25 v, m + j = 5 ∧ j ≤ 4 ∧
    a = { tmps := #[.slice (some ⟨bl, 0, none⟩) 4 4, undef, .pointer (some ⟨w.heap.size, 0, none⟩), .pointer (some ⟨w.heap.size + 1, 0, none⟩), .pointer (some ⟨w.heap.size + 1 + 1, 0, none⟩), undef, u6, u7, .slice (some ⟨bl, 0, none⟩) 4 4, .int .i64 4, .int .i64 j, u11, u12, u13, u14, u15, u16, u17, u18, u19, u20, u21, u22, u23, u24, u25, undef, undef], defers := ds } ∧
    JB w.heap.size W ⟨#[]⟩ 0 v (P.linesL (upT Ts j)) ∧ (P.linesL (upT Ts j)).length ≤ 4194304 ∧ Marks w.heap.size W ds ∧ Below w.heap.size w W

theorem new_cells' (W : World) (vs : List Value) (t : TypeId) (g : Nat) (hg : g = W.heap.size) : ∀ j u, vs[j]? = some u → (W.alloc (.cells vs.toArray t)).cell? ((⟨g, 0, none⟩ : Addr).add j) = some u := by subst hg; exact new_cells W vs t
theorem own8_keeps {B : Nat} {W W' : World} {v : Value} {l : P.B} (h : Own8 B W v l) (hg : W.grownBy W' v.ownBlock) : KeepsOthers W W' := KeepsOthers.of_grownBy hg fun j o e ho => by
  obtain ⟨h1, ⟨rfl, h2⟩ | ⟨g, cap, cur, rfl, h4, h5, h6⟩⟩ := h
  · cases e
  · cases e; rw [h5] at ho; cases ho; rfl
theorem Marks.others {base : Nat} {W W' : World} {ds : List Deferred} (h : Marks base W ds) (hk : KeepsOthers W W') : Marks base W' ds := by
  induction h with
  | nil => exact .nil _
  | cons h hb r hne ih => exact .cons (hk.same _ _ h rfl) hb ih hne
theorem row_left {X W' : World} {k : Nat} {a : Value} (h : HasRow X k #[a]) (h1 : ∀ k, k < X.heap.size → X.heap[k]? ≠ some (.deferred (some [])) → W'.heap[k]? = X.heap[k]?) : W'.cell? ⟨k, 0, none⟩ = some a := by
  have hc := h.cell 0
  rw [World.cell?_of_block (w := X) (a := ⟨k, 0, none⟩) (h1 k h.lt fun e => ?_)]
  · exact hc
  · obtain ⟨o, ho, hcl⟩ := cells_of_cell hc
    rw [show X.heap[k]? = some o from ho] at e
    cases e; cases hcl
theorem upT_part (Ts : Nat → List ByteArray) {j : Nat} (hj : j < 4) (k : Nat) : (P.linesL (upT Ts j ++ (Ts j).take k)).length ≤ (P.linesL (upT Ts 4)).length := by
  have e : (Ts j) = (Ts j).take k ++ (Ts j).drop k := (List.take_append_drop _ _).symm
  have h1 : (P.linesL (upT Ts j ++ (Ts j).take k)).length ≤ (P.linesL (upT Ts (j + 1))).length := by
    show _ ≤ (P.linesL (upT Ts j ++ Ts j)).length
    rw [P.linesL_append, P.linesL_append, List.length_append, List.length_append]
    conv => rhs; rw [e, P.linesL_append, List.length_append]
    omega
  have h2 : ∀ i, (P.linesL (upT Ts i)).length ≤ (P.linesL (upT Ts (i + 1))).length := fun i => by
    show _ ≤ (P.linesL (upT Ts i ++ Ts i)).length
    rw [P.linesL_append, List.length_append]; omega
  have h3 : ∀ d i, (P.linesL (upT Ts i)).length ≤ (P.linesL (upT Ts (i + d))).length := fun d => by
    induction d with
    | zero => intro i; exact Nat.le_refl _
    | succ d ih => intro i; exact Nat.le_trans (ih i) (h2 _)
  have h4 := h3 (4 - (j + 1)) (j + 1)
  rw [show j + 1 + (4 - (j + 1)) = 4 by omega] at h4
  exact Nat.le_trans h1 h4
theorem JB.store {n₀ : Nat} {W : World} {e1 : ByteArray} {e2 : Int} {v : Value} {l : P.B} (h : JB n₀ W e1 e2 v l) (f1 : ByteArray) (f2 : Int) :
    JB n₀ ((W.setCell ⟨n₀, 0, none⟩ (.string f1)).setCell ⟨n₀ + 1, 0, none⟩ (.int .i64 f2)) f1 f2 v l ∧ KeepsOthers W ((W.setCell ⟨n₀, 0, none⟩ (.string f1)).setCell ⟨n₀ + 1, 0, none⟩ (.int .i64 f2)) ∧ Below n₀ W ((W.setCell ⟨n₀, 0, none⟩ (.string f1)).setCell ⟨n₀ + 1, 0, none⟩ (.int .i64 f2)) :=
  ⟨⟨(h.r1.set 0 _ (by simp)).other 0 _ (by omega), (h.r2.other 0 _ (by omega)).set 0 _ (by simp), (h.t.other 0 _ (by omega)).other 0 _ (by omega), own_store (own_store h.o (by omega)) (by omega)⟩,
   (KeepsOthers.setCell _ _ _).trans (KeepsOthers.setCell _ _ _), ((Below.refl n₀ W).setCell (p := ⟨n₀, 0, none⟩) (Nat.le_refl _) _).setCell (p := ⟨n₀ + 1, 0, none⟩) (Nat.le_succ _) _⟩
/-- the state of join within a list of lines, and where it has left -/
structure JI (Ts : Nat → List ByteArray) (j : Nat) (w : World) (ds : List Deferred) (pre : List Txt) (X : World) : Prop where
  ex : ∃ v, JB w.heap.size X ⟨#[]⟩ 0 v (P.linesL (upT Ts j ++ pre.map (·.1))) ∧ (P.linesL (upT Ts j ++ pre.map (·.1))).length ≤ 4194304 ∧ Marks w.heap.size X ds
  b : Below w.heap.size w X
structure JX (Ts : Nat → List ByteArray) (j : Nat) (w : World) (ds : List Deferred) (c : Code) (pre : List Txt) (X : World) : Prop where
  c : c = .ret
  ex : ∃ v, JB w.heap.size X ⟨#[]⟩ 4 v (P.linesL (upT Ts j ++ pre.map (·.1))) ∧ 4194304 < (P.linesL (upT Ts j ++ pre.map (·.1))).length ∧ Marks w.heap.size X ds
  b : Below w.heap.size w X
theorem rounds_of {F : Fence} {n : Nat} {c : Code} {Q : Exit → Act → World → Prop} (S : Nat → Act → World → Prop) (h0 : ∀ a W, ¬ S 0 a W)
    (step : ∀ m a W, S (m + 1) a W → (∀ a' W', S m a' W' → Code.roundsIn F n Tryz.prog c Q m a' W') → c.wpIn F n Tryz.prog (Exit.then (Code.roundsIn F n Tryz.prog c Q m) Q) a W) : ∀ m a W, S m a W → Code.roundsIn F n Tryz.prog c Q m a W := by
  intro m
  induction m with
  | zero => exact fun a W h => absurd h (h0 a W)
  | succ m ih => exact fun a W h => step m a W h ih
theorem own8_kept {B : Nat} {W W' : World} {v : Value} {l : P.B} {row : Option Nat} (h : Own8 B W v l) (hg : W.grownBy W' row) (hr : ∀ r, row = some r → ∃ o : Obj, W.heap[r]? = some o ∧ o.isCells = false) : Own8 B W' v l := by
  obtain ⟨h1, h2 | ⟨g, cap, cur, h3, h4, h5, h6⟩⟩ := h
  · exact ⟨h1, .inl h2⟩
  · refine ⟨h1, .inr ⟨g, cap, cur, h3, h4, ?_, h6⟩⟩
    rw [hg.block g (Array.getElem?_eq_some_iff.1 h5).1 (fun e => ?_)]
    · exact h5
    · obtain ⟨o, ho, hc⟩ := hr g e.symm
      rw [h5] at ho; cases ho; cases hc
theorem JB.kept {n₀ : Nat} {W W' : World} {e1 : ByteArray} {e2 : Int} {v : Value} {l : P.B} {row : Option Nat} (h : JB n₀ W e1 e2 v l) (hg : W.grownBy W' row) (hr : ∀ r, row = some r → ∃ o : Obj, W.heap[r]? = some o ∧ o.isCells = false) : JB n₀ W' e1 e2 v l :=
  ⟨row_kept h.r1 hg (fun r e => .inr (hr r e)) ⟨_, h.r1.cell 0⟩, row_kept h.r2 hg (fun r e => .inr (hr r e)) ⟨_, h.r2.cell 0⟩, row_kept h.t hg (fun r e => .inr (hr r e)) ⟨_, h.t.cell 0⟩, own8_kept h.o hg hr⟩
theorem Own8.slice {B : Nat} {W : World} {v : Value} {l : P.B} (h : Own8 B W v l) : ∃ p c, v = .slice p l.length c ∧ (∀ k, v.ownBlock = some k → B ≤ k ∧ k < W.heap.size) := by
  have h' := World.ownsRow.lt h
  obtain ⟨h1, ⟨rfl, h2⟩ | ⟨g, cap, cur, rfl, h3⟩⟩ := h
  · exact ⟨none, 0, by rw [h2], h'⟩
  · exact ⟨_, cap, rfl, h'⟩

theorem JB.alloc {n₀ : Nat} {W : World} {e1 : ByteArray} {e2 : Int} {v : Value} {l : P.B} (h : JB n₀ W e1 e2 v l) (o : Obj) : JB n₀ (W.alloc o) e1 e2 v l := ⟨h.r1.alloc o, h.r2.alloc o, h.t.alloc o, h.o.alloc o⟩
/-- behind an append to the text, and its store -/
theorem JB.wrote {n₀ : Nat} {X X1 : World} {e1 : ByteArray} {e2 : Int} {v v1 : Value} {l l1 : P.B} (h : JB n₀ X e1 e2 v l) (hg : X.grownBy X1 v.ownBlock) (h1 : Own8 (n₀ + 1 + 1 + 1) X1 v1 l1) :
    (X1.cell? ⟨n₀ + 1 + 1, 0, none⟩ = some v ∧ X1.frozen? ⟨n₀ + 1 + 1, 0, none⟩ = false) ∧ JB n₀ (X1.setCell ⟨n₀ + 1 + 1, 0, none⟩ v1) e1 e2 v1 l1 ∧ Below n₀ X (X1.setCell ⟨n₀ + 1 + 1, 0, none⟩ v1) := by
  have hown := World.ownsRow.lt h.o
  have hz := h.t.lt
  have r1 := h.r1.grown hg (fun e => by have := (hown _ e.symm).1; omega)
  have r2 := h.r2.grown hg (fun e => by have := (hown _ e.symm).1; omega)
  have r3 := h.t.grown hg (fun e => by have := (hown _ e.symm).1; omega)
  refine ⟨⟨r3.cell 0, r3.free 0⟩, ⟨r1.other 0 _ (by omega), r2.other 0 _ (by omega), r3.set 0 _ (by simp), own_store h1 (by omega)⟩, ?_⟩
  exact ((Below.refl n₀ X).grown hg (by omega) (fun k e => by have := (hown _ e).1; omega)).setCell (p := ⟨n₀ + 1 + 1, 0, none⟩) (by show n₀ ≤ n₀ + 1 + 1; omega) _

set_option maxRecDepth 100000 in
set_option maxHeartbeats 8000000 in
theorem join_in (n : Nat) (hn : 4 ≤ n) (gs : Nat → Nat) (lbs : Nat → Array Value) (Ts : Nat → List ByteArray) (Ns : Nat → Nat) (bl : Nat) (w : World) (hbl : bl < w.heap.size)
    (hc : ∀ j, j < 4 → w.cell? ⟨bl, j, none⟩ = some (.func (.func (gs j)) #[] (lbs j))) (he : ∀ j, j < 4 → ∀ args W, (callFunc (gs j) args).run Tryz.prog W = .ok (.enter (gs j) args) W)
    (hs : ∀ j, j < 4 → SeqStopsK Fence.wide (n - 1) Tryz.prog (gs j) (lbs j) (fun x : Txt => #[Value.string x.1]) (Below w.heap.size) (fun ys => ys.map (·.1) = Ts j) (fun pre => ∃ k, k ≤ (Ts j).length ∧ pre.map (·.1) = (Ts j).take k) (Ns j) w) :
    CallsIn Fence.wide n Tryz.prog 78 #[.slice (some ⟨bl, 0, none⟩) 4 4] w fun e W' =>
      e = .returned (joinOut (P.linesL (upT Ts 4))) ∧ Below w.heap.size w W' := by
  have hn1 : 1 ≤ n := by omega
  refine callsIn_of_wp_marks Tryz.func78 rfl trivial ?_ rfl
  simp only [Tryz.ntmps78, List.size_toArray, List.length_cons, List.length_nil, Nat.reduceAdd, Nat.reduceSub, Array.replicate_succ, Array.replicate_zero, List.push_toArray, List.append_toArray, List.nil_append, List.cons_append]
  gi_wp2
  refine wpIn_loop_rounds 5 ?_
  refine rounds_of (JSt Ts bl w) ?zero ?step 5 _ _ ?start
  case start =>
    refine ⟨0, [], undef, undef, undef, undef, undef, undef, undef, undef, undef, undef, undef, undef, undef, undef, undef, undef, undef, .slice none 0 0, rfl, by omega, rfl, ⟨?_, ?_, ?_, ⟨rfl, .inl ⟨rfl, rfl⟩⟩⟩, Nat.zero_le _, .nil _, ?_⟩
    · exact ((HasRow.new w _ _).alloc _).alloc _
    · have := (HasRow.new (w.alloc (.cells #[.string ⟨#[]⟩] 9)) #[.int .i64 0] 29).alloc (.cells #[.slice none 0 0] 146); rwa [World.size_alloc] at this
    · have := HasRow.new ((w.alloc (.cells #[.string ⟨#[]⟩] 9)).alloc (.cells #[.int .i64 0] 29)) #[.slice none 0 0] 146; rwa [World.size_alloc, World.size_alloc] at this
    · exact ((below_alloc w _).trans ((below_alloc _ _).mono (by simp))).trans ((below_alloc _ _).mono (by simp; omega))
  case zero =>
    rintro a W ⟨j, ds, _, _, _, _, _, _, _, _, _, _, _, _, _, _, _, _, _, v, h1, h2, _⟩
    omega
  case step =>
    rintro m a W ⟨j, ds, u6, u7, u11, u12, u13, u14, u15, u16, u17, u18, u19, u20, u21, u22, u23, u24, u25, v, hm, hj, rfl, hB, hlen, hM, hb⟩ ih
    have HI := Lib.hid ih
    clear ih
    by_cases hj4 : j < 4
    · have hcj : W.cell? ⟨bl, j, none⟩ = some (.func (.func (gs j)) #[] (lbs j)) := (hb.cell (p := ⟨bl, j, none⟩) hbl).trans (hc j hj4)
      have i1 : (j : Int) < 4 := by omega
      have hWsz := hb.size
      obtain ⟨Tj, hTj⟩ : ∃ l, P.linesL (upT Ts j) = l := ⟨_, rfl⟩
      have hbsz := hB.t.lt
      have hDs : ∀ d ∈ ds, ∀ D, d.target = .collected D → D < W.heap.size := fun d hd D e => (Array.getElem?_eq_some_iff.1 (hM.lt d hd D e).2).1
      gi_wp2
      refine wpIn_rangeFunc_ownG rfl hn1 (gf := gs j) (lb := lbs j) rfl trivial (he j hj4) (hs j hj4) belowK_t (belowK_b hWsz) hb (fun _ => rfl)
        (JI Ts j w ds) (JX Ts j w ds)
        (fun s A B row hs' hg hr => ⟨?_, ownFrom_below (β := Unit) (Nat.le_refl _) hWsz () A B row hs'.b hg hr⟩)
        (fun c s A B row hs' hg hr => ⟨hs'.c, ?_, ownFrom_below (β := Unit) (Nat.le_refl _) hWsz () A B row hs'.b hg hr⟩)
        ⟨⟨v, by simpa using hB, by simpa using hlen, hM⟩, hb⟩
        (fun y => { tmps := #[.slice (some ⟨bl, 0, none⟩) 4 4, undef, .pointer (some ⟨w.heap.size, 0, none⟩), .pointer (some ⟨w.heap.size + 1, 0, none⟩), .pointer (some ⟨w.heap.size + 1 + 1, 0, none⟩), undef, .func (.func (gs j)) #[] (lbs j), .string y.1, .slice (some ⟨bl, 0, none⟩) 4 4, .int .i64 4, .int .i64 j, .bool true, .pointer (some ⟨bl, j, none⟩), .func (.func (gs j)) #[] (lbs j), .func (.func (gs j)) #[] (lbs j), .string y.1, u16, u17, u18, u19, u20, u21, u22, u23, u24, u25, undef, undef], defers := [] }) ?assign ?body ?done ?stop
      case assign =>
        intro l y X K hK
        gi_wp2
        exact hK
      case body =>
        rintro l pre y X ⟨⟨v, hB, hlen, hM⟩, hb⟩ hlt
        have hX := hb.size
        have hbs := hB.t.lt
        have hy := y.2
        obtain ⟨p0, c0, rfl, hown0⟩ := hB.o.slice
        have ct := hB.t.cell 0
        have hsn : P.linesL (upT Ts j ++ (pre ++ [y]).map (·.1)) = P.linesL (upT Ts j ++ pre.map (·.1)) ++ y.1.data.toList ++ [10] := by
          rw [List.map_append, ← List.append_assoc]; exact P.linesL_snoc _ _
        have HN := Lib.hid hsn
        clear hsn
        generalize P.linesL (upT Ts j ++ pre.map (·.1)) = T at *
        gi_upto_region 9 with (first
          | (gi_at_builtin; refine wpListIn_append_text8 _ rfl _ _ rfl (w.heap.size + 1 + 1 + 1) _ _ rfl hB.o y.1 rfl (by omega) (by omega) ?_; intro v1 X1 hown1 hg1; obtain ⟨p1, c1, e1, hlt1⟩ := hown1.slice; simp only [List.length_append, P.size_len] at e1; subst e1; obtain ⟨⟨hc1, hf1⟩, hB1, hbel1⟩ := hB.wrote hg1 hown1; have hc2 := hB1.t.cell 0)
          | (gi_at_builtin; refine wpListIn_append_byte8 _ rfl _ _ rfl (w.heap.size + 1 + 1 + 1) _ _ rfl (hB1.alloc _).o _ 1 1 [10] rfl rfl (new_cells' _ _ _ _ (by simp [World.setCell])) (by simp only [List.length_append, P.size_len]; omega) (by have := hbel1.size; simp at this ⊢; omega) ?_; intro v2 X2 hown2 hg2; obtain ⟨p2, c2, e2, hlt2⟩ := hown2.slice; simp only [List.length_append, P.size_len, List.length_cons, List.length_nil, Nat.zero_add] at e2; subst e2; obtain ⟨⟨hd1, hf2⟩, hB2, hbel2⟩ := (hB1.alloc _).wrote hg2 hown2; have hd2 := hB2.t.cell 0))
        have HB2 := Lib.hid hB2
        have HK : Hid (KeepsOthers X (X2.setCell ⟨w.heap.size + 1 + 1, 0, none⟩ (.slice p2 (T.length + y.1.size + 1) c2))) := Lib.hid ((((own8_keeps hB.o hg1).trans (KeepsOthers.setCell _ _ _)).trans (KeepsOthers.alloc _ _)).trans ((own8_keeps (hB1.alloc _).o hg2).trans (KeepsOthers.setCell _ _ _)))
        have HBl : Hid (Below w.heap.size X (X2.setCell ⟨w.heap.size + 1 + 1, 0, none⟩ (.slice p2 (T.length + y.1.size + 1) c2))) := Lib.hid ((hbel1.trans ((below_alloc _ _).mono (Nat.le_trans hX hbel1.size))).trans hbel2)
        have HM2 : Hid (Marks w.heap.size (X2.setCell ⟨w.heap.size + 1 + 1, 0, none⟩ (.slice p2 (T.length + y.1.size + 1) c2)) ds) := Lib.hid (hM.others HK.out)
        have hl2 : (T ++ y.1.data.toList ++ [10]).length = T.length + y.1.size + 1 := by simp only [List.length_append, P.size_len, List.length_cons, List.length_nil]
        rw [← HN.out] at hl2
        have HL2 := Lib.hid hl2
        have cr1 := hB2.r1.cell 0
        have fr1 := hB2.r1.free 0
        have cr2 := hB2.r2.cell 0
        have fr2 := hB2.r2.free 0
        clear hg1 hg2 hown1 hown2 hB1 hbel1 hbel2 hc1 hf1 hd1 hf2 hc2 hlt1 hlt2 hl2 hB2 ct
        generalize T.length + y.1.size + 1 = N at *
        by_cases hbig : (N : Int) ≤ 4194304
        · gi_wp2
          exact ⟨HK.out.from _, HBl.out, ⟨⟨_, by rw [HN.out]; exact HB2.out, by rw [HL2.out]; omega, HM2.out⟩, hb.trans HBl.out⟩⟩
        · have hbig2 : (4194304 : Int) < (N : Int) := by omega
          have HS := Lib.hid (HB2.out.store ⟨#[]⟩ 4)
          gi_wp2
          exact ⟨(HK.out.trans HS.out.2.1).from _, ⟨rfl, ⟨_, by rw [HN.out]; exact HS.out.1, by rw [HL2.out]; omega, HM2.out.others HS.out.2.1⟩, (hb.trans HBl.out).trans HS.out.2.2⟩⟩
      case done =>
        rintro D xs X hD hxs ⟨⟨v, hB, hlen, hM⟩, hb⟩ hKD
        have hxs' : xs.map (·.1) = Ts j := hxs
        rw [hxs'] at hB hlen
        have HM := Lib.hid (Marks.cons hKD (Nat.le_trans hWsz hD) hM (fun d hd e => by have := hDs d hd D e; omega))
        have HB := Lib.hid hB
        have HL := Lib.hid hlen
        clear hB hlen hM hxs hxs' hKD
        gi_wp2
        exact HI.out _ _ ⟨j + 1, _, _, _, _, _, _, _, _, _, _, _, _, _, _, _, _, _, _, v, by omega, by omega, rfl, HB.out, HL.out, HM.out, hb⟩
      case stop =>
        rintro D c pre X hD ⟨k, hk, hpre⟩ ⟨rfl, ⟨v, hB, hlen, hM⟩, hb⟩ hKD
        have hpre' : pre.map (·.1) = (Ts j).take k := hpre
        rw [hpre'] at hB hlen
        have HM := Lib.hid (Marks.cons hKD (Nat.le_trans hWsz hD) hM (fun d hd e => by have := hDs d hd D e; omega))
        have HL := Lib.hid (Nat.lt_of_lt_of_le hlen (upT_part Ts hj4 k))
        have HB := Lib.hid hB
        clear hB hlen hM hpre hpre' hKD
        gi_wp2
        refine HM.out.leaves fun W' h1 h2 => ?_
        have q1 := row_left HB.out.r1 h1
        have q2 := row_left HB.out.r2 h1
        refine ⟨.tuple #[.string ⟨#[]⟩, .int .i64 4], by simp [results, Tryz.f78, go_sem, q1, q2], by unfold joinOut; rw [if_neg (by have := HL.out; omega)], hb.trans h2⟩
      · obtain ⟨v, k1, k2, k3⟩ := hs'.ex
        exact ⟨v, k1.kept hg (fun r e => (hr r e).2), k2, k3.grown hg fun d hd D e e2 => by have := (hr _ e2.symm).1; have := hDs d hd D e; omega⟩
      · obtain ⟨v, k1, k2, k3⟩ := hs'.ex
        exact ⟨v, k1.kept hg (fun r e => (hr r e).2), k2, k3.grown hg fun d hd D e e2 => by have := (hr _ e2.symm).1; have := hDs d hd D e; omega⟩
    · have hj5 : j = 4 := by omega
      subst hj5
      obtain ⟨p0, c0, rfl, _⟩ := hB.o.slice
      have hcv := hB.o.text'
      have HS := Lib.hid (hB.store (P.txt (P.linesL (upT Ts 4))) 0)
      have HM := Lib.hid (hM.others HS.out.2.1)
      have ct := hB.t.cell 0
      have cr1 := hB.r1.cell 0
      have fr1 := hB.r1.free 0
      have cr2 := hB.r2.cell 0
      have fr2 := hB.r2.free 0
      clear hM
      gi_wp2
      refine HM.out.leaves fun W' h1 h2 => ?_
      have q1 := row_left HS.out.1.r1 h1
      have q2 := row_left HS.out.1.r2 h1
      refine ⟨.tuple #[.string (P.txt (P.linesL (upT Ts 4))), .int .i64 0], by simp [results, Tryz.f78, go_sem, q1, q2], by unfold joinOut; rw [if_pos hlen], (hb.trans HS.out.2.2).trans h2⟩
end Go.Proofs.YtgdpbdgaldiggaaGreatDoor

namespace Go.Proofs.YtgdpbdgaldiggaaGreatDoor
open Go.RowKit Go.Shelf

/-- what lines has laid -/
structure LinesAt (Bs Bw : Nat) (a : Option Addr) (k cap ga : Nat) (W : World) : Prop where
  p : HasRow W Bs #[.slice a k cap]
  q : HasRow W Bw #[.func (.func ga) #[] #[]]
theorem LinesAt.below {Bs Bw : Nat} {a : Option Addr} {k cap ga : Nat} {W1 W2 : World} (h : LinesAt Bs Bw a k cap ga W1) (hb : Below W1.heap.size W1 W2) : LinesAt Bs Bw a k cap ga W2 := ⟨h.p.below hb, h.q.below hb⟩
theorem linesS_at (a : Option Addr) (k cap ga : Nat) (w : World) : Calls Tryz.prog 79 #[.slice a k cap, .func (.func ga) #[] #[]] w fun e w' => ∃ Bs Bw, e = .returned (.func (.func 139) #[] #[.pointer (some ⟨Bs, 0, none⟩), .pointer (some ⟨Bw, 0, none⟩)]) ∧ LinesAt Bs Bw a k cap ga w' ∧ Below w.heap.size w w' :=
  (linesS_any a k cap ga w).mono fun e w' ⟨h1, h2⟩ => by
    subst h2
    refine ⟨_, _, h1, ⟨(HasRow.new w _ _).alloc _, ?_⟩, below2 _ _ _⟩
    have := HasRow.new (w.alloc (.cells #[.slice a k cap] 22)) #[.func (.func ga) #[] #[]] 96
    rwa [World.size_alloc] at this
theorem linesF_at (a : Option Addr) (k cap ga : Nat) (w : World) : Calls Tryz.prog 81 #[.slice a k cap, .func (.func ga) #[] #[]] w fun e w' => ∃ Bs Bw, e = .returned (.func (.func 141) #[] #[.pointer (some ⟨Bs, 0, none⟩), .pointer (some ⟨Bw, 0, none⟩)]) ∧ LinesAt Bs Bw a k cap ga w' ∧ Below w.heap.size w w' :=
  (linesF_any a k cap ga w).mono fun e w' ⟨h1, h2⟩ => by
    subst h2
    refine ⟨_, _, h1, ⟨(HasRow.new w _ _).alloc _, ?_⟩, below2 _ _ _⟩
    have := HasRow.new (w.alloc (.cells #[.slice a k cap] 23)) #[.func (.func ga) #[] #[]] 98
    rwa [World.size_alloc] at this
theorem linesV_at (a : Option Addr) (k cap ga : Nat) (w : World) : Calls Tryz.prog 84 #[.slice a k cap, .func (.func ga) #[] #[]] w fun e w' => ∃ Bs Bw, e = .returned (.func (.func 142) #[] #[.pointer (some ⟨Bs, 0, none⟩), .pointer (some ⟨Bw, 0, none⟩)]) ∧ LinesAt Bs Bw a k cap ga w' ∧ Below w.heap.size w w' :=
  (linesV_any a k cap ga w).mono fun e w' ⟨h1, h2⟩ => by
    subst h2
    refine ⟨_, _, h1, ⟨(HasRow.new w _ _).alloc _, ?_⟩, below2 _ _ _⟩
    have := HasRow.new (w.alloc (.cells #[.slice a k cap] 24)) #[.func (.func ga) #[] #[]] 101
    rwa [World.size_alloc] at this
/-- the texts of a machine's lines -/
def textsOf (m : P.Mach) : Nat → List ByteArray
  | 0 => m.facts.map fun x => lineT ⟨#[102, 97, 99, 116]⟩ x.k x.v
  | 1 => m.files.map fun x => lineT (fileW x.r) x.p x.d
  | 2 => m.sets.map fun x => lineT ⟨#[115, 101, 116]⟩ x.k x.v
  | _ => m.svcs.map svcT
theorem lineT_list (w k v : ByteArray) : (lineT w k v).data.toList ++ [10] = P.pairL (w.data.toList ++ [32]) k.data.toList v.data.toList := by
  unfold lineT P.pairL
  simp only [ByteArray.data_append, Array.toList_append, P.quote, P.txt_list, List.append_assoc]
theorem lineT_size (w k v : ByteArray) (hw : w.size ≤ 10) (hk : k.size ≤ 1000) (hv : v.size ≤ 65536) : (lineT w k v).size ≤ 4294967280 := by
  have := P.quote_size v
  unfold lineT
  simp only [ByteArray.size_append]
  show w.size + 1 + k.size + 1 + _ ≤ _
  omega
theorem lines_flat {α : Type} (L : List α) (f : α → ByteArray) (g : α → P.B) (h : ∀ x, (f x).data.toList ++ [10] = g x) : P.linesL (L.map f) = L.flatMap g := by
  unfold P.linesL
  rw [List.flatMap_map]
  exact congrArg (fun h => List.flatMap h L) (funext h)
theorem texts_print (m : P.Mach) : P.linesL (upT (textsOf m) 4) = P.printL m := by
  unfold P.printL
  simp only [upT, P.linesL_append, List.nil_append]
  rw [show P.linesL (textsOf m 0) = m.facts.flatMap P.factL from lines_flat _ _ _ fun x => lineT_list _ _ _,
    show P.linesL (textsOf m 1) = m.files.flatMap P.fileL from lines_flat _ _ _ fun x => by rw [lineT_list]; unfold P.fileL fileW; cases x.r <;> rfl,
    show P.linesL (textsOf m 2) = m.sets.flatMap P.setL from lines_flat _ _ _ fun x => lineT_list _ _ _,
    show P.linesL (textsOf m 3) = m.svcs.flatMap P.svcL from lines_flat _ _ _ fun x => by unfold svcT; rw [P.txt_list]; unfold P.svcL P.wordsL; simp only [List.append_assoc]]

theorem eF1 : ∀ args w, (callFunc 80 args).run Tryz.prog w = .ok (.enter 80 args) w := enters_of Tryz.func80 (by kernel_rfl) rfl
theorem fact_fn : TextFn 80 (fun x : P.St => .agg #[.string x.k, .string x.v]) (fun x => x.k.size ≤ 4294967280 ∧ x.v.size ≤ 4294967280) (fun x => lineT ⟨#[102, 97, 99, 116]⟩ x.k x.v) :=
  ⟨eF1, fun x h w => writeFact_any x h.1 h.2 w⟩
theorem set_fn : TextFn 83 (fun x : P.St => .agg #[.string x.k, .string x.v]) (fun x => x.k.size ≤ 4294967280 ∧ x.v.size ≤ 4294967280) (fun x => lineT ⟨#[115, 101, 116]⟩ x.k x.v) :=
  ⟨enters_of Tryz.func83 (by kernel_rfl) rfl, fun x h w => writeSetting_any x h.1 h.2 w⟩
theorem file_fn : TextFn 82 (fun x : P.Fi => .agg #[.string x.p, .string x.d, .bool x.r]) (fun x => x.p.size ≤ 4294967280 ∧ x.d.size ≤ 4294967280) (fun x => lineT (fileW x.r) x.p x.d) :=
  ⟨enters_of Tryz.func82 (by kernel_rfl) rfl, fun x h w => writeFile_any x h.1 h.2 w⟩
theorem svc_fn : TextFn 85 (fun x : P.Sv => .agg #[.string x.n, .string x.p, .bool x.a, .bool x.o]) (fun x => x.n.size ≤ 4294967280 ∧ x.p.size ≤ 4294967280) svcT :=
  ⟨enters_of Tryz.func85 (by kernel_rfl) rfl, fun x h w => writeService_any x h.1 h.2 w⟩
def gsOf : Nat → Nat
  | 0 => 139
  | 1 => 141
  | 2 => 139
  | _ => 142
def lbsOf (B0 W0 B1 W1 B2 W2 B3 W3 : Nat) : Nat → Array Value
  | 0 => #[.pointer (some ⟨B0, 0, none⟩), .pointer (some ⟨W0, 0, none⟩)]
  | 1 => #[.pointer (some ⟨B1, 0, none⟩), .pointer (some ⟨W1, 0, none⟩)]
  | 2 => #[.pointer (some ⟨B2, 0, none⟩), .pointer (some ⟨W2, 0, none⟩)]
  | _ => #[.pointer (some ⟨B3, 0, none⟩), .pointer (some ⟨W3, 0, none⟩)]
def nsOf (m : P.Mach) : Nat → Nat
  | 0 => m.facts.length
  | 1 => m.files.length
  | 2 => m.sets.length
  | _ => m.svcs.length
theorem St.small {x : P.St} (h : P.factErr x = 0) : x.k.size ≤ 1000 ∧ x.v.size ≤ 65536 := by
  obtain ⟨h1, h2⟩ := P.factErr_zero.1 h
  have := P.name_size h1; have := P.value_size h2; omega
theorem St.small' {x : P.St} (h : P.setErr x = 0) : x.k.size ≤ 1000 ∧ x.v.size ≤ 65536 := by
  obtain ⟨h1, h2⟩ := P.setErr_zero.1 h
  have := P.path_size h1; have := P.value_size h2; omega
theorem Fi.small {x : P.Fi} (h : P.fileErr x = 0) : x.p.size ≤ 1000 ∧ x.d.size ≤ 65536 := by
  obtain ⟨h1, h2⟩ := P.fileErr_zero.1 h
  have := P.path_size h1; omega
theorem Sv.small {x : P.Sv} (h : P.svcErr x = 0) : x.n.size ≤ 1000 ∧ x.p.size ≤ 1000 := by
  obtain ⟨h1, h2⟩ := P.svcErr_zero.1 h
  have := P.name_size h1; have := P.path_size h2; omega

/-- join at the four lists of a right machine -/
theorem join_any (A : Ad) (m : P.Mach) (hr : P.Right m) (B0 X0 B1 X1 B2 X2 B3 X3 : Nat) (W0 : World) (hl : Lies W0.heap.size W0 A m)
    (h0 : LinesAt B0 X0 A.a1 m.facts.length A.c1 80 W0) (h1 : LinesAt B1 X1 A.a2 m.files.length A.c2 82 W0)
    (h2 : LinesAt B2 X2 A.a3 m.sets.length A.c3 83 W0) (h3 : LinesAt B3 X3 A.a4 m.svcs.length A.c4 85 W0) (w : World) (hw : w = W0.alloc (.cells #[.func (.func 139) #[] #[.pointer (some ⟨B0, 0, none⟩), .pointer (some ⟨X0, 0, none⟩)], .func (.func 141) #[] #[.pointer (some ⟨B1, 0, none⟩), .pointer (some ⟨X1, 0, none⟩)], .func (.func 139) #[] #[.pointer (some ⟨B2, 0, none⟩), .pointer (some ⟨X2, 0, none⟩)], .func (.func 142) #[] #[.pointer (some ⟨B3, 0, none⟩), .pointer (some ⟨X3, 0, none⟩)]] 104)) :
    Calls Tryz.prog 78 #[.slice (some ⟨W0.heap.size, 0, none⟩) 4 4] w fun e w' => e = .returned (joinOut (P.printL m)) ∧ Below w.heap.size w w' := by
  obtain ⟨p0, q0⟩ := h0
  obtain ⟨p1, q1⟩ := h1
  obtain ⟨p2, q2⟩ := h2
  obtain ⟨p3, q3⟩ := h3
  have hR := HasRow.new W0 #[.func (.func 139) #[] #[.pointer (some ⟨B0, 0, none⟩), .pointer (some ⟨X0, 0, none⟩)], .func (.func 141) #[] #[.pointer (some ⟨B1, 0, none⟩), .pointer (some ⟨X1, 0, none⟩)], .func (.func 139) #[] #[.pointer (some ⟨B2, 0, none⟩), .pointer (some ⟨X2, 0, none⟩)], .func (.func 142) #[] #[.pointer (some ⟨B3, 0, none⟩), .pointer (some ⟨X3, 0, none⟩)]] 104
  rw [← hw] at hR
  have hb : Below W0.heap.size W0 w := by rw [hw]; exact below_alloc _ _
  have hsz : W0.heap.size < w.heap.size := hR.lt
  have hl' := (hl.below hb).up hb.size
  have hf := hr.fit
  rw [← texts_print m]
  refine callsIn_wide.1 (join_in 5 (by omega) gsOf (lbsOf B0 X0 B1 X1 B2 X2 B3 X3) (textsOf m) (nsOf m) W0.heap.size w hsz (fun j hj => ?_) (fun j hj => ?_) (fun j hj => ?_))
  · rcases (by omega : j = 0 ∨ j = 1 ∨ j = 2 ∨ j = 3) with rfl | rfl | rfl | rfl
    · exact hR.cell 0
    · exact hR.cell 1
    · exact hR.cell 2
    · exact hR.cell 3
  · rcases (by omega : j = 0 ∨ j = 1 ∨ j = 2 ∨ j = 3) with rfl | rfl | rfl | rfl
    · exact enters_of Tryz.func139 (by kernel_rfl) rfl
    · exact enters_of Tryz.func141 (by kernel_rfl) rfl
    · exact enters_of Tryz.func139 (by kernel_rfl) rfl
    · exact enters_of Tryz.func142 (by kernel_rfl) rfl
  · rcases (by omega : j = 0 ∨ j = 1 ∨ j = 2 ∨ j = 3) with rfl | rfl | rfl | rfl
    · exact linesS_stops _ _ _ fact_fn m.facts hf.l1 (fun x hx => by have := St.small (hr.a1 x hx); omega) (fun x hx => by have := St.small (hr.a1 x hx); exact lineT_size _ _ _ (by decide) this.1 this.2) A.a1 A.c1 4 (by omega) B0 X0 w.heap.size (Nat.lt_trans p0.lt hsz) (Nat.lt_trans q0.lt hsz) w (Nat.le_refl _) ((p0.below hb).cell 0) ((q0.below hb).cell 0) hl'.f
    · exact linesF_stops _ _ _ file_fn m.files hf.l2 (fun x hx => by have := Fi.small (hr.a2 x hx); omega) (fun x hx => by have := Fi.small (hr.a2 x hx); exact lineT_size _ _ _ (by unfold fileW; cases x.r <;> decide) this.1 this.2) A.a2 A.c2 4 (by omega) B1 X1 w.heap.size (Nat.lt_trans p1.lt hsz) (Nat.lt_trans q1.lt hsz) w (Nat.le_refl _) ((p1.below hb).cell 0) ((q1.below hb).cell 0) hl'.i
    · exact linesS_stops _ _ _ set_fn m.sets hf.l3 (fun x hx => by have := St.small' (hr.a3 x hx); omega) (fun x hx => by have := St.small' (hr.a3 x hx); exact lineT_size _ _ _ (by decide) this.1 this.2) A.a3 A.c3 4 (by omega) B2 X2 w.heap.size (Nat.lt_trans p2.lt hsz) (Nat.lt_trans q2.lt hsz) w (Nat.le_refl _) ((p2.below hb).cell 0) ((q2.below hb).cell 0) hl'.s
    · exact linesV_stops _ _ _ svc_fn m.svcs hf.l4 (fun x hx => by have := Sv.small (hr.a4 x hx); omega) (fun x hx => by have := Sv.small (hr.a4 x hx); unfold svcT; rw [P.txt_size]; unfold P.wordsL; simp only [List.length_append, P.size_len, P.bitL_len, List.length_cons, List.length_nil]; omega) A.a4 A.c4 4 (by omega) B3 X3 w.heap.size (Nat.lt_trans p3.lt hsz) (Nat.lt_trans q3.lt hsz) w (Nat.le_refl _) ((p3.below hb).cell 0) ((q3.below hb).cell 0) hl'.v
end Go.Proofs.YtgdpbdgaldiggaaGreatDoor

namespace Go.Proofs.YtgdpbdgaldiggaaGreatDoor
open Go.RowKit Go.Shelf

/-- Print's box, and the machine -/
structure PB (w W : World) (a1 a2 a3 a4 : Option Addr) (n1 c1 n2 c2 n3 c3 n4 c4 : Nat) : Prop where
  c0 : W.cell? ⟨w.heap.size, 0, none⟩ = some (.slice a1 n1 c1)
  c1 : W.cell? ⟨w.heap.size, 1, none⟩ = some (.slice a2 n2 c2)
  c2 : W.cell? ⟨w.heap.size, 2, none⟩ = some (.slice a3 n3 c3)
  c3 : W.cell? ⟨w.heap.size, 3, none⟩ = some (.slice a4 n4 c4)
theorem keep4 {W W' : World} {p0 p1 p2 p3 : Addr} {v0 v1 v2 v3 : Value} (h : W.cell? p0 = some v0 ∧ W.cell? p1 = some v1 ∧ W.cell? p2 = some v2 ∧ W.cell? p3 = some v3) (hb : Below W.heap.size W W') :
    W'.cell? p0 = some v0 ∧ W'.cell? p1 = some v1 ∧ W'.cell? p2 = some v2 ∧ W'.cell? p3 = some v3 := ⟨cell_keep hb h.1, cell_keep hb h.2.1, cell_keep hb h.2.2.1, cell_keep hb h.2.2.2⟩

set_option maxRecDepth 100000 in
set_option maxHeartbeats 8000000 in
theorem dprint_any (A : Ad) (m : P.Mach) (hr : P.Right m) (w : World) (hw : Good w) (hl : Lies w.heap.size w A m) :
    Calls Tryz.prog 15 #[machV A m] w fun e w' => e = .returned (joinOut (P.printL m)) ∧ Below w.heap.size w w' := by
  have hC := fun W (hb : Below w.heap.size w W) => dcheck_any A m hr.fit W (hw.mono hb) ((hl.below hb).up hb.size)
  rw [(P.right_iff m).2 hr] at hC
  have HC := Lib.hid hC
  have HJ := Lib.hid (fun B0 X0 B1 X1 B2 X2 B3 X3 W0 (hb : Below w.heap.size w W0) h0 h1 h2 h3 W hW => join_any A m hr B0 X0 B1 X1 B2 X2 B3 X3 W0 ((hl.below hb).up hb.size) h0 h1 h2 h3 W hW)
  have HLS := Lib.hid linesS_at
  have HLF := Lib.hid linesF_at
  have HLV := Lib.hid linesV_at
  clear hC hl hw
  obtain ⟨a1, a2, a3, a4, c1, c2, c3, c4⟩ := A
  obtain ⟨F, I, S, V⟩ := m
  unfold machV at HC ⊢
  simp only at HC HJ ⊢
  have hR0 := HasRow.new w #[.slice a1 F.length c1, .slice a2 I.length c2, .slice a3 S.length c3, .slice a4 V.length c4] 26
  obtain ⟨d0, d1, d2, d3, _⟩ := hrow4 hR0
  have HR0 := Lib.hid hR0
  clear hR0
  obtain ⟨t, x, hT⟩ : ∃ (t : ByteArray) (x : Int), joinOut (P.printL ⟨F, I, S, V⟩) = .tuple #[.string t, .int .i64 x] := by unfold joinOut; split <;> exact ⟨_, _, rfl⟩
  rw [hT] at HJ ⊢
  have HT := Lib.hid hT
  clear hT
  go_enter Tryz.func15, Tryz.ntmps15
  go_wp2_with fail
  refine (HC.out _ (below_alloc _ _)).mono ?_
  rintro e w1 ⟨rfl, hb1⟩
  have HB1 := Lib.hid (bstep (below_alloc _ _) hb1)
  obtain ⟨g0, g1, g2, g3, _⟩ := hrow4 (HR0.out.below hb1)
  have hS : w1.drew.cell? ⟨w.heap.size, 0, none⟩ = some (.slice a1 F.length c1) ∧ w1.drew.cell? ⟨w.heap.size, 1, none⟩ = some (.slice a2 I.length c2) ∧ w1.drew.cell? ⟨w.heap.size, 2, none⟩ = some (.slice a3 S.length c3) ∧ w1.drew.cell? ⟨w.heap.size, 3, none⟩ = some (.slice a4 V.length c4) := ⟨g0, g1, g2, g3⟩
  clear hb1 d0 d1 d2 d3 g0 g1 g2 g3 HR0 HC
  go_wp2_with fail
  go_region_held3 (fun W => W.cell? ⟨w.heap.size, 0, none⟩ = some (.slice a1 F.length c1) ∧ W.cell? ⟨w.heap.size, 1, none⟩ = some (.slice a2 I.length c2) ∧ W.cell? ⟨w.heap.size, 2, none⟩ = some (.slice a3 S.length c3) ∧ W.cell? ⟨w.heap.size, 3, none⟩ = some (.slice a4 V.length c4))
    (first | with_reducible assumption | with_reducible exact hS5b _)
    (first
      | (go_at_call 78; refine (HJ.out _ _ _ _ _ _ _ _ _ hA4 (((h0.below hb2).below hb3).below hb4) ((h1.below hb3).below hb4) (h2.below hb4) h3 _ rfl).mono ?_; rintro e w6 ⟨rfl, hb6⟩; have hS6 := keep4 (keep4 hS5 (below_alloc _ _)) hb6)
      | (go_at_call 84; refine (HLV.out _ _ _ _ _).mono ?_; rintro e w5 ⟨B3, X3, rfl, h3, hb4⟩; have hS5 := keep4 hS4 hb4; have hS5b := fun o => keep4 hS5 (below_alloc w5 o); have hA4 := bstep hA3 hb4)
      | (go_at_call 79; have hx := hA2; refine (HLS.out _ _ _ _ _).mono ?_; rintro e w4 ⟨B2, X2, rfl, h2, hb3⟩; have hS4 := keep4 hS3 hb3; have hA3 := bstep hA2 hb3)
      | (go_at_call 81; refine (HLF.out _ _ _ _ _).mono ?_; rintro e w3 ⟨B1, X1, rfl, h1, hb2⟩; have hS3 := keep4 hS2 hb2; have hA2 := bstep hA1 hb2)
      | (go_at_call 79; refine (HLS.out _ _ _ _ _).mono ?_; rintro e w2 ⟨B0, X0, rfl, h0, hb1⟩; have hS2 := keep4 hS hb1; have hA1 := bstep HB1.out.drew hb1))
  have HF := Lib.hid (bstep (bstep hA4 (below_alloc _ _)) hb6)
  clear hS hS2 hS3 hS4 hS5 hS5b hS6 hA1 hA2 hA3 hA4 hb6 h0 h1 h2 h3 hb1 hb2 hb3 hb4
  go_wp2_with fail
  go_ret2
  exact ⟨rfl, HF.out⟩
/-- what Sum answers -/
def sumOut (T : P.B) : Value := if T.length ≤ 4194304 then .tuple #[.string (P.sumOf (P.txt T)), .int .i64 0] else .tuple #[.string ⟨#[]⟩, .int .i64 4]
theorem dsum_any (A : Ad) (m : P.Mach) (hr : P.Right m) (w : World) (hw : Good w) (ht : Tz w) (hl : Lies w.heap.size w A m) :
    Calls Tryz.prog 14 #[machV A m] w fun e w' => e = .returned (sumOut (P.printL m)) ∧ Below w.heap.size w w' := by
  have HP := Lib.hid (fun W (hb : Below w.heap.size w W) => dprint_any A m hr W (hw.mono hb) ((hl.below hb).up hb.size))
  have hb0 := P.print_le hr
  have HS := Lib.hid (fun W (hb : Below w.heap.size w W) => dsumOf_any (P.txt (P.printL m)) (by rw [P.txt_size]; omega) W (ht.mono hw hb) (hw.mono hb))
  clear hl hw hr ht
  obtain ⟨a1, a2, a3, a4, c1, c2, c3, c4⟩ := A
  obtain ⟨F, I, S, V⟩ := m
  unfold machV at HP ⊢
  unfold joinOut at HP
  unfold sumOut
  simp only at HP ⊢
  generalize P.printL ⟨F, I, S, V⟩ = T at *
  by_cases hT : T.length ≤ 4194304
  · simp only [if_pos hT] at HP ⊢
    obtain ⟨r, hr⟩ : ∃ r, P.sumOf (P.txt T) = r := ⟨_, rfl⟩
    rw [hr] at HS ⊢
    clear hr
    generalize P.txt T = t at *
    clear hT hb0
    go_enter Tryz.func14, Tryz.ntmps14
    go_wp2_with fail
    refine (HP.out _ (below_alloc _ _)).mono ?_
    rintro e w1 ⟨rfl, hb1⟩
    have HB := Lib.hid (bstep (below_alloc _ _) hb1)
    clear hb1
    go_wp2_with fail
    refine (HS.out _ HB.out).mono ?_
    rintro e w2 ⟨rfl, hb2⟩
    have HB2 := Lib.hid (bstep HB.out hb2)
    clear hb2
    go_wp2_with fail
    go_ret2
    exact ⟨rfl, HB2.out⟩
  · simp only [if_neg hT] at HP ⊢
    clear hT hb0 HS
    go_enter Tryz.func14, Tryz.ntmps14
    go_wp2_with fail
    refine (HP.out _ (below_alloc _ _)).mono ?_
    rintro e w1 ⟨rfl, hb1⟩
    have HB := Lib.hid (bstep (below_alloc _ _) hb1)
    clear hb1
    go_wp2_with fail
    go_ret2
    exact ⟨rfl, HB.out⟩
end Go.Proofs.YtgdpbdgaldiggaaGreatDoor

namespace Go.Proofs.YtgdpbdgaldiggaaGreatDoor
open Go.RowKit Go.Shelf

set_option maxHeartbeats 8000000 in
theorem equalF_any (L M : List P.Fi) (a b : Option Addr) (ca cb : Nat) (hl : L.length ≤ 4294967280) (w : World) (ha : FisAt w.heap.size w a L ca) (hb : FisAt w.heap.size w b M cb) :
    Calls Tryz.prog 109 #[.slice a L.length ca, .slice b M.length cb] w fun e w' => (∃ x, e = .returned (.bool x) ∧ (x = true ↔ L = M)) ∧ Below w.heap.size w w' := by
  have HA := Lib.hid ha
  have HB := Lib.hid hb
  clear ha hb
  by_cases hn : L.length = M.length
  · have hn' : (L.length : Int) = (M.length : Int) := by omega
    have HE : Hid ((∀ j (h1 : j < L.length) (h2 : j < M.length), L[j] = M[j]) → L = M) := Lib.hid fun h => List.ext_getElem hn (fun j h1 h2 => h j h1 h2)
    go_enter Tryz.func109, Tryz.ntmps109
    go_wp2_with fail
    go_loopw [13] (fun i wr => ∃ k : Nat, k ≤ L.length ∧ i = .int .i64 k ∧ Aside (∀ j (h1 : j < L.length) (h2 : j < M.length), j < k → L[j] = M[j]) ∧ Hid (Below w.heap.size w wr)) (fun i _ => L.length - (intOf i).toNat)
    case atStart => exact ⟨0, Nat.zero_le _, rfl, aside (fun j _ _ h => absurd h (by omega)), Lib.hid (Below.refl _ _)⟩
    case round =>
      obtain ⟨k, hk, rfl, A, HW⟩ := hrel
      by_cases hlt : k < L.length
      · have hlt' : k < M.length := by omega
        obtain ⟨b1, o1, rfl, _, hc⟩ := (HA.out.below HW.out).at_ (ne_nil_of_lt hlt)
        obtain ⟨b2, o2, rfl, _, hd⟩ := (HB.out.below HW.out).at_ (ne_nil_of_lt hlt')
        obtain ⟨c0, c1, c2⟩ := hc k hlt
        obtain ⟨d0, d1, d2⟩ := hd k hlt'
        have HY : Hid (L[k].p.toList = M[k].p.toList → L[k].d.toList = M[k].d.toList → L[k].r = M[k].r → ∀ j (h1 : j < L.length) (h2 : j < M.length), j < k + 1 → L[j] = M[j]) := Lib.hid fun e0 e1 e2 j h1 h2 hj => by
          by_cases e : j = k
          · subst e
            have f0 := toList_inj e0
            have f1 := toList_inj e1
            have f2 := e2
            cases hx : L[j]; cases hy : M[j]; rw [hx, hy] at f0 f1 f2; simp only at f0 f1 f2; rw [f0, f1, f2]
          · exact A.out j h1 h2 (by omega)
        have HN : Hid (¬ L[k].p.toList = M[k].p.toList ∨ ¬ L[k].d.toList = M[k].d.toList ∨ ¬ L[k].r = M[k].r → ¬ L = M) := Lib.hid fun h e => by subst e; rcases h with h | h | h <;> exact h rfl
        have i1 : (k : Int) < (L.length : Int) := by omega
        have i2 : (k : Int) < (M.length : Int) := by omega
        have i0 : (0 : Int) ≤ (k : Int) := by omega
        clear hc hd A HE
        generalize L[k] = x at *
        generalize M[k] = y at *
        obtain ⟨xp, xd, xr⟩ := x
        obtain ⟨yp, yd, yr⟩ := y
        simp only at c0 c1 c2 d0 d1 d2 HY HN
        by_cases e0 : xp.toList = yp.toList
        · by_cases e1 : xd.toList = yd.toList
          · cases xr
            · cases yr
              · have HY' := Lib.hid (HY.out e0 e1 rfl)
                clear HY HN
                go_wp2_with fail
                go_region
                have HW' := Lib.hid HW.out.drew
                go_wp2_with fail
                go_roundw
                case rel => exact ⟨k + 1, by omega, by go_num, aside HY'.out, HW'⟩
                case measure => simp [intOf]; omega
              · have HN' := Lib.hid (HN.out (.inr (.inr ((by decide)))))
                clear HY HN
                go_wp2_with fail
                go_region
                have HW' := Lib.hid HW.out.drew
                go_wp2_with fail
                go_ret
                exact ⟨⟨false, rfl, (fun h => by cases h), fun h => absurd h HN'.out⟩, HW'.out⟩
            · cases yr
              · have HN' := Lib.hid (HN.out (.inr (.inr ((by decide)))))
                clear HY HN
                go_wp2_with fail
                go_region
                have HW' := Lib.hid HW.out.drew
                go_wp2_with fail
                go_ret
                exact ⟨⟨false, rfl, (fun h => by cases h), fun h => absurd h HN'.out⟩, HW'.out⟩
              · have HY' := Lib.hid (HY.out e0 e1 rfl)
                clear HY HN
                go_wp2_with fail
                go_region
                have HW' := Lib.hid HW.out.drew
                go_wp2_with fail
                go_roundw
                case rel => exact ⟨k + 1, by omega, by go_num, aside HY'.out, HW'⟩
                case measure => simp [intOf]; omega
          · have HN' := Lib.hid (HN.out (.inr (.inl e1)))
            clear HY HN
            go_wp2_with fail
            go_region
            have HW' := Lib.hid HW.out.drew
            go_wp2_with fail
            go_ret
            exact ⟨⟨false, rfl, (fun h => by cases h), fun h => absurd h HN'.out⟩, HW'.out⟩
        · have HN' := Lib.hid (HN.out (.inl e0))
          clear HY HN
          go_wp2_with fail
          go_region
          have HW' := Lib.hid HW.out.drew
          go_wp2_with fail
          go_ret
          exact ⟨⟨false, rfl, (fun h => by cases h), fun h => absurd h HN'.out⟩, HW'.out⟩
      · have hkl : k = L.length := by omega
        have HE' := Lib.hid (HE.out (fun j h1 h2 => A.out j h1 h2 (by omega)))
        clear HE A
        go_wp2_with fail
        go_ret
        exact ⟨⟨true, rfl, fun _ => HE'.out, fun _ => rfl⟩, HW.out⟩
  · have hn' : ((L.length : Int) != (M.length : Int)) = true := by simp; omega
    have HN := Lib.hid (show ¬ L = M from fun e => hn (by rw [e]))
    go_enter Tryz.func109, Tryz.ntmps109
    go_wp2_with fail
    go_ret
    exact ⟨⟨false, rfl, (fun h => by cases h), fun h => absurd h HN.out⟩, Below.refl _ _⟩

set_option maxHeartbeats 8000000 in
theorem equalV_any (L M : List P.Sv) (a b : Option Addr) (ca cb : Nat) (hl : L.length ≤ 4294967280) (w : World) (ha : SvsAt w.heap.size w a L ca) (hb : SvsAt w.heap.size w b M cb) :
    Calls Tryz.prog 110 #[.slice a L.length ca, .slice b M.length cb] w fun e w' => (∃ x, e = .returned (.bool x) ∧ (x = true ↔ L = M)) ∧ Below w.heap.size w w' := by
  have HA := Lib.hid ha
  have HB := Lib.hid hb
  clear ha hb
  by_cases hn : L.length = M.length
  · have hn' : (L.length : Int) = (M.length : Int) := by omega
    have HE : Hid ((∀ j (h1 : j < L.length) (h2 : j < M.length), L[j] = M[j]) → L = M) := Lib.hid fun h => List.ext_getElem hn (fun j h1 h2 => h j h1 h2)
    go_enter Tryz.func110, Tryz.ntmps110
    go_wp2_with fail
    go_loopw [13] (fun i wr => ∃ k : Nat, k ≤ L.length ∧ i = .int .i64 k ∧ Aside (∀ j (h1 : j < L.length) (h2 : j < M.length), j < k → L[j] = M[j]) ∧ Hid (Below w.heap.size w wr)) (fun i _ => L.length - (intOf i).toNat)
    case atStart => exact ⟨0, Nat.zero_le _, rfl, aside (fun j _ _ h => absurd h (by omega)), Lib.hid (Below.refl _ _)⟩
    case round =>
      obtain ⟨k, hk, rfl, A, HW⟩ := hrel
      by_cases hlt : k < L.length
      · have hlt' : k < M.length := by omega
        obtain ⟨b1, o1, rfl, _, hc⟩ := (HA.out.below HW.out).at_ (ne_nil_of_lt hlt)
        obtain ⟨b2, o2, rfl, _, hd⟩ := (HB.out.below HW.out).at_ (ne_nil_of_lt hlt')
        obtain ⟨c0, c1, c2, c3⟩ := hc k hlt
        obtain ⟨d0, d1, d2, d3⟩ := hd k hlt'
        have HY : Hid (L[k].n.toList = M[k].n.toList → L[k].p.toList = M[k].p.toList → L[k].a = M[k].a → L[k].o = M[k].o → ∀ j (h1 : j < L.length) (h2 : j < M.length), j < k + 1 → L[j] = M[j]) := Lib.hid fun e0 e1 e2 e3 j h1 h2 hj => by
          by_cases e : j = k
          · subst e
            have f0 := toList_inj e0
            have f1 := toList_inj e1
            have f2 := e2
            have f3 := e3
            cases hx : L[j]; cases hy : M[j]; rw [hx, hy] at f0 f1 f2 f3; simp only at f0 f1 f2 f3; rw [f0, f1, f2, f3]
          · exact A.out j h1 h2 (by omega)
        have HN : Hid (¬ L[k].n.toList = M[k].n.toList ∨ ¬ L[k].p.toList = M[k].p.toList ∨ ¬ L[k].a = M[k].a ∨ ¬ L[k].o = M[k].o → ¬ L = M) := Lib.hid fun h e => by subst e; rcases h with h | h | h | h <;> exact h rfl
        have i1 : (k : Int) < (L.length : Int) := by omega
        have i2 : (k : Int) < (M.length : Int) := by omega
        have i0 : (0 : Int) ≤ (k : Int) := by omega
        clear hc hd A HE
        generalize L[k] = x at *
        generalize M[k] = y at *
        obtain ⟨xn, xp, xa, xo⟩ := x
        obtain ⟨yn, yp, ya, yo⟩ := y
        simp only at c0 c1 c2 c3 d0 d1 d2 d3 HY HN
        by_cases e0 : xn.toList = yn.toList
        · by_cases e1 : xp.toList = yp.toList
          · cases xa
            · cases ya
              · cases xo
                · cases yo
                  · have HY' := Lib.hid (HY.out e0 e1 rfl rfl)
                    clear HY HN
                    go_wp2_with fail
                    go_region
                    have HW' := Lib.hid HW.out.drew
                    go_wp2_with fail
                    go_roundw
                    case rel => exact ⟨k + 1, by omega, by go_num, aside HY'.out, HW'⟩
                    case measure => simp [intOf]; omega
                  · have HN' := Lib.hid (HN.out (.inr (.inr (.inr ((by decide))))))
                    clear HY HN
                    go_wp2_with fail
                    go_region
                    have HW' := Lib.hid HW.out.drew
                    go_wp2_with fail
                    go_ret
                    exact ⟨⟨false, rfl, (fun h => by cases h), fun h => absurd h HN'.out⟩, HW'.out⟩
                · cases yo
                  · have HN' := Lib.hid (HN.out (.inr (.inr (.inr ((by decide))))))
                    clear HY HN
                    go_wp2_with fail
                    go_region
                    have HW' := Lib.hid HW.out.drew
                    go_wp2_with fail
                    go_ret
                    exact ⟨⟨false, rfl, (fun h => by cases h), fun h => absurd h HN'.out⟩, HW'.out⟩
                  · have HY' := Lib.hid (HY.out e0 e1 rfl rfl)
                    clear HY HN
                    go_wp2_with fail
                    go_region
                    have HW' := Lib.hid HW.out.drew
                    go_wp2_with fail
                    go_roundw
                    case rel => exact ⟨k + 1, by omega, by go_num, aside HY'.out, HW'⟩
                    case measure => simp [intOf]; omega
              · cases xo
                · cases yo
                  · have HN' := Lib.hid (HN.out (.inr (.inr (.inl (by decide)))))
                    clear HY HN
                    go_wp2_with fail
                    go_region
                    have HW' := Lib.hid HW.out.drew
                    go_wp2_with fail
                    go_ret
                    exact ⟨⟨false, rfl, (fun h => by cases h), fun h => absurd h HN'.out⟩, HW'.out⟩
                  · have HN' := Lib.hid (HN.out (.inr (.inr (.inl (by decide)))))
                    clear HY HN
                    go_wp2_with fail
                    go_region
                    have HW' := Lib.hid HW.out.drew
                    go_wp2_with fail
                    go_ret
                    exact ⟨⟨false, rfl, (fun h => by cases h), fun h => absurd h HN'.out⟩, HW'.out⟩
                · cases yo
                  · have HN' := Lib.hid (HN.out (.inr (.inr (.inl (by decide)))))
                    clear HY HN
                    go_wp2_with fail
                    go_region
                    have HW' := Lib.hid HW.out.drew
                    go_wp2_with fail
                    go_ret
                    exact ⟨⟨false, rfl, (fun h => by cases h), fun h => absurd h HN'.out⟩, HW'.out⟩
                  · have HN' := Lib.hid (HN.out (.inr (.inr (.inl (by decide)))))
                    clear HY HN
                    go_wp2_with fail
                    go_region
                    have HW' := Lib.hid HW.out.drew
                    go_wp2_with fail
                    go_ret
                    exact ⟨⟨false, rfl, (fun h => by cases h), fun h => absurd h HN'.out⟩, HW'.out⟩
            · cases ya
              · cases xo
                · cases yo
                  · have HN' := Lib.hid (HN.out (.inr (.inr (.inl (by decide)))))
                    clear HY HN
                    go_wp2_with fail
                    go_region
                    have HW' := Lib.hid HW.out.drew
                    go_wp2_with fail
                    go_ret
                    exact ⟨⟨false, rfl, (fun h => by cases h), fun h => absurd h HN'.out⟩, HW'.out⟩
                  · have HN' := Lib.hid (HN.out (.inr (.inr (.inl (by decide)))))
                    clear HY HN
                    go_wp2_with fail
                    go_region
                    have HW' := Lib.hid HW.out.drew
                    go_wp2_with fail
                    go_ret
                    exact ⟨⟨false, rfl, (fun h => by cases h), fun h => absurd h HN'.out⟩, HW'.out⟩
                · cases yo
                  · have HN' := Lib.hid (HN.out (.inr (.inr (.inl (by decide)))))
                    clear HY HN
                    go_wp2_with fail
                    go_region
                    have HW' := Lib.hid HW.out.drew
                    go_wp2_with fail
                    go_ret
                    exact ⟨⟨false, rfl, (fun h => by cases h), fun h => absurd h HN'.out⟩, HW'.out⟩
                  · have HN' := Lib.hid (HN.out (.inr (.inr (.inl (by decide)))))
                    clear HY HN
                    go_wp2_with fail
                    go_region
                    have HW' := Lib.hid HW.out.drew
                    go_wp2_with fail
                    go_ret
                    exact ⟨⟨false, rfl, (fun h => by cases h), fun h => absurd h HN'.out⟩, HW'.out⟩
              · cases xo
                · cases yo
                  · have HY' := Lib.hid (HY.out e0 e1 rfl rfl)
                    clear HY HN
                    go_wp2_with fail
                    go_region
                    have HW' := Lib.hid HW.out.drew
                    go_wp2_with fail
                    go_roundw
                    case rel => exact ⟨k + 1, by omega, by go_num, aside HY'.out, HW'⟩
                    case measure => simp [intOf]; omega
                  · have HN' := Lib.hid (HN.out (.inr (.inr (.inr ((by decide))))))
                    clear HY HN
                    go_wp2_with fail
                    go_region
                    have HW' := Lib.hid HW.out.drew
                    go_wp2_with fail
                    go_ret
                    exact ⟨⟨false, rfl, (fun h => by cases h), fun h => absurd h HN'.out⟩, HW'.out⟩
                · cases yo
                  · have HN' := Lib.hid (HN.out (.inr (.inr (.inr ((by decide))))))
                    clear HY HN
                    go_wp2_with fail
                    go_region
                    have HW' := Lib.hid HW.out.drew
                    go_wp2_with fail
                    go_ret
                    exact ⟨⟨false, rfl, (fun h => by cases h), fun h => absurd h HN'.out⟩, HW'.out⟩
                  · have HY' := Lib.hid (HY.out e0 e1 rfl rfl)
                    clear HY HN
                    go_wp2_with fail
                    go_region
                    have HW' := Lib.hid HW.out.drew
                    go_wp2_with fail
                    go_roundw
                    case rel => exact ⟨k + 1, by omega, by go_num, aside HY'.out, HW'⟩
                    case measure => simp [intOf]; omega
          · have HN' := Lib.hid (HN.out (.inr (.inl e1)))
            clear HY HN
            go_wp2_with fail
            go_region
            have HW' := Lib.hid HW.out.drew
            go_wp2_with fail
            go_ret
            exact ⟨⟨false, rfl, (fun h => by cases h), fun h => absurd h HN'.out⟩, HW'.out⟩
        · have HN' := Lib.hid (HN.out (.inl e0))
          clear HY HN
          go_wp2_with fail
          go_region
          have HW' := Lib.hid HW.out.drew
          go_wp2_with fail
          go_ret
          exact ⟨⟨false, rfl, (fun h => by cases h), fun h => absurd h HN'.out⟩, HW'.out⟩
      · have hkl : k = L.length := by omega
        have HE' := Lib.hid (HE.out (fun j h1 h2 => A.out j h1 h2 (by omega)))
        clear HE A
        go_wp2_with fail
        go_ret
        exact ⟨⟨true, rfl, fun _ => HE'.out, fun _ => rfl⟩, HW.out⟩
  · have hn' : ((L.length : Int) != (M.length : Int)) = true := by simp; omega
    have HN := Lib.hid (show ¬ L = M from fun e => hn (by rw [e]))
    go_enter Tryz.func110, Tryz.ntmps110
    go_wp2_with fail
    go_ret
    exact ⟨⟨false, rfl, (fun h => by cases h), fun h => absurd h HN.out⟩, Below.refl _ _⟩

set_option maxRecDepth 100000 in
set_option maxHeartbeats 4000000 in
theorem dsame_any (A B : Ad) (a b : P.Mach) (hf : a.fit) (w : World) (hl : Lies w.heap.size w A a) (hm : Lies w.heap.size w B b) :
    Calls Tryz.prog 49 #[machV A a, machV B b] w fun e w' => (∃ x, e = .returned (.bool x) ∧ (x = true ↔ a = b)) ∧ Below w.heap.size w w' := by
  have HL := Lib.hid (fun W (h : Below w.heap.size w W) => (hl.below h).up h.size)
  have HM := Lib.hid (fun W (h : Below w.heap.size w W) => (hm.below h).up h.size)
  obtain ⟨a1, a2, a3, a4, c1, c2, c3, c4⟩ := A
  obtain ⟨b1, b2, b3, b4, k1, k2, k3, k4⟩ := B
  obtain ⟨F, I, S, V⟩ := a
  obtain ⟨F', I', S', V'⟩ := b
  unfold machV
  simp only
  have hlF : F.length ≤ 4294967280 := hf.l1
  have hlI : I.length ≤ 4294967280 := hf.l2
  have hlS : S.length ≤ 4294967280 := hf.l3
  have hlV : V.length ≤ 4294967280 := hf.l4
  have H1 := Lib.hid (fun W h => equalS_any F F' a1 b1 c1 k1 hlF W (HL.out W h).f (HM.out W h).f)
  have H2 := Lib.hid (fun W h => equalF_any I I' a2 b2 c2 k2 hlI W (HL.out W h).i (HM.out W h).i)
  have H3 := Lib.hid (fun W h => equalS_any S S' a3 b3 c3 k3 hlS W (HL.out W h).s (HM.out W h).s)
  have H4 := Lib.hid (fun W h => equalV_any V V' a4 b4 c4 k4 hlV W (HL.out W h).v (HM.out W h).v)
  have hA := (HasRow.new w #[.slice a1 F.length c1, .slice a2 I.length c2, .slice a3 S.length c3, .slice a4 V.length c4] 26).alloc (.cells #[.slice b1 F'.length k1, .slice b2 I'.length k2, .slice b3 S'.length k3, .slice b4 V'.length k4] 26)
  have hB := HasRow.new (w.alloc (.cells #[.slice a1 F.length c1, .slice a2 I.length c2, .slice a3 S.length c3, .slice a4 V.length c4] 26)) #[.slice b1 F'.length k1, .slice b2 I'.length k2, .slice b3 S'.length k3, .slice b4 V'.length k4] 26
  rw [World.size_alloc] at hB
  have HA := Lib.hid hA
  have HB := Lib.hid hB
  have HZ := Lib.hid (below2 w (.cells #[.slice a1 F.length c1, .slice a2 I.length c2, .slice a3 S.length c3, .slice a4 V.length c4] 26) (.cells #[.slice b1 F'.length k1, .slice b2 I'.length k2, .slice b3 S'.length k3, .slice b4 V'.length k4] 26))
  clear hA hB hl hm hf HL HM
  go_enter Tryz.func49, Tryz.ntmps49
  go_wp2_with fail
  refine (H1.out _ HZ.out).mono ?_
  rintro e w1 ⟨⟨x, rfl, hx⟩, hb⟩
  obtain ⟨p0, p1, p2, p3, _⟩ := hrow4 (HA.out.below hb)
  obtain ⟨q0, q1, q2, q3, _⟩ := hrow4 (HB.out.below hb)
  replace HA := Lib.hid (HA.out.below hb)
  replace HB := Lib.hid (HB.out.below hb)
  replace HZ := Lib.hid (bstep HZ.out hb)
  have HX1 := Lib.hid hx
  clear hb hx
  cases x
  · go_wp2_with fail
    go_ret
    exact ⟨⟨false, rfl, (fun h => by cases h), fun h => absurd (HX1.out.2 (congrArg P.Mach.facts h)) (by decide)⟩, HZ.out⟩
  go_wp2_with fail
  clear p0 p1 p2 p3 q0 q1 q2 q3
  refine (H2.out _ HZ.out).mono ?_
  rintro e w2 ⟨⟨x, rfl, hx⟩, hb⟩
  obtain ⟨p0, p1, p2, p3, _⟩ := hrow4 (HA.out.below hb)
  obtain ⟨q0, q1, q2, q3, _⟩ := hrow4 (HB.out.below hb)
  replace HA := Lib.hid (HA.out.below hb)
  replace HB := Lib.hid (HB.out.below hb)
  replace HZ := Lib.hid (bstep HZ.out hb)
  have HX2 := Lib.hid hx
  clear hb hx
  cases x
  · go_wp2_with fail
    go_ret
    exact ⟨⟨false, rfl, (fun h => by cases h), fun h => absurd (HX2.out.2 (congrArg P.Mach.files h)) (by decide)⟩, HZ.out⟩
  go_wp2_with fail
  clear p0 p1 p2 p3 q0 q1 q2 q3
  refine (H3.out _ HZ.out).mono ?_
  rintro e w3 ⟨⟨x, rfl, hx⟩, hb⟩
  obtain ⟨p0, p1, p2, p3, _⟩ := hrow4 (HA.out.below hb)
  obtain ⟨q0, q1, q2, q3, _⟩ := hrow4 (HB.out.below hb)
  replace HA := Lib.hid (HA.out.below hb)
  replace HB := Lib.hid (HB.out.below hb)
  replace HZ := Lib.hid (bstep HZ.out hb)
  have HX3 := Lib.hid hx
  clear hb hx
  cases x
  · go_wp2_with fail
    go_ret
    exact ⟨⟨false, rfl, (fun h => by cases h), fun h => absurd (HX3.out.2 (congrArg P.Mach.sets h)) (by decide)⟩, HZ.out⟩
  go_wp2_with fail
  clear p0 p1 p2 p3 q0 q1 q2 q3
  refine (H4.out _ HZ.out).mono ?_
  rintro e w4 ⟨⟨x, rfl, hx⟩, hb⟩
  obtain ⟨p0, p1, p2, p3, _⟩ := hrow4 (HA.out.below hb)
  obtain ⟨q0, q1, q2, q3, _⟩ := hrow4 (HB.out.below hb)
  replace HA := Lib.hid (HA.out.below hb)
  replace HB := Lib.hid (HB.out.below hb)
  replace HZ := Lib.hid (bstep HZ.out hb)
  have HX4 := Lib.hid hx
  clear hb hx
  cases x
  · go_wp2_with fail
    go_ret
    exact ⟨⟨false, rfl, (fun h => by cases h), fun h => absurd (HX4.out.2 (congrArg P.Mach.svcs h)) (by decide)⟩, HZ.out⟩
  go_wp2_with fail
  go_ret
  exact ⟨⟨true, rfl, fun _ => by rw [HX1.out.1 (by trivial), HX2.out.1 (by trivial), HX3.out.1 (by trivial), HX4.out.1 (by trivial)], fun _ => rfl⟩, HZ.out⟩

set_option maxRecDepth 100000 in
set_option maxHeartbeats 4000000 in
theorem rsame_any (A B : Ad) (a b : P.Mach) (hf : a.fit) (w : World) (hl : Lies w.heap.size w A a) (hm : Lies w.heap.size w B b) :
    Calls Tryz.prog 43 #[machV A a, machV B b] w fun e w' => (∃ x, e = .returned (.bool x) ∧ (x = true ↔ a = b)) ∧ Below w.heap.size w w' := by
  have HL := Lib.hid (fun W (h : Below w.heap.size w W) => (hl.below h).up h.size)
  have HM := Lib.hid (fun W (h : Below w.heap.size w W) => (hm.below h).up h.size)
  obtain ⟨a1, a2, a3, a4, c1, c2, c3, c4⟩ := A
  obtain ⟨b1, b2, b3, b4, k1, k2, k3, k4⟩ := B
  obtain ⟨F, I, S, V⟩ := a
  obtain ⟨F', I', S', V'⟩ := b
  unfold machV
  simp only
  have hlF : F.length ≤ 4294967280 := hf.l1
  have hlI : I.length ≤ 4294967280 := hf.l2
  have hlS : S.length ≤ 4294967280 := hf.l3
  have hlV : V.length ≤ 4294967280 := hf.l4
  have H1 := Lib.hid (fun W h => equalS_any F F' a1 b1 c1 k1 hlF W (HL.out W h).f (HM.out W h).f)
  have H2 := Lib.hid (fun W h => equalF_any I I' a2 b2 c2 k2 hlI W (HL.out W h).i (HM.out W h).i)
  have H3 := Lib.hid (fun W h => equalS_any S S' a3 b3 c3 k3 hlS W (HL.out W h).s (HM.out W h).s)
  have H4 := Lib.hid (fun W h => equalV_any V V' a4 b4 c4 k4 hlV W (HL.out W h).v (HM.out W h).v)
  have hA := (HasRow.new w #[.slice a1 F.length c1, .slice a2 I.length c2, .slice a3 S.length c3, .slice a4 V.length c4] 26).alloc (.cells #[.slice b1 F'.length k1, .slice b2 I'.length k2, .slice b3 S'.length k3, .slice b4 V'.length k4] 26)
  have hB := HasRow.new (w.alloc (.cells #[.slice a1 F.length c1, .slice a2 I.length c2, .slice a3 S.length c3, .slice a4 V.length c4] 26)) #[.slice b1 F'.length k1, .slice b2 I'.length k2, .slice b3 S'.length k3, .slice b4 V'.length k4] 26
  rw [World.size_alloc] at hB
  have HA := Lib.hid hA
  have HB := Lib.hid hB
  have HZ := Lib.hid (below2 w (.cells #[.slice a1 F.length c1, .slice a2 I.length c2, .slice a3 S.length c3, .slice a4 V.length c4] 26) (.cells #[.slice b1 F'.length k1, .slice b2 I'.length k2, .slice b3 S'.length k3, .slice b4 V'.length k4] 26))
  clear hA hB hl hm hf HL HM
  go_enter Tryz.func43, Tryz.ntmps43
  go_wp2_with fail
  refine (H1.out _ HZ.out).mono ?_
  rintro e w1 ⟨⟨x, rfl, hx⟩, hb⟩
  obtain ⟨p0, p1, p2, p3, _⟩ := hrow4 (HA.out.below hb)
  obtain ⟨q0, q1, q2, q3, _⟩ := hrow4 (HB.out.below hb)
  replace HA := Lib.hid (HA.out.below hb)
  replace HB := Lib.hid (HB.out.below hb)
  replace HZ := Lib.hid (bstep HZ.out hb)
  have HX1 := Lib.hid hx
  clear hb hx
  cases x
  · go_wp2_with fail
    go_ret
    exact ⟨⟨false, rfl, (fun h => by cases h), fun h => absurd (HX1.out.2 (congrArg P.Mach.facts h)) (by decide)⟩, HZ.out⟩
  go_wp2_with fail
  clear p0 p1 p2 p3 q0 q1 q2 q3
  refine (H2.out _ HZ.out).mono ?_
  rintro e w2 ⟨⟨x, rfl, hx⟩, hb⟩
  obtain ⟨p0, p1, p2, p3, _⟩ := hrow4 (HA.out.below hb)
  obtain ⟨q0, q1, q2, q3, _⟩ := hrow4 (HB.out.below hb)
  replace HA := Lib.hid (HA.out.below hb)
  replace HB := Lib.hid (HB.out.below hb)
  replace HZ := Lib.hid (bstep HZ.out hb)
  have HX2 := Lib.hid hx
  clear hb hx
  cases x
  · go_wp2_with fail
    go_ret
    exact ⟨⟨false, rfl, (fun h => by cases h), fun h => absurd (HX2.out.2 (congrArg P.Mach.files h)) (by decide)⟩, HZ.out⟩
  go_wp2_with fail
  clear p0 p1 p2 p3 q0 q1 q2 q3
  refine (H3.out _ HZ.out).mono ?_
  rintro e w3 ⟨⟨x, rfl, hx⟩, hb⟩
  obtain ⟨p0, p1, p2, p3, _⟩ := hrow4 (HA.out.below hb)
  obtain ⟨q0, q1, q2, q3, _⟩ := hrow4 (HB.out.below hb)
  replace HA := Lib.hid (HA.out.below hb)
  replace HB := Lib.hid (HB.out.below hb)
  replace HZ := Lib.hid (bstep HZ.out hb)
  have HX3 := Lib.hid hx
  clear hb hx
  cases x
  · go_wp2_with fail
    go_ret
    exact ⟨⟨false, rfl, (fun h => by cases h), fun h => absurd (HX3.out.2 (congrArg P.Mach.sets h)) (by decide)⟩, HZ.out⟩
  go_wp2_with fail
  clear p0 p1 p2 p3 q0 q1 q2 q3
  refine (H4.out _ HZ.out).mono ?_
  rintro e w4 ⟨⟨x, rfl, hx⟩, hb⟩
  obtain ⟨p0, p1, p2, p3, _⟩ := hrow4 (HA.out.below hb)
  obtain ⟨q0, q1, q2, q3, _⟩ := hrow4 (HB.out.below hb)
  replace HA := Lib.hid (HA.out.below hb)
  replace HB := Lib.hid (HB.out.below hb)
  replace HZ := Lib.hid (bstep HZ.out hb)
  have HX4 := Lib.hid hx
  clear hb hx
  cases x
  · go_wp2_with fail
    go_ret
    exact ⟨⟨false, rfl, (fun h => by cases h), fun h => absurd (HX4.out.2 (congrArg P.Mach.svcs h)) (by decide)⟩, HZ.out⟩
  go_wp2_with fail
  go_ret
  exact ⟨⟨true, rfl, fun _ => by rw [HX1.out.1 (by trivial), HX2.out.1 (by trivial), HX3.out.1 (by trivial), HX4.out.1 (by trivial)], fun _ => rfl⟩, HZ.out⟩
end Go.Proofs.YtgdpbdgaldiggaaGreatDoor
