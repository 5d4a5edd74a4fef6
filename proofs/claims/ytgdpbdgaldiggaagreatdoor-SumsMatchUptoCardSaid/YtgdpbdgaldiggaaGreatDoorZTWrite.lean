/- Walks: package disk: the lines of a machine's text. -/
/- Walks: package disk: lines: the texts of a list, one by one. -/
import Derived.Test.YtgdpbdgaldiggaaGreatDoorZTQuote
import Derived.Test.YtgdpbdgaldiggaaGreatDoorZTRPrint
import Derived.Test.YtgdpbdgaldiggaaGreatDoorZMBeside
import Derived.Test.YtgdpbdgaldiggaaGreatDoorZMWApply

namespace Go.Proofs.YtgdpbdgaldiggaaGreatDoor
open Go.RowKit Go.Lib Go.Shelf

theorem flag_any (b : Bool) (w : World) : Calls Tryz.prog 143 #[.bool b] w fun e w' => e = .returned (.string (P.txt (P.bitL b))) ∧ w = w' := by
  cases b
  all_goals
    go_enter Tryz.func143, Tryz.ntmps143
    go_wp2_with fail
    go_ret
    exact ⟨rfl, rfl⟩
/-- a line without its end -/
def lineT (w k v : ByteArray) : ByteArray := w ++ ⟨#[32]⟩ ++ k ++ ⟨#[32]⟩ ++ P.quote v
set_option maxRecDepth 100000 in
theorem writePair_any (a k v : ByteArray) (ha : a.size ≤ 10) (hk : k.size ≤ 4294967280) (hv : v.size ≤ 4294967280) (w : World) :
    Calls Tryz.prog 140 #[.string a, .string k, .string v] w fun e w' => e = .returned (.string (lineT a k v)) ∧ Below w.heap.size w w' := by
  have HQ := Lib.hid (fun W => dquote_any v hv W)
  have HE : Hid (a ++ ⟨#[32]⟩ ++ k ++ ⟨#[32]⟩ ++ P.quote v = lineT a k v) := Lib.hid rfl
  have hq := P.quote_size v
  generalize P.quote v = q at *
  have g0 : ¬ 9223372036854775807 < a.size + 1 := by omega
  have g1 : ¬ 9223372036854775807 < a.size + 1 + k.size := by omega
  have g2 : ¬ 9223372036854775807 < a.size + 1 + k.size + 1 := by omega
  have g3 : ¬ 9223372036854775807 < a.size + 1 + k.size + 1 + q.size := by omega
  go_enter Tryz.func140, Tryz.ntmps140
  go_wp2_with fail
  refine (HQ.out _).mono ?_
  rintro e w' ⟨rfl, hb⟩
  have HB := Lib.hid hb
  clear hb
  go_wp2_with fail
  go_ret
  exact ⟨by rw [← HE.out]; rfl, HB.out⟩

theorem writeFact_any (x : P.St) (hk : x.k.size ≤ 4294967280) (hv : x.v.size ≤ 4294967280) (w : World) :
    Calls Tryz.prog 80 #[.agg #[.string x.k, .string x.v]] w fun e w' => e = .returned (.string (lineT ⟨#[102, 97, 99, 116]⟩ x.k x.v)) ∧ Below w.heap.size w w' := by
  have H := Lib.hid (fun W => writePair_any ⟨#[102, 97, 99, 116]⟩ x.k x.v (by decide) hk hv W)
  generalize lineT ⟨#[102, 97, 99, 116]⟩ x.k x.v = r at *
  go_enter Tryz.func80, Tryz.ntmps80
  go_wp2_with fail
  refine (H.out _).mono ?_
  rintro e w' ⟨rfl, hb⟩
  have HB := Lib.hid (bstep (below_alloc _ _) hb)
  clear hb
  go_wp2_with fail
  go_ret
  exact ⟨rfl, HB.out⟩
theorem writeSetting_any (x : P.St) (hk : x.k.size ≤ 4294967280) (hv : x.v.size ≤ 4294967280) (w : World) :
    Calls Tryz.prog 83 #[.agg #[.string x.k, .string x.v]] w fun e w' => e = .returned (.string (lineT ⟨#[115, 101, 116]⟩ x.k x.v)) ∧ Below w.heap.size w w' := by
  have H := Lib.hid (fun W => writePair_any ⟨#[115, 101, 116]⟩ x.k x.v (by decide) hk hv W)
  generalize lineT ⟨#[115, 101, 116]⟩ x.k x.v = r at *
  go_enter Tryz.func83, Tryz.ntmps83
  go_wp2_with fail
  refine (H.out _).mono ?_
  rintro e w' ⟨rfl, hb⟩
  have HB := Lib.hid (bstep (below_alloc _ _) hb)
  clear hb
  go_wp2_with fail
  go_ret
  exact ⟨rfl, HB.out⟩
def fileW (r : Bool) : ByteArray := if r then ⟨#[114, 117, 110]⟩ else ⟨#[102, 105, 108, 101]⟩
theorem writeFile_any (x : P.Fi) (hk : x.p.size ≤ 4294967280) (hv : x.d.size ≤ 4294967280) (w : World) :
    Calls Tryz.prog 82 #[.agg #[.string x.p, .string x.d, .bool x.r]] w fun e w' => e = .returned (.string (lineT (fileW x.r) x.p x.d)) ∧ Below w.heap.size w w' := by
  have H := Lib.hid (fun a ha W => writePair_any a x.p x.d ha hk hv W)
  obtain ⟨p, d, r⟩ := x
  simp only at H ⊢
  clear hk hv
  cases r
  · have H2 := Lib.hid (fun W => H.out (fileW false) (by decide) W)
    clear H
    change Hid (∀ W, Calls _ _ #[.string ⟨#[102, 105, 108, 101]⟩, _, _] _ _) at H2
    generalize lineT (fileW false) p d = q at *
    go_enter Tryz.func82, Tryz.ntmps82
    go_wp2_with fail
    refine (H2.out _).mono ?_
    rintro e w' ⟨rfl, hb⟩
    have HB := Lib.hid (bstep (below_alloc _ _) hb)
    clear hb
    go_wp2_with fail
    go_ret
    exact ⟨rfl, HB.out⟩
  · have H2 := Lib.hid (fun W => H.out (fileW true) (by decide) W)
    clear H
    change Hid (∀ W, Calls _ _ #[.string ⟨#[114, 117, 110]⟩, _, _] _ _) at H2
    generalize lineT (fileW true) p d = q at *
    go_enter Tryz.func82, Tryz.ntmps82
    go_wp2_with fail
    refine (H2.out _).mono ?_
    rintro e w' ⟨rfl, hb⟩
    have HB := Lib.hid (bstep (below_alloc _ _) hb)
    clear hb
    go_wp2_with fail
    go_ret
    exact ⟨rfl, HB.out⟩
/-- the line of a service without its end -/
def svcT (x : P.Sv) : ByteArray := P.txt ([115, 101, 114, 118, 105, 99, 101, 32] ++ P.wordsL x)
set_option maxRecDepth 100000 in
set_option maxHeartbeats 4000000 in
theorem writeService_any (x : P.Sv) (hn : x.n.size ≤ 4294967280) (hp : x.p.size ≤ 4294967280) (w : World) :
    Calls Tryz.prog 85 #[.agg #[.string x.n, .string x.p, .bool x.a, .bool x.o]] w fun e w' => e = .returned (.string (svcT x)) ∧ Below w.heap.size w w' := by
  have HB := Lib.hid flag_any
  have HE : Hid ((⟨#[115, 101, 114, 118, 105, 99, 101, 32]⟩ : ByteArray) ++ x.n ++ ⟨#[32]⟩ ++ x.p ++ ⟨#[32]⟩ ++ P.txt (P.bitL x.a) ++ ⟨#[32]⟩ ++ P.txt (P.bitL x.o) = svcT x) := Lib.hid (P.txt_eq (by
    simp only [ByteArray.data_append, Array.toList_append, P.txt_list, P.wordsL, List.append_assoc]))
  have h1 : (P.txt (P.bitL x.a)).size ≤ 1 := by rw [P.txt_size, P.bitL_len]; exact Nat.le_refl _
  have h2 : (P.txt (P.bitL x.o)).size ≤ 1 := by rw [P.txt_size, P.bitL_len]; exact Nat.le_refl _
  obtain ⟨n, p, a, o⟩ := x
  simp only at hn hp h1 h2 HE ⊢
  have g0 : ¬ 9223372036854775807 < 8 + n.size := by omega
  have g1 : ¬ 9223372036854775807 < 8 + n.size + 1 := by omega
  have g2 : ¬ 9223372036854775807 < 8 + n.size + 1 + p.size := by omega
  have g3 : ¬ 9223372036854775807 < 8 + n.size + 1 + p.size + 1 := by omega
  have g4 : ¬ 9223372036854775807 < 8 + n.size + 1 + p.size + 1 + (P.txt (P.bitL a)).size := by omega
  have g5 : ¬ 9223372036854775807 < 8 + n.size + 1 + p.size + 1 + (P.txt (P.bitL a)).size + 1 := by omega
  have g6 : ¬ 9223372036854775807 < 8 + n.size + 1 + p.size + 1 + (P.txt (P.bitL a)).size + 1 + (P.txt (P.bitL o)).size := by omega
  have HR := HasRow.new w #[.string n, .string p, .bool a, .bool o] 46
  obtain ⟨c0, c1, c2, c3, _⟩ := hrow4 HR.drew
  have hS := And.intro c0 (And.intro c1 (And.intro c2 c3))
  clear HR c0 c1 c2 c3
  go_enter Tryz.func85, Tryz.ntmps85
  go_wp2_with fail
  go_region_held3 (fun W => W.cell? ⟨w.heap.size, 0, none⟩ = some (.string n) ∧ W.cell? ⟨w.heap.size, 1, none⟩ = some (.string p) ∧ W.cell? ⟨w.heap.size, 2, none⟩ = some (.bool a) ∧ W.cell? ⟨w.heap.size, 3, none⟩ = some (.bool o))
    (first | with_reducible assumption)
    (first | (go_at_call 143; refine (HB.out _ _).mono ?_; rintro e w' ⟨rfl, rfl⟩))
  have HZ := Lib.hid ((below_alloc w (.cells #[.string n, .string p, .bool a, .bool o] 46)).drew)
  go_wp2_with fail
  go_ret
  exact ⟨by rw [← HE.out]; rfl, HZ.out⟩
end Go.Proofs.YtgdpbdgaldiggaaGreatDoor

namespace Go.Proofs.YtgdpbdgaldiggaaGreatDoor
open Go.RowKit Go.Shelf
attribute [local go_sem] Oper.semAt_some

/-- a function on things that answers a text -/
def TextFn {α : Type} (g : Nat) (enc : α → Value) (ok : α → Prop) (f : α → ByteArray) : Prop :=
  (∀ args w, (callFunc g args).run Tryz.prog w = .ok (.enter g args) w) ∧ ∀ x, ok x → ∀ w, Calls Tryz.prog g #[enc x] w fun e w' => e = .returned (.string (f x)) ∧ Below w.heap.size w w'
theorem abides_below {β : Type} {B : Nat} {J : β → World → Prop} (h : AbidesFrom B J) {s : β} {W W' : World} (hs : J s W) (hb : Below W.heap.size W W') : J s W' := h s W W' none hs (grown_of_below hb none) (fun r e => by cases e)

set_option maxRecDepth 100000 in
set_option maxHeartbeats 4000000 in
theorem linesS1_in (ga : Nat) (ok : P.St → Prop) (f : P.St → ByteArray) (hga : TextFn ga (fun x => .agg #[.string x.k, .string x.v]) ok f) (L : List P.St) (hl : L.length ≤ 4294967280) (hok : ∀ x ∈ L, ok x) (hsz : ∀ x ∈ L, (f x).size ≤ 4294967280) (a : Option Addr) (cap : Nat)
    (n : Nat) (hn : 1 ≤ n) (l Bs Bw n₀ : Nat) (_hb1 : Bs < n₀) (hb2 : Bw < n₀) (J Jx : List ByteArray → World → Prop) (hJ : ∀ ds W W', J ds W → Below W.heap.size W W' → J ds W')
    (hY : ∀ pre (x : Txt) W, J pre W → pre.length < L.length → YieldAt Fence.wide (n - 1) Tryz.prog l #[.string x.1] W fun e W' =>
      (e = .returned (.bool true) ∧ J (pre ++ [x.1]) W' ∧ Below n₀ W W') ∨ (e = .returned (.bool false) ∧ Jx (pre ++ [x.1]) W'))
    (W : World) (hn0 : n₀ ≤ W.heap.size) (hBs : W.cell? ⟨Bs, 0, none⟩ = some (.slice a L.length cap)) (hBw : W.cell? ⟨Bw, 0, none⟩ = some (.func (.func ga) #[] #[])) (hA : StsAt n₀ W a L cap) (h0 : J [] W) :
    CallsIn Fence.wide n Tryz.prog 139 #[.func (.yield l) #[] #[], .pointer (some ⟨Bs, 0, none⟩), .pointer (some ⟨Bw, 0, none⟩)] W fun e W' => (∃ v, e = .returned v) ∧
      (J (L.map f) W' ∨ (∃ k, k ≤ L.length ∧ Jx ((L.take k).map f) W')) := by
  obtain ⟨eg, hp⟩ := hga
  refine callsIn_of_wp Tryz.func139 rfl trivial ?_ rfl
  simp only [Tryz.ntmps139, List.size_toArray, List.length_cons, List.length_nil, Nat.reduceAdd, Nat.reduceSub, Array.replicate_succ, Array.replicate_zero, List.push_toArray, List.append_toArray, List.nil_append, List.cons_append]
  gi_wp2
  gi_loopw [8] (fun i wr => ∃ k : Nat, k ≤ L.length ∧ i = .int .i64 k ∧ J ((L.take k).map f) wr ∧ Below n₀ W wr)
    (fun i _ => L.length - (intOf i).toNat)
  case atStart => exact ⟨0, Nat.zero_le _, rfl, h0, Below.refl _ _⟩
  case round =>
    obtain ⟨k, hk, rfl, hJs, hnx⟩ := hrel
    by_cases hlt : k < L.length
    · obtain ⟨b, off, rfl, hbm, hc⟩ := (hA.below hnx).at_ (ne_nil_of_lt hlt)
      obtain ⟨d0, d1⟩ := hc k hlt
      have hBwk : wr.cell? ⟨Bw, 0, none⟩ = some (.func (.func ga) #[] #[]) := (hnx.cell (p := ⟨Bw, 0, none⟩) hb2).trans hBw
      have htk : (L.take (k + 1)).map f = (L.take k).map f ++ [f L[k]] := by rw [List.take_succ_eq_append_getElem hlt, List.map_append]; rfl
      have HP := Lib.hid (fun W => hp L[k] (hok _ (List.getElem_mem hlt)) W)
      have hBlt : Bw < wr.heap.size := Nat.lt_of_lt_of_le hb2 (Nat.le_trans hn0 hnx.size)
      have hBwa : (wr.alloc (.cells #[.string L[k].k, .string L[k].v] 62)).cell? ⟨Bw, 0, none⟩ = some (.func (.func ga) #[] #[]) := cell_keep (below_alloc _ _) hBwk
      gi_wp2_with fail
      refine ⟨trivial, (callsIn_wide.2 (HP.out _)).mono ?_⟩
      rintro e W2 ⟨rfl, hb2'⟩
      have hbw := bstep (below_alloc _ _) hb2'
      obtain ⟨fn, tmps, assign, body, hy, hR⟩ := hY _ ⟨f L[k], hsz _ (List.getElem_mem hlt)⟩ W2 (hJ _ _ _ hJs hbw) (by simp; omega)
      dsimp only at hy
      gi_wp2
      refine hR.mono ?_
      rintro e W3 (⟨rfl, hJ3, hk3⟩ | ⟨rfl, hJx3⟩)
      · gi_wp2
        go_roundw
        case rel => exact ⟨k + 1, by omega, by simp, by rw [htk]; exact hJ3, (hnx.trans (hbw.mono (Nat.le_trans hn0 hnx.size))).trans hk3⟩
        case measure => simp [intOf]; omega
      · gi_wp2
        refine bodyPost_ret (results_none rfl _ _ _) rfl ?_
        exact ⟨⟨_, rfl⟩, .inr ⟨k + 1, by omega, by rw [htk]; exact hJx3⟩⟩
    · obtain rfl : k = L.length := by omega
      rw [List.take_length] at hJs
      gi_wp2
      go_end0
      exact ⟨⟨_, rfl⟩, .inl hJs⟩
theorem linesS_stops (ga : Nat) (ok : P.St → Prop) (f : P.St → ByteArray) (hga : TextFn ga (fun x => .agg #[.string x.k, .string x.v]) ok f) (L : List P.St) (hl : L.length ≤ 4294967280) (hok : ∀ x ∈ L, ok x) (hsz : ∀ x ∈ L, (f x).size ≤ 4294967280) (a : Option Addr) (cap : Nat)
    (n : Nat) (hn : 1 ≤ n) (Bs Bw n₀ : Nat) (hb1 : Bs < n₀) (hb2 : Bw < n₀) (w : World) (hn0 : n₀ ≤ w.heap.size) (hBs : w.cell? ⟨Bs, 0, none⟩ = some (.slice a L.length cap)) (hBw : w.cell? ⟨Bw, 0, none⟩ = some (.func (.func ga) #[] #[])) (hA : StsAt n₀ w a L cap) :
    SeqStopsK Fence.wide n Tryz.prog 139 #[.pointer (some ⟨Bs, 0, none⟩), .pointer (some ⟨Bw, 0, none⟩)] (fun x : Txt => #[Value.string x.1]) (Below n₀) (fun ys => ys.map (·.1) = L.map f) (fun pre => ∃ k, k ≤ (L.map f).length ∧ pre.map (·.1) = (L.map f).take k) L.length w := fun l J Jx W hW hJa _ hY h0 => by
  have hb := hW.mono hn0
  refine (linesS1_in ga ok f hga L hl hok hsz a cap n hn l Bs Bw n₀ hb1 hb2 (fun ds W => ∃ xs : List Txt, xs.map (·.1) = ds ∧ J xs W) (fun ds W => ∃ xs : List Txt, xs.map (·.1) = ds ∧ Jx xs W) ?_ ?_ W (Nat.le_trans hn0 hW.size) ((hb.cell (p := ⟨Bs, 0, none⟩) hb1).trans hBs) ((hb.cell (p := ⟨Bw, 0, none⟩) hb2).trans hBw) (hA.below hb) ⟨[], rfl, h0⟩).mono ?_
  · rintro ds W1 W2 ⟨xs, h1, h2⟩ hb'
    exact ⟨xs, h1, abides_below hJa h2 hb'⟩
  · rintro pre x W1 ⟨xs, rfl, hJ⟩ hlt
    refine (hY xs x W1 hJ (by simpa using hlt)).mono ?_
    rintro e W' (⟨he, hj, hb⟩ | ⟨he, hj⟩)
    · exact .inl ⟨he, ⟨xs ++ [x], by simp, hj⟩, hb⟩
    · exact .inr ⟨he, ⟨xs ++ [x], by simp, hj⟩⟩
  · rintro e W' ⟨hv, ⟨xs, h1, hj⟩ | ⟨k, hk, xs, h1, hj⟩⟩
    · exact ⟨hv, .inl ⟨xs, h1, hj⟩⟩
    · exact ⟨hv, .inr ⟨xs, ⟨k, by simpa using hk, by rw [h1, List.map_take]⟩, hj⟩⟩
theorem linesS_any (a : Option Addr) (k cap ga : Nat) (w : World) :
    Calls Tryz.prog 79 #[.slice a k cap, .func (.func ga) #[] #[]] w fun e w' => e = .returned (.func (.func 139) #[] #[.pointer (some ⟨w.heap.size, 0, none⟩), .pointer (some ⟨w.heap.size + 1, 0, none⟩)]) ∧ w' = (w.alloc (.cells #[.slice a k cap] 22)).alloc (.cells #[.func (.func ga) #[] #[]] 96) := by
  go_enter Tryz.func79, Tryz.ntmps79
  go_wp2_with fail
  go_ret
  exact ⟨rfl, rfl⟩

set_option maxRecDepth 100000 in
set_option maxHeartbeats 4000000 in
theorem linesF1_in (ga : Nat) (ok : P.Fi → Prop) (f : P.Fi → ByteArray) (hga : TextFn ga (fun x => .agg #[.string x.p, .string x.d, .bool x.r]) ok f) (L : List P.Fi) (hl : L.length ≤ 4294967280) (hok : ∀ x ∈ L, ok x) (hsz : ∀ x ∈ L, (f x).size ≤ 4294967280) (a : Option Addr) (cap : Nat)
    (n : Nat) (hn : 1 ≤ n) (l Bs Bw n₀ : Nat) (_hb1 : Bs < n₀) (hb2 : Bw < n₀) (J Jx : List ByteArray → World → Prop) (hJ : ∀ ds W W', J ds W → Below W.heap.size W W' → J ds W')
    (hY : ∀ pre (x : Txt) W, J pre W → pre.length < L.length → YieldAt Fence.wide (n - 1) Tryz.prog l #[.string x.1] W fun e W' =>
      (e = .returned (.bool true) ∧ J (pre ++ [x.1]) W' ∧ Below n₀ W W') ∨ (e = .returned (.bool false) ∧ Jx (pre ++ [x.1]) W'))
    (W : World) (hn0 : n₀ ≤ W.heap.size) (hBs : W.cell? ⟨Bs, 0, none⟩ = some (.slice a L.length cap)) (hBw : W.cell? ⟨Bw, 0, none⟩ = some (.func (.func ga) #[] #[])) (hA : FisAt n₀ W a L cap) (h0 : J [] W) :
    CallsIn Fence.wide n Tryz.prog 141 #[.func (.yield l) #[] #[], .pointer (some ⟨Bs, 0, none⟩), .pointer (some ⟨Bw, 0, none⟩)] W fun e W' => (∃ v, e = .returned v) ∧
      (J (L.map f) W' ∨ (∃ k, k ≤ L.length ∧ Jx ((L.take k).map f) W')) := by
  obtain ⟨eg, hp⟩ := hga
  refine callsIn_of_wp Tryz.func141 rfl trivial ?_ rfl
  simp only [Tryz.ntmps141, List.size_toArray, List.length_cons, List.length_nil, Nat.reduceAdd, Nat.reduceSub, Array.replicate_succ, Array.replicate_zero, List.push_toArray, List.append_toArray, List.nil_append, List.cons_append]
  gi_wp2
  gi_loopw [8] (fun i wr => ∃ k : Nat, k ≤ L.length ∧ i = .int .i64 k ∧ J ((L.take k).map f) wr ∧ Below n₀ W wr)
    (fun i _ => L.length - (intOf i).toNat)
  case atStart => exact ⟨0, Nat.zero_le _, rfl, h0, Below.refl _ _⟩
  case round =>
    obtain ⟨k, hk, rfl, hJs, hnx⟩ := hrel
    by_cases hlt : k < L.length
    · obtain ⟨b, off, rfl, hbm, hc⟩ := (hA.below hnx).at_ (ne_nil_of_lt hlt)
      obtain ⟨d0, d1, d2⟩ := hc k hlt
      have hBwk : wr.cell? ⟨Bw, 0, none⟩ = some (.func (.func ga) #[] #[]) := (hnx.cell (p := ⟨Bw, 0, none⟩) hb2).trans hBw
      have htk : (L.take (k + 1)).map f = (L.take k).map f ++ [f L[k]] := by rw [List.take_succ_eq_append_getElem hlt, List.map_append]; rfl
      have HP := Lib.hid (fun W => hp L[k] (hok _ (List.getElem_mem hlt)) W)
      have hBlt : Bw < wr.heap.size := Nat.lt_of_lt_of_le hb2 (Nat.le_trans hn0 hnx.size)
      have hBwa : (wr.alloc (.cells #[.string L[k].p, .string L[k].d, .bool L[k].r] 42)).cell? ⟨Bw, 0, none⟩ = some (.func (.func ga) #[] #[]) := cell_keep (below_alloc _ _) hBwk
      gi_wp2_with fail
      refine ⟨trivial, (callsIn_wide.2 (HP.out _)).mono ?_⟩
      rintro e W2 ⟨rfl, hb2'⟩
      have hbw := bstep (below_alloc _ _) hb2'
      obtain ⟨fn, tmps, assign, body, hy, hR⟩ := hY _ ⟨f L[k], hsz _ (List.getElem_mem hlt)⟩ W2 (hJ _ _ _ hJs hbw) (by simp; omega)
      dsimp only at hy
      gi_wp2
      refine hR.mono ?_
      rintro e W3 (⟨rfl, hJ3, hk3⟩ | ⟨rfl, hJx3⟩)
      · gi_wp2
        go_roundw
        case rel => exact ⟨k + 1, by omega, by simp, by rw [htk]; exact hJ3, (hnx.trans (hbw.mono (Nat.le_trans hn0 hnx.size))).trans hk3⟩
        case measure => simp [intOf]; omega
      · gi_wp2
        refine bodyPost_ret (results_none rfl _ _ _) rfl ?_
        exact ⟨⟨_, rfl⟩, .inr ⟨k + 1, by omega, by rw [htk]; exact hJx3⟩⟩
    · obtain rfl : k = L.length := by omega
      rw [List.take_length] at hJs
      gi_wp2
      go_end0
      exact ⟨⟨_, rfl⟩, .inl hJs⟩
theorem linesF_stops (ga : Nat) (ok : P.Fi → Prop) (f : P.Fi → ByteArray) (hga : TextFn ga (fun x => .agg #[.string x.p, .string x.d, .bool x.r]) ok f) (L : List P.Fi) (hl : L.length ≤ 4294967280) (hok : ∀ x ∈ L, ok x) (hsz : ∀ x ∈ L, (f x).size ≤ 4294967280) (a : Option Addr) (cap : Nat)
    (n : Nat) (hn : 1 ≤ n) (Bs Bw n₀ : Nat) (hb1 : Bs < n₀) (hb2 : Bw < n₀) (w : World) (hn0 : n₀ ≤ w.heap.size) (hBs : w.cell? ⟨Bs, 0, none⟩ = some (.slice a L.length cap)) (hBw : w.cell? ⟨Bw, 0, none⟩ = some (.func (.func ga) #[] #[])) (hA : FisAt n₀ w a L cap) :
    SeqStopsK Fence.wide n Tryz.prog 141 #[.pointer (some ⟨Bs, 0, none⟩), .pointer (some ⟨Bw, 0, none⟩)] (fun x : Txt => #[Value.string x.1]) (Below n₀) (fun ys => ys.map (·.1) = L.map f) (fun pre => ∃ k, k ≤ (L.map f).length ∧ pre.map (·.1) = (L.map f).take k) L.length w := fun l J Jx W hW hJa _ hY h0 => by
  have hb := hW.mono hn0
  refine (linesF1_in ga ok f hga L hl hok hsz a cap n hn l Bs Bw n₀ hb1 hb2 (fun ds W => ∃ xs : List Txt, xs.map (·.1) = ds ∧ J xs W) (fun ds W => ∃ xs : List Txt, xs.map (·.1) = ds ∧ Jx xs W) ?_ ?_ W (Nat.le_trans hn0 hW.size) ((hb.cell (p := ⟨Bs, 0, none⟩) hb1).trans hBs) ((hb.cell (p := ⟨Bw, 0, none⟩) hb2).trans hBw) (hA.below hb) ⟨[], rfl, h0⟩).mono ?_
  · rintro ds W1 W2 ⟨xs, h1, h2⟩ hb'
    exact ⟨xs, h1, abides_below hJa h2 hb'⟩
  · rintro pre x W1 ⟨xs, rfl, hJ⟩ hlt
    refine (hY xs x W1 hJ (by simpa using hlt)).mono ?_
    rintro e W' (⟨he, hj, hb⟩ | ⟨he, hj⟩)
    · exact .inl ⟨he, ⟨xs ++ [x], by simp, hj⟩, hb⟩
    · exact .inr ⟨he, ⟨xs ++ [x], by simp, hj⟩⟩
  · rintro e W' ⟨hv, ⟨xs, h1, hj⟩ | ⟨k, hk, xs, h1, hj⟩⟩
    · exact ⟨hv, .inl ⟨xs, h1, hj⟩⟩
    · exact ⟨hv, .inr ⟨xs, ⟨k, by simpa using hk, by rw [h1, List.map_take]⟩, hj⟩⟩
theorem linesF_any (a : Option Addr) (k cap ga : Nat) (w : World) :
    Calls Tryz.prog 81 #[.slice a k cap, .func (.func ga) #[] #[]] w fun e w' => e = .returned (.func (.func 141) #[] #[.pointer (some ⟨w.heap.size, 0, none⟩), .pointer (some ⟨w.heap.size + 1, 0, none⟩)]) ∧ w' = (w.alloc (.cells #[.slice a k cap] 23)).alloc (.cells #[.func (.func ga) #[] #[]] 98) := by
  go_enter Tryz.func81, Tryz.ntmps81
  go_wp2_with fail
  go_ret
  exact ⟨rfl, rfl⟩

set_option maxRecDepth 100000 in
set_option maxHeartbeats 4000000 in
theorem linesV1_in (ga : Nat) (ok : P.Sv → Prop) (f : P.Sv → ByteArray) (hga : TextFn ga (fun x => .agg #[.string x.n, .string x.p, .bool x.a, .bool x.o]) ok f) (L : List P.Sv) (hl : L.length ≤ 4294967280) (hok : ∀ x ∈ L, ok x) (hsz : ∀ x ∈ L, (f x).size ≤ 4294967280) (a : Option Addr) (cap : Nat)
    (n : Nat) (hn : 1 ≤ n) (l Bs Bw n₀ : Nat) (_hb1 : Bs < n₀) (hb2 : Bw < n₀) (J Jx : List ByteArray → World → Prop) (hJ : ∀ ds W W', J ds W → Below W.heap.size W W' → J ds W')
    (hY : ∀ pre (x : Txt) W, J pre W → pre.length < L.length → YieldAt Fence.wide (n - 1) Tryz.prog l #[.string x.1] W fun e W' =>
      (e = .returned (.bool true) ∧ J (pre ++ [x.1]) W' ∧ Below n₀ W W') ∨ (e = .returned (.bool false) ∧ Jx (pre ++ [x.1]) W'))
    (W : World) (hn0 : n₀ ≤ W.heap.size) (hBs : W.cell? ⟨Bs, 0, none⟩ = some (.slice a L.length cap)) (hBw : W.cell? ⟨Bw, 0, none⟩ = some (.func (.func ga) #[] #[])) (hA : SvsAt n₀ W a L cap) (h0 : J [] W) :
    CallsIn Fence.wide n Tryz.prog 142 #[.func (.yield l) #[] #[], .pointer (some ⟨Bs, 0, none⟩), .pointer (some ⟨Bw, 0, none⟩)] W fun e W' => (∃ v, e = .returned v) ∧
      (J (L.map f) W' ∨ (∃ k, k ≤ L.length ∧ Jx ((L.take k).map f) W')) := by
  obtain ⟨eg, hp⟩ := hga
  refine callsIn_of_wp Tryz.func142 rfl trivial ?_ rfl
  simp only [Tryz.ntmps142, List.size_toArray, List.length_cons, List.length_nil, Nat.reduceAdd, Nat.reduceSub, Array.replicate_succ, Array.replicate_zero, List.push_toArray, List.append_toArray, List.nil_append, List.cons_append]
  gi_wp2
  gi_loopw [8] (fun i wr => ∃ k : Nat, k ≤ L.length ∧ i = .int .i64 k ∧ J ((L.take k).map f) wr ∧ Below n₀ W wr)
    (fun i _ => L.length - (intOf i).toNat)
  case atStart => exact ⟨0, Nat.zero_le _, rfl, h0, Below.refl _ _⟩
  case round =>
    obtain ⟨k, hk, rfl, hJs, hnx⟩ := hrel
    by_cases hlt : k < L.length
    · obtain ⟨b, off, rfl, hbm, hc⟩ := (hA.below hnx).at_ (ne_nil_of_lt hlt)
      obtain ⟨d0, d1, d2, d3⟩ := hc k hlt
      have hBwk : wr.cell? ⟨Bw, 0, none⟩ = some (.func (.func ga) #[] #[]) := (hnx.cell (p := ⟨Bw, 0, none⟩) hb2).trans hBw
      have htk : (L.take (k + 1)).map f = (L.take k).map f ++ [f L[k]] := by rw [List.take_succ_eq_append_getElem hlt, List.map_append]; rfl
      have HP := Lib.hid (fun W => hp L[k] (hok _ (List.getElem_mem hlt)) W)
      have hBlt : Bw < wr.heap.size := Nat.lt_of_lt_of_le hb2 (Nat.le_trans hn0 hnx.size)
      have hBwa : (wr.alloc (.cells #[.string L[k].n, .string L[k].p, .bool L[k].a, .bool L[k].o] 46)).cell? ⟨Bw, 0, none⟩ = some (.func (.func ga) #[] #[]) := cell_keep (below_alloc _ _) hBwk
      gi_wp2_with fail
      refine ⟨trivial, (callsIn_wide.2 (HP.out _)).mono ?_⟩
      rintro e W2 ⟨rfl, hb2'⟩
      have hbw := bstep (below_alloc _ _) hb2'
      obtain ⟨fn, tmps, assign, body, hy, hR⟩ := hY _ ⟨f L[k], hsz _ (List.getElem_mem hlt)⟩ W2 (hJ _ _ _ hJs hbw) (by simp; omega)
      dsimp only at hy
      gi_wp2
      refine hR.mono ?_
      rintro e W3 (⟨rfl, hJ3, hk3⟩ | ⟨rfl, hJx3⟩)
      · gi_wp2
        go_roundw
        case rel => exact ⟨k + 1, by omega, by simp, by rw [htk]; exact hJ3, (hnx.trans (hbw.mono (Nat.le_trans hn0 hnx.size))).trans hk3⟩
        case measure => simp [intOf]; omega
      · gi_wp2
        refine bodyPost_ret (results_none rfl _ _ _) rfl ?_
        exact ⟨⟨_, rfl⟩, .inr ⟨k + 1, by omega, by rw [htk]; exact hJx3⟩⟩
    · obtain rfl : k = L.length := by omega
      rw [List.take_length] at hJs
      gi_wp2
      go_end0
      exact ⟨⟨_, rfl⟩, .inl hJs⟩
theorem linesV_stops (ga : Nat) (ok : P.Sv → Prop) (f : P.Sv → ByteArray) (hga : TextFn ga (fun x => .agg #[.string x.n, .string x.p, .bool x.a, .bool x.o]) ok f) (L : List P.Sv) (hl : L.length ≤ 4294967280) (hok : ∀ x ∈ L, ok x) (hsz : ∀ x ∈ L, (f x).size ≤ 4294967280) (a : Option Addr) (cap : Nat)
    (n : Nat) (hn : 1 ≤ n) (Bs Bw n₀ : Nat) (hb1 : Bs < n₀) (hb2 : Bw < n₀) (w : World) (hn0 : n₀ ≤ w.heap.size) (hBs : w.cell? ⟨Bs, 0, none⟩ = some (.slice a L.length cap)) (hBw : w.cell? ⟨Bw, 0, none⟩ = some (.func (.func ga) #[] #[])) (hA : SvsAt n₀ w a L cap) :
    SeqStopsK Fence.wide n Tryz.prog 142 #[.pointer (some ⟨Bs, 0, none⟩), .pointer (some ⟨Bw, 0, none⟩)] (fun x : Txt => #[Value.string x.1]) (Below n₀) (fun ys => ys.map (·.1) = L.map f) (fun pre => ∃ k, k ≤ (L.map f).length ∧ pre.map (·.1) = (L.map f).take k) L.length w := fun l J Jx W hW hJa _ hY h0 => by
  have hb := hW.mono hn0
  refine (linesV1_in ga ok f hga L hl hok hsz a cap n hn l Bs Bw n₀ hb1 hb2 (fun ds W => ∃ xs : List Txt, xs.map (·.1) = ds ∧ J xs W) (fun ds W => ∃ xs : List Txt, xs.map (·.1) = ds ∧ Jx xs W) ?_ ?_ W (Nat.le_trans hn0 hW.size) ((hb.cell (p := ⟨Bs, 0, none⟩) hb1).trans hBs) ((hb.cell (p := ⟨Bw, 0, none⟩) hb2).trans hBw) (hA.below hb) ⟨[], rfl, h0⟩).mono ?_
  · rintro ds W1 W2 ⟨xs, h1, h2⟩ hb'
    exact ⟨xs, h1, abides_below hJa h2 hb'⟩
  · rintro pre x W1 ⟨xs, rfl, hJ⟩ hlt
    refine (hY xs x W1 hJ (by simpa using hlt)).mono ?_
    rintro e W' (⟨he, hj, hb⟩ | ⟨he, hj⟩)
    · exact .inl ⟨he, ⟨xs ++ [x], by simp, hj⟩, hb⟩
    · exact .inr ⟨he, ⟨xs ++ [x], by simp, hj⟩⟩
  · rintro e W' ⟨hv, ⟨xs, h1, hj⟩ | ⟨k, hk, xs, h1, hj⟩⟩
    · exact ⟨hv, .inl ⟨xs, h1, hj⟩⟩
    · exact ⟨hv, .inr ⟨xs, ⟨k, by simpa using hk, by rw [h1, List.map_take]⟩, hj⟩⟩
theorem linesV_any (a : Option Addr) (k cap ga : Nat) (w : World) :
    Calls Tryz.prog 84 #[.slice a k cap, .func (.func ga) #[] #[]] w fun e w' => e = .returned (.func (.func 142) #[] #[.pointer (some ⟨w.heap.size, 0, none⟩), .pointer (some ⟨w.heap.size + 1, 0, none⟩)]) ∧ w' = (w.alloc (.cells #[.slice a k cap] 24)).alloc (.cells #[.func (.func ga) #[] #[]] 101) := by
  go_enter Tryz.func84, Tryz.ntmps84
  go_wp2_with fail
  go_ret
  exact ⟨rfl, rfl⟩
end Go.Proofs.YtgdpbdgaldiggaaGreatDoor
