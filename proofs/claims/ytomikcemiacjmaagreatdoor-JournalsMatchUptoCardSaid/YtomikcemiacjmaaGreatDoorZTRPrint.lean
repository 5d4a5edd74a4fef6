/- Walks: package outref1: Print. -/
/- Walks: package disk: the lines of a machine's text. -/
/- Walks: package disk: lines: the texts of a list, one by one. -/
/- Walks: disk's writePut, writeChange. -/
/- Walks: package disk: join at four lists of lines. -/
/- Walks: package disk: Print of a right machine. -/
/- Plain: a right change is small; its text. -/
/- Walks: package disk: lines of changes. -/
/- Walks: package disk: join at one list of lines. -/
import Derived.Test.YtomikcemiacjmaaGreatDoorZTQuote
import Derived.Test.YtomikcemiacjmaaGreatDoorZMWMach
import Derived.Deep.RegionWith
import Derived.Test.YtomikcemiacjmaaGreatDoorZMBeside
import Derived.Test.YtomikcemiacjmaaGreatDoorZGPure
import Derived.Test.YtomikcemiacjmaaGreatDoorZMWFit
import Derived.LoopNIn
import Derived.Lib.BufferRead

namespace Go.Proofs.YtomikcemiacjmaaGreatDoor
open Go.RowKit Go.Lib Go.Shelf

theorem bit_any (b : Bool) (w : World) : Calls Tryz.prog 229 #[.bool b] w fun e w' => e = .returned (.string (P.txt (P.bitL b))) ∧ w = w' := by
  cases b
  all_goals
    go_enter Tryz.func229, Tryz.ntmps229
    go_wp2_with fail
    go_ret
    exact ⟨rfl, rfl⟩
namespace P
theorem quote_size (s : ByteArray) : (quote s).size ≤ 4 * s.size + 2 := by
  unfold quote; rw [txt_size]; have := quoteL_le s.data.toList; rw [size_len] at this; exact this
def wordsL (x : Sv) : B := x.n.data.toList ++ [32] ++ x.p.data.toList ++ [32] ++ bitL x.a ++ [32] ++ bitL x.o
end P
set_option maxRecDepth 100000 in
set_option maxHeartbeats 4000000 in
theorem serviceWords_any (x : P.Sv) (hn : x.n.size ≤ 4294967280) (hp : x.p.size ≤ 4294967280) (w : World) :
    Calls Tryz.prog 145 #[.agg #[.string x.n, .string x.p, .bool x.a, .bool x.o]] w fun e w' => e = .returned (.string (P.txt (P.wordsL x))) ∧ Below w.heap.size w w' := by
  have HB := Lib.hid bit_any
  have HE : Hid (x.n ++ ⟨#[32]⟩ ++ x.p ++ ⟨#[32]⟩ ++ P.txt (P.bitL x.a) ++ ⟨#[32]⟩ ++ P.txt (P.bitL x.o) = P.txt (P.wordsL x)) := Lib.hid (P.txt_eq (by
    simp only [ByteArray.data_append, Array.toList_append, P.txt_list]; rfl))
  have h1 : (P.txt (P.bitL x.a)).size ≤ 1 := by rw [P.txt_size, P.bitL_len]; exact Nat.le_refl _
  have h2 : (P.txt (P.bitL x.o)).size ≤ 1 := by rw [P.txt_size, P.bitL_len]; exact Nat.le_refl _
  obtain ⟨n, p, a, o⟩ := x
  simp only at hn hp h1 h2 HE ⊢
  have HB1 := Lib.hid (HB.out a)
  have HB2 := Lib.hid (HB.out o)
  have g1 : ¬ 9223372036854775807 < n.size + 1 := by omega
  have g2 : ¬ 9223372036854775807 < n.size + 1 + p.size := by omega
  have g3 : ¬ 9223372036854775807 < n.size + 1 + p.size + 1 := by omega
  have g4 : ¬ 9223372036854775807 < n.size + 1 + p.size + 1 + (P.txt (P.bitL a)).size := by omega
  have g5 : ¬ 9223372036854775807 < n.size + 1 + p.size + 1 + (P.txt (P.bitL a)).size + 1 := by omega
  have g6 : ¬ 9223372036854775807 < n.size + 1 + p.size + 1 + (P.txt (P.bitL a)).size + 1 + (P.txt (P.bitL o)).size := by omega
  have HR := HasRow.new w #[.string n, .string p, .bool a, .bool o] 46
  obtain ⟨c0, c1, c2, c3, _⟩ := hrow4 HR.drew
  have hS := And.intro c0 (And.intro c1 (And.intro c2 c3))
  clear HR c0 c1 c2 c3
  go_enter Tryz.func145, Tryz.ntmps145
  go_wp2_with fail
  go_region_held3 (fun W => W.cell? ⟨w.heap.size, 0, none⟩ = some (.string n) ∧ W.cell? ⟨w.heap.size, 1, none⟩ = some (.string p) ∧ W.cell? ⟨w.heap.size, 2, none⟩ = some (.bool a) ∧ W.cell? ⟨w.heap.size, 3, none⟩ = some (.bool o))
    (first | with_reducible assumption)
    (first | (go_at_call 229; refine (HB.out _ _).mono ?_; rintro e w' ⟨rfl, rfl⟩))
  have HZ := Lib.hid ((below_alloc w (.cells #[.string n, .string p, .bool a, .bool o] 46)).drew)
  go_wp2_with fail
  go_ret
  exact ⟨by rw [← HE.out]; rfl, HZ.out⟩

theorem HasRow.low {B : Nat} {W W' : World} {k : Nat} {vs : Array Value} (h : HasRow W k vs) (hb : Below B W W') (hk : k < B) : HasRow W' k vs :=
  ⟨fun i => by rw [hb.cell (p := ⟨k, i, none⟩) hk]; exact h.cell i, fun i => by rw [hb.frozen (p := ⟨k, i, none⟩) hk]; exact h.free i, Nat.lt_of_lt_of_le h.lt hb.size⟩
theorem Bld.alloc {B b : Nat} {l : List UInt8} {W : World} (h : Bld B b l W) (o : Obj) : Bld B b l (W.alloc o) := by
  have hb := below_alloc W o
  have hlt := h.lt
  rcases h with ⟨h1, v, h2, h3, h4⟩ | ⟨h1, v, h2, h3, h4⟩
  · exact .inl ⟨h1, v, (hb.block _ hlt).trans h2, own_below h3 hb, h4⟩
  · exact .inr ⟨h1, v, (hb.block _ hlt).trans h2, own_below h3 hb, h4⟩
theorem Bld.below {B b : Nat} {l : List UInt8} {W W' : World} (h : Bld B b l W) (hb : Below W.heap.size W W') : Bld B b l W' := by
  have hlt := h.lt
  rcases h with ⟨h1, v, h2, h3, h4⟩ | ⟨h1, v, h2, h3, h4⟩
  · exact .inl ⟨h1, v, (hb.block _ hlt).trans h2, own_below h3 hb, h4⟩
  · exact .inr ⟨h1, v, (hb.block _ hlt).trans h2, own_below h3 hb, h4⟩
/-- the state of Print: the machine's box, the builder behind it -/
structure PSt (w W : World) (r : Array Value) (l : P.B) : Prop where
  m : HasRow W w.heap.size r
  o : Bld (w.heap.size + 1) (w.heap.size + 1) l W
  b : Below w.heap.size w W
theorem PSt.alloc {w W : World} {r : Array Value} {l : P.B} (h : PSt w W r l) (o : Obj) : PSt w (W.alloc o) r l := ⟨h.m.alloc o, h.o.alloc o, bstep h.b (below_alloc W o)⟩
theorem PSt.drew {w W : World} {r : Array Value} {l : P.B} (h : PSt w W r l) : PSt w W.drew r l := ⟨h.m.drew, h.o.drew, h.b.drew⟩
theorem PSt.below {w W W' : World} {r : Array Value} {l : P.B} (h : PSt w W r l) (hb : Below W.heap.size W W') : PSt w W' r l := ⟨h.m.below hb, h.o.below hb, bstep h.b hb⟩
theorem PSt.wrote {w W W' : World} {r : Array Value} {l l' : P.B} (h : PSt w W r l) (hb : Below (w.heap.size + 1) W W') (ho : Bld (w.heap.size + 1) (w.heap.size + 1) l' W') : PSt w W' r l' := ⟨h.m.low hb (Nat.lt_succ_self _), ho, h.b.trans (hb.mono (Nat.le_succ _))⟩

end Go.Proofs.YtomikcemiacjmaaGreatDoor

namespace Go.Proofs.YtomikcemiacjmaaGreatDoor
open Go.RowKit Go.Lib Go.Shelf

theorem flag_any (b : Bool) (w : World) : Calls Tryz.prog 195 #[.bool b] w fun e w' => e = .returned (.string (P.txt (P.bitL b))) ∧ w = w' := by
  cases b
  all_goals
    go_enter Tryz.func195, Tryz.ntmps195
    go_wp2_with fail
    go_ret
    exact ⟨rfl, rfl⟩
/-- a line without its end -/
def lineT (w k v : ByteArray) : ByteArray := w ++ ⟨#[32]⟩ ++ k ++ ⟨#[32]⟩ ++ P.quote v
set_option maxRecDepth 100000 in
theorem writePair_any (a k v : ByteArray) (ha : a.size ≤ 10) (hk : k.size ≤ 4294967280) (hv : v.size ≤ 4294967280) (w : World) :
    Calls Tryz.prog 192 #[.string a, .string k, .string v] w fun e w' => e = .returned (.string (lineT a k v)) ∧ Below w.heap.size w w' := by
  have HQ := Lib.hid (fun W => dquote_any v hv W)
  have HE : Hid (a ++ ⟨#[32]⟩ ++ k ++ ⟨#[32]⟩ ++ P.quote v = lineT a k v) := Lib.hid rfl
  have hq := P.quote_size v
  generalize P.quote v = q at *
  have g0 : ¬ 9223372036854775807 < a.size + 1 := by omega
  have g1 : ¬ 9223372036854775807 < a.size + 1 + k.size := by omega
  have g2 : ¬ 9223372036854775807 < a.size + 1 + k.size + 1 := by omega
  have g3 : ¬ 9223372036854775807 < a.size + 1 + k.size + 1 + q.size := by omega
  go_enter Tryz.func192, Tryz.ntmps192
  go_wp2_with fail
  refine (HQ.out _).mono ?_
  rintro e w' ⟨rfl, hb⟩
  have HB := Lib.hid hb
  clear hb
  go_wp2_with fail
  go_ret
  exact ⟨by rw [← HE.out]; rfl, HB.out⟩

theorem writeSetting_any (x : P.St) (hk : x.k.size ≤ 4294967280) (hv : x.v.size ≤ 4294967280) (w : World) :
    Calls Tryz.prog 111 #[.agg #[.string x.k, .string x.v]] w fun e w' => e = .returned (.string (lineT ⟨#[115, 101, 116]⟩ x.k x.v)) ∧ Below w.heap.size w w' := by
  have H := Lib.hid (fun W => writePair_any ⟨#[115, 101, 116]⟩ x.k x.v (by decide) hk hv W)
  generalize lineT ⟨#[115, 101, 116]⟩ x.k x.v = r at *
  go_enter Tryz.func111, Tryz.ntmps111
  go_wp2_with fail
  refine (H.out _).mono ?_
  rintro e w' ⟨rfl, hb⟩
  have HB := Lib.hid (bstep (below_alloc _ _) hb)
  clear hb
  go_wp2_with fail
  go_ret
  exact ⟨rfl, HB.out⟩
/-- the line of a service without its end -/
def svcT (x : P.Sv) : ByteArray := P.txt ([115, 101, 114, 118, 105, 99, 101, 32] ++ P.wordsL x)
set_option maxRecDepth 100000 in
set_option maxHeartbeats 4000000 in
theorem writeService_any (x : P.Sv) (hn : x.n.size ≤ 4294967280) (hp : x.p.size ≤ 4294967280) (w : World) :
    Calls Tryz.prog 113 #[.agg #[.string x.n, .string x.p, .bool x.a, .bool x.o]] w fun e w' => e = .returned (.string (svcT x)) ∧ Below w.heap.size w w' := by
  have HB := Lib.hid flag_any
  have HE : Hid ((⟨#[115, 101, 114, 118, 105, 99, 101, 32]⟩ : ByteArray) ++ x.n ++ ⟨#[32]⟩ ++ x.p ++ ⟨#[32]⟩ ++ P.txt (P.bitL x.a) ++ ⟨#[32]⟩ ++ P.txt (P.bitL x.o) = svcT x) := Lib.hid (P.txt_eq (by
    simp only [ByteArray.data_append, Array.toList_append, P.txt_list, P.wordsL, List.append_assoc]))
  have h1 : (P.txt (P.bitL x.a)).size ≤ 1 := by rw [P.txt_size, P.bitL_len]; exact Nat.le_refl _
  have h2 : (P.txt (P.bitL x.o)).size ≤ 1 := by rw [P.txt_size, P.bitL_len]; exact Nat.le_refl _
  obtain ⟨n, p, a, o⟩ := x
  simp only at hn hp h1 h2 HE ⊢
  have g0 : ¬ 9223372036854775807 < 8 + n.size := by omega
  have g1 : ¬ 9223372036854775807 < 8 + n.size + 1 := by omega
  have g2 : ¬ 9223372036854775807 < 8 + n.size + 1 + p.size := by omega
  have g3 : ¬ 9223372036854775807 < 8 + n.size + 1 + p.size + 1 := by omega
  have g4 : ¬ 9223372036854775807 < 8 + n.size + 1 + p.size + 1 + (P.txt (P.bitL a)).size := by omega
  have g5 : ¬ 9223372036854775807 < 8 + n.size + 1 + p.size + 1 + (P.txt (P.bitL a)).size + 1 := by omega
  have g6 : ¬ 9223372036854775807 < 8 + n.size + 1 + p.size + 1 + (P.txt (P.bitL a)).size + 1 + (P.txt (P.bitL o)).size := by omega
  have HR := HasRow.new w #[.string n, .string p, .bool a, .bool o] 46
  obtain ⟨c0, c1, c2, c3, _⟩ := hrow4 HR.drew
  have hS := And.intro c0 (And.intro c1 (And.intro c2 c3))
  clear HR c0 c1 c2 c3
  go_enter Tryz.func113, Tryz.ntmps113
  go_wp2_with fail
  go_region_held3 (fun W => W.cell? ⟨w.heap.size, 0, none⟩ = some (.string n) ∧ W.cell? ⟨w.heap.size, 1, none⟩ = some (.string p) ∧ W.cell? ⟨w.heap.size, 2, none⟩ = some (.bool a) ∧ W.cell? ⟨w.heap.size, 3, none⟩ = some (.bool o))
    (first | with_reducible assumption)
    (first | (go_at_call 195; refine (HB.out _ _).mono ?_; rintro e w' ⟨rfl, rfl⟩))
  have HZ := Lib.hid ((below_alloc w (.cells #[.string n, .string p, .bool a, .bool o] 46)).drew)
  go_wp2_with fail
  go_ret
  exact ⟨by rw [← HE.out]; rfl, HZ.out⟩
end Go.Proofs.YtomikcemiacjmaaGreatDoor

namespace Go.Proofs.YtomikcemiacjmaaGreatDoor
open Go.RowKit Go.Shelf
attribute [local go_sem] Oper.semAt_some

/-- a function on things that answers a text -/
def TextFn {α : Type} (g : Nat) (enc : α → Value) (ok : α → Prop) (f : α → ByteArray) : Prop :=
  (∀ args w, (callFunc g args).run Tryz.prog w = .ok (.enter g args) w) ∧ ∀ x, ok x → ∀ w, Calls Tryz.prog g #[enc x] w fun e w' => e = .returned (.string (f x)) ∧ Below w.heap.size w w'
theorem abides_below {β : Type} {B : Nat} {J : β → World → Prop} (h : AbidesFrom B J) {s : β} {W W' : World} (hs : J s W) (hb : Below W.heap.size W W') : J s W' := h s W W' none hs (grown_of_below hb none) (fun r e => by cases e)

end Go.Proofs.YtomikcemiacjmaaGreatDoor

namespace Go.Proofs.YtomikcemiacjmaaGreatDoor
open Go.RowKit Go.Lib Go.Shelf

def putW (r : Bool) : ByteArray := if r then ⟨#[112, 117, 116, 114, 117, 110]⟩ else ⟨#[112, 117, 116]⟩
theorem writePut_any (x : P.Fi) (hk : x.p.size ≤ 4294967280) (hv : x.d.size ≤ 4294967280) (w : World) :
    Calls Tryz.prog 236 #[.agg #[.string x.p, .string x.d, .bool x.r]] w fun e w' => e = .returned (.string (lineT (putW x.r) x.p x.d)) ∧ Below w.heap.size w w' := by
  have H := Lib.hid (fun a ha W => writePair_any a x.p x.d ha hk hv W)
  obtain ⟨p, d, r⟩ := x
  simp only at H ⊢
  clear hk hv
  cases r
  · have H2 := Lib.hid (fun W => H.out (putW false) (by decide) W)
    clear H
    change Hid (∀ W, Calls _ _ #[.string ⟨#[112, 117, 116]⟩, _, _] _ _) at H2
    generalize lineT (putW false) p d = q at *
    go_enter Tryz.func236, Tryz.ntmps236
    go_wp2_with fail
    refine (H2.out _).mono ?_
    rintro e w' ⟨rfl, hb⟩
    have HB := Lib.hid (bstep (below_alloc _ _) hb)
    clear hb
    go_wp2_with fail
    go_ret
    exact ⟨rfl, HB.out⟩
  · have H2 := Lib.hid (fun W => H.out (putW true) (by decide) W)
    clear H
    change Hid (∀ W, Calls _ _ #[.string ⟨#[112, 117, 116, 114, 117, 110]⟩, _, _] _ _) at H2
    generalize lineT (putW true) p d = q at *
    go_enter Tryz.func236, Tryz.ntmps236
    go_wp2_with fail
    refine (H2.out _).mono ?_
    rintro e w' ⟨rfl, hb⟩
    have HB := Lib.hid (bstep (below_alloc _ _) hb)
    clear hb
    go_wp2_with fail
    go_ret
    exact ⟨rfl, HB.out⟩
def remT : ByteArray := ⟨#[114, 101, 109, 111, 118, 101, 32]⟩
def unsT : ByteArray := ⟨#[117, 110, 115, 101, 116, 32]⟩
def droT : ByteArray := ⟨#[100, 114, 111, 112, 32]⟩
/-- a change's line without its end -/
def chT (c : P.Chg) : ByteArray :=
  if c.kind = 1 then lineT (putW c.file.r) c.file.p c.file.d
  else if c.kind = 2 then remT ++ c.file.p
  else if c.kind = 3 then lineT ⟨#[115, 101, 116]⟩ c.set.k c.set.v
  else if c.kind = 4 then unsT ++ c.set.k
  else if c.kind = 5 then svcT c.svc
  else droT ++ c.svc.n
set_option maxRecDepth 100000 in
set_option maxHeartbeats 8000000 in
theorem writeChange_any (c : P.Chg) (hs : P.CSm 4294967280 c) (w : World) : Calls Tryz.prog 161 #[chAgg c] w fun e w' => e = .returned (.string (chT c)) ∧ Below w.heap.size w w' := by
  obtain ⟨k, ⟨fp, fd, fr⟩, ⟨sk, sv⟩, ⟨vn, vp, va, vo⟩⟩ := c
  have HF := Lib.hid (fun W => writePut_any ⟨fp, fd, fr⟩ hs.fp hs.fd W)
  have HT := Lib.hid (fun W => writeSetting_any ⟨sk, sv⟩ hs.sk hs.sv W)
  have HV := Lib.hid (fun W => writeService_any ⟨vn, vp, va, vo⟩ hs.vn hs.vp W)
  have hf : ¬ 9223372036854775807 < 7 + fp.size := by have := hs.fp; simp only at this; omega
  have hk : ¬ 9223372036854775807 < 6 + sk.size := by have := hs.sk; simp only at this; omega
  have hn : ¬ 9223372036854775807 < 5 + vn.size := by have := hs.vn; simp only at this; omega
  clear hs
  show Calls Tryz.prog 161 #[.agg #[.int .i64 k, .string fp, .string fd, .bool fr, .string sk, .string sv, .string vn, .string vp, .bool va, .bool vo]] w _
  have HB := Lib.hid (below_alloc w (.cells #[.int .i64 k, .string fp, .string fd, .bool fr, .string sk, .string sv, .string vn, .string vp, .bool va, .bool vo] 73))
  rcases P.kinds k with rfl | rfl | rfl | rfl | rfl | rfl | ⟨h1, h2, h3, h4, h5, h6⟩
  · have hr : chT ⟨1, ⟨fp, fd, fr⟩, ⟨sk, sv⟩, ⟨vn, vp, va, vo⟩⟩ = lineT (putW fr) fp fd := rfl
    rw [hr]
    clear hr
    simp only at HF
    generalize lineT (putW fr) fp fd = q at *
    go_enter Tryz.func161, Tryz.ntmps161
    go_wp2_with (go_at_call 236; refine (HF.out _).mono ?_; rintro e w2 ⟨rfl, hb2⟩)
    go_ret
    exact ⟨rfl, bstep HB.out hb2⟩
  · go_enter Tryz.func161, Tryz.ntmps161
    go_wp2_with fail
    go_ret
    exact ⟨rfl, HB.out⟩
  · have hr : chT ⟨3, ⟨fp, fd, fr⟩, ⟨sk, sv⟩, ⟨vn, vp, va, vo⟩⟩ = lineT ⟨#[115, 101, 116]⟩ sk sv := rfl
    rw [hr]
    clear hr
    simp only at HT
    generalize lineT ⟨#[115, 101, 116]⟩ sk sv = q at *
    go_enter Tryz.func161, Tryz.ntmps161
    go_wp2_with (go_at_call 111; refine (HT.out _).mono ?_; rintro e w2 ⟨rfl, hb2⟩)
    go_ret
    exact ⟨rfl, bstep HB.out hb2⟩
  · go_enter Tryz.func161, Tryz.ntmps161
    go_wp2_with fail
    go_ret
    exact ⟨rfl, HB.out⟩
  · have hr : chT ⟨5, ⟨fp, fd, fr⟩, ⟨sk, sv⟩, ⟨vn, vp, va, vo⟩⟩ = svcT ⟨vn, vp, va, vo⟩ := rfl
    rw [hr]
    clear hr
    simp only at HV
    generalize svcT ⟨vn, vp, va, vo⟩ = q at *
    go_enter Tryz.func161, Tryz.ntmps161
    go_wp2_with (go_at_call 113; refine (HV.out _).mono ?_; rintro e w2 ⟨rfl, hb2⟩)
    go_ret
    exact ⟨rfl, bstep HB.out hb2⟩
  · go_enter Tryz.func161, Tryz.ntmps161
    go_wp2_with fail
    go_ret
    exact ⟨rfl, HB.out⟩
  · have hr : chT ⟨k, ⟨fp, fd, fr⟩, ⟨sk, sv⟩, ⟨vn, vp, va, vo⟩⟩ = droT ++ vn := by
      simp only [beq_eq_false_iff_ne] at h1 h2 h3 h4 h5
      unfold chT
      rw [if_neg h1, if_neg h2, if_neg h3, if_neg h4, if_neg h5]
    rw [hr]
    clear hr
    go_enter Tryz.func161, Tryz.ntmps161
    go_wp2_with fail
    go_ret
    exact ⟨rfl, HB.out⟩
theorem change_fn : TextFn 161 chAgg (P.CSm 4294967280) chT := ⟨enters_of Tryz.func161 (by kernel_rfl) rfl, fun x h w => writeChange_any x h w⟩
end Go.Proofs.YtomikcemiacjmaaGreatDoor

namespace Go.Proofs.YtomikcemiacjmaaGreatDoor
open Go.RowKit Go.Shelf
attribute [local go_sem] Oper.semAt_some

theorem wpListIn_append_text8 {F : Fence} {n : Nat} (w : World) {ops : Array Oper} {rest : List Oper} {o : Oper} {a : Act} {Q : Exit → Act → World → Prop}
    (hg : o.guard = none) (s x : Operand) (hop : o.op = Op.call { callee := Callee.builtin Builtin.append, args := #[s, x], argTypes := #[111, 9] })
    (base : Nat) (v : Value) (l : List UInt8) (hs : a.eval s = v) (hown : Own8 base w v l) (t : ByteArray) (hx : a.eval x = .string t)
    (b2 : l.length + t.size ≤ 140737488355328) (b3 : base ≤ w.heap.size)
    (hK : ∀ v' w', Own8 base w' v' (l ++ t.data.toList) → w.grownBy w' v.ownBlock → wpListIn F n Tryz.prog ops Q rest (a.put o.dst v') w') :
    wpListIn F n Tryz.prog ops Q (o :: rest) a w := by
  obtain ⟨i0, hi, hz0, hz1, hz2⟩ := info_parts info5
  refine wpListIn_plain hg fun K hK' => ?_
  obtain ⟨v', w', hrun, r1, r2, r3⟩ := Lib.run_append_own_string (P := Tryz.prog) (w := w) base 111 9 o.type 5 i0 Tryz.underlying111 Tryz.underlying9 hi hz0 hz1 hz2 v l.length _ hown t (by unfold maxLen; omega) b2 b3
  unfold Oper.wpIn
  refine ⟨by simp [Oper.about, hop, resolve, Target.leads, Sem.run_pure], ?_⟩
  rw [Oper.semAt_plain F _ _ (by rw [hop]; intro c hc'; cases hc')]
  simp [execOp, hop, resolve, invoke, builtin, hs, hx, hrun, Result.andThen]
  refine hK' _ _ (hK v' w' ?_ r2)
  unfold Own8
  rw [List.length_append, P.size_len, ← byteCells_app]; exact r1
theorem wpListIn_append_byte8 {F : Fence} {n : Nat} (w : World) {ops : Array Oper} {rest : List Oper} {o : Oper} {a : Act} {Q : Exit → Act → World → Prop}
    (hg : o.guard = none) (s x : Operand) (hop : o.op = Op.call { callee := Callee.builtin Builtin.append, args := #[s, x], argTypes := #[111, 111] })
    (base : Nat) (v : Value) (l : List UInt8) (hs : a.eval s = v) (hown : Own8 base w v l) (g m c : Nat) (news : List UInt8) (hx : a.eval x = .slice (some ⟨g, 0, none⟩) m c) (hl : news.length = m) (hnews : ∀ j u, (Lib.byteCells news)[j]? = some u → w.cell? ((⟨g, 0, none⟩ : Addr).add j) = some u)
    (b2 : l.length + m ≤ 140737488355328) (b3 : base ≤ w.heap.size)
    (hK : ∀ v' w', Own8 base w' v' (l ++ news) → w.grownBy w' v.ownBlock → wpListIn F n Tryz.prog ops Q rest (a.put o.dst v') w') :
    wpListIn F n Tryz.prog ops Q (o :: rest) a w := by
  obtain ⟨i0, hi, hz0, hz1, hz2⟩ := info_parts info5
  exact wpListIn_append_own w hg s x 111 hop base 5 i0 _ 1 1 Tryz.underlying111 hi hz0 hz1 hz2 rfl (by decide) v l.length _ hs hown ⟨g, 0, none⟩ m c (Lib.byteCells news) hx (by rw [byteCells_len, hl]; omega) hnews (bytes_one _) (by unfold maxLen; omega) (by omega) b3
    (fun v' w' h1 h2 _ => hK v' w' (own8_app h1 hl) h2)
/-- string(..) of the call's own bytes, none of them too -/
theorem Own8.text' {B : Nat} {W : World} {v : Value} {l : List UInt8} (h : Own8 B W v l) : (convert 111 9 v).run Tryz.prog W = .ok (.string (P.txt l)) W := by
  cases l with
  | cons c l => exact h.text (by simp)
  | nil =>
    obtain ⟨_, ⟨rfl, _⟩ | ⟨g, cap, cur, rfl, _⟩⟩ := h
    · exact Lib.run_convert_nil_bytes W 111 9 5 0 Tryz.underlying111 Tryz.underlying5 Tryz.underlying9
    · have := Lib.run_convert_whole (P := Tryz.prog) W 111 5 9 Tryz.underlying111 Tryz.underlying5 Tryz.underlying9 g 0 (P.txt []) (fun i hi => by rw [P.txt_size] at hi; simp at hi) cap
      rwa [P.txt_size] at this
/-- the marks of loops that have ended: each is a block of its own from base on, open and empty -/
inductive Marks (base : Nat) : World → List Deferred → Prop
  | nil (W : World) : Marks base W []
  | cons {W : World} {D : Nat} {ds : List Deferred} (h : W.heap[D]? = some (.deferred (some []))) (hb : base ≤ D) (r : Marks base W ds) (hne : ∀ d ∈ ds, d.target ≠ .collected D) : Marks base W ({ target := .collected D, args := #[] } :: ds)
theorem Marks.grown {base : Nat} {W W' : World} {row : Option Nat} {ds : List Deferred} (h : Marks base W ds) (hg : W.grownBy W' row) (hr : ∀ d ∈ ds, ∀ D, d.target = .collected D → some D ≠ row) : Marks base W' ds := by
  induction h with
  | nil => exact .nil _
  | cons h hb r hne ih =>
    refine .cons ?_ hb (ih fun d hd => hr d (List.mem_cons_of_mem _ hd)) hne
    rw [hg.block _ (Array.getElem?_eq_some_iff.1 h).1 (hr _ List.mem_cons_self _ rfl)]; exact h
theorem Marks.lt {base : Nat} {W : World} {ds : List Deferred} (h : Marks base W ds) : ∀ d ∈ ds, ∀ D, d.target = .collected D → base ≤ D ∧ W.heap[D]? = some (.deferred (some [])) := by
  induction h with
  | nil => intro d hd; cases hd
  | cons h hb r hne ih =>
    intro d hd D e
    rcases List.mem_cons.1 hd with rfl | hd
    · injection e with e; subst e; exact ⟨hb, h⟩
    · exact ih d hd D e
/-- with marks alone a function leaves -/
theorem Marks.leaves {F : Fence} {n : Nat} {fn : Func} {tmps : Array Value} {R : Ending → World → Prop} {base : Nat} : ∀ {ds : List Deferred} {W : World}, Marks base W ds →
    (∀ W', (∀ k, k < W.heap.size → (W.heap[k]? ≠ some (.deferred (some []))) → W'.heap[k]? = W.heap[k]?) → Below base W W' → LeavesIn F n Tryz.prog fn tmps R [] .returning W') → LeavesInM F n Tryz.prog fn tmps R ds .returning W := by
  intro ds
  induction ds with
  | nil => intro W _ hf; exact hf W (fun _ _ _ => rfl) (Below.refl _ _)
  | cons d ds ih =>
    intro W h hf
    cases h with
    | cons h hb r hne =>
      rename_i D
      have hlt := (Array.getElem?_eq_some_iff.1 h).1
      refine ⟨by simp, .inl ⟨_, _, rfl, run_takeDeferred h, ?_⟩⟩
      have hg := grownBy_putObj' W D (.deferred none)
      refine ih (r.grown hg fun d hd D' e => ?_) fun W' h1 h2 => hf W' (fun k hk hn => ?_) ?_
      · intro e2; injection e2 with e2; subst e2; exact hne d hd e
      · have hkD : k ≠ D := fun e => hn (by rw [e]; exact h)
        have e1 : (W.putObj D (.deferred none)).heap[k]? = W.heap[k]? := hg.block k hk (fun e => hkD (by injection e))
        rw [h1 k (Nat.lt_of_lt_of_le hk hg.size) (by rw [e1]; exact hn), e1]
      · exact ((Below.refl base W).grown hg (Nat.le_of_lt (Nat.lt_of_le_of_lt hb hlt)) (fun j e => by cases e; exact hb)).trans h2

namespace P
def linesL (L : List ByteArray) : B := L.flatMap fun t => t.data.toList ++ [10]
theorem linesL_append (L M : List ByteArray) : linesL (L ++ M) = linesL L ++ linesL M := by unfold linesL; exact List.flatMap_append
theorem linesL_snoc (L : List ByteArray) (t : ByteArray) : linesL (L ++ [t]) = linesL L ++ t.data.toList ++ [10] := by rw [linesL_append]; unfold linesL; simp
end P
def upT (Ts : Nat → List ByteArray) : Nat → List ByteArray
  | 0 => []
  | j + 1 => upT Ts j ++ Ts j
/-- what join answers -/
def joinOut (T : P.B) : Value := if T.length ≤ 4194304 then .tuple #[.string (P.txt T), .int .i64 0] else .tuple #[.string ⟨#[]⟩, .int .i64 4]
/-- join's boxes -/
structure JB (n₀ : Nat) (W : World) (e1 : ByteArray) (e2 : Int) (v : Value) (l : P.B) : Prop where
  r1 : HasRow W n₀ #[.string e1]
  r2 : HasRow W (n₀ + 1) #[.int .i64 e2]
  t : HasRow W (n₀ + 1 + 1) #[v]
  o : Own8 (n₀ + 1 + 1 + 1) W v l
theorem new_cells' (W : World) (vs : List Value) (t : TypeId) (g : Nat) (hg : g = W.heap.size) : ∀ j u, vs[j]? = some u → (W.alloc (.cells vs.toArray t)).cell? ((⟨g, 0, none⟩ : Addr).add j) = some u := by subst hg; exact new_cells W vs t
theorem own8_keeps {B : Nat} {W W' : World} {v : Value} {l : P.B} (h : Own8 B W v l) (hg : W.grownBy W' v.ownBlock) : KeepsOthers W W' := KeepsOthers.of_grownBy hg fun j o e ho => by
  obtain ⟨h1, ⟨rfl, h2⟩ | ⟨g, cap, cur, rfl, h4, h5, h6⟩⟩ := h
  · cases e
  · cases e; rw [h5] at ho; cases ho; rfl
theorem Marks.others {base : Nat} {W W' : World} {ds : List Deferred} (h : Marks base W ds) (hk : KeepsOthers W W') : Marks base W' ds := by
  induction h with
  | nil => exact .nil _
  | cons h hb r hne ih => exact .cons (hk.same _ _ h rfl) hb ih hne
theorem row_left {X W' : World} {k : Nat} {a : Value} (h : HasRow X k #[a]) (h1 : ∀ k, k < X.heap.size → X.heap[k]? ≠ some (.deferred (some [])) → W'.heap[k]? = X.heap[k]?) : W'.cell? ⟨k, 0, none⟩ = some a := by
  have hc := h.cell 0
  rw [World.cell?_of_block (w := X) (a := ⟨k, 0, none⟩) (h1 k h.lt fun e => ?_)]
  · exact hc
  · obtain ⟨o, ho, hcl⟩ := cells_of_cell hc
    rw [show X.heap[k]? = some o from ho] at e
    cases e; cases hcl
theorem JB.store {n₀ : Nat} {W : World} {e1 : ByteArray} {e2 : Int} {v : Value} {l : P.B} (h : JB n₀ W e1 e2 v l) (f1 : ByteArray) (f2 : Int) :
    JB n₀ ((W.setCell ⟨n₀, 0, none⟩ (.string f1)).setCell ⟨n₀ + 1, 0, none⟩ (.int .i64 f2)) f1 f2 v l ∧ KeepsOthers W ((W.setCell ⟨n₀, 0, none⟩ (.string f1)).setCell ⟨n₀ + 1, 0, none⟩ (.int .i64 f2)) ∧ Below n₀ W ((W.setCell ⟨n₀, 0, none⟩ (.string f1)).setCell ⟨n₀ + 1, 0, none⟩ (.int .i64 f2)) :=
  ⟨⟨(h.r1.set 0 _ (by simp)).other 0 _ (by omega), (h.r2.other 0 _ (by omega)).set 0 _ (by simp), (h.t.other 0 _ (by omega)).other 0 _ (by omega), own_store (own_store h.o (by omega)) (by omega)⟩,
   (KeepsOthers.setCell _ _ _).trans (KeepsOthers.setCell _ _ _), ((Below.refl n₀ W).setCell (p := ⟨n₀, 0, none⟩) (Nat.le_refl _) _).setCell (p := ⟨n₀ + 1, 0, none⟩) (Nat.le_succ _) _⟩
/-- the state of join within a list of lines, and where it has left -/
structure JI (Ts : Nat → List ByteArray) (j : Nat) (w : World) (ds : List Deferred) (pre : List Txt) (X : World) : Prop where
  ex : ∃ v, JB w.heap.size X ⟨#[]⟩ 0 v (P.linesL (upT Ts j ++ pre.map (·.1))) ∧ (P.linesL (upT Ts j ++ pre.map (·.1))).length ≤ 4194304 ∧ Marks w.heap.size X ds
  b : Below w.heap.size w X
structure JX (Ts : Nat → List ByteArray) (j : Nat) (w : World) (ds : List Deferred) (c : Code) (pre : List Txt) (X : World) : Prop where
  c : c = .ret
  ex : ∃ v, JB w.heap.size X ⟨#[]⟩ 4 v (P.linesL (upT Ts j ++ pre.map (·.1))) ∧ 4194304 < (P.linesL (upT Ts j ++ pre.map (·.1))).length ∧ Marks w.heap.size X ds
  b : Below w.heap.size w X
theorem rounds_of {F : Fence} {n : Nat} {c : Code} {Q : Exit → Act → World → Prop} (S : Nat → Act → World → Prop) (h0 : ∀ a W, ¬ S 0 a W)
    (step : ∀ m a W, S (m + 1) a W → (∀ a' W', S m a' W' → Code.roundsIn F n Tryz.prog c Q m a' W') → c.wpIn F n Tryz.prog (Exit.then (Code.roundsIn F n Tryz.prog c Q m) Q) a W) : ∀ m a W, S m a W → Code.roundsIn F n Tryz.prog c Q m a W := by
  intro m
  induction m with
  | zero => exact fun a W h => absurd h (h0 a W)
  | succ m ih => exact fun a W h => step m a W h ih
theorem own8_kept {B : Nat} {W W' : World} {v : Value} {l : P.B} {row : Option Nat} (h : Own8 B W v l) (hg : W.grownBy W' row) (hr : ∀ r, row = some r → ∃ o : Obj, W.heap[r]? = some o ∧ o.isCells = false) : Own8 B W' v l := by
  obtain ⟨h1, h2 | ⟨g, cap, cur, h3, h4, h5, h6⟩⟩ := h
  · exact ⟨h1, .inl h2⟩
  · refine ⟨h1, .inr ⟨g, cap, cur, h3, h4, ?_, h6⟩⟩
    rw [hg.block g (Array.getElem?_eq_some_iff.1 h5).1 (fun e => ?_)]
    · exact h5
    · obtain ⟨o, ho, hc⟩ := hr g e.symm
      rw [h5] at ho; cases ho; cases hc
theorem JB.kept {n₀ : Nat} {W W' : World} {e1 : ByteArray} {e2 : Int} {v : Value} {l : P.B} {row : Option Nat} (h : JB n₀ W e1 e2 v l) (hg : W.grownBy W' row) (hr : ∀ r, row = some r → ∃ o : Obj, W.heap[r]? = some o ∧ o.isCells = false) : JB n₀ W' e1 e2 v l :=
  ⟨row_kept h.r1 hg (fun r e => .inr (hr r e)) ⟨_, h.r1.cell 0⟩, row_kept h.r2 hg (fun r e => .inr (hr r e)) ⟨_, h.r2.cell 0⟩, row_kept h.t hg (fun r e => .inr (hr r e)) ⟨_, h.t.cell 0⟩, own8_kept h.o hg hr⟩
theorem Own8.slice {B : Nat} {W : World} {v : Value} {l : P.B} (h : Own8 B W v l) : ∃ p c, v = .slice p l.length c ∧ (∀ k, v.ownBlock = some k → B ≤ k ∧ k < W.heap.size) := by
  have h' := World.ownsRow.lt h
  obtain ⟨h1, ⟨rfl, h2⟩ | ⟨g, cap, cur, rfl, h3⟩⟩ := h
  · exact ⟨none, 0, by rw [h2], h'⟩
  · exact ⟨_, cap, rfl, h'⟩

theorem JB.alloc {n₀ : Nat} {W : World} {e1 : ByteArray} {e2 : Int} {v : Value} {l : P.B} (h : JB n₀ W e1 e2 v l) (o : Obj) : JB n₀ (W.alloc o) e1 e2 v l := ⟨h.r1.alloc o, h.r2.alloc o, h.t.alloc o, h.o.alloc o⟩
/-- behind an append to the text, and its store -/
theorem JB.wrote {n₀ : Nat} {X X1 : World} {e1 : ByteArray} {e2 : Int} {v v1 : Value} {l l1 : P.B} (h : JB n₀ X e1 e2 v l) (hg : X.grownBy X1 v.ownBlock) (h1 : Own8 (n₀ + 1 + 1 + 1) X1 v1 l1) :
    (X1.cell? ⟨n₀ + 1 + 1, 0, none⟩ = some v ∧ X1.frozen? ⟨n₀ + 1 + 1, 0, none⟩ = false) ∧ JB n₀ (X1.setCell ⟨n₀ + 1 + 1, 0, none⟩ v1) e1 e2 v1 l1 ∧ Below n₀ X (X1.setCell ⟨n₀ + 1 + 1, 0, none⟩ v1) := by
  have hown := World.ownsRow.lt h.o
  have hz := h.t.lt
  have r1 := h.r1.grown hg (fun e => by have := (hown _ e.symm).1; omega)
  have r2 := h.r2.grown hg (fun e => by have := (hown _ e.symm).1; omega)
  have r3 := h.t.grown hg (fun e => by have := (hown _ e.symm).1; omega)
  refine ⟨⟨r3.cell 0, r3.free 0⟩, ⟨r1.other 0 _ (by omega), r2.other 0 _ (by omega), r3.set 0 _ (by simp), own_store h1 (by omega)⟩, ?_⟩
  exact ((Below.refl n₀ X).grown hg (by omega) (fun k e => by have := (hown _ e).1; omega)).setCell (p := ⟨n₀ + 1 + 1, 0, none⟩) (by show n₀ ≤ n₀ + 1 + 1; omega) _

end Go.Proofs.YtomikcemiacjmaaGreatDoor

namespace Go.Proofs.YtomikcemiacjmaaGreatDoor
open Go.RowKit Go.Shelf

/-- what lines has laid -/
structure LinesAt (Bs Bw : Nat) (a : Option Addr) (k cap ga : Nat) (W : World) : Prop where
  p : HasRow W Bs #[.slice a k cap]
  q : HasRow W Bw #[.func (.func ga) #[] #[]]
theorem LinesAt.below {Bs Bw : Nat} {a : Option Addr} {k cap ga : Nat} {W1 W2 : World} (h : LinesAt Bs Bw a k cap ga W1) (hb : Below W1.heap.size W1 W2) : LinesAt Bs Bw a k cap ga W2 := ⟨h.p.below hb, h.q.below hb⟩
theorem St.small {x : P.St} (h : P.factErr x = 0) : x.k.size ≤ 1000 ∧ x.v.size ≤ 65536 := by
  obtain ⟨h1, h2⟩ := P.factErr_zero.1 h
  have := P.name_size h1; have := P.value_size h2; omega
theorem Fi.small {x : P.Fi} (h : P.fileErr x = 0) : x.p.size ≤ 1000 ∧ x.d.size ≤ 65536 := by
  obtain ⟨h1, h2⟩ := P.fileErr_zero.1 h
  have := P.path_size h1; omega
theorem Sv.small {x : P.Sv} (h : P.svcErr x = 0) : x.n.size ≤ 1000 ∧ x.p.size ≤ 1000 := by
  obtain ⟨h1, h2⟩ := P.svcErr_zero.1 h
  have := P.name_size h1; have := P.path_size h2; omega

end Go.Proofs.YtomikcemiacjmaaGreatDoor

namespace Go.Proofs.YtomikcemiacjmaaGreatDoor
open Go.RowKit Go.Lib Go.Shelf

namespace P
theorem eq_of_list {a b : ByteArray} (h : a.toList = b.toList) : a = b := by
  rw [Lib.toList_data, Lib.toList_data] at h
  cases a; cases b
  simp only [ByteArray.mk.injEq]
  exact Array.toList_inj.1 h
theorem eqC_eq {a b : Chg} (h : eqC a b = true) : a = b := by
  obtain ⟨k, ⟨fp, fd, fr⟩, ⟨sk, sv⟩, ⟨vn, vp, va, vo⟩⟩ := a
  obtain ⟨k', ⟨fp', fd', fr'⟩, ⟨sk', sv'⟩, ⟨vn', vp', va', vo'⟩⟩ := b
  unfold eqC at h
  simp only [Bool.and_eq_true, beq_iff_eq] at h
  obtain ⟨⟨⟨h0, ⟨h1, h2⟩, h3⟩, h4, h5⟩, ⟨⟨h6, h7⟩, h8⟩, h9⟩ := h
  subst h0; subst h3; subst h8; subst h9
  rw [eq_of_list h1, eq_of_list h2, eq_of_list h4, eq_of_list h5, eq_of_list h6, eq_of_list h7]
theorem eqC_refl (a : Chg) : eqC a a = true := by unfold eqC; simp
theorem chE_zero {c : Chg} : chE c = 0 ↔ thE c = 0 ∧ needed c = c := by
  rw [chE_eq]
  constructor
  · intro h
    by_cases ht : thE c = 0
    · rw [if_pos ht] at h
      refine ⟨ht, ?_⟩
      cases he : eqC c (needed c) with
      | true => exact (eqC_eq he).symm
      | false => rw [he] at h; cases h
    · rw [if_neg ht] at h; exact absurd h ht
  · rintro ⟨h1, h2⟩
    rw [if_pos h1, h2, eqC_refl]; rfl
theorem zero_le_size : (⟨#[]⟩ : ByteArray).size ≤ 65536 := Nat.zero_le _
theorem kind_of {c : Chg} (h : thE c = 0) : c.kind = 1 ∨ c.kind = 2 ∨ c.kind = 3 ∨ c.kind = 4 ∨ c.kind = 5 ∨ c.kind = 6 := by
  unfold thE at h
  by_cases h1 : c.kind = 1; · exact .inl h1
  by_cases h2 : c.kind = 2; · exact .inr (.inl h2)
  by_cases h3 : c.kind = 3; · exact .inr (.inr (.inl h3))
  by_cases h4 : c.kind = 4; · exact .inr (.inr (.inr (.inl h4)))
  by_cases h5 : c.kind = 5; · exact .inr (.inr (.inr (.inr (.inl h5))))
  by_cases h6 : c.kind = 6; · exact .inr (.inr (.inr (.inr (.inr h6))))
  rw [if_neg h1, if_neg h2, if_neg h3, if_neg h4, if_neg h5, if_neg h6] at h
  cases h
theorem chE_small {c : Chg} (h : chE c = 0) : CSm 65536 c := by
  obtain ⟨h1, h2⟩ := chE_zero.1 h
  have hk := kind_of h1
  obtain ⟨k, ⟨fp, fd, fr⟩, ⟨sk, sv⟩, ⟨vn, vp, va, vo⟩⟩ := c
  simp only at hk
  rcases hk with rfl | rfl | rfl | rfl | rfl | rfl
  · have e : fileErr ⟨fp, fd, fr⟩ = 0 := h1
    obtain ⟨a1, a2⟩ := fileErr_zero.1 e
    have := path_size a1
    cases h2
    exact ⟨by simp only at this ⊢; omega, a2, zero_le_size, zero_le_size, zero_le_size, zero_le_size⟩
  · have e : fileErr ⟨fp, ⟨#[]⟩, false⟩ = 0 := h1
    obtain ⟨a1, a2⟩ := fileErr_zero.1 e
    have := path_size a1
    cases h2
    exact ⟨by simp only at this ⊢; omega, zero_le_size, zero_le_size, zero_le_size, zero_le_size, zero_le_size⟩
  · have e : setErr ⟨sk, sv⟩ = 0 := h1
    obtain ⟨a1, a2⟩ := setErr_zero.1 e
    have := path_size a1
    have := value_size a2
    cases h2
    exact ⟨zero_le_size, zero_le_size, by simp only at *; omega, by simp only at *; omega, zero_le_size, zero_le_size⟩
  · have e : setErr ⟨sk, ⟨#[]⟩⟩ = 0 := h1
    obtain ⟨a1, a2⟩ := setErr_zero.1 e
    have := path_size a1
    cases h2
    exact ⟨zero_le_size, zero_le_size, by simp only at *; omega, zero_le_size, zero_le_size, zero_le_size⟩
  · have e : svcErr ⟨vn, vp, va, vo⟩ = 0 := h1
    obtain ⟨a1, a2⟩ := svcErr_zero.1 e
    have := name_size a1
    have := path_size a2
    cases h2
    exact ⟨zero_le_size, zero_le_size, zero_le_size, zero_le_size, by simp only at *; omega, by simp only at *; omega⟩
  · have e : (if nameS vn then (0 : Int) else 5) = 0 := h1
    have a1 : nameS vn = true := by
      cases hn : nameS vn with
      | true => rfl
      | false => rw [hn] at e; cases e
    have := name_size a1
    cases h2
    exact ⟨zero_le_size, zero_le_size, zero_le_size, zero_le_size, (show vn.size ≤ 65536 by omega), zero_le_size⟩
theorem CSm.up {n m : Nat} {c : Chg} (h : CSm n c) (hm : n ≤ m) : CSm m c := ⟨Nat.le_trans h.fp hm, Nat.le_trans h.fd hm, Nat.le_trans h.sk hm, Nat.le_trans h.sv hm, Nat.le_trans h.vn hm, Nat.le_trans h.vp hm⟩
theorem chEs_zero {L : List Chg} (h : chEs L = 0) : ∀ c ∈ L, chE c = 0 := by
  induction L with
  | nil => intro c hc; cases hc
  | cons x l ih =>
    unfold chEs at h
    by_cases hx : chE x = 0
    · rw [if_pos hx] at h
      intro c hc
      rcases List.mem_cons.1 hc with rfl | hc
      · exact hx
      · exact ih h c hc
    · rw [if_neg hx] at h; exact absurd h hx
/-- the text of changes -/
def chsL (L : List Chg) : B := linesL (L.map chT)
end P
theorem chT_size {c : P.Chg} (h : P.CSm 65536 c) : (chT c).size ≤ 4294967280 := by
  obtain ⟨k, ⟨fp, fd, fr⟩, ⟨sk, sv⟩, ⟨vn, vp, va, vo⟩⟩ := c
  obtain ⟨h1, h2, h3, h4, h5, h6⟩ := h
  simp only at h1 h2 h3 h4 h5 h6
  have q1 := P.quote_size fd
  have q2 := P.quote_size sv
  unfold chT
  simp only
  split
  · unfold lineT
    simp only [ByteArray.size_append]
    have e1 : (putW fr).size ≤ 6 := by unfold putW; cases fr <;> decide
    have e2 : (⟨#[32]⟩ : ByteArray).size = 1 := rfl
    omega
  · split
    · rw [ByteArray.size_append]
      have e1 : remT.size = 7 := rfl
      omega
    · split
      · unfold lineT
        simp only [ByteArray.size_append]
        have e1 : (⟨#[115, 101, 116]⟩ : ByteArray).size = 3 := rfl
        have e2 : (⟨#[32]⟩ : ByteArray).size = 1 := rfl
        omega
      · split
        · rw [ByteArray.size_append]
          have e1 : unsT.size = 6 := rfl
          omega
        · split
          · unfold svcT; rw [P.txt_size]; unfold P.wordsL; simp only [List.length_append, P.size_len, P.bitL_len, List.length_cons, List.length_nil]; omega
          · rw [ByteArray.size_append]
            have e1 : droT.size = 5 := rfl
            omega
end Go.Proofs.YtomikcemiacjmaaGreatDoor

namespace Go.Proofs.YtomikcemiacjmaaGreatDoor
open Go.RowKit Go.Shelf
attribute [local go_sem] Oper.semAt_some

set_option maxRecDepth 100000 in
set_option maxHeartbeats 4000000 in
theorem linesC1_in (ga : Nat) (ok : P.Chg → Prop) (f : P.Chg → ByteArray) (hga : TextFn ga chAgg ok f) (L : List P.Chg) (hl : L.length ≤ 4294967280) (hok : ∀ x ∈ L, ok x) (hsz : ∀ x ∈ L, (f x).size ≤ 4294967280) (a : Option Addr) (cap : Nat)
    (n : Nat) (hn : 1 ≤ n) (l Bs Bw n₀ : Nat) (_hb1 : Bs < n₀) (hb2 : Bw < n₀) (J Jx : List ByteArray → World → Prop) (hJ : ∀ ds W W', J ds W → Below W.heap.size W W' → J ds W')
    (hY : ∀ pre (x : Txt) W, J pre W → pre.length < L.length → YieldAt Fence.wide (n - 1) Tryz.prog l #[.string x.1] W fun e W' =>
      (e = .returned (.bool true) ∧ J (pre ++ [x.1]) W' ∧ Below n₀ W W') ∨ (e = .returned (.bool false) ∧ Jx (pre ++ [x.1]) W'))
    (W : World) (hn0 : n₀ ≤ W.heap.size) (hBs : W.cell? ⟨Bs, 0, none⟩ = some (.slice a L.length cap)) (hBw : W.cell? ⟨Bw, 0, none⟩ = some (.func (.func ga) #[] #[])) (hA : ChsAt n₀ W a L cap) (h0 : J [] W) :
    CallsIn Fence.wide n Tryz.prog 235 #[.func (.yield l) #[] #[], .pointer (some ⟨Bs, 0, none⟩), .pointer (some ⟨Bw, 0, none⟩)] W fun e W' => (∃ v, e = .returned v) ∧
      (J (L.map f) W' ∨ (∃ k, k ≤ L.length ∧ Jx ((L.take k).map f) W')) := by
  obtain ⟨eg, hp⟩ := hga
  refine callsIn_of_wp Tryz.func235 rfl trivial ?_ rfl
  simp only [Tryz.ntmps235, List.size_toArray, List.length_cons, List.length_nil, Nat.reduceAdd, Nat.reduceSub, Array.replicate_succ, Array.replicate_zero, List.push_toArray, List.append_toArray, List.nil_append, List.cons_append]
  gi_wp2
  gi_loopw [8] (fun i wr => ∃ k : Nat, k ≤ L.length ∧ i = .int .i64 k ∧ J ((L.take k).map f) wr ∧ Below n₀ W wr)
    (fun i _ => L.length - (intOf i).toNat)
  case atStart => exact ⟨0, Nat.zero_le _, rfl, h0, Below.refl _ _⟩
  case round =>
    obtain ⟨k, hk, rfl, hJs, hnx⟩ := hrel
    by_cases hlt : k < L.length
    · obtain ⟨b, off, rfl, hbm, hc⟩ := (hA.below hnx).at_ (ne_nil_of_lt hlt)
      obtain ⟨d0, d1, d2, d3, d4, d5, d6, d7, d8, d9⟩ := hc k hlt
      have hBwk : wr.cell? ⟨Bw, 0, none⟩ = some (.func (.func ga) #[] #[]) := (hnx.cell (p := ⟨Bw, 0, none⟩) hb2).trans hBw
      have htk : (L.take (k + 1)).map f = (L.take k).map f ++ [f L[k]] := by rw [List.take_succ_eq_append_getElem hlt, List.map_append]; rfl
      have HP := Lib.hid (fun W => hp L[k] (hok _ (List.getElem_mem hlt)) W)
      have hBlt : Bw < wr.heap.size := Nat.lt_of_lt_of_le hb2 (Nat.le_trans hn0 hnx.size)
      have hBwa : (wr.alloc (.cells (chA L[k]) 73)).cell? ⟨Bw, 0, none⟩ = some (.func (.func ga) #[] #[]) := cell_keep (below_alloc _ _) hBwk
      gi_wp2_with fail
      refine ⟨trivial, (callsIn_wide.2 (HP.out _)).mono ?_⟩
      rintro e W2 ⟨rfl, hb2'⟩
      have hbw := bstep (below_alloc _ _) hb2'
      obtain ⟨fn, tmps, assign, body, hy, hR⟩ := hY _ ⟨f L[k], hsz _ (List.getElem_mem hlt)⟩ W2 (hJ _ _ _ hJs hbw) (by simp; omega)
      dsimp only at hy
      gi_wp2
      refine hR.mono ?_
      rintro e W3 (⟨rfl, hJ3, hk3⟩ | ⟨rfl, hJx3⟩)
      · gi_wp2
        go_roundw
        case rel => exact ⟨k + 1, by omega, by simp, by rw [htk]; exact hJ3, (hnx.trans (hbw.mono (Nat.le_trans hn0 hnx.size))).trans hk3⟩
        case measure => simp [intOf]; omega
      · gi_wp2
        refine bodyPost_ret (results_none rfl _ _ _) rfl ?_
        exact ⟨⟨_, rfl⟩, .inr ⟨k + 1, by omega, by rw [htk]; exact hJx3⟩⟩
    · obtain rfl : k = L.length := by omega
      rw [List.take_length] at hJs
      gi_wp2
      go_end0
      exact ⟨⟨_, rfl⟩, .inl hJs⟩
theorem linesC_stops (ga : Nat) (ok : P.Chg → Prop) (f : P.Chg → ByteArray) (hga : TextFn ga chAgg ok f) (L : List P.Chg) (hl : L.length ≤ 4294967280) (hok : ∀ x ∈ L, ok x) (hsz : ∀ x ∈ L, (f x).size ≤ 4294967280) (a : Option Addr) (cap : Nat)
    (n : Nat) (hn : 1 ≤ n) (Bs Bw n₀ : Nat) (hb1 : Bs < n₀) (hb2 : Bw < n₀) (w : World) (hn0 : n₀ ≤ w.heap.size) (hBs : w.cell? ⟨Bs, 0, none⟩ = some (.slice a L.length cap)) (hBw : w.cell? ⟨Bw, 0, none⟩ = some (.func (.func ga) #[] #[])) (hA : ChsAt n₀ w a L cap) :
    SeqStopsK Fence.wide n Tryz.prog 235 #[.pointer (some ⟨Bs, 0, none⟩), .pointer (some ⟨Bw, 0, none⟩)] (fun x : Txt => #[Value.string x.1]) (Below n₀) (fun ys => ys.map (·.1) = L.map f) (fun pre => ∃ k, k ≤ (L.map f).length ∧ pre.map (·.1) = (L.map f).take k) L.length w := fun l J Jx W hW hJa _ hY h0 => by
  have hb := hW.mono hn0
  refine (linesC1_in ga ok f hga L hl hok hsz a cap n hn l Bs Bw n₀ hb1 hb2 (fun ds W => ∃ xs : List Txt, xs.map (·.1) = ds ∧ J xs W) (fun ds W => ∃ xs : List Txt, xs.map (·.1) = ds ∧ Jx xs W) ?_ ?_ W (Nat.le_trans hn0 hW.size) ((hb.cell (p := ⟨Bs, 0, none⟩) hb1).trans hBs) ((hb.cell (p := ⟨Bw, 0, none⟩) hb2).trans hBw) (hA.below hb) ⟨[], rfl, h0⟩).mono ?_
  · rintro ds W1 W2 ⟨xs, h1, h2⟩ hb'
    exact ⟨xs, h1, abides_below hJa h2 hb'⟩
  · rintro pre x W1 ⟨xs, rfl, hJ⟩ hlt
    refine (hY xs x W1 hJ (by simpa using hlt)).mono ?_
    rintro e W' (⟨he, hj, hb⟩ | ⟨he, hj⟩)
    · exact .inl ⟨he, ⟨xs ++ [x], by simp, hj⟩, hb⟩
    · exact .inr ⟨he, ⟨xs ++ [x], by simp, hj⟩⟩
  · rintro e W' ⟨hv, ⟨xs, h1, hj⟩ | ⟨k, hk, xs, h1, hj⟩⟩
    · exact ⟨hv, .inl ⟨xs, h1, hj⟩⟩
    · exact ⟨hv, .inr ⟨xs, ⟨k, by simpa using hk, by rw [h1, List.map_take]⟩, hj⟩⟩
theorem linesC_any (a : Option Addr) (k cap ga : Nat) (w : World) :
    Calls Tryz.prog 160 #[.slice a k cap, .func (.func ga) #[] #[]] w fun e w' => e = .returned (.func (.func 235) #[] #[.pointer (some ⟨w.heap.size, 0, none⟩), .pointer (some ⟨w.heap.size + 1, 0, none⟩)]) ∧ w' = (w.alloc (.cells #[.slice a k cap] 27)).alloc (.cells #[.func (.func ga) #[] #[]] 193) := by
  go_enter Tryz.func160, Tryz.ntmps160
  go_wp2_with fail
  go_ret
  exact ⟨rfl, rfl⟩

end Go.Proofs.YtomikcemiacjmaaGreatDoor

namespace Go.Proofs.YtomikcemiacjmaaGreatDoor
open Go.RowKit Go.Shelf
attribute [local go_sem] Oper.semAt_some

/-- the state between join's lists -/
def JSt1 (Ts : Nat → List ByteArray) (bl : Nat) (w : World) (m : Nat) (a : Act) (W : World) : Prop :=
  ∃ j ds u6 u7 u11 u12 u13 u14 u15 u16 u17 u18 u19 u20 u21 u22 u23 u24 u25 v, m + j = 2 ∧ j ≤ 1 ∧
    a = { tmps := #[.slice (some ⟨bl, 0, none⟩) 1 1, undef, .pointer (some ⟨w.heap.size, 0, none⟩), .pointer (some ⟨w.heap.size + 1, 0, none⟩), .pointer (some ⟨w.heap.size + 1 + 1, 0, none⟩), undef, u6, u7, .slice (some ⟨bl, 0, none⟩) 1 1, .int .i64 1, .int .i64 j, u11, u12, u13, u14, u15, u16, u17, u18, u19, u20, u21, u22, u23, u24, u25, undef, undef], defers := ds } ∧
    JB w.heap.size W ⟨#[]⟩ 0 v (P.linesL (upT Ts j)) ∧ (P.linesL (upT Ts j)).length ≤ 4194304 ∧ Marks w.heap.size W ds ∧ Below w.heap.size w W

theorem upT_part1 (Ts : Nat → List ByteArray) {j : Nat} (hj : j < 1) (k : Nat) : (P.linesL (upT Ts j ++ (Ts j).take k)).length ≤ (P.linesL (upT Ts 1)).length := by
  have e : (Ts j) = (Ts j).take k ++ (Ts j).drop k := (List.take_append_drop _ _).symm
  have h1 : (P.linesL (upT Ts j ++ (Ts j).take k)).length ≤ (P.linesL (upT Ts (j + 1))).length := by
    show _ ≤ (P.linesL (upT Ts j ++ Ts j)).length
    rw [P.linesL_append, P.linesL_append, List.length_append, List.length_append]
    conv => rhs; rw [e, P.linesL_append, List.length_append]
    omega
  have h2 : ∀ i, (P.linesL (upT Ts i)).length ≤ (P.linesL (upT Ts (i + 1))).length := fun i => by
    show _ ≤ (P.linesL (upT Ts i ++ Ts i)).length
    rw [P.linesL_append, List.length_append]; omega
  have h3 : ∀ d i, (P.linesL (upT Ts i)).length ≤ (P.linesL (upT Ts (i + d))).length := fun d => by
    induction d with
    | zero => intro i; exact Nat.le_refl _
    | succ d ih => intro i; exact Nat.le_trans (ih i) (h2 _)
  have h4 := h3 (1 - (j + 1)) (j + 1)
  rw [show j + 1 + (1 - (j + 1)) = 1 by omega] at h4
  exact Nat.le_trans h1 h4
set_option maxRecDepth 100000 in
set_option maxHeartbeats 8000000 in
theorem join1_in (n : Nat) (hn : 1 ≤ n) (gs : Nat → Nat) (lbs : Nat → Array Value) (Ts : Nat → List ByteArray) (Ns : Nat → Nat) (bl : Nat) (w : World) (hbl : bl < w.heap.size)
    (hc : ∀ j, j < 1 → w.cell? ⟨bl, j, none⟩ = some (.func (.func (gs j)) #[] (lbs j))) (he : ∀ j, j < 1 → ∀ args W, (callFunc (gs j) args).run Tryz.prog W = .ok (.enter (gs j) args) W)
    (hs : ∀ j, j < 1 → SeqStopsK Fence.wide (n - 1) Tryz.prog (gs j) (lbs j) (fun x : Txt => #[Value.string x.1]) (Below w.heap.size) (fun ys => ys.map (·.1) = Ts j) (fun pre => ∃ k, k ≤ (Ts j).length ∧ pre.map (·.1) = (Ts j).take k) (Ns j) w) :
    CallsIn Fence.wide n Tryz.prog 106 #[.slice (some ⟨bl, 0, none⟩) 1 1] w fun e W' =>
      e = .returned (joinOut (P.linesL (upT Ts 1))) ∧ Below w.heap.size w W' := by
  have hn1 : 1 ≤ n := by omega
  refine callsIn_of_wp_marks Tryz.func106 rfl trivial ?_ rfl
  simp only [Tryz.ntmps106, List.size_toArray, List.length_cons, List.length_nil, Nat.reduceAdd, Nat.reduceSub, Array.replicate_succ, Array.replicate_zero, List.push_toArray, List.append_toArray, List.nil_append, List.cons_append]
  gi_wp2
  refine wpIn_loop_rounds 2 ?_
  refine rounds_of (JSt1 Ts bl w) ?zero ?step 2 _ _ ?start
  case start =>
    refine ⟨0, [], undef, undef, undef, undef, undef, undef, undef, undef, undef, undef, undef, undef, undef, undef, undef, undef, undef, .slice none 0 0, rfl, by omega, rfl, ⟨?_, ?_, ?_, ⟨rfl, .inl ⟨rfl, rfl⟩⟩⟩, Nat.zero_le _, .nil _, ?_⟩
    · exact ((HasRow.new w _ _).alloc _).alloc _
    · have := (HasRow.new (w.alloc (.cells #[.string ⟨#[]⟩] 9)) #[.int .i64 0] 29).alloc (.cells #[.slice none 0 0] 111); rwa [World.size_alloc] at this
    · have := HasRow.new ((w.alloc (.cells #[.string ⟨#[]⟩] 9)).alloc (.cells #[.int .i64 0] 29)) #[.slice none 0 0] 111; rwa [World.size_alloc, World.size_alloc] at this
    · exact ((below_alloc w _).trans ((below_alloc _ _).mono (by simp))).trans ((below_alloc _ _).mono (by simp; omega))
  case zero =>
    rintro a W ⟨j, ds, _, _, _, _, _, _, _, _, _, _, _, _, _, _, _, _, _, v, h1, h2, _⟩
    omega
  case step =>
    rintro m a W ⟨j, ds, u6, u7, u11, u12, u13, u14, u15, u16, u17, u18, u19, u20, u21, u22, u23, u24, u25, v, hm, hj, rfl, hB, hlen, hM, hb⟩ ih
    have HI := Lib.hid ih
    clear ih
    by_cases hj4 : j < 1
    · have hcj : W.cell? ⟨bl, j, none⟩ = some (.func (.func (gs j)) #[] (lbs j)) := (hb.cell (p := ⟨bl, j, none⟩) hbl).trans (hc j hj4)
      have i1 : (j : Int) < 1 := by omega
      have hWsz := hb.size
      obtain ⟨Tj, hTj⟩ : ∃ l, P.linesL (upT Ts j) = l := ⟨_, rfl⟩
      have hbsz := hB.t.lt
      have hDs : ∀ d ∈ ds, ∀ D, d.target = .collected D → D < W.heap.size := fun d hd D e => (Array.getElem?_eq_some_iff.1 (hM.lt d hd D e).2).1
      gi_wp2
      refine wpIn_rangeFunc_ownG rfl hn1 (gf := gs j) (lb := lbs j) rfl trivial (he j hj4) (hs j hj4) belowK_t (belowK_b hWsz) hb (fun _ => rfl)
        (JI Ts j w ds) (JX Ts j w ds)
        (fun s A B row hs' hg hr => ⟨?_, ownFrom_below (β := Unit) (Nat.le_refl _) hWsz () A B row hs'.b hg hr⟩)
        (fun c s A B row hs' hg hr => ⟨hs'.c, ?_, ownFrom_below (β := Unit) (Nat.le_refl _) hWsz () A B row hs'.b hg hr⟩)
        ⟨⟨v, by simpa using hB, by simpa using hlen, hM⟩, hb⟩
        (fun y => { tmps := #[.slice (some ⟨bl, 0, none⟩) 1 1, undef, .pointer (some ⟨w.heap.size, 0, none⟩), .pointer (some ⟨w.heap.size + 1, 0, none⟩), .pointer (some ⟨w.heap.size + 1 + 1, 0, none⟩), undef, .func (.func (gs j)) #[] (lbs j), .string y.1, .slice (some ⟨bl, 0, none⟩) 1 1, .int .i64 1, .int .i64 j, .bool true, .pointer (some ⟨bl, j, none⟩), .func (.func (gs j)) #[] (lbs j), .func (.func (gs j)) #[] (lbs j), .string y.1, u16, u17, u18, u19, u20, u21, u22, u23, u24, u25, undef, undef], defers := [] }) ?assign ?body ?done ?stop
      case assign =>
        intro l y X K hK
        gi_wp2
        exact hK
      case body =>
        rintro l pre y X ⟨⟨v, hB, hlen, hM⟩, hb⟩ hlt
        have hX := hb.size
        have hbs := hB.t.lt
        have hy := y.2
        obtain ⟨p0, c0, rfl, hown0⟩ := hB.o.slice
        have ct := hB.t.cell 0
        have hsn : P.linesL (upT Ts j ++ (pre ++ [y]).map (·.1)) = P.linesL (upT Ts j ++ pre.map (·.1)) ++ y.1.data.toList ++ [10] := by
          rw [List.map_append, ← List.append_assoc]; exact P.linesL_snoc _ _
        have HN := Lib.hid hsn
        clear hsn
        generalize P.linesL (upT Ts j ++ pre.map (·.1)) = T at *
        gi_upto_region 9 with (first
          | (gi_at_builtin; refine wpListIn_append_text8 _ rfl _ _ rfl (w.heap.size + 1 + 1 + 1) _ _ rfl hB.o y.1 rfl (by omega) (by omega) ?_; intro v1 X1 hown1 hg1; obtain ⟨p1, c1, e1, hlt1⟩ := hown1.slice; simp only [List.length_append, P.size_len] at e1; subst e1; obtain ⟨⟨hc1, hf1⟩, hB1, hbel1⟩ := hB.wrote hg1 hown1; have hc2 := hB1.t.cell 0)
          | (gi_at_builtin; refine wpListIn_append_byte8 _ rfl _ _ rfl (w.heap.size + 1 + 1 + 1) _ _ rfl (hB1.alloc _).o _ 1 1 [10] rfl rfl (new_cells' _ _ _ _ (by simp [World.setCell])) (by simp only [List.length_append, P.size_len]; omega) (by have := hbel1.size; simp at this ⊢; omega) ?_; intro v2 X2 hown2 hg2; obtain ⟨p2, c2, e2, hlt2⟩ := hown2.slice; simp only [List.length_append, P.size_len, List.length_cons, List.length_nil, Nat.zero_add] at e2; subst e2; obtain ⟨⟨hd1, hf2⟩, hB2, hbel2⟩ := (hB1.alloc _).wrote hg2 hown2; have hd2 := hB2.t.cell 0))
        have HB2 := Lib.hid hB2
        have HK : Hid (KeepsOthers X (X2.setCell ⟨w.heap.size + 1 + 1, 0, none⟩ (.slice p2 (T.length + y.1.size + 1) c2))) := Lib.hid ((((own8_keeps hB.o hg1).trans (KeepsOthers.setCell _ _ _)).trans (KeepsOthers.alloc _ _)).trans ((own8_keeps (hB1.alloc _).o hg2).trans (KeepsOthers.setCell _ _ _)))
        have HBl : Hid (Below w.heap.size X (X2.setCell ⟨w.heap.size + 1 + 1, 0, none⟩ (.slice p2 (T.length + y.1.size + 1) c2))) := Lib.hid ((hbel1.trans ((below_alloc _ _).mono (Nat.le_trans hX hbel1.size))).trans hbel2)
        have HM2 : Hid (Marks w.heap.size (X2.setCell ⟨w.heap.size + 1 + 1, 0, none⟩ (.slice p2 (T.length + y.1.size + 1) c2)) ds) := Lib.hid (hM.others HK.out)
        have hl2 : (T ++ y.1.data.toList ++ [10]).length = T.length + y.1.size + 1 := by simp only [List.length_append, P.size_len, List.length_cons, List.length_nil]
        rw [← HN.out] at hl2
        have HL2 := Lib.hid hl2
        have cr1 := hB2.r1.cell 0
        have fr1 := hB2.r1.free 0
        have cr2 := hB2.r2.cell 0
        have fr2 := hB2.r2.free 0
        clear hg1 hg2 hown1 hown2 hB1 hbel1 hbel2 hc1 hf1 hd1 hf2 hc2 hlt1 hlt2 hl2 hB2 ct
        generalize T.length + y.1.size + 1 = N at *
        by_cases hbig : (N : Int) ≤ 4194304
        · gi_wp2
          exact ⟨HK.out.from _, HBl.out, ⟨⟨_, by rw [HN.out]; exact HB2.out, by rw [HL2.out]; omega, HM2.out⟩, hb.trans HBl.out⟩⟩
        · have hbig2 : (4194304 : Int) < (N : Int) := by omega
          have HS := Lib.hid (HB2.out.store ⟨#[]⟩ 4)
          gi_wp2
          exact ⟨(HK.out.trans HS.out.2.1).from _, ⟨rfl, ⟨_, by rw [HN.out]; exact HS.out.1, by rw [HL2.out]; omega, HM2.out.others HS.out.2.1⟩, (hb.trans HBl.out).trans HS.out.2.2⟩⟩
      case done =>
        rintro D xs X hD hxs ⟨⟨v, hB, hlen, hM⟩, hb⟩ hKD
        have hxs' : xs.map (·.1) = Ts j := hxs
        rw [hxs'] at hB hlen
        have HM := Lib.hid (Marks.cons hKD (Nat.le_trans hWsz hD) hM (fun d hd e => by have := hDs d hd D e; omega))
        have HB := Lib.hid hB
        have HL := Lib.hid hlen
        clear hB hlen hM hxs hxs' hKD
        gi_wp2
        exact HI.out _ _ ⟨j + 1, _, _, _, _, _, _, _, _, _, _, _, _, _, _, _, _, _, _, v, by omega, by omega, rfl, HB.out, HL.out, HM.out, hb⟩
      case stop =>
        rintro D c pre X hD ⟨k, hk, hpre⟩ ⟨rfl, ⟨v, hB, hlen, hM⟩, hb⟩ hKD
        have hpre' : pre.map (·.1) = (Ts j).take k := hpre
        rw [hpre'] at hB hlen
        have HM := Lib.hid (Marks.cons hKD (Nat.le_trans hWsz hD) hM (fun d hd e => by have := hDs d hd D e; omega))
        have HL := Lib.hid (Nat.lt_of_lt_of_le hlen (upT_part1 Ts hj4 k))
        have HB := Lib.hid hB
        clear hB hlen hM hpre hpre' hKD
        gi_wp2
        refine HM.out.leaves fun W' h1 h2 => ?_
        have q1 := row_left HB.out.r1 h1
        have q2 := row_left HB.out.r2 h1
        refine ⟨.tuple #[.string ⟨#[]⟩, .int .i64 4], by simp [results, Tryz.f106, go_sem, q1, q2], by unfold joinOut; rw [if_neg (by have := HL.out; omega)], hb.trans h2⟩
      · obtain ⟨v, k1, k2, k3⟩ := hs'.ex
        exact ⟨v, k1.kept hg (fun r e => (hr r e).2), k2, k3.grown hg fun d hd D e e2 => by have := (hr _ e2.symm).1; have := hDs d hd D e; omega⟩
      · obtain ⟨v, k1, k2, k3⟩ := hs'.ex
        exact ⟨v, k1.kept hg (fun r e => (hr r e).2), k2, k3.grown hg fun d hd D e e2 => by have := (hr _ e2.symm).1; have := hDs d hd D e; omega⟩
    · have hj5 : j = 1 := by omega
      subst hj5
      obtain ⟨p0, c0, rfl, _⟩ := hB.o.slice
      have hcv := hB.o.text'
      have HS := Lib.hid (hB.store (P.txt (P.linesL (upT Ts 1))) 0)
      have HM := Lib.hid (hM.others HS.out.2.1)
      have ct := hB.t.cell 0
      have cr1 := hB.r1.cell 0
      have fr1 := hB.r1.free 0
      have cr2 := hB.r2.cell 0
      have fr2 := hB.r2.free 0
      clear hM
      gi_wp2
      refine HM.out.leaves fun W' h1 h2 => ?_
      have q1 := row_left HS.out.1.r1 h1
      have q2 := row_left HS.out.1.r2 h1
      refine ⟨.tuple #[.string (P.txt (P.linesL (upT Ts 1))), .int .i64 0], by simp [results, Tryz.f106, go_sem, q1, q2], by unfold joinOut; rw [if_pos hlen], (hb.trans HS.out.2.2).trans h2⟩
end Go.Proofs.YtomikcemiacjmaaGreatDoor
