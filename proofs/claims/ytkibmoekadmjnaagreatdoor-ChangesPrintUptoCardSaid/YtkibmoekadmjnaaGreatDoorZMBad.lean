/- Walks: package disk: functions with a machine return its error. -/
import Derived.Test.YtkibmoekadmjnaaGreatDoorZMCheck

namespace Go.Proofs.YtkibmoekadmjnaaGreatDoor
open Go.RowKit Go.Shelf

/-- Check of the machine V answers e, in w and in all later worlds -/
def ChecksTo (V : Value) (e : Int) (w : World) : Prop := Good w ∧ ∀ W, Below w.heap.size w W → Calls Tryz.prog 14 #[V] W fun x w' => x = .returned (.int .i64 e) ∧ Below W.heap.size W w'
theorem ChecksTo.later {V : Value} {e : Int} {w w' : World} (h : ChecksTo V e w) (hb : Below w.heap.size w w') : ChecksTo V e w' :=
  ⟨h.1.mono hb, fun W hW => h.2 W (bstep hb hW)⟩
theorem ChecksTo.of (A : Ad) (m : P.Mach) (hf : m.fit) (w : World) (hw : Good w) (hl : Lies w.heap.size w A m) : ChecksTo (machV A m) (P.machErr m) w :=
  ⟨hw, fun W hb => dcheck_any A m hf W (hw.mono hb) ((hl.below hb).up hb.size)⟩
theorem below2 (w : World) (o1 o2 : Obj) : Below w.heap.size w ((w.alloc o1).alloc o2) := bstep (below_alloc _ _) (below_alloc _ _)
theorem below3 (w : World) (o1 o2 o3 : Obj) : Below w.heap.size w (((w.alloc o1).alloc o2).alloc o3) := bstep (below2 _ _ _) (below_alloc _ _)
theorem below4 (w : World) (o1 o2 o3 o4 : Obj) : Below w.heap.size w ((((w.alloc o1).alloc o2).alloc o3).alloc o4) := bstep (below3 _ _ _ _) (below_alloc _ _)
theorem store4 {w W : World} {k : Nat} {a b c d : Value} (hR : HasRow W k #[a, b, c, d]) (hb : Below w.heap.size w W) (hk : w.heap.size ≤ k) (x y z u : Value) :
    HasRow ((((W.setCell ⟨k, 0, none⟩ x).setCell ⟨k, 1, none⟩ y).setCell ⟨k, 2, none⟩ z).setCell ⟨k, 3, none⟩ u) k #[x, y, z, u] ∧ Below w.heap.size w ((((W.setCell ⟨k, 0, none⟩ x).setCell ⟨k, 1, none⟩ y).setCell ⟨k, 2, none⟩ z).setCell ⟨k, 3, none⟩ u) :=
  ⟨(((hR.set 0 x (by simp)).set 1 y (by simp)).set 2 z (by simp)).set 3 u (by simp), (((hb.setCell (p := ⟨k, 0, none⟩) hk x).setCell (p := ⟨k, 1, none⟩) hk y).setCell (p := ⟨k, 2, none⟩) hk z).setCell (p := ⟨k, 3, none⟩) hk u⟩
theorem store3 {w W : World} {k : Nat} {a b c : Value} (hR : HasRow W k #[a, b, c]) (hb : Below w.heap.size w W) (hk : w.heap.size ≤ k) (x y z : Value) :
    HasRow (((W.setCell ⟨k, 0, none⟩ x).setCell ⟨k, 1, none⟩ y).setCell ⟨k, 2, none⟩ z) k #[x, y, z] ∧ Below w.heap.size w (((W.setCell ⟨k, 0, none⟩ x).setCell ⟨k, 1, none⟩ y).setCell ⟨k, 2, none⟩ z) :=
  ⟨((hR.set 0 x (by simp)).set 1 y (by simp)).set 2 z (by simp), ((hb.setCell (p := ⟨k, 0, none⟩) hk x).setCell (p := ⟨k, 1, none⟩) hk y).setCell (p := ⟨k, 2, none⟩) hk z⟩
theorem store2 {w W : World} {k : Nat} {a b : Value} (hR : HasRow W k #[a, b]) (hb : Below w.heap.size w W) (hk : w.heap.size ≤ k) (x y : Value) :
    HasRow ((W.setCell ⟨k, 0, none⟩ x).setCell ⟨k, 1, none⟩ y) k #[x, y] ∧ Below w.heap.size w ((W.setCell ⟨k, 0, none⟩ x).setCell ⟨k, 1, none⟩ y) :=
  ⟨(hR.set 0 x (by simp)).set 1 y (by simp), (hb.setCell (p := ⟨k, 0, none⟩) hk x).setCell (p := ⟨k, 1, none⟩) hk y⟩
abbrev mz : Array Value := #[.slice none 0 0, .slice none 0 0, .slice none 0 0, .slice none 0 0]

section
variable (s1 s2 s3 s4 : Value) (e : Int) (he : e ≠ 0)
include he

theorem size_bad (w : World) (h : ChecksTo (.agg #[s1, s2, s3, s4]) e w) :
    Calls Tryz.prog 16 #[.agg #[s1, s2, s3, s4]] w fun x w' => x = .returned (.tuple #[.int .i64 0, .int .i64 e]) ∧ Below w.heap.size w w' := by
  have H := Lib.hid h.2
  have g : (e != 0) = true := by simpa using he
  clear h he
  go_enter Tryz.func16, Tryz.ntmps16
  go_wp2_with fail
  refine (H.out _ (below_alloc _ _)).mono ?_
  rintro x w1 ⟨rfl, hb⟩
  have HB := Lib.hid (bstep (below_alloc _ _) hb)
  clear hb
  go_wp2_with fail
  go_ret2
  exact ⟨rfl, HB.out⟩
theorem print_bad (w : World) (h : ChecksTo (.agg #[s1, s2, s3, s4]) e w) :
    Calls Tryz.prog 18 #[.agg #[s1, s2, s3, s4]] w fun x w' => x = .returned (.tuple #[.string ⟨#[]⟩, .int .i64 e]) ∧ Below w.heap.size w w' := by
  have H := Lib.hid h.2
  have g : (e != 0) = true := by simpa using he
  clear h he
  go_enter Tryz.func18, Tryz.ntmps18
  go_wp2_with fail
  refine (H.out _ (below_alloc _ _)).mono ?_
  rintro x w1 ⟨rfl, hb⟩
  have HB := Lib.hid (bstep (below_alloc _ _) hb)
  clear hb
  go_wp2_with fail
  go_ret2
  exact ⟨rfl, HB.out⟩
theorem sum_bad (w : World) (h : ChecksTo (.agg #[s1, s2, s3, s4]) e w) :
    Calls Tryz.prog 17 #[.agg #[s1, s2, s3, s4]] w fun x w' => x = .returned (.tuple #[.string ⟨#[]⟩, .int .i64 e]) ∧ Below w.heap.size w w' := by
  have H := Lib.hid (fun W hW => print_bad s1 s2 s3 s4 e he W (h.later hW))
  have g : (e != 0) = true := by simpa using he
  clear h he
  go_enter Tryz.func17, Tryz.ntmps17
  go_wp2_with fail
  refine (H.out _ (below_alloc _ _)).mono ?_
  rintro x w1 ⟨rfl, hb⟩
  have HB := Lib.hid (bstep (below_alloc _ _) hb)
  clear hb
  go_wp2_with fail
  go_ret2
  exact ⟨rfl, HB.out⟩
theorem newDisk_bad (w : World) (h : ChecksTo (.agg #[s1, s2, s3, s4]) e w) :
    Calls Tryz.prog 28 #[.agg #[s1, s2, s3, s4]] w fun x w' => x = .returned (.tuple #[.pointer none, .int .i64 e]) ∧ Below w.heap.size w w' := by
  have H := Lib.hid h.2
  have g : (e != 0) = true := by simpa using he
  clear h he
  go_enter Tryz.func28, Tryz.ntmps28
  go_wp2_with fail
  refine (H.out _ (below_alloc _ _)).mono ?_
  rintro x w1 ⟨rfl, hb⟩
  have HB := Lib.hid (bstep (below_alloc _ _) hb)
  clear hb
  go_wp2_with fail
  go_ret2
  exact ⟨rfl, HB.out⟩
theorem below_bad (n : ByteArray) (w : World) (h : ChecksTo (.agg #[s1, s2, s3, s4]) e w) :
    Calls Tryz.prog 25 #[.agg #[s1, s2, s3, s4], .string n] w fun x w' => x = .returned (.tuple #[.slice none 0 0, .int .i64 e]) ∧ Below w.heap.size w w' := by
  have H := Lib.hid h.2
  have g : (e != 0) = true := by simpa using he
  clear h he
  go_enter Tryz.func25, Tryz.ntmps25
  go_wp2_with fail
  refine (H.out _ (below_alloc _ _)).mono ?_
  rintro x w1 ⟨rfl, hb⟩
  have HB := Lib.hid (bstep (below_alloc _ _) hb)
  clear hb
  go_wp2_with fail
  go_ret2
  exact ⟨rfl, HB.out⟩
theorem diff_bad (V : Value) (hV : ∃ t1 t2 t3 t4, V = .agg #[t1, t2, t3, t4]) (w : World) (h : ChecksTo (.agg #[s1, s2, s3, s4]) e w) :
    Calls Tryz.prog 15 #[.agg #[s1, s2, s3, s4], V] w fun x w' => x = .returned (.tuple #[.slice none 0 0, .int .i64 e]) ∧ Below w.heap.size w w' := by
  obtain ⟨t1, t2, t3, t4, rfl⟩ := hV
  have H := Lib.hid h.2
  have g : (e != 0) = true := by simpa using he
  clear h he
  go_enter Tryz.func15, Tryz.ntmps15
  go_wp2_with fail
  refine (H.out _ (below2 _ _ _)).mono ?_
  rintro x w1 ⟨rfl, hb⟩
  have HB := Lib.hid (bstep (below2 _ _ _) hb)
  clear hb
  go_wp2_with fail
  go_ret2
  exact ⟨rfl, HB.out⟩
set_option maxRecDepth 100000 in
theorem boot_bad (w : World) (h : ChecksTo (.agg #[s1, s2, s3, s4]) e w) :
    Calls Tryz.prog 19 #[.agg #[s1, s2, s3, s4]] w fun x w' => x = .returned (.tuple #[.agg mz, .int .i64 e]) ∧ Below w.heap.size w w' := by
  have H := Lib.hid h.2
  have g : (e != 0) = true := by simpa using he
  clear h he
  go_enter Tryz.func19, Tryz.ntmps19
  go_wp2_with fail
  refine (H.out _ (below2 _ _ _)).mono ?_
  rintro x w1 ⟨rfl, hb⟩
  have hR := (HasRow.new (w.alloc (.cells #[s1, s2, s3, s4] 26)) mz 26).below hb
  rw [World.size_alloc] at hR
  have ST := store4 hR (bstep (below2 _ _ _) hb) (Nat.le_succ _) (.slice none 0 0) (.slice none 0 0) (.slice none 0 0) (.slice none 0 0)
  obtain ⟨c0, c1, c2, c3, hlt⟩ := hrow4 hR
  have f0 := hR.free 0
  have f1 := hR.free 1
  have f2 := hR.free 2
  have f3 := hR.free 3
  have HS := Lib.hid ST
  clear hb ST
  go_wp2_with fail
  refine bodyPost_ret (v := .tuple #[.agg mz, .int .i64 e]) ?_ rfl ⟨rfl, HS.out.2⟩
  clear c0 c1 c2 c3 f0 f1 f2 f3 hR
  obtain ⟨d0, d1, d2, d3, _⟩ := hrow4 HS.out.1
  simp [results, Tryz.results19, go_sem, d0, d1, d2, d3]
set_option maxRecDepth 100000 in
theorem apply_bad (l : Value) (w : World) (h : ChecksTo (.agg #[s1, s2, s3, s4]) e w) :
    Calls Tryz.prog 26 #[.agg #[s1, s2, s3, s4], l] w fun x w' => x = .returned (.tuple #[.agg mz, .int .i64 e]) ∧ Below w.heap.size w w' := by
  have H := Lib.hid h.2
  have g : (e != 0) = true := by simpa using he
  clear h he
  go_enter Tryz.func26, Tryz.ntmps26
  go_wp2_with fail
  refine (H.out _ (below2 _ _ _)).mono ?_
  rintro x w1 ⟨rfl, hb⟩
  have hR := (HasRow.new (w.alloc (.cells #[s1, s2, s3, s4] 26)) mz 26).below hb
  rw [World.size_alloc] at hR
  have ST := store4 hR (bstep (below2 _ _ _) hb) (Nat.le_succ _) (.slice none 0 0) (.slice none 0 0) (.slice none 0 0) (.slice none 0 0)
  obtain ⟨c0, c1, c2, c3, hlt⟩ := hrow4 hR
  have f0 := hR.free 0
  have f1 := hR.free 1
  have f2 := hR.free 2
  have f3 := hR.free 3
  have HS := Lib.hid ST
  clear hb ST
  go_wp2_with fail
  refine bodyPost_ret (v := .tuple #[.agg mz, .int .i64 e]) ?_ rfl ⟨rfl, HS.out.2⟩
  clear c0 c1 c2 c3 f0 f1 f2 f3 hR
  obtain ⟨d0, d1, d2, d3, _⟩ := hrow4 HS.out.1
  simp [results, Tryz.results26, go_sem, d0, d1, d2, d3]
set_option maxRecDepth 100000 in
theorem lookUpSetting_bad (l n : Value) (gk gi : Nat) (w : World) (h : ChecksTo (.agg #[s1, s2, s3, s4]) e w) :
    Calls Tryz.prog 109 #[.agg #[s1, s2, s3, s4], l, .func (.func gk) #[] #[], .func (.func gi) #[] #[], n] w fun x w' => x = .returned (.tuple #[.agg #[.string ⟨#[]⟩, .string ⟨#[]⟩], .int .i64 e]) ∧ Below w.heap.size w w' := by
  have H := Lib.hid h.2
  have g : (e != 0) = true := by simpa using he
  clear h he
  go_enter Tryz.func109, Tryz.ntmps109
  go_wp2_with fail
  refine (H.out _ (below4 _ _ _ _ _)).mono ?_
  rintro x w1 ⟨rfl, hb⟩
  have hR := ((HasRow.new ((w.alloc (.cells #[s1, s2, s3, s4] 26)).alloc (.cells #[.func (.func gk) #[] #[]] 113)) #[.string ⟨#[]⟩, .string ⟨#[]⟩] 62).alloc (.cells #[.string ⟨#[]⟩, .string ⟨#[]⟩] 62)).below hb
  have hN := (HasRow.new (((w.alloc (.cells #[s1, s2, s3, s4] 26)).alloc (.cells #[.func (.func gk) #[] #[]] 113)).alloc (.cells #[.string ⟨#[]⟩, .string ⟨#[]⟩] 62)) #[.string ⟨#[]⟩, .string ⟨#[]⟩] 62).below hb
  simp only [World.size_alloc] at hR hN
  have ST := store2 hR (bstep (below4 _ _ _ _ _) hb) (by omega) (.string ⟨#[]⟩) (.string ⟨#[]⟩)
  obtain ⟨c0, c1, hlt⟩ := hrow2 hR
  obtain ⟨n0, n1, hltn⟩ := hrow2 hN
  have f0 := hR.free 0
  have f1 := hR.free 1
  have HS := Lib.hid ST
  clear hb ST
  go_wp2_with fail
  refine bodyPost_ret (v := .tuple #[.agg #[.string ⟨#[]⟩, .string ⟨#[]⟩], .int .i64 e]) ?_ rfl ⟨rfl, HS.out.2⟩
  clear c0 c1 n0 n1 f0 f1 hR hN
  obtain ⟨d0, d1, _⟩ := hrow2 HS.out.1
  simp [results, Tryz.results109, go_sem, d0, d1]
set_option maxRecDepth 100000 in
theorem lookUpFile_bad (l n : Value) (gk gi : Nat) (w : World) (h : ChecksTo (.agg #[s1, s2, s3, s4]) e w) :
    Calls Tryz.prog 110 #[.agg #[s1, s2, s3, s4], l, .func (.func gk) #[] #[], .func (.func gi) #[] #[], n] w fun x w' => x = .returned (.tuple #[.agg #[.string ⟨#[]⟩, .string ⟨#[]⟩, .bool false], .int .i64 e]) ∧ Below w.heap.size w w' := by
  have H := Lib.hid h.2
  have g : (e != 0) = true := by simpa using he
  clear h he
  go_enter Tryz.func110, Tryz.ntmps110
  go_wp2_with fail
  refine (H.out _ (below4 _ _ _ _ _)).mono ?_
  rintro x w1 ⟨rfl, hb⟩
  have hR := ((HasRow.new ((w.alloc (.cells #[s1, s2, s3, s4] 26)).alloc (.cells #[.func (.func gk) #[] #[]] 115)) #[.string ⟨#[]⟩, .string ⟨#[]⟩, .bool false] 42).alloc (.cells #[.string ⟨#[]⟩, .string ⟨#[]⟩, .bool false] 42)).below hb
  have hN := (HasRow.new (((w.alloc (.cells #[s1, s2, s3, s4] 26)).alloc (.cells #[.func (.func gk) #[] #[]] 115)).alloc (.cells #[.string ⟨#[]⟩, .string ⟨#[]⟩, .bool false] 42)) #[.string ⟨#[]⟩, .string ⟨#[]⟩, .bool false] 42).below hb
  simp only [World.size_alloc] at hR hN
  have ST := store3 hR (bstep (below4 _ _ _ _ _) hb) (by omega) (.string ⟨#[]⟩) (.string ⟨#[]⟩) (.bool false)
  obtain ⟨c0, c1, c2, hlt⟩ := hrow3 hR
  obtain ⟨n0, n1, n2, hltn⟩ := hrow3 hN
  have f0 := hR.free 0
  have f1 := hR.free 1
  have f2 := hR.free 2
  have HS := Lib.hid ST
  clear hb ST
  go_wp2_with fail
  refine bodyPost_ret (v := .tuple #[.agg #[.string ⟨#[]⟩, .string ⟨#[]⟩, .bool false], .int .i64 e]) ?_ rfl ⟨rfl, HS.out.2⟩
  clear c0 c1 c2 n0 n1 n2 f0 f1 f2 hR hN
  obtain ⟨d0, d1, d2, _⟩ := hrow3 HS.out.1
  simp [results, Tryz.results110, go_sem, d0, d1, d2]
set_option maxRecDepth 100000 in
theorem lookUpService_bad (l n : Value) (gk gi : Nat) (w : World) (h : ChecksTo (.agg #[s1, s2, s3, s4]) e w) :
    Calls Tryz.prog 112 #[.agg #[s1, s2, s3, s4], l, .func (.func gk) #[] #[], .func (.func gi) #[] #[], n] w fun x w' => x = .returned (.tuple #[.agg #[.string ⟨#[]⟩, .string ⟨#[]⟩, .bool false, .bool false], .int .i64 e]) ∧ Below w.heap.size w w' := by
  have H := Lib.hid h.2
  have g : (e != 0) = true := by simpa using he
  clear h he
  go_enter Tryz.func112, Tryz.ntmps112
  go_wp2_with fail
  refine (H.out _ (below4 _ _ _ _ _)).mono ?_
  rintro x w1 ⟨rfl, hb⟩
  have hR := ((HasRow.new ((w.alloc (.cells #[s1, s2, s3, s4] 26)).alloc (.cells #[.func (.func gk) #[] #[]] 118)) #[.string ⟨#[]⟩, .string ⟨#[]⟩, .bool false, .bool false] 46).alloc (.cells #[.string ⟨#[]⟩, .string ⟨#[]⟩, .bool false, .bool false] 46)).below hb
  have hN := (HasRow.new (((w.alloc (.cells #[s1, s2, s3, s4] 26)).alloc (.cells #[.func (.func gk) #[] #[]] 118)).alloc (.cells #[.string ⟨#[]⟩, .string ⟨#[]⟩, .bool false, .bool false] 46)) #[.string ⟨#[]⟩, .string ⟨#[]⟩, .bool false, .bool false] 46).below hb
  simp only [World.size_alloc] at hR hN
  have ST := store4 hR (bstep (below4 _ _ _ _ _) hb) (by omega) (.string ⟨#[]⟩) (.string ⟨#[]⟩) (.bool false) (.bool false)
  obtain ⟨c0, c1, c2, c3, hlt⟩ := hrow4 hR
  obtain ⟨n0, n1, n2, n3, hltn⟩ := hrow4 hN
  have f0 := hR.free 0
  have f1 := hR.free 1
  have f2 := hR.free 2
  have f3 := hR.free 3
  have HS := Lib.hid ST
  clear hb ST
  go_wp2_with fail
  refine bodyPost_ret (v := .tuple #[.agg #[.string ⟨#[]⟩, .string ⟨#[]⟩, .bool false, .bool false], .int .i64 e]) ?_ rfl ⟨rfl, HS.out.2⟩
  clear c0 c1 c2 c3 n0 n1 n2 n3 f0 f1 f2 f3 hR hN
  obtain ⟨d0, d1, d2, d3, _⟩ := hrow4 HS.out.1
  simp [results, Tryz.results112, go_sem, d0, d1, d2, d3]
theorem fact_bad (n : ByteArray) (w : World) (h : ChecksTo (.agg #[s1, s2, s3, s4]) e w) :
    Calls Tryz.prog 21 #[.agg #[s1, s2, s3, s4], .string n] w fun x w' => x = .returned (.tuple #[.string ⟨#[]⟩, .int .i64 e]) ∧ Below w.heap.size w w' := by
  have H := Lib.hid (fun l n gk gi W hW => lookUpSetting_bad s1 s2 s3 s4 e he l n gk gi W (h.later hW))
  clear h he
  go_enter Tryz.func21, Tryz.ntmps21
  go_wp2_with fail
  refine (H.out _ _ _ _ _ (below_alloc _ _)).mono ?_
  rintro x w1 ⟨rfl, hb⟩
  have HB := Lib.hid (bstep (bstep (below_alloc w _) hb) (below_alloc _ (.cells #[.string ⟨#[]⟩, .string ⟨#[]⟩] 62)))
  clear hb
  go_wp2_with fail
  go_ret2
  exact ⟨rfl, HB.out⟩
theorem setting_bad (n : ByteArray) (w : World) (h : ChecksTo (.agg #[s1, s2, s3, s4]) e w) :
    Calls Tryz.prog 23 #[.agg #[s1, s2, s3, s4], .string n] w fun x w' => x = .returned (.tuple #[.string ⟨#[]⟩, .int .i64 e]) ∧ Below w.heap.size w w' := by
  have H := Lib.hid (fun l n gk gi W hW => lookUpSetting_bad s1 s2 s3 s4 e he l n gk gi W (h.later hW))
  clear h he
  go_enter Tryz.func23, Tryz.ntmps23
  go_wp2_with fail
  refine (H.out _ _ _ _ _ (below_alloc _ _)).mono ?_
  rintro x w1 ⟨rfl, hb⟩
  have HB := Lib.hid (bstep (bstep (below_alloc w _) hb) (below_alloc _ (.cells #[.string ⟨#[]⟩, .string ⟨#[]⟩] 62)))
  clear hb
  go_wp2_with fail
  go_ret2
  exact ⟨rfl, HB.out⟩
set_option maxRecDepth 100000 in
theorem file_bad (n : ByteArray) (w : World) (h : ChecksTo (.agg #[s1, s2, s3, s4]) e w) :
    Calls Tryz.prog 22 #[.agg #[s1, s2, s3, s4], .string n] w fun x w' => x = .returned (.tuple #[.agg #[.string ⟨#[]⟩, .string ⟨#[]⟩, .bool false], .int .i64 e]) ∧ Below w.heap.size w w' := by
  have H := Lib.hid (fun l n gk gi W hW => lookUpFile_bad s1 s2 s3 s4 e he l n gk gi W (h.later hW))
  clear h he
  go_enter Tryz.func22, Tryz.ntmps22
  go_wp2_with fail
  refine (H.out _ _ _ _ _ (below2 _ _ _)).mono ?_
  rintro x w1 ⟨rfl, hb⟩
  have hR := (HasRow.new (w.alloc (.cells #[s1, s2, s3, s4] 26)) #[.string ⟨#[]⟩, .string ⟨#[]⟩, .bool false] 42).below hb
  rw [World.size_alloc] at hR
  have ST := store3 hR (bstep (below2 _ _ _) hb) (Nat.le_succ _) (.string ⟨#[]⟩) (.string ⟨#[]⟩) (.bool false)
  obtain ⟨c0, c1, c2, hlt⟩ := hrow3 hR
  have f0 := hR.free 0
  have f1 := hR.free 1
  have f2 := hR.free 2
  have HS := Lib.hid ST
  clear hb ST
  go_wp2_with fail
  refine bodyPost_ret (v := .tuple #[.agg #[.string ⟨#[]⟩, .string ⟨#[]⟩, .bool false], .int .i64 e]) ?_ rfl ⟨rfl, HS.out.2⟩
  clear c0 c1 c2 f0 f1 f2 hR
  obtain ⟨d0, d1, d2, _⟩ := hrow3 HS.out.1
  simp [results, Tryz.results22, go_sem, d0, d1, d2]
set_option maxRecDepth 100000 in
theorem service_bad (n : ByteArray) (w : World) (h : ChecksTo (.agg #[s1, s2, s3, s4]) e w) :
    Calls Tryz.prog 24 #[.agg #[s1, s2, s3, s4], .string n] w fun x w' => x = .returned (.tuple #[.agg #[.string ⟨#[]⟩, .string ⟨#[]⟩, .bool false, .bool false], .int .i64 e]) ∧ Below w.heap.size w w' := by
  have H := Lib.hid (fun l n gk gi W hW => lookUpService_bad s1 s2 s3 s4 e he l n gk gi W (h.later hW))
  clear h he
  go_enter Tryz.func24, Tryz.ntmps24
  go_wp2_with fail
  refine (H.out _ _ _ _ _ (below2 _ _ _)).mono ?_
  rintro x w1 ⟨rfl, hb⟩
  have hR := (HasRow.new (w.alloc (.cells #[s1, s2, s3, s4] 26)) #[.string ⟨#[]⟩, .string ⟨#[]⟩, .bool false, .bool false] 46).below hb
  rw [World.size_alloc] at hR
  have ST := store4 hR (bstep (below2 _ _ _) hb) (Nat.le_succ _) (.string ⟨#[]⟩) (.string ⟨#[]⟩) (.bool false) (.bool false)
  obtain ⟨c0, c1, c2, c3, hlt⟩ := hrow4 hR
  have f0 := hR.free 0
  have f1 := hR.free 1
  have f2 := hR.free 2
  have f3 := hR.free 3
  have HS := Lib.hid ST
  clear hb ST
  go_wp2_with fail
  refine bodyPost_ret (v := .tuple #[.agg #[.string ⟨#[]⟩, .string ⟨#[]⟩, .bool false, .bool false], .int .i64 e]) ?_ rfl ⟨rfl, HS.out.2⟩
  clear c0 c1 c2 c3 f0 f1 f2 f3 hR
  obtain ⟨d0, d1, d2, d3, _⟩ := hrow4 HS.out.1
  simp [results, Tryz.results24, go_sem, d0, d1, d2, d3]
theorem undo_bad (l : Value) (w : World) (h : ChecksTo (.agg #[s1, s2, s3, s4]) e w) :
    Calls Tryz.prog 27 #[.agg #[s1, s2, s3, s4], l] w fun x w' => x = .returned (.tuple #[.slice none 0 0, .int .i64 e]) ∧ Below w.heap.size w w' := by
  have H := Lib.hid (fun l W hW => apply_bad s1 s2 s3 s4 e he l W (h.later hW))
  have g : (e != 0) = true := by simpa using he
  clear h he
  go_enter Tryz.func27, Tryz.ntmps27
  go_wp2_with fail
  refine (H.out _ _ (below_alloc _ _)).mono ?_
  rintro x w1 ⟨rfl, hb⟩
  have HB := Lib.hid (bstep (bstep (below_alloc w _) hb) (below_alloc _ (.cells mz 26)))
  clear hb
  go_wp2_with fail
  go_ret2
  exact ⟨rfl, HB.out⟩
end
end Go.Proofs.YtkibmoekadmjnaaGreatDoor
