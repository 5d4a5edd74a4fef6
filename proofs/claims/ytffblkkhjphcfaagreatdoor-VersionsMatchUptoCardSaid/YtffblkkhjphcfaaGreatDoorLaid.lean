/- What the rows' lists give the walks, and a world that meets them: the same for every row of this seat. -/
import Derived.Test.YtffblkkhjphcfaaGreatDoorRows
import Derived.Test.YtffblkkhjphcfaaGreatDoorWorld
import Derived.Lib.LaidU8
import Derived.Lib.LaidIn
import Derived.Lib.LaidTab
import Derived.Shelf.Vars
import Derived.LaidLaws
import Derived.ProofKit
namespace Go.Proofs.YtffblkkhjphcfaaGreatDoor
open Go.Lib

theorem own : ownKnob Tryz.prog.godebug = none := by kernel_rfl
theorem gMax : Tryz.prog.globalNamed "internal/bytealg.MaxLen" = some 0 := by kernel_rfl
theorem gSyn : Tryz.prog.globalNamed "strconv.ErrSyntax" = some 1 := by kernel_rfl
theorem gRan : Tryz.prog.globalNamed "strconv.ErrRange" = some 2 := by kernel_rfl
theorem gPow : Tryz.prog.globalNamed "internal/strconv.uint64pow10" = some 3 := by kernel_rfl
theorem gSynT : (Tryz.prog.globals[1]?).map (·.type) = some 99 := by kernel_rfl
theorem gRanT : (Tryz.prog.globals[2]?).map (·.type) = some 99 := by kernel_rfl
theorem gPowT : (Tryz.prog.globals[3]?).map (·.type) = some 311 := by kernel_rfl
theorem cells311 : Tryz.prog.cellsOf 311 = 20 := by kernel_rfl
theorem cells_u64 : ∃ e, Tryz.prog.underlying 311 = some (.array 20 e) ∧ Tryz.prog.underlying e = some (.int .u64) ∧ Tryz.prog.cellsOf e = 1 := by
  refine ⟨_, Tryz.underlying311, ?_, ?_⟩ <;> kernel_rfl
theorem pow_data : (Rows.laid_internal_strconv_uint64pow10 : DataW Unit) = Lib.tabData .u64 Lib.pow10Tab := by kernel_rfl

theorem iface_cell {W : World} {n name : String} {g t : Nat} {ms : Array (String × TypeId)} {d : DataW Unit} (hg : Tryz.prog.globalNamed n = some g) (hty : (Tryz.prog.globals[g]?).map (·.type) = some t)
    (hi : Tryz.prog.underlying t = some (.interface ms)) (h : VarReads Tryz.prog W n (.iface name d)) : ∃ te pe, W.cell? ⟨g, 0, none⟩ = some (.iface te pe) := by
  obtain ⟨g', t', cs, fuel, p, h1, h2, h3, h4⟩ := h
  obtain rfl := Option.some.inj (hg.symm.trans h1)
  obtain rfl := Option.some.inj (hty.symm.trans h2)
  obtain ⟨_, u, v, hc, _, _⟩ := iface_of_trod hi h4
  have := World.var?_cell h1 h3 0
  obtain ⟨l⟩ := cs
  simp only at hc
  subst hc
  exact ⟨u, v, by simpa using this⟩

/-- FROM A ROW's LIST AND THE WORLD's SHAPE TO WHAT THE WALKS ASK. -/
theorem good_of {W : World} (hL : laidMet Tryz.prog Rows.versionsMatchRow.laid W) (hsh : W.ShapedOpen Tryz.prog) : Good W where
  m := cell_of_shapedOpen_int (zero := #[.int .i64 0]) (t := 3) (k := .i64) hsh (of_decide_eq_true (by kernel_rfl)) (by kernel_rfl) rfl (by kernel_rfl) (by kernel_rfl) Tryz.underlying3
  es := iface_cell gSyn gSynT Tryz.underlying99 (Lib.laidMet.reads hL (.tail _ (.tail _ (.tail _ (.tail _ (.tail _ (.head _)))))))
  er := iface_cell gRan gRanT Tryz.underlying99 (Lib.laidMet.reads hL (.tail _ (.tail _ (.tail _ (.tail _ (.head _))))))
  pow := by
    have h : VarReads Tryz.prog W "internal/strconv.uint64pow10" (Lib.tabData .u64 Lib.pow10Tab) := by
      rw [← pow_data]; exact Lib.laidMet.reads hL (.tail _ (.tail _ (.head _)))
    obtain ⟨g', t', cs, fuel, p, hg', ht', hvar, hd⟩ := h
    obtain rfl := Option.some.inj (gPow.symm.trans hg')
    obtain rfl := Option.some.inj (gPowT.symm.trans ht')
    obtain ⟨e, u1, u2, u3⟩ := cells_u64
    unfold TabIs
    rw [hvar, ← cells_of_tab u1 u2 u3 cells311 hd]
  sz := by
    obtain ⟨cs, hh, _⟩ := hsh.1 7 (Array.replicate 64 (.int .u8 0)) 347 (of_decide_eq_true (by kernel_rfl)) (by kernel_rfl)
    have := (Array.getElem?_eq_some_iff.1 hh).1
    omega

/-! ### a world that meets the list -/
abbrev synText : ByteArray := ⟨#[105, 110, 118, 97, 108, 105, 100, 32, 115, 121, 110, 116, 97, 120]⟩
abbrev ranText : ByteArray := ⟨#[118, 97, 108, 117, 101, 32, 111, 117, 116, 32, 111, 102, 32, 114, 97, 110, 103, 101]⟩
noncomputable def low : Nat := (World.holding Tryz.prog default ⟨#[], #[], []⟩).heap.size
/-- The numbers of a datum of numbers, in order: a row, or a row of rows. -/
def cellsOne : DataW Unit → List Value
  | .lit (.int k n) => [.int k n]
  | _ => []
def cellsTwo : DataW Unit → List Value
  | .agg ds => ds.flatMap cellsOne
  | d => cellsOne d
def cellsIn : DataW Unit → List Value
  | .agg ds => ds.flatMap cellsTwo
  | d => cellsOne d
noncomputable def put (h : Array Obj) (g : Nat) (cs : Array Value) : Array Obj := h.modify g fun
  | .cells _ t frozen => .cells cs t frozen
  | o => o
noncomputable def laidWorld (os : Os) : World :=
  let w0 := World.holding Tryz.prog os ⟨#[.cells #[.string ranText] 316, .cells #[.string synText] 316], #[], []⟩
  { w0 with heap := put (put (put (put (put (put (put w0.heap 1 #[.iface 314 (.pointer (some ⟨low + 1, 0, none⟩))]) 2 #[.iface 314 (.pointer (some ⟨low, 0, none⟩))])
      3 (cellsIn Rows.laid_internal_strconv_uint64pow10).toArray) 4 (cellsIn Rows.laid_unicode_utf8_first).toArray) 5 (cellsIn Rows.laid_unicode_utf8_acceptRanges).toArray)
      6 (cellsIn Rows.laid_math_bits_deBruijn32tab).toArray) 7 (cellsIn Rows.laid_math_bits_deBruijn64tab).toArray }
theorem piece1 (os : Os) (args : Array Value) : LaidIn Tryz.prog ((laidWorld os).forCall (fun _ _ => 0) ⟨#[], args, []⟩).memory
    [("math/bits.deBruijn32tab", Rows.laid_math_bits_deBruijn32tab), ("math/bits.deBruijn64tab", Rows.laid_math_bits_deBruijn64tab), ("internal/strconv.uint64pow10", Rows.laid_internal_strconv_uint64pow10),
     ("unicode/utf8.acceptRanges", Rows.laid_unicode_utf8_acceptRanges), ("strconv.ErrRange", Rows.laid_strconv_ErrRange), ("strconv.ErrSyntax", Rows.laid_strconv_ErrSyntax)] [6, 7, 3, 5, 2, low, 1, low + 1] :=
  LaidIn.of_run _ 8 (by kernel_rfl) (by kernel_rfl) (by kernel_rfl) (by kernel_rfl)
theorem piece2 (os : Os) (args : Array Value) : LaidIn Tryz.prog ((laidWorld os).forCall (fun _ _ => 0) ⟨#[], args, []⟩).memory [("unicode/utf8.first", Rows.laid_unicode_utf8_first)] [4] :=
  LaidIn.of_run _ 8 (by kernel_rfl) (by kernel_rfl) (by kernel_rfl) (by kernel_rfl)
theorem laid_met (os : Os) (args : Array Value) : laidMet Tryz.prog Rows.versionsMatchRow.laid ((laidWorld os).forCall (fun _ _ => 0) ⟨#[], args, []⟩).memory :=
  ((piece1 os args).append (piece2 os args) (by kernel_rfl)).met
end Go.Proofs.YtffblkkhjphcfaaGreatDoor
