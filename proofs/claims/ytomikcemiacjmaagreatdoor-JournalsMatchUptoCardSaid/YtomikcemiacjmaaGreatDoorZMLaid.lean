/- What the rows' lists give the walks of package disk, and a world that meets them. -/
import Derived.Test.YtomikcemiacjmaaGreatDoorRows
import Derived.Test.YtomikcemiacjmaaGreatDoorZMNames
import Derived.Lib.LaidU8
import Derived.Lib.LaidIn
import Derived.Lib.LaidTab
import Derived.Shelf.Vars
import Derived.LaidLaws
import Derived.ProofKit

namespace Go.Proofs.YtomikcemiacjmaaGreatDoor
open Go.Lib

theorem own : ownKnob Tryz.prog.godebug = none := by kernel_rfl
theorem laidOut : laidOutB Tryz.prog = true := by kernel_rfl

/-- FROM THE WORLD's SHAPE TO WHAT THE WALKS ASK. -/
theorem good_of {W : World} (hsh : W.ShapedOpen Tryz.prog) : Good W where
  m := cell_of_shapedOpen_int (zero := #[.int .i64 0]) (t := 3) (k := .i64) hsh (of_decide_eq_true (by kernel_rfl)) (by kernel_rfl) rfl (by kernel_rfl) (by kernel_rfl) Tryz.underlying3
  sz := by
    obtain ⟨cs, hh, _⟩ := hsh.1 7 (Array.replicate 64 (.int .u8 0)) 346 (of_decide_eq_true (by kernel_rfl)) (by kernel_rfl)
    have := (Array.getElem?_eq_some_iff.1 hh).1
    omega

/-! ### a world that meets the list -/
/-- The numbers of a datum of numbers, in order: a row, or a row of rows. -/
def cellsOne : DataW Unit → List Value
  | .lit (.int k n) => [.int k n]
  | _ => []
def cellsTwo : DataW Unit → List Value
  | .agg ds => ds.flatMap cellsOne
  | d => cellsOne d
def cellsIn : DataW Unit → List Value
  | .agg ds => ds.flatMap cellsTwo
  | d => cellsOne d
noncomputable def put (h : Array Obj) (g : Nat) (cs : Array Value) : Array Obj := h.modify g fun
  | .cells _ t frozen => .cells cs t frozen
  | o => o
noncomputable def laidWorld (os : Os) : World :=
  let w0 := World.holding Tryz.prog os ⟨#[], #[], []⟩
  { w0 with heap := put (put (put (put (put w0.heap 1 (cellsIn Rows.laid_internal_strconv_uint64pow10).toArray) 4 (cellsIn Rows.laid_unicode_utf8_first).toArray) 5 (cellsIn Rows.laid_unicode_utf8_acceptRanges).toArray)
      6 (cellsIn Rows.laid_math_bits_deBruijn32tab).toArray) 7 (cellsIn Rows.laid_math_bits_deBruijn64tab).toArray }
theorem piece1 (os : Os) (args : Array Value) : LaidIn Tryz.prog ((laidWorld os).forCall (fun _ _ => 0) ⟨#[], args, []⟩).memory
    [("math/bits.deBruijn32tab", Rows.laid_math_bits_deBruijn32tab), ("math/bits.deBruijn64tab", Rows.laid_math_bits_deBruijn64tab), ("internal/strconv.uint64pow10", Rows.laid_internal_strconv_uint64pow10),
     ("unicode/utf8.acceptRanges", Rows.laid_unicode_utf8_acceptRanges)] [6, 7, 1, 5] :=
  LaidIn.of_run _ 8 (by kernel_rfl) (by kernel_rfl) (by kernel_rfl) (by kernel_rfl)
theorem piece2 (os : Os) (args : Array Value) : LaidIn Tryz.prog ((laidWorld os).forCall (fun _ _ => 0) ⟨#[], args, []⟩).memory [("unicode/utf8.first", Rows.laid_unicode_utf8_first)] [4] :=
  LaidIn.of_run _ 8 (by kernel_rfl) (by kernel_rfl) (by kernel_rfl) (by kernel_rfl)
theorem laid_met (os : Os) (args : Array Value) : laidMet Tryz.prog Rows.machinesCheckRow.laid ((laidWorld os).forCall (fun _ _ => 0) ⟨#[], args, []⟩).memory :=
  ((piece1 os args).append (piece2 os args) (by kernel_rfl)).met
end Go.Proofs.YtomikcemiacjmaaGreatDoor
