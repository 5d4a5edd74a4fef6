/- The row of MachinesParse: the witness, the wrap. -/
import Derived.Test.YtkibmoekadmjnaaGreatDoorZHRowC
import Derived.Test.YtkibmoekadmjnaaGreatDoorZULaid
import Derived.Deep.DeepWitnessRowRef

namespace Go.Proofs.YtkibmoekadmjnaaGreatDoor
open Go.ChangeShapes Go.WideShapes Go.ChangeAt Go.RowKit Go.Lib
namespace machinesParse

theorem own : ownKnob Tryz.prog.godebug = none := by kernel_rfl
noncomputable abbrev startArgs : Array Value := #[.string ⟨#[]⟩]
set_option maxRecDepth 100000 in
theorem reads (os : Os) {H : Type} (enc : TypeId × Value → H) : (DataW.whole enc Tryz.prog ((Txt.laidWorld os).forCall (fun _ _ => 0) ⟨#[], startArgs, []⟩).memory Tryz.f9.params.toList Rows.machinesParseSpec.vars false startArgs.toList 8).map (fun x => (x.1, x.2.1)) =
    some ([.lit (.string [])], []) := by kernel_rfl
set_option maxRecDepth 100000 in
theorem witness_row (os : Os) {H : Type} (enc : TypeId × Value → H) :
    (OpenSpec.ofChange Rows.machinesParseSpec).preRow enc Tryz.prog Tryz.f9 Rows.machinesParseRow.domain false Rows.machinesParseRow.laid ((Txt.laidWorld os).forCall (fun _ _ => 0) ⟨#[], startArgs, []⟩).memory startArgs := by
  obtain ⟨⟨x1, x2, x3⟩, hx, hx1⟩ := Option.map_eq_some_iff.1 (reads os enc)
  simp only [Prod.mk.injEq] at hx1
  obtain ⟨rfl, rfl⟩ := hx1
  exact OpenSpec.preRow_of_cond 8 hx (by kernel_rfl) (fun k hk => by cases hk) (by kernel_rfl) (Txt.laid_met os _)

set_option maxRecDepth 100000 in
set_option maxHeartbeats 1000000 in
theorem lifted (os : Os) (started : os.Started) (H : Type) (enc : TypeId × Value → H) (F : Stop.Interp) :
    ReturnsInHanded {} Tryz.checked os 9 .any ((OpenSpec.ofChange Rows.machinesParseSpec).preRow enc Tryz.prog Tryz.f9 Rows.machinesParseRow.domain false Rows.machinesParseRow.laid) (((OpenSpec.ofChange Rows.machinesParseSpec).at F).post enc Tryz.prog Tryz.f9 false true false false) := by
  refine returnsInHanded_of_row (C := Tryz.checked) (s := OpenSpec.ofChange Rows.machinesParseSpec) own started (by kernel_rfl) Tryz.func9
    (witness_row_atRef (enc := enc) (C := Tryz.checked) false (Txt.laidWorld os) startArgs rfl (by kernel_rfl) (by kernel_rfl) (by kernel_rfl) (witness_row os enc)) ?_
  intro W base args ds gs before hval hW _ _ _ hL hsh _
  exact contract H enc F W base args ds gs before hval hW (good_of hsh) (Txt.es_of hL)

end machinesParse
end Go.Proofs.YtkibmoekadmjnaaGreatDoor
