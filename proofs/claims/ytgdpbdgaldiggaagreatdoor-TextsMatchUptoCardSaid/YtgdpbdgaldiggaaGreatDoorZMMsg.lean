/- Walks: package disk: what is missing, what is unlike. -/
import Derived.Test.YtgdpbdgaldiggaaGreatDoorZMUnl
import Derived.Test.YtgdpbdgaldiggaaGreatDoorZMChosen

namespace Go.Proofs.YtgdpbdgaldiggaaGreatDoor
open Go.RowKit Go.Shelf

theorem own_base {W : World} {base base' : Nat} {e : TypeId} {size n : Nat} {v : Value} {xs : List Value} (h : W.ownsRow base e size v n xs) (hb : base' ≤ base) : W.ownsRow base' e size v n xs := by
  obtain ⟨hl, hv⟩ := h
  refine ⟨hl, hv.imp id ?_⟩
  rintro ⟨g, cap, cur, e1, e2, r⟩
  exact ⟨g, cap, cur, e1, Nat.le_trans hb e2, r⟩

namespace P
def missS (Lb : List St) (x : St) : Bool := !(getK St.k Lb x.k).isSome
def unlS (La : List St) (x : St) : Bool := !(getK St.k La x.k).isSome || neSt ((getK St.k La x.k).getD ⟨⟨#[]⟩, ⟨#[]⟩⟩) x
end P
set_option maxHeartbeats 4000000 in
theorem missingS_any (LA LB : List P.St) (aa ab : Option Addr) (ca cb : Nat) (hla : LA.length ≤ 4294967280) (hlb : LB.length ≤ 4294967280) (hsa : stsFit LA) (hsb : stsFit LB) (w : World) (hma : StsAt w.heap.size w aa LA ca) (hmb : StsAt w.heap.size w ab LB cb) :
    Calls Tryz.prog 134 #[.slice aa LA.length ca, .slice ab LB.length cb, .func (.func 66) #[] #[]] w fun e w' =>
      ∃ v, e = .returned v ∧ w'.ownsRow w.heap.size 62 2 v (LA.filter (P.missS LB)).length (flat cellsS (LA.filter (P.missS LB))) ∧ Below w.heap.size w w' := by
  have eg := enters_of Tryz.func188 (by kernel_rfl) rfl
  have HBK := Lib.hid (fun W h => byKeyS_any LB ab cb hlb hsb W h)
  have HCH := Lib.hid (fun p1 p2 W h hC => chosenS_any 188 eg p1 p2 (P.missS LB) LA aa ca hla hsa W h hC)
  have HMA := Lib.hid hma
  have HMB := Lib.hid hmb
  have HSZ := Lib.hid hsa
  have HLN := Lib.hid hlb
  clear hla hlb hsa hsb hma hmb
  go_enter Tryz.func134, Tryz.ntmps134
  go_wp2_with fail
  refine (HBK.out _ ((HMB.out.below (below_alloc _ _)).up (by simp))).mono ?_
  rintro e w1 ⟨rfl, hq, hb⟩
  have HB1 := Lib.hid (bstep (below_alloc w _) hb)
  have HK1 := Lib.hid ((HasRow.new w _ _).below hb)
  have HQ1 := Lib.hid hq
  have hlq := hq.lt
  have hsz1 := hb.size
  clear hb hq
  simp only [World.size_alloc] at hlq hsz1 HQ1 ⊢
  go_wp2_with fail
  have HT2 := Lib.hid (HasRow.new w1 #[.map (some (w.heap.size + 1))] 187)
  have HK2 := Lib.hid (HK1.out.alloc (.cells #[.map (some (w.heap.size + 1))] 187))
  have HQ2 := Lib.hid (HQ1.out.alloc (.cells #[.map (some (w.heap.size + 1))] 187))
  have HB2 := Lib.hid (bstep HB1.out (below_alloc w1 (.cells #[.map (some (w.heap.size + 1))] 187)))
  refine (HCH.out _ _ _ ((HMA.out.below HB2.out).up HB2.out.size) (fun j hj W' hW => missS_any LA[j] (HSZ.out j hj).1 w1.heap.size w.heap.size (w.heap.size + 1) _ _ W' (HT2.out.below hW) (HK2.out.below hW) (HQ2.out.below hW HQ2.out.lt))).mono ?_
  rintro e w3 ⟨v, rfl, ho, hb3⟩
  have HO := Lib.hid (own_base ho HB2.out.size)
  have HB3 := Lib.hid (bstep HB2.out hb3)
  clear ho hb3
  go_wp2_with fail
  go_ret
  exact ⟨_, rfl, HO.out, HB3.out⟩

set_option maxHeartbeats 4000000 in
theorem unlikeS_any (LA LB : List P.St) (aa ab : Option Addr) (ca cb : Nat) (hla : LA.length ≤ 4294967280) (hlb : LB.length ≤ 4294967280) (hsa : stsFit LA) (hsb : stsFit LB) (w : World) (hma : StsAt w.heap.size w aa LA ca) (hmb : StsAt w.heap.size w ab LB cb) :
    Calls Tryz.prog 137 #[.slice aa LA.length ca, .slice ab LB.length cb, .func (.func 66) #[] #[]] w fun e w' =>
      ∃ v, e = .returned v ∧ w'.ownsRow w.heap.size 62 2 v (LB.filter (P.unlS LA)).length (flat cellsS (LB.filter (P.unlS LA))) ∧ Below w.heap.size w w' := by
  have eg := enters_of Tryz.func192 (by kernel_rfl) rfl
  have HBK := Lib.hid (fun W h => byKeyS_any LA aa ca hla hsa W h)
  have HCH := Lib.hid (fun p1 p2 W h hC => chosenS_any 192 eg p1 p2 (P.unlS LA) LB ab cb hlb hsb W h hC)
  have HMA := Lib.hid hmb
  have HMB := Lib.hid hma
  have HSZ := Lib.hid hsb
  have HLN := Lib.hid hla
  clear hla hlb hsa hsb hma hmb
  go_enter Tryz.func137, Tryz.ntmps137
  go_wp2_with fail
  refine (HBK.out _ ((HMB.out.below (below_alloc _ _)).up (by simp))).mono ?_
  rintro e w1 ⟨rfl, hq, hb⟩
  have HB1 := Lib.hid (bstep (below_alloc w _) hb)
  have HK1 := Lib.hid ((HasRow.new w _ _).below hb)
  have HQ1 := Lib.hid hq
  have hlq := hq.lt
  have hsz1 := hb.size
  clear hb hq
  simp only [World.size_alloc] at hlq hsz1 HQ1 ⊢
  go_wp2_with fail
  have HT2 := Lib.hid (HasRow.new w1 #[.map (some (w.heap.size + 1))] 187)
  have HK2 := Lib.hid (HK1.out.alloc (.cells #[.map (some (w.heap.size + 1))] 187))
  have HQ2 := Lib.hid (HQ1.out.alloc (.cells #[.map (some (w.heap.size + 1))] 187))
  have HB2 := Lib.hid (bstep HB1.out (below_alloc w1 (.cells #[.map (some (w.heap.size + 1))] 187)))
  refine (HCH.out _ _ _ ((HMA.out.below HB2.out).up HB2.out.size) (fun j hj W' hW => unlS_any LB[j] (HSZ.out j hj).1 w1.heap.size w.heap.size (w.heap.size + 1) _ _ W' (HT2.out.below hW) (HK2.out.below hW) (HQ2.out.below hW HQ2.out.lt))).mono ?_
  rintro e w3 ⟨v, rfl, ho, hb3⟩
  have HO := Lib.hid (own_base ho HB2.out.size)
  have HB3 := Lib.hid (bstep HB2.out hb3)
  clear ho hb3
  go_wp2_with fail
  go_ret
  exact ⟨_, rfl, HO.out, HB3.out⟩

namespace P
def missF (Lb : List Fi) (x : Fi) : Bool := !(getK Fi.p Lb x.p).isSome
def unlF (La : List Fi) (x : Fi) : Bool := !(getK Fi.p La x.p).isSome || neFi ((getK Fi.p La x.p).getD ⟨⟨#[]⟩, ⟨#[]⟩, false⟩) x
end P
set_option maxHeartbeats 4000000 in
theorem missingF_any (LA LB : List P.Fi) (aa ab : Option Addr) (ca cb : Nat) (hla : LA.length ≤ 4294967280) (hlb : LB.length ≤ 4294967280) (hsa : fisFit LA) (hsb : fisFit LB) (w : World) (hma : FisAt w.heap.size w aa LA ca) (hmb : FisAt w.heap.size w ab LB cb) :
    Calls Tryz.prog 133 #[.slice aa LA.length ca, .slice ab LB.length cb, .func (.func 69) #[] #[]] w fun e w' =>
      ∃ v, e = .returned v ∧ w'.ownsRow w.heap.size 42 3 v (LA.filter (P.missF LB)).length (flat cellsF (LA.filter (P.missF LB))) ∧ Below w.heap.size w w' := by
  have eg := enters_of Tryz.func186 (by kernel_rfl) rfl
  have HBK := Lib.hid (fun W h => byKeyF_any LB ab cb hlb hsb W h)
  have HCH := Lib.hid (fun p1 p2 W h hC => chosenF_any 186 eg p1 p2 (P.missF LB) LA aa ca hla hsa W h hC)
  have HMA := Lib.hid hma
  have HMB := Lib.hid hmb
  have HSZ := Lib.hid hsa
  have HLN := Lib.hid hlb
  clear hla hlb hsa hsb hma hmb
  go_enter Tryz.func133, Tryz.ntmps133
  go_wp2_with fail
  refine (HBK.out _ ((HMB.out.below (below_alloc _ _)).up (by simp))).mono ?_
  rintro e w1 ⟨rfl, hq, hb⟩
  have HB1 := Lib.hid (bstep (below_alloc w _) hb)
  have HK1 := Lib.hid ((HasRow.new w _ _).below hb)
  have HQ1 := Lib.hid hq
  have hlq := hq.lt
  have hsz1 := hb.size
  clear hb hq
  simp only [World.size_alloc] at hlq hsz1 HQ1 ⊢
  go_wp2_with fail
  have HT2 := Lib.hid (HasRow.new w1 #[.map (some (w.heap.size + 1))] 132)
  have HK2 := Lib.hid (HK1.out.alloc (.cells #[.map (some (w.heap.size + 1))] 132))
  have HQ2 := Lib.hid (HQ1.out.alloc (.cells #[.map (some (w.heap.size + 1))] 132))
  have HB2 := Lib.hid (bstep HB1.out (below_alloc w1 (.cells #[.map (some (w.heap.size + 1))] 132)))
  refine (HCH.out _ _ _ ((HMA.out.below HB2.out).up HB2.out.size) (fun j hj W' hW => missF_any LA[j] (HSZ.out j hj).1 w1.heap.size w.heap.size (w.heap.size + 1) _ _ W' (HT2.out.below hW) (HK2.out.below hW) (HQ2.out.below hW HQ2.out.lt))).mono ?_
  rintro e w3 ⟨v, rfl, ho, hb3⟩
  have HO := Lib.hid (own_base ho HB2.out.size)
  have HB3 := Lib.hid (bstep HB2.out hb3)
  clear ho hb3
  go_wp2_with fail
  go_ret
  exact ⟨_, rfl, HO.out, HB3.out⟩

set_option maxHeartbeats 4000000 in
theorem unlikeF_any (LA LB : List P.Fi) (aa ab : Option Addr) (ca cb : Nat) (hla : LA.length ≤ 4294967280) (hlb : LB.length ≤ 4294967280) (hsa : fisFit LA) (hsb : fisFit LB) (w : World) (hma : FisAt w.heap.size w aa LA ca) (hmb : FisAt w.heap.size w ab LB cb) :
    Calls Tryz.prog 136 #[.slice aa LA.length ca, .slice ab LB.length cb, .func (.func 69) #[] #[]] w fun e w' =>
      ∃ v, e = .returned v ∧ w'.ownsRow w.heap.size 42 3 v (LB.filter (P.unlF LA)).length (flat cellsF (LB.filter (P.unlF LA))) ∧ Below w.heap.size w w' := by
  have eg := enters_of Tryz.func191 (by kernel_rfl) rfl
  have HBK := Lib.hid (fun W h => byKeyF_any LA aa ca hla hsa W h)
  have HCH := Lib.hid (fun p1 p2 W h hC => chosenF_any 191 eg p1 p2 (P.unlF LA) LB ab cb hlb hsb W h hC)
  have HMA := Lib.hid hmb
  have HMB := Lib.hid hma
  have HSZ := Lib.hid hsb
  have HLN := Lib.hid hla
  clear hla hlb hsa hsb hma hmb
  go_enter Tryz.func136, Tryz.ntmps136
  go_wp2_with fail
  refine (HBK.out _ ((HMB.out.below (below_alloc _ _)).up (by simp))).mono ?_
  rintro e w1 ⟨rfl, hq, hb⟩
  have HB1 := Lib.hid (bstep (below_alloc w _) hb)
  have HK1 := Lib.hid ((HasRow.new w _ _).below hb)
  have HQ1 := Lib.hid hq
  have hlq := hq.lt
  have hsz1 := hb.size
  clear hb hq
  simp only [World.size_alloc] at hlq hsz1 HQ1 ⊢
  go_wp2_with fail
  have HT2 := Lib.hid (HasRow.new w1 #[.map (some (w.heap.size + 1))] 132)
  have HK2 := Lib.hid (HK1.out.alloc (.cells #[.map (some (w.heap.size + 1))] 132))
  have HQ2 := Lib.hid (HQ1.out.alloc (.cells #[.map (some (w.heap.size + 1))] 132))
  have HB2 := Lib.hid (bstep HB1.out (below_alloc w1 (.cells #[.map (some (w.heap.size + 1))] 132)))
  refine (HCH.out _ _ _ ((HMA.out.below HB2.out).up HB2.out.size) (fun j hj W' hW => unlF_any LB[j] (HSZ.out j hj).1 w1.heap.size w.heap.size (w.heap.size + 1) _ _ W' (HT2.out.below hW) (HK2.out.below hW) (HQ2.out.below hW HQ2.out.lt))).mono ?_
  rintro e w3 ⟨v, rfl, ho, hb3⟩
  have HO := Lib.hid (own_base ho HB2.out.size)
  have HB3 := Lib.hid (bstep HB2.out hb3)
  clear ho hb3
  go_wp2_with fail
  go_ret
  exact ⟨_, rfl, HO.out, HB3.out⟩

namespace P
def missV (Lb : List Sv) (x : Sv) : Bool := !(getK Sv.n Lb x.n).isSome
def unlV (La : List Sv) (x : Sv) : Bool := !(getK Sv.n La x.n).isSome || neSv ((getK Sv.n La x.n).getD ⟨⟨#[]⟩, ⟨#[]⟩, false, false⟩) x
end P
set_option maxHeartbeats 4000000 in
theorem missingV_any (LA LB : List P.Sv) (aa ab : Option Addr) (ca cb : Nat) (hla : LA.length ≤ 4294967280) (hlb : LB.length ≤ 4294967280) (hsa : svsFit LA) (hsb : svsFit LB) (w : World) (hma : SvsAt w.heap.size w aa LA ca) (hmb : SvsAt w.heap.size w ab LB cb) :
    Calls Tryz.prog 135 #[.slice aa LA.length ca, .slice ab LB.length cb, .func (.func 74) #[] #[]] w fun e w' =>
      ∃ v, e = .returned v ∧ w'.ownsRow w.heap.size 46 4 v (LA.filter (P.missV LB)).length (flat cellsV (LA.filter (P.missV LB))) ∧ Below w.heap.size w w' := by
  have eg := enters_of Tryz.func190 (by kernel_rfl) rfl
  have HBK := Lib.hid (fun W h => byKeyV_any LB ab cb hlb hsb W h)
  have HCH := Lib.hid (fun p1 p2 W h hC => chosenV_any 190 eg p1 p2 (P.missV LB) LA aa ca hla hsa W h hC)
  have HMA := Lib.hid hma
  have HMB := Lib.hid hmb
  have HSZ := Lib.hid hsa
  have HLN := Lib.hid hlb
  clear hla hlb hsa hsb hma hmb
  go_enter Tryz.func135, Tryz.ntmps135
  go_wp2_with fail
  refine (HBK.out _ ((HMB.out.below (below_alloc _ _)).up (by simp))).mono ?_
  rintro e w1 ⟨rfl, hq, hb⟩
  have HB1 := Lib.hid (bstep (below_alloc w _) hb)
  have HK1 := Lib.hid ((HasRow.new w _ _).below hb)
  have HQ1 := Lib.hid hq
  have hlq := hq.lt
  have hsz1 := hb.size
  clear hb hq
  simp only [World.size_alloc] at hlq hsz1 HQ1 ⊢
  go_wp2_with fail
  have HT2 := Lib.hid (HasRow.new w1 #[.map (some (w.heap.size + 1))] 134)
  have HK2 := Lib.hid (HK1.out.alloc (.cells #[.map (some (w.heap.size + 1))] 134))
  have HQ2 := Lib.hid (HQ1.out.alloc (.cells #[.map (some (w.heap.size + 1))] 134))
  have HB2 := Lib.hid (bstep HB1.out (below_alloc w1 (.cells #[.map (some (w.heap.size + 1))] 134)))
  refine (HCH.out _ _ _ ((HMA.out.below HB2.out).up HB2.out.size) (fun j hj W' hW => missV_any LA[j] (HSZ.out j hj).1 w1.heap.size w.heap.size (w.heap.size + 1) _ _ W' (HT2.out.below hW) (HK2.out.below hW) (HQ2.out.below hW HQ2.out.lt))).mono ?_
  rintro e w3 ⟨v, rfl, ho, hb3⟩
  have HO := Lib.hid (own_base ho HB2.out.size)
  have HB3 := Lib.hid (bstep HB2.out hb3)
  clear ho hb3
  go_wp2_with fail
  go_ret
  exact ⟨_, rfl, HO.out, HB3.out⟩

set_option maxHeartbeats 4000000 in
theorem unlikeV_any (LA LB : List P.Sv) (aa ab : Option Addr) (ca cb : Nat) (hla : LA.length ≤ 4294967280) (hlb : LB.length ≤ 4294967280) (hsa : svsFit LA) (hsb : svsFit LB) (w : World) (hma : SvsAt w.heap.size w aa LA ca) (hmb : SvsAt w.heap.size w ab LB cb) :
    Calls Tryz.prog 138 #[.slice aa LA.length ca, .slice ab LB.length cb, .func (.func 74) #[] #[]] w fun e w' =>
      ∃ v, e = .returned v ∧ w'.ownsRow w.heap.size 46 4 v (LB.filter (P.unlV LA)).length (flat cellsV (LB.filter (P.unlV LA))) ∧ Below w.heap.size w w' := by
  have eg := enters_of Tryz.func193 (by kernel_rfl) rfl
  have HBK := Lib.hid (fun W h => byKeyV_any LA aa ca hla hsa W h)
  have HCH := Lib.hid (fun p1 p2 W h hC => chosenV_any 193 eg p1 p2 (P.unlV LA) LB ab cb hlb hsb W h hC)
  have HMA := Lib.hid hmb
  have HMB := Lib.hid hma
  have HSZ := Lib.hid hsb
  have HLN := Lib.hid hla
  clear hla hlb hsa hsb hma hmb
  go_enter Tryz.func138, Tryz.ntmps138
  go_wp2_with fail
  refine (HBK.out _ ((HMB.out.below (below_alloc _ _)).up (by simp))).mono ?_
  rintro e w1 ⟨rfl, hq, hb⟩
  have HB1 := Lib.hid (bstep (below_alloc w _) hb)
  have HK1 := Lib.hid ((HasRow.new w _ _).below hb)
  have HQ1 := Lib.hid hq
  have hlq := hq.lt
  have hsz1 := hb.size
  clear hb hq
  simp only [World.size_alloc] at hlq hsz1 HQ1 ⊢
  go_wp2_with fail
  have HT2 := Lib.hid (HasRow.new w1 #[.map (some (w.heap.size + 1))] 134)
  have HK2 := Lib.hid (HK1.out.alloc (.cells #[.map (some (w.heap.size + 1))] 134))
  have HQ2 := Lib.hid (HQ1.out.alloc (.cells #[.map (some (w.heap.size + 1))] 134))
  have HB2 := Lib.hid (bstep HB1.out (below_alloc w1 (.cells #[.map (some (w.heap.size + 1))] 134)))
  refine (HCH.out _ _ _ ((HMA.out.below HB2.out).up HB2.out.size) (fun j hj W' hW => unlV_any LB[j] (HSZ.out j hj).1 w1.heap.size w.heap.size (w.heap.size + 1) _ _ W' (HT2.out.below hW) (HK2.out.below hW) (HQ2.out.below hW HQ2.out.lt))).mono ?_
  rintro e w3 ⟨v, rfl, ho, hb3⟩
  have HO := Lib.hid (own_base ho HB2.out.size)
  have HB3 := Lib.hid (bstep HB2.out hb3)
  clear ho hb3
  go_wp2_with fail
  go_ret
  exact ⟨_, rfl, HO.out, HB3.out⟩
end Go.Proofs.YtgdpbdgaldiggaaGreatDoor
