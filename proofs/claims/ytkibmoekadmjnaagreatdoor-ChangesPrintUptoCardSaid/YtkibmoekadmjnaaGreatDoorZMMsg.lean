/- Walks: package disk: what is missing, what is unlike. -/
import Derived.Test.YtkibmoekadmjnaaGreatDoorZMUnl
import Derived.Test.YtkibmoekadmjnaaGreatDoorZMChosen

namespace Go.Proofs.YtkibmoekadmjnaaGreatDoor
open Go.RowKit Go.Shelf

theorem own_base {W : World} {base base' : Nat} {e : TypeId} {size n : Nat} {v : Value} {xs : List Value} (h : W.ownsRow base e size v n xs) (hb : base' ≤ base) : W.ownsRow base' e size v n xs := by
  obtain ⟨hl, hv⟩ := h
  refine ⟨hl, hv.imp id ?_⟩
  rintro ⟨g, cap, cur, e1, e2, r⟩
  exact ⟨g, cap, cur, e1, Nat.le_trans hb e2, r⟩

namespace P
def missS (Lb : List St) (x : St) : Bool := !(getK St.k Lb x.k).isSome
def unlS (La : List St) (x : St) : Bool := !(getK St.k La x.k).isSome || neSt ((getK St.k La x.k).getD ⟨⟨#[]⟩, ⟨#[]⟩⟩) x
end P
set_option maxHeartbeats 4000000 in
theorem missingS_any (LA LB : List P.St) (aa ab : Option Addr) (ca cb : Nat) (hla : LA.length ≤ 4294967280) (hlb : LB.length ≤ 4294967280) (hsa : stsFit LA) (hsb : stsFit LB) (w : World) (hma : StsAt w.heap.size w aa LA ca) (hmb : StsAt w.heap.size w ab LB cb) :
    Calls Tryz.prog 169 #[.slice aa LA.length ca, .slice ab LB.length cb, .func (.func 88) #[] #[]] w fun e w' =>
      ∃ v, e = .returned v ∧ w'.ownsRow w.heap.size 62 2 v (LA.filter (P.missS LB)).length (flat cellsS (LA.filter (P.missS LB))) ∧ Below w.heap.size w w' := by
  have eg := enters_of Tryz.func227 (by kernel_rfl) rfl
  have HBK := Lib.hid (fun W h => byKeyS_any LB ab cb hlb hsb W h)
  have HCH := Lib.hid (fun p1 p2 W h hC => chosenS_any 227 eg p1 p2 (P.missS LB) LA aa ca hla hsa W h hC)
  have HMA := Lib.hid hma
  have HMB := Lib.hid hmb
  have HSZ := Lib.hid hsa
  have HLN := Lib.hid hlb
  clear hla hlb hsa hsb hma hmb
  go_enter Tryz.func169, Tryz.ntmps169
  go_wp2_with fail
  refine (HBK.out _ ((HMB.out.below (below_alloc _ _)).up (by simp))).mono ?_
  rintro e w1 ⟨rfl, hq, hb⟩
  have HB1 := Lib.hid (bstep (below_alloc w _) hb)
  have HK1 := Lib.hid ((HasRow.new w _ _).below hb)
  have HQ1 := Lib.hid hq
  have hlq := hq.lt
  have hsz1 := hb.size
  clear hb hq
  simp only [World.size_alloc] at hlq hsz1 HQ1 ⊢
  go_wp2_with fail
  have HT2 := Lib.hid (HasRow.new w1 #[.map (some (w.heap.size + 1))] 216)
  have HK2 := Lib.hid (HK1.out.alloc (.cells #[.map (some (w.heap.size + 1))] 216))
  have HQ2 := Lib.hid (HQ1.out.alloc (.cells #[.map (some (w.heap.size + 1))] 216))
  have HB2 := Lib.hid (bstep HB1.out (below_alloc w1 (.cells #[.map (some (w.heap.size + 1))] 216)))
  refine (HCH.out _ _ _ ((HMA.out.below HB2.out).up HB2.out.size) (fun j hj W' hW => missS_any LA[j] (HSZ.out j hj).1 w1.heap.size w.heap.size (w.heap.size + 1) _ _ W' (HT2.out.below hW) (HK2.out.below hW) (HQ2.out.below hW HQ2.out.lt))).mono ?_
  rintro e w3 ⟨v, rfl, ho, hb3⟩
  have HO := Lib.hid (own_base ho HB2.out.size)
  have HB3 := Lib.hid (bstep HB2.out hb3)
  clear ho hb3
  go_wp2_with fail
  go_ret
  exact ⟨_, rfl, HO.out, HB3.out⟩

set_option maxHeartbeats 4000000 in
theorem unlikeS_any (LA LB : List P.St) (aa ab : Option Addr) (ca cb : Nat) (hla : LA.length ≤ 4294967280) (hlb : LB.length ≤ 4294967280) (hsa : stsFit LA) (hsb : stsFit LB) (w : World) (hma : StsAt w.heap.size w aa LA ca) (hmb : StsAt w.heap.size w ab LB cb) :
    Calls Tryz.prog 172 #[.slice aa LA.length ca, .slice ab LB.length cb, .func (.func 88) #[] #[]] w fun e w' =>
      ∃ v, e = .returned v ∧ w'.ownsRow w.heap.size 62 2 v (LB.filter (P.unlS LA)).length (flat cellsS (LB.filter (P.unlS LA))) ∧ Below w.heap.size w w' := by
  have eg := enters_of Tryz.func231 (by kernel_rfl) rfl
  have HBK := Lib.hid (fun W h => byKeyS_any LA aa ca hla hsa W h)
  have HCH := Lib.hid (fun p1 p2 W h hC => chosenS_any 231 eg p1 p2 (P.unlS LA) LB ab cb hlb hsb W h hC)
  have HMA := Lib.hid hmb
  have HMB := Lib.hid hma
  have HSZ := Lib.hid hsb
  have HLN := Lib.hid hla
  clear hla hlb hsa hsb hma hmb
  go_enter Tryz.func172, Tryz.ntmps172
  go_wp2_with fail
  refine (HBK.out _ ((HMB.out.below (below_alloc _ _)).up (by simp))).mono ?_
  rintro e w1 ⟨rfl, hq, hb⟩
  have HB1 := Lib.hid (bstep (below_alloc w _) hb)
  have HK1 := Lib.hid ((HasRow.new w _ _).below hb)
  have HQ1 := Lib.hid hq
  have hlq := hq.lt
  have hsz1 := hb.size
  clear hb hq
  simp only [World.size_alloc] at hlq hsz1 HQ1 ⊢
  go_wp2_with fail
  have HT2 := Lib.hid (HasRow.new w1 #[.map (some (w.heap.size + 1))] 216)
  have HK2 := Lib.hid (HK1.out.alloc (.cells #[.map (some (w.heap.size + 1))] 216))
  have HQ2 := Lib.hid (HQ1.out.alloc (.cells #[.map (some (w.heap.size + 1))] 216))
  have HB2 := Lib.hid (bstep HB1.out (below_alloc w1 (.cells #[.map (some (w.heap.size + 1))] 216)))
  refine (HCH.out _ _ _ ((HMA.out.below HB2.out).up HB2.out.size) (fun j hj W' hW => unlS_any LB[j] (HSZ.out j hj).1 w1.heap.size w.heap.size (w.heap.size + 1) _ _ W' (HT2.out.below hW) (HK2.out.below hW) (HQ2.out.below hW HQ2.out.lt))).mono ?_
  rintro e w3 ⟨v, rfl, ho, hb3⟩
  have HO := Lib.hid (own_base ho HB2.out.size)
  have HB3 := Lib.hid (bstep HB2.out hb3)
  clear ho hb3
  go_wp2_with fail
  go_ret
  exact ⟨_, rfl, HO.out, HB3.out⟩

namespace P
def missF (Lb : List Fi) (x : Fi) : Bool := !(getK Fi.p Lb x.p).isSome
def unlF (La : List Fi) (x : Fi) : Bool := !(getK Fi.p La x.p).isSome || neFi ((getK Fi.p La x.p).getD ⟨⟨#[]⟩, ⟨#[]⟩, false⟩) x
end P
set_option maxHeartbeats 4000000 in
theorem missingF_any (LA LB : List P.Fi) (aa ab : Option Addr) (ca cb : Nat) (hla : LA.length ≤ 4294967280) (hlb : LB.length ≤ 4294967280) (hsa : fisFit LA) (hsb : fisFit LB) (w : World) (hma : FisAt w.heap.size w aa LA ca) (hmb : FisAt w.heap.size w ab LB cb) :
    Calls Tryz.prog 168 #[.slice aa LA.length ca, .slice ab LB.length cb, .func (.func 91) #[] #[]] w fun e w' =>
      ∃ v, e = .returned v ∧ w'.ownsRow w.heap.size 42 3 v (LA.filter (P.missF LB)).length (flat cellsF (LA.filter (P.missF LB))) ∧ Below w.heap.size w w' := by
  have eg := enters_of Tryz.func225 (by kernel_rfl) rfl
  have HBK := Lib.hid (fun W h => byKeyF_any LB ab cb hlb hsb W h)
  have HCH := Lib.hid (fun p1 p2 W h hC => chosenF_any 225 eg p1 p2 (P.missF LB) LA aa ca hla hsa W h hC)
  have HMA := Lib.hid hma
  have HMB := Lib.hid hmb
  have HSZ := Lib.hid hsa
  have HLN := Lib.hid hlb
  clear hla hlb hsa hsb hma hmb
  go_enter Tryz.func168, Tryz.ntmps168
  go_wp2_with fail
  refine (HBK.out _ ((HMB.out.below (below_alloc _ _)).up (by simp))).mono ?_
  rintro e w1 ⟨rfl, hq, hb⟩
  have HB1 := Lib.hid (bstep (below_alloc w _) hb)
  have HK1 := Lib.hid ((HasRow.new w _ _).below hb)
  have HQ1 := Lib.hid hq
  have hlq := hq.lt
  have hsz1 := hb.size
  clear hb hq
  simp only [World.size_alloc] at hlq hsz1 HQ1 ⊢
  go_wp2_with fail
  have HT2 := Lib.hid (HasRow.new w1 #[.map (some (w.heap.size + 1))] 148)
  have HK2 := Lib.hid (HK1.out.alloc (.cells #[.map (some (w.heap.size + 1))] 148))
  have HQ2 := Lib.hid (HQ1.out.alloc (.cells #[.map (some (w.heap.size + 1))] 148))
  have HB2 := Lib.hid (bstep HB1.out (below_alloc w1 (.cells #[.map (some (w.heap.size + 1))] 148)))
  refine (HCH.out _ _ _ ((HMA.out.below HB2.out).up HB2.out.size) (fun j hj W' hW => missF_any LA[j] (HSZ.out j hj).1 w1.heap.size w.heap.size (w.heap.size + 1) _ _ W' (HT2.out.below hW) (HK2.out.below hW) (HQ2.out.below hW HQ2.out.lt))).mono ?_
  rintro e w3 ⟨v, rfl, ho, hb3⟩
  have HO := Lib.hid (own_base ho HB2.out.size)
  have HB3 := Lib.hid (bstep HB2.out hb3)
  clear ho hb3
  go_wp2_with fail
  go_ret
  exact ⟨_, rfl, HO.out, HB3.out⟩

set_option maxHeartbeats 4000000 in
theorem unlikeF_any (LA LB : List P.Fi) (aa ab : Option Addr) (ca cb : Nat) (hla : LA.length ≤ 4294967280) (hlb : LB.length ≤ 4294967280) (hsa : fisFit LA) (hsb : fisFit LB) (w : World) (hma : FisAt w.heap.size w aa LA ca) (hmb : FisAt w.heap.size w ab LB cb) :
    Calls Tryz.prog 171 #[.slice aa LA.length ca, .slice ab LB.length cb, .func (.func 91) #[] #[]] w fun e w' =>
      ∃ v, e = .returned v ∧ w'.ownsRow w.heap.size 42 3 v (LB.filter (P.unlF LA)).length (flat cellsF (LB.filter (P.unlF LA))) ∧ Below w.heap.size w w' := by
  have eg := enters_of Tryz.func230 (by kernel_rfl) rfl
  have HBK := Lib.hid (fun W h => byKeyF_any LA aa ca hla hsa W h)
  have HCH := Lib.hid (fun p1 p2 W h hC => chosenF_any 230 eg p1 p2 (P.unlF LA) LB ab cb hlb hsb W h hC)
  have HMA := Lib.hid hmb
  have HMB := Lib.hid hma
  have HSZ := Lib.hid hsb
  have HLN := Lib.hid hla
  clear hla hlb hsa hsb hma hmb
  go_enter Tryz.func171, Tryz.ntmps171
  go_wp2_with fail
  refine (HBK.out _ ((HMB.out.below (below_alloc _ _)).up (by simp))).mono ?_
  rintro e w1 ⟨rfl, hq, hb⟩
  have HB1 := Lib.hid (bstep (below_alloc w _) hb)
  have HK1 := Lib.hid ((HasRow.new w _ _).below hb)
  have HQ1 := Lib.hid hq
  have hlq := hq.lt
  have hsz1 := hb.size
  clear hb hq
  simp only [World.size_alloc] at hlq hsz1 HQ1 ⊢
  go_wp2_with fail
  have HT2 := Lib.hid (HasRow.new w1 #[.map (some (w.heap.size + 1))] 148)
  have HK2 := Lib.hid (HK1.out.alloc (.cells #[.map (some (w.heap.size + 1))] 148))
  have HQ2 := Lib.hid (HQ1.out.alloc (.cells #[.map (some (w.heap.size + 1))] 148))
  have HB2 := Lib.hid (bstep HB1.out (below_alloc w1 (.cells #[.map (some (w.heap.size + 1))] 148)))
  refine (HCH.out _ _ _ ((HMA.out.below HB2.out).up HB2.out.size) (fun j hj W' hW => unlF_any LB[j] (HSZ.out j hj).1 w1.heap.size w.heap.size (w.heap.size + 1) _ _ W' (HT2.out.below hW) (HK2.out.below hW) (HQ2.out.below hW HQ2.out.lt))).mono ?_
  rintro e w3 ⟨v, rfl, ho, hb3⟩
  have HO := Lib.hid (own_base ho HB2.out.size)
  have HB3 := Lib.hid (bstep HB2.out hb3)
  clear ho hb3
  go_wp2_with fail
  go_ret
  exact ⟨_, rfl, HO.out, HB3.out⟩

namespace P
def missV (Lb : List Sv) (x : Sv) : Bool := !(getK Sv.n Lb x.n).isSome
def unlV (La : List Sv) (x : Sv) : Bool := !(getK Sv.n La x.n).isSome || neSv ((getK Sv.n La x.n).getD ⟨⟨#[]⟩, ⟨#[]⟩, false, false⟩) x
end P
set_option maxHeartbeats 4000000 in
theorem missingV_any (LA LB : List P.Sv) (aa ab : Option Addr) (ca cb : Nat) (hla : LA.length ≤ 4294967280) (hlb : LB.length ≤ 4294967280) (hsa : svsFit LA) (hsb : svsFit LB) (w : World) (hma : SvsAt w.heap.size w aa LA ca) (hmb : SvsAt w.heap.size w ab LB cb) :
    Calls Tryz.prog 170 #[.slice aa LA.length ca, .slice ab LB.length cb, .func (.func 96) #[] #[]] w fun e w' =>
      ∃ v, e = .returned v ∧ w'.ownsRow w.heap.size 46 4 v (LA.filter (P.missV LB)).length (flat cellsV (LA.filter (P.missV LB))) ∧ Below w.heap.size w w' := by
  have eg := enters_of Tryz.func229 (by kernel_rfl) rfl
  have HBK := Lib.hid (fun W h => byKeyV_any LB ab cb hlb hsb W h)
  have HCH := Lib.hid (fun p1 p2 W h hC => chosenV_any 229 eg p1 p2 (P.missV LB) LA aa ca hla hsa W h hC)
  have HMA := Lib.hid hma
  have HMB := Lib.hid hmb
  have HSZ := Lib.hid hsa
  have HLN := Lib.hid hlb
  clear hla hlb hsa hsb hma hmb
  go_enter Tryz.func170, Tryz.ntmps170
  go_wp2_with fail
  refine (HBK.out _ ((HMB.out.below (below_alloc _ _)).up (by simp))).mono ?_
  rintro e w1 ⟨rfl, hq, hb⟩
  have HB1 := Lib.hid (bstep (below_alloc w _) hb)
  have HK1 := Lib.hid ((HasRow.new w _ _).below hb)
  have HQ1 := Lib.hid hq
  have hlq := hq.lt
  have hsz1 := hb.size
  clear hb hq
  simp only [World.size_alloc] at hlq hsz1 HQ1 ⊢
  go_wp2_with fail
  have HT2 := Lib.hid (HasRow.new w1 #[.map (some (w.heap.size + 1))] 150)
  have HK2 := Lib.hid (HK1.out.alloc (.cells #[.map (some (w.heap.size + 1))] 150))
  have HQ2 := Lib.hid (HQ1.out.alloc (.cells #[.map (some (w.heap.size + 1))] 150))
  have HB2 := Lib.hid (bstep HB1.out (below_alloc w1 (.cells #[.map (some (w.heap.size + 1))] 150)))
  refine (HCH.out _ _ _ ((HMA.out.below HB2.out).up HB2.out.size) (fun j hj W' hW => missV_any LA[j] (HSZ.out j hj).1 w1.heap.size w.heap.size (w.heap.size + 1) _ _ W' (HT2.out.below hW) (HK2.out.below hW) (HQ2.out.below hW HQ2.out.lt))).mono ?_
  rintro e w3 ⟨v, rfl, ho, hb3⟩
  have HO := Lib.hid (own_base ho HB2.out.size)
  have HB3 := Lib.hid (bstep HB2.out hb3)
  clear ho hb3
  go_wp2_with fail
  go_ret
  exact ⟨_, rfl, HO.out, HB3.out⟩

set_option maxHeartbeats 4000000 in
theorem unlikeV_any (LA LB : List P.Sv) (aa ab : Option Addr) (ca cb : Nat) (hla : LA.length ≤ 4294967280) (hlb : LB.length ≤ 4294967280) (hsa : svsFit LA) (hsb : svsFit LB) (w : World) (hma : SvsAt w.heap.size w aa LA ca) (hmb : SvsAt w.heap.size w ab LB cb) :
    Calls Tryz.prog 173 #[.slice aa LA.length ca, .slice ab LB.length cb, .func (.func 96) #[] #[]] w fun e w' =>
      ∃ v, e = .returned v ∧ w'.ownsRow w.heap.size 46 4 v (LB.filter (P.unlV LA)).length (flat cellsV (LB.filter (P.unlV LA))) ∧ Below w.heap.size w w' := by
  have eg := enters_of Tryz.func232 (by kernel_rfl) rfl
  have HBK := Lib.hid (fun W h => byKeyV_any LA aa ca hla hsa W h)
  have HCH := Lib.hid (fun p1 p2 W h hC => chosenV_any 232 eg p1 p2 (P.unlV LA) LB ab cb hlb hsb W h hC)
  have HMA := Lib.hid hmb
  have HMB := Lib.hid hma
  have HSZ := Lib.hid hsb
  have HLN := Lib.hid hla
  clear hla hlb hsa hsb hma hmb
  go_enter Tryz.func173, Tryz.ntmps173
  go_wp2_with fail
  refine (HBK.out _ ((HMB.out.below (below_alloc _ _)).up (by simp))).mono ?_
  rintro e w1 ⟨rfl, hq, hb⟩
  have HB1 := Lib.hid (bstep (below_alloc w _) hb)
  have HK1 := Lib.hid ((HasRow.new w _ _).below hb)
  have HQ1 := Lib.hid hq
  have hlq := hq.lt
  have hsz1 := hb.size
  clear hb hq
  simp only [World.size_alloc] at hlq hsz1 HQ1 ⊢
  go_wp2_with fail
  have HT2 := Lib.hid (HasRow.new w1 #[.map (some (w.heap.size + 1))] 150)
  have HK2 := Lib.hid (HK1.out.alloc (.cells #[.map (some (w.heap.size + 1))] 150))
  have HQ2 := Lib.hid (HQ1.out.alloc (.cells #[.map (some (w.heap.size + 1))] 150))
  have HB2 := Lib.hid (bstep HB1.out (below_alloc w1 (.cells #[.map (some (w.heap.size + 1))] 150)))
  refine (HCH.out _ _ _ ((HMA.out.below HB2.out).up HB2.out.size) (fun j hj W' hW => unlV_any LB[j] (HSZ.out j hj).1 w1.heap.size w.heap.size (w.heap.size + 1) _ _ W' (HT2.out.below hW) (HK2.out.below hW) (HQ2.out.below hW HQ2.out.lt))).mono ?_
  rintro e w3 ⟨v, rfl, ho, hb3⟩
  have HO := Lib.hid (own_base ho HB2.out.size)
  have HB3 := Lib.hid (bstep HB2.out hb3)
  clear ho hb3
  go_wp2_with fail
  go_ret
  exact ⟨_, rfl, HO.out, HB3.out⟩
end Go.Proofs.YtkibmoekadmjnaaGreatDoor
