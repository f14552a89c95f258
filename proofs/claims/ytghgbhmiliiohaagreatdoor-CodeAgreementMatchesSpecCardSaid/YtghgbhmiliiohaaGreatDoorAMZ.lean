/-
  CodeAgreementMatchesSpec: for every frame, codings, two coders and tree the law returns true: Confusions, Kappa and Alpha answer as their references, with all errors. It speaks of the program whose listed package-level variables read as the program's text lays them (the card ties them). No condition.
-/
import Derived.Test.YtghgbhmiliiohaaGreatDoorAM40
import Derived.Test.YtghgbhmiliiohaaGreatDoorCards
import Derived.Test.YtghgbhmiliiohaaGreatDoorTie
import Derived.ProofKit
import Derived.OpenShut
import Derived.Deep.DeepHandedRow
import Derived.Deep.DeepWitnessRowRef
import Derived.Lib.LaidTab
import Derived.Lib.LaidU8
import Derived.Lib.SmallJoins
import Derived.LaidSub
import Derived.LaidLaws
import Derived.MakeChecks
namespace Go.Proofs.YtghgbhmiliiohaaGreatDoor.lawAgreement
open Go.ChangeShapes Go.WideShapes Go.ChangeAt Go.RowKit Go.Joins
def theLaid:List (String×DataW Unit):=Rows.codeAgreementMatchesSpecRow.laid
theorem noHandle:(theLaid.all fun x=>x.2.handleName?.isNone)=true:=by kernel_rfl
theorem plainLaid{W:World}(h:laidMetH Tryz.prog theLaid W):laidMet Tryz.prog theLaid W:=by
 rw[Go.MakeChecks.laidMetH_plain _ _ _ noHandle]at h;exact h
theorem entry{W:World}(h:laidMetH Tryz.prog theLaid W)(n:String)(d:DataW Unit)(e:(theLaid.filter fun x=>x.1 == n)=[(n,d)]):laidMet Tryz.prog [(n,d)] W:=by
 have:=(plainLaid h).filter (fun x=>x.1 == n)
 rw[e]at this;exact this
theorem gPowType:(Tryz.prog.globals[2]?).map (·.type)=some 225:=by kernel_rfl
theorem powData:Rows.laid_internal_strconv_uint64pow10 (H:=Unit)=Lib.tabData .u64 Lib.pow10Tab:=by kernel_rfl
theorem pow_tab{W:World}(h:laidMetH Tryz.prog theLaid W):Pow W:=
 Lib.tabIs_of_head (rest:=[]) gPow gPowType Tryz.underlying225 Tryz.underlying144 (by kernel_rfl) (by kernel_rfl) (by
  rw [← powData]; exact entry h "internal/strconv.uint64pow10" _ (by kernel_rfl))
set_option maxRecDepth 100000 in
theorem contract(H:Type) (enc:TypeId×Value→H) (W:World) (base:Nat) (args:Array Value) (ds gs:List (DataW H)) (before:List MemPlace)
  (hval:∀ (j:Nat) t v,Tryz.f3.params[j]?=some t→args[j]?=some v→Value.okWide Tryz.prog W .any base t v)
  (hW:DataW.Whole enc Tryz.prog Tryz.f3.params.toList Rows.codeAgreementMatchesSpecSpec.vars false W args.toList ds gs before) (hL:laidMetH Tryz.prog theLaid W) :
  Calls Tryz.prog 3 args W fun e W'=>∃ v,e=.returned v∧Rows.codeAgreementMatchesSpecSpec.post enc Tryz.prog Tryz.f3 false true false false W args v W':=by
 have hW':=hW
 obtain⟨p,q,hA0,hV,rfl,hfz,hnd⟩:=hW
 have hA:DataW.TrodAll enc Tryz.prog W 0 (fun _=>true) true Tryz.f3.params.toList args.toList ds p:=hA0
 rw[Tryz.params3]at hA hval
 obtain⟨v0,vs0,d0,ds0,p0,q0,hargs,rfl,rfl,h0,r0⟩:=trodAll_cons hA
 obtain⟨v1,vs1,d1,ds1,p1,q1,rfl,rfl,rfl,h1,r1⟩:=trodAll_cons r0
 obtain⟨v2,vs2,d2,ds2,p2,q2,rfl,rfl,rfl,h2,r2⟩:=trodAll_cons r1
 obtain⟨v3,vs3,d3,ds3,p3,q3,rfl,rfl,rfl,h3,r3⟩:=trodAll_cons r2
 obtain⟨v4,vs4,d4,ds4,p4,q4,rfl,rfl,rfl,h4,r4⟩:=trodAll_cons r3
 obtain⟨rfl,rfl,rfl⟩:=trodAll_nil r4
 obtain rfl:args=#[v0,v1,v2,v3,v4]:=by cases args;simp_all
 obtain⟨rfl,rfl⟩:=trodVars_none hV
 have k0:=h0
 have lt0:∀ x∈p0,x.block<W.heap.size:=by obtain⟨m,hm⟩:=k0;exact DataW.trod_lt m _ _ _ hm
 have k1:=h1
 have lt1:∀ x∈p1,x.block<W.heap.size:=by obtain⟨m,hm⟩:=k1;exact DataW.trod_lt m _ _ _ hm
 have k2:=h2
 have lt2:∀ x∈p2,x.block<W.heap.size:=by obtain⟨m,hm⟩:=k2;exact DataW.trod_lt m _ _ _ hm
 have k3:=h3
 have lt3:∀ x∈p3,x.block<W.heap.size:=by obtain⟨m,hm⟩:=k3;exact DataW.trod_lt m _ _ _ hm
 have k4:=h4
 have lt4:∀ x∈p4,x.block<W.heap.size:=by obtain⟨m,hm⟩:=k4;exact DataW.trod_lt m _ _ _ hm
 obtain⟨a0,l0,c0,rfl,hr0,hf0,hc0⟩:=open_N (hval 0 22 v0 rfl rfl) h0
 obtain⟨a1,l1,c1,rfl,hr1,hf1,hc1⟩:=open_C (hval 1 23 v1 rfl rfl) h1
 obtain⟨n2,rfl,rfl,rfl,w2⟩:=open_int Tryz.underlying3 (hval 2 3 v2 rfl rfl) h2
 obtain⟨n3,rfl,rfl,rfl,w3⟩:=open_int Tryz.underlying3 (hval 3 3 v3 rfl rfl) h3
 obtain⟨b4,rfl,rfl,rfl⟩:=open_bool Tryz.underlying4 (hval 4 4 v4 rfl rfl) h4
 clear hA0
 refine (law_agreement a0 c0 l0 a1 c1 l1 n2 n3 b4 W hr0 hf0 hr1 hc1 (pow_tab hL)).mono fun e W' ⟨he,bel⟩=>?_
 subst he
 have TB:=fun {v:Value} {d:DataW H} {p:List MemPlace} (k:DataW.Trod enc Tryz.prog W 0 (fun _=>true) true 4 v d p) (lt:∀ x∈p,x.block<W.heap.size)=>Below.trod laidOut (by kernel_rfl) (of_decide_eq_true (by kernel_rfl)) k bel lt
 have TC:=fun {v:Value} {d:DataW H} {p:List MemPlace} (k:DataW.Trod enc Tryz.prog W 0 (fun _=>true) true 23 v d p) (lt:∀ x∈p,x.block<W.heap.size)=>Below.trod laidOut (by kernel_rfl) (of_decide_eq_true (by kernel_rfl)) k bel lt
 have TI:=fun {v:Value} {d:DataW H} {p:List MemPlace} (k:DataW.Trod enc Tryz.prog W 0 (fun _=>true) true 3 v d p) (lt:∀ x∈p,x.block<W.heap.size)=>Below.trod laidOut (by kernel_rfl) (of_decide_eq_true (by kernel_rfl)) k bel lt
 have TN:=fun {v:Value} {d:DataW H} {p:List MemPlace} (k:DataW.Trod enc Tryz.prog W 0 (fun _=>true) true 22 v d p) (lt:∀ x∈p,x.block<W.heap.size)=>Below.trod laidOut (by kernel_rfl) (of_decide_eq_true (by kernel_rfl)) k bel lt
 exact⟨_,rfl,_,_,_,[],_,[],hW',trodAll_mk1 (shut_bool Tryz.underlying4 _),(trodAll_cons_mk (TN k0 lt0) (trodAll_cons_mk (TC k1 lt1) (trodAll_cons_mk (TI k2 lt2) (trodAll_cons_mk (TI k3 lt3) (trodAll_cons_mk (TB k4 lt4) trodAll_mk0))))),rfl,bel.frame _,fun h=>by cases h⟩
/-! ### A world for the witness. -/
def tabU8(l:List Nat):Array Value:=(l.map fun (z:Nat)=>Value.int .u8 (z:Int)).toArray
def put(h:Array Obj)(g:Nat)(cs:Array Value):Array Obj:=h.modify g fun
 | .cells _ t frozen=>.cells cs t frozen
 | o=>o
noncomputable def laidWorld (os:Os):World:=
 let w0:=World.holding Tryz.prog os ⟨#[],#[],[]⟩
 let h2:=put w0.heap 4 (tabU8 Go.Pinned.utf8FirstZ)
 let h3:=put h2 5 (tabU8 [128,191,160,191,128,159,144,191,128,143,0,0,0,0,0,0,0,0,0,0,0,0,0,0,0,0,0,0,0,0,0,0])
 let h4:=put h3 2 (Lib.pow10Tab.map fun z=>Value.int .u64 z).toArray
 let h7:=put h4 6 (tabU8 [0,1,28,2,29,14,24,3,30,22,20,15,25,17,4,8,31,27,13,23,21,19,16,7,26,12,18,6,11,5,10,9])
 let h8:=put h7 7 (tabU8 [0,1,56,2,57,49,28,3,61,58,42,50,38,29,17,4,62,47,59,36,45,43,51,22,53,39,33,30,24,18,12,5,63,55,48,27,60,41,37,16,46,35,44,21,52,32,23,11,54,26,40,15,34,20,31,10,25,14,19,9,13,8,7,6])
 { w0 with heap:=h8 }
abbrev wit:Array Value:=#[.slice none 0 0,.slice none 0 0,.int .i64 0,.int .i64 0,.bool false]
/-! That many places are all different: by one number in which each has its own bit. -/
def keyOf:MemPlace→Nat
 | .cell b off=>b*1024+off
 | .map _=>0
def bitsB:List MemPlace→Nat→Bool
 | [],_=>true
 | k::r,acc=>!(acc.testBit (keyOf k)) && bitsB r (acc ||| 2 ^ keyOf k)
theorem bits_nodup:∀ (l:List MemPlace) (acc:Nat),bitsB l acc=true→l.Nodup∧∀ k∈l,acc.testBit (keyOf k)=false
 | [],_,_=>⟨List.nodup_nil,fun _ h=>by cases h⟩
 | k::r,acc,h=>by
  simp only[bitsB,Bool.and_eq_true,Bool.not_eq_true']at h
  obtain⟨h1,h2⟩:=bits_nodup r _ h.2
  refine⟨List.nodup_cons.2 ⟨fun hk=>?_,h1⟩,fun x hx=>?_⟩
  ·have:=h2 k hk
   rw[Nat.testBit_or,Nat.testBit_two_pow_self]at this
   simp at this
  ·rcases List.mem_cons.1 hx with rfl|hx
   ·exact h.1
   ·have:=h2 x hx
    rw[Nat.testBit_or,Bool.or_eq_false_iff]at this
    exact this.1
theorem laid_met(os:Os):laidMet Tryz.prog theLaid ((laidWorld os).forCall (fun _ _=>0) ⟨#[],wit,[]⟩).memory:=by
 have h:(DataW.laidRun Tryz.prog ((laidWorld os).forCall (fun _ _=>0) ⟨#[],wit,[]⟩).memory 8 (theLaid.map (·.1))).map (·.1)=some theLaid:=by kernel_rfl
 have hr:(DataW.laidRun Tryz.prog ((laidWorld os).forCall (fun _ _=>0) ⟨#[],wit,[]⟩).memory 8 (theLaid.map (·.1))).map (fun x=>bitsB x.2 0 && laidRowsB Tryz.prog ((laidWorld os).forCall (fun _ _=>0) ⟨#[],wit,[]⟩).memory x.2)=some true:=by kernel_rfl
 cases hx:DataW.laidRun Tryz.prog ((laidWorld os).forCall (fun _ _=>0) ⟨#[],wit,[]⟩).memory 8 (theLaid.map (·.1)) with
 | none=>rw[hx]at h;cases h
 | some x=>
  obtain⟨l',ps⟩:=x
  rw[hx]at h hr
  simp only[Option.map_some,Option.some.injEq,Bool.and_eq_true]at h hr
  subst h
  exact laidMet_of_run 8 hx (decide_eq_true (bits_nodup ps 0 hr.1).1) hr.2
theorem reads(os:Os){H:Type}(enc:TypeId×Value→H):∃ places,DataW.whole enc Tryz.prog ((laidWorld os).forCall (fun _ _=>0) ⟨#[],wit,[]⟩).memory Tryz.f3.params.toList Rows.codeAgreementMatchesSpecSpec.vars false wit.toList 8=some ([.nil,.nil,.lit (.int .i64 0),.lit (.int .i64 0),.lit (.bool false)],[],places):=
 ⟨[],by kernel_rfl⟩
set_option maxRecDepth 100000 in
theorem lifted(os:Os) (started:os.Started) (H:Type) (enc:TypeId×Value→H) (F:Stop.Interp) :
  ReturnsInHanded {} Tryz.checked os 3 .any ((OpenSpec.ofChange Rows.codeAgreementMatchesSpecSpec).preRow enc Tryz.prog Tryz.f3 Rows.codeAgreementMatchesSpecRow.domain false Rows.codeAgreementMatchesSpecRow.laid) (((OpenSpec.ofChange Rows.codeAgreementMatchesSpecSpec).at F).post enc Tryz.prog Tryz.f3 false true false false):=by
 obtain⟨places,hx⟩:=reads os enc
 refine returnsInHanded_of_row (C:=Tryz.checked) (s:=OpenSpec.ofChange Rows.codeAgreementMatchesSpecSpec) own started (by kernel_rfl) Tryz.func3
  (witness_row_atRef (enc:=enc) (C:=Tryz.checked) false (laidWorld os) wit rfl (by kernel_rfl) (by kernel_rfl) (by kernel_rfl)
   (OpenSpec.preRow_of_cond 8 hx (by kernel_rfl) (fun k hk=>by cases hk) (by kernel_rfl) (laid_met os))) ?_
 intro W base args ds gs before hval hW _ _ _ hL _ _
 exact contract H enc W base args ds gs before hval hW hL
theorem said:Rows.CodeAgreementMatchesSpecSaid:=
 OpenClaim.holds_of_cond 3 Tryz.f3 rfl rfl rfl rfl rfl rfl rfl ⟨rfl,rfl,rfl,rfl,rfl⟩ rfl rfl rfl rfl rfl (by kernel_rfl) Tryz.func3 (by kernel_rfl)
  (of_decide_eq_true (by kernel_rfl)) (by unfold Func.isWrapper;first | (rw[if_pos (by decide +kernel)];kernel_rfl) | (rw[if_neg (by decide +kernel)];exact⟨rfl,rfl⟩))
  (fun os started H enc _ F=>by rw[OpenClaim.pre_eq_preRow];exact lifted os started H enc F)
theorem plain (f : FuncId) (fn : Func) (hf : Tryz.pinned.checked.prog.funcNamed "canvass/canvasslaw8.CodeAgreementMatchesSpec" = some f) (hfn : Tryz.pinned.checked.prog.funcs[f]? = some fn) :
  false=Tryz.pinned.checked.prog.looks []∧∀ (j:Nat) t,fn.params[j]?=some t→Tryz.pinned.checked.prog.wantsStandIn t=false:=by
 obtain rfl : f = 3 := Option.some.inj ((show Tryz.prog.funcNamed "canvass/canvasslaw8.CodeAgreementMatchesSpec" = some 3 by kernel_rfl).symm.trans hf) |>.symm
 obtain rfl:fn=Tryz.f3:=(Option.some.inj (Tryz.func3.symm.trans hfn)).symm
 refine⟨by kernel_rfl,fun j t ht=>?_⟩
 rw[Tryz.params3]at ht
 have ht':t=22∨t=23∨t=3∨t=4:=by simpa using Array.mem_of_getElem? ht
 rcases ht' with rfl|rfl|rfl|rfl
 ·exact (show Tryz.prog.wantsStandIn 22=false by kernel_rfl)
 ·exact (show Tryz.prog.wantsStandIn 23=false by kernel_rfl)
 ·exact (show Tryz.prog.wantsStandIn 3=false by kernel_rfl)
 ·exact (show Tryz.prog.wantsStandIn 4=false by kernel_rfl)
theorem card:Rows.CodeAgreementMatchesSpecCardSaid:=
 Claim7.holds_tied_plain_at .later [] _ _ _ _ said (fun _ h=>by cases h) (by kernel_rfl) (fun _ h=>by cases h) codeAgreementMatchesSpec_row_tie rfl ⟨rfl,rfl⟩ (by kernel_rfl) rfl plain (by kernel_rfl)
#print axioms card
end Go.Proofs.YtghgbhmiliiohaaGreatDoor.lawAgreement
