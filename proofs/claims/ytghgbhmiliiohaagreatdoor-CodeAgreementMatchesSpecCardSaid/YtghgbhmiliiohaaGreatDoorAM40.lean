/-
  Package code: arguments opened: the lists that they read as.
-/
import Derived.Test.YtghgbhmiliiohaaGreatDoorAMQ
import Derived.Test.YtghgbhmiliiohaaGreatDoorAM39
import Derived.Test.YtghgbhmiliiohaaGreatDoorAM25
import Derived.Test.YtghgbhmiliiohaaGreatDoorAM31
import Derived.Test.YtghgbhmiliiohaaGreatDoorAM38
import Derived.Test.YtghgbhmiliiohaaGreatDoorAM22
import Derived.Test.YtghgbhmiliiohaaGreatDoorAM02
import Derived.ProofKit
import Derived.OpenShut
import Derived.ShutString
import Derived.ChangeOld
import Derived.Deep.DeepHandedRow
import Derived.Lib.SmallJoins
set_option maxRecDepth 100000
namespace Go.Proofs.YtghgbhmiliiohaaGreatDoor
open Go.RowKit Go.WideMaps Go.Maps
theorem rn_isR{R:List (List Cg)}{k:Nat}(h:k<R.length):rn R k=R[k]:=by unfold rn;rw[List.getD,List.getElem?_eq_getElem h];rfl
theorem alC_none{l:List Nd}{R:List (List Cg)}(h:∀ D∈R,OkD l D):(alC R).length=0↔R.length=0:=by
 cases R with
 | nil=>simp[alC]
 | cons D R=>
  have:=(h D (List.mem_cons_self ..)).1
  simp only[alC,List.length_append,cds_len,List.length_cons]
  omega
theorem cds_code{l:List Nd}{D:List Cg}(h:InLd l (cdsD D)){j:Nat}(hj:j<D.length):∃ c:Nat,(cg D j).cd=c∧Has l c:=
 h _ (by unfold cdsD;rw[cg_is hj];exact List.mem_map.2 ⟨_,List.getElem_mem hj,rfl⟩)
theorem pr_take{dl:Int→Int→Nat}{D:List Cg}{j:Nat}(h:j<D.length):sumL (fun x=>sumL (dl x) (cdsD D)) ((cdsD D).take (j+1))=sumL (fun x=>sumL (dl x) (cdsD D)) ((cdsD D).take j)+sumL (dl (cg D j).cd) (cdsD D):=by
 rw[cds_take h,sumL_snoc]
theorem in_take{dl:Int→Int→Nat}{D:List Cg}{x:Int}{j:Nat}(h:j<D.length):sumL (dl x) ((cdsD D).take (j+1))=sumL (dl x) ((cdsD D).take j)+dl x (cg D j).cd:=by
 rw[cds_take h,sumL_snoc]
theorem in_le{dl:Int→Int→Nat}(hd:∀ a b,dl a b≤256){D:List Cg}(h50:D.length≤50)(x:Int)(j:Nat):sumL (dl x) ((cdsD D).take j)≤12800:=by
 refine Nat.le_trans (sumL_le (B:=256) fun y _=>hd x y) ?_
 have:((cdsD D).take j).length≤50:=by rw[List.length_take,cds_len];omega
 exact Nat.mul_le_mul_right 256 this
theorem pr_le{dl:Int→Int→Nat}(hd:∀ a b,dl a b≤256){D:List Cg}(h50:D.length≤50)(j:Nat):sumL (fun x=>sumL (dl x) (cdsD D)) ((cdsD D).take j)≤640000:=by
 refine Nat.le_trans (sumL_le (B:=12800) fun x _=>?_) ?_
 ·have:=in_le hd h50 x D.length
  rwa [←cds_len,List.take_length]at this
 ·have:((cdsD D).take j).length≤50:=by rw[List.length_take,cds_len];omega
  exact Nat.mul_le_mul_right 12800 this
theorem nC_take{X:List Int}{m:Nat}(h:m<X.length)(s:Int):nC (X.take (m+1)) s=nC (X.take m) s+if (fn X m == s)=true then 1 else 0:=by
 have e:fn X m=X[m]:=by unfold fn;rw[List.getD,List.getElem?_eq_getElem h];rfl
 rw[List.take_succ_eq_append_getElem h,e]
 unfold nC
 rw[List.countP_append]
 simp[List.countP_cons]
theorem sub_small{b:Bool}{x y:Nat}(hx:x<tp 24)(hy:y<tp 24):(sg false (1*y)-sg b (x*1)).natAbs<tp 25:=by
 have e:tp 25=tp 24*tp 1:=by rw[show (25:Nat)=24+1 from rfl,tp_add]
 have h2:2≤tp 1:=by rw[tp_one];decide
 have h3:tp 24*2≤tp 25:=by rw[e];exact Nat.mul_le_mul_left _ h2
 generalize tp 24=A at *
 generalize tp 25=B at *
 cases b<;>simp only[sg,Bool.false_eq_true,if_false,if_true]<;>omega
set_option maxHeartbeats 16000000 in
theorem rAlpha_c(sa:Option Addr) (c:Nat) (l:List Nd) (a2:Option Addr) (c2:Nat) (C:List Cg) (t:Bool) (w:World) (hl:RdN w sa l) (hf:Fits l) (hC:RdC w a2 C) (hE:Pow w) :
  Calls Tryz.prog 10 #[.slice sa l.length c,.slice a2 C.length c2,.bool t] w (OpPost (alS l t C) w):=by
 obtain⟨i0,hi,hz0,hz1,hz2⟩:=info_parts infoI
 obtain⟨W1,hW1⟩:∃ W1,w.alloc (.cells #[.string ⟨#[]⟩,.string ⟨#[]⟩] 32)=W1:=⟨_,rfl⟩
 have JR1:Hid (B2 W1 w.heap.size (.string ⟨#[]⟩) (.string ⟨#[]⟩)):=by rw[←hW1];exact B2.made _ _ _ _
 have JB1:Hid (Below w.heap.size w W1):=by rw[←hW1];exact bel_one _ _
 have HC:=Zh (rCheckCodings_c sa c l a2 c2 C W1 (hl.below JB1.out) hf (hC.below JB1.out))
 have HLw:=Zh hl
 have HCC:=Zh (hC.below JB1.out)
 have PWw:=Zh hE
 have h9:=hC.1
 have h8:=hl.1
 clear hl hf hC hE
 by_cases hz:forS l C≠0
 ·have KR:alS l t C=(⟨#[]⟩,⟨#[]⟩,forS l C):=by unfold alS;rw[if_pos hz]
  obtain⟨f,hfl⟩:∃ f,forS l C=f:=⟨_,rfl⟩
  rw[hfl]at HC hz KR
  have f2:(f != 0)=true:=by rw[bne,beq_eq_false_iff_ne.2 hz];rfl
  clear hfl hz HCC HLw PWw
  go_enter Tryz.func10,Tryz.ntmps10
  go_wp2_with fail
  (with_reducible refine HC.out.mono ?_)
  rintro e W2 ⟨rfl,b2⟩
  have J9:=Zh (JR1.out.keep b2)
  have B9:=Zh (JB1.out.trans (b2.mono JB1.out.size))
  clear b2 HC JR1 JB1
  obtain⟨W9,hW9⟩:∃ W9,two W2 w.heap.size (.string ⟨#[]⟩) (.string ⟨#[]⟩)=W9:=⟨_,rfl⟩
  have R9:B2 W9 w.heap.size (.string ⟨#[]⟩) (.string ⟨#[]⟩):=by rw[←hW9];exact J9.out.set _ _
  have PP:Hid (OpPost (alS l t C) w (.returned (.tuple #[.agg #[.string ⟨#[]⟩,.string ⟨#[]⟩],.int .i64 f])) W9):=by
   rw[←hW9,KR]
   exact⟨rfl,below_two B9.out (Nat.le_refl _) _ _⟩
  have q0:=J9.out.c0
  have q1:=J9.out.c1
  have g0:=J9.out.fr 0
  have g1:=J9.out.fr 1
  obtain⟨r0,r1,_,_⟩:=id R9
  unfold two at hW9
  clear R9
  go_wp2_with fail
  exact bodyPost_ret (v:=.tuple #[.agg #[.string ⟨#[]⟩,.string ⟨#[]⟩],.int .i64 f]) (by simp[results,Tryz.results10,go_sem,r0,r1]) rfl PP.out
 have hz:forS l C=0:=by omega
 obtain⟨F,hcg,hCn,_⟩:=for_ok hz
 have HF:=Zh F
 have hl6:=F.le
 have KS:Hid (alS l t C=if (flt (cases_ C)).length=0 then (⟨#[]⟩,⟨#[]⟩,9) else alR (alC (flt (cases_ C))).length (dfS (dlS l t) (nC (alC (flt (cases_ C))))) (obS (dlS l t) (flt (cases_ C)))):=by unfold Hid alS;rw[if_neg (by simpa using hz)]
 have HR:Hid (∀ D∈flt (cases_ C),OkD l D):=fun D hD=>flt_ok hz hD
 have HSU:Hid (sumR List.length (cases_ C)≤20000):=by unfold Hid;rw[cases_sum];exact hCn
 have HCN:Hid ((cases_ C).length≤20000):=Nat.le_trans (cases_len C) hCn
 have HCL:Hid (∀ k,k<(cases_ C).length→(rn (cases_ C) k).length≤20000):=fun k hk=>by
  obtain⟨_,s,h2,_⟩:=cases_all (C:=C) (D:=rn (cases_ C) k) (by rw[rn_isR hk];exact List.getElem_mem hk)
  omega
 have HOK:Hid (∀ k,k<(cases_ C).length→2≤(rn (cases_ C) k).length→OkD l (rn (cases_ C) k)):=fun k hk h2=>flt_ok hz (List.mem_filter.2 ⟨by rw[rn_isR hk];exact List.getElem_mem hk,by simp;omega⟩)
 have HK:=Zh (fun W (h:Below W1.heap.size W1 W)=>rcasesB_c a2 c2 C W (HCC.out.below h) hCn)
 rw[hz]at HC
 clear hz F hcg hCn HCC
 obtain⟨R,hR⟩:∃ R,cases_ C=R:=⟨_,rfl⟩
 have HRR:=Zh hR
 rw[hR]at KS HR HSU HCN HCL HOK
 clear hR
 have hRn:=HCN.out
 have DB:=Zh (dlS_le l t)
 have OBk:Hid (∀ k,obS (dlS l t) (flt (R.take k))≤256000000*LM):=fun k=>by
  refine Nat.le_trans (obS_le HF.out.ord DB.out (l:=l) (R:=flt (R.take k)) (fun D hD=>HR.out D ?_)) (Nat.mul_le_mul_right LM (Nat.mul_le_mul_right 12800 (Nat.le_trans (sumR_flt _ _) (Nat.le_trans (sumR_take _ _ _) HSU.out))))
  obtain⟨h1,h2⟩:=List.mem_filter.1 hD
  exact List.mem_filter.2 ⟨List.mem_of_mem_take h1,h2⟩
 have ALk:Hid (∀ k,(alC (flt (R.take k))).length≤20000):=fun k=>by rw[alC_len];exact Nat.le_trans (sumR_flt _ _) (Nat.le_trans (sumR_take _ _ _) HSU.out)
 obtain⟨dl,hdl⟩:∃ dl,dlS l t=dl:=⟨_,rfl⟩
 have DE:=Zh hdl
 rw[hdl]at KS DB OBk
 clear hdl
 go_enter Tryz.func10,Tryz.ntmps10
 go_wp2_with fail
 (with_reducible refine HC.out.mono ?_)
 rintro e W2 ⟨rfl,b2⟩
 have B12:=Zh b2
 have HW:Hid (Calls Tryz.prog 16 #[.int .i64 0] W2 (FqP false 0 1 W2)):=whole_pos 0 W2 (by decide)
 clear b2 HC
 go_wp2_with fail
 (with_reducible refine HW.out.mono ?_)
 rintro e W3 ⟨xa,xk,xc,ya,yk,yc,rfl,nm,nm2,b3⟩
 obtain⟨W4,hW4⟩:∃ W4,W3.alloc (.cells #[.bool false,.slice xa xk xc,.slice ya yk yc] 51)=W4:=⟨_,rfl⟩
 have b4:Below W3.heap.size W3 W4:=by rw[←hW4];exact bel_one _ _
 have S4:Hid (See W4 W3.heap.size none 0 ⟨false,xa,xk,xc,ya,yk,yc⟩ 0 1):=
  ⟨by rw[←hW4];exact Q3.made _ _ _ _ _,rfl,nm.below b4,nm2.below b4,by decide,by simp,.inl ⟨tp_small (by decide),tp_small (by decide)⟩,fun _ _ _ _ h=>(by cases h),fun _ _ _ _ h=>(by cases h)⟩
 have B13:=B12.out.trans (b3.mono B12.out.size)
 have B14:=Zh (B13.trans (b4.mono B13.size))
 have SBL:Hid (w.heap.size<W3.heap.size∧W3.heap.size<W4.heap.size):=⟨Nat.lt_of_lt_of_le JR1.out.lt B13.size,by rw[←hW4];simp⟩
 have HK4:=Zh (HK.out W4 B14.out)
 clear nm nm2 b3 b4 B12 B13 HW HK hW1
 obtain⟨sb,hsb⟩:∃ sb,W3.heap.size=sb:=⟨_,rfl⟩
 go_wp2_with fail
 rw[hsb]at S4 SBL
 clear hsb hW4
 (with_reducible refine HK4.out.mono ?_)
 rintro e W5 ⟨a5,c5,he5,hrd,b5⟩
 rw[HRR.out]at he5 hrd
 subst he5
 have B15:=B14.out.trans (b5.mono B14.out.size)
 have I5:Hid (InRa w W5 W5 (.slice none 0 0) sb (alC (flt (R.take 0))) (obS dl (flt (R.take 0)))):=
  ⟨World.ownsRow_nil _ _ _ _,⟨_,_,_,S4.out.keep b5⟩,JR1.out.keep B15,JB1.out.trans (B15.mono JB1.out.size),World.grownBy.refl _ _⟩
 have HRD:=Zh hrd
 have P5:Hid (w.heap.size<sb∧sb<W4.heap.size∧sb<W5.heap.size∧w.heap.size<W5.heap.size):=⟨SBL.out.1,SBL.out.2,Nat.lt_of_lt_of_le SBL.out.2 b5.size,Nat.lt_trans SBL.out.1 (Nat.lt_of_lt_of_le SBL.out.2 b5.size)⟩
 clear hrd b5 HK4 B15 S4 SBL B14 JR1 JB1
 go_wp2_with fail
 go_loopw [9,38] (fun v i wr=>∃ k:Nat,k≤R.length∧i=.int .i64 k∧Hid (InRa w W5 wr v sb (alC (flt (R.take k))) (obS dl (flt (R.take k))))) (fun _ i _=>R.length-(intOf i).toNat)
 case atStart=>exact⟨0,Nat.zero_le _,rfl,I5.out⟩
 case round=>
  clear I5
  obtain⟨k,hk,rfl,hS⟩:=hrel
  by_cases hkl:k<R.length
  ·have hkl':(k:Int)<(R.length:Int):=by omega
   obtain⟨g,gd,c',rfl,hb1,hl1,hc1,hb2,hd5⟩:=HRD.out k hkl
   have v0:wr.cell? ⟨g,k,none⟩=some (.slice (some ⟨gd,0,none⟩) (rn R k).length c'):=hS.out.grw.cell hc1 (fun e=>by injection e with e;have e:g=sb:=e;have:=P5.out.2.1;omega)
   have FN:=Zh (flt_next hkl)
   have h20:=HCL.out k hkl
   have HOKk:=Zh (HOK.out k hkl)
   have RG:=Zh hd5
   have GNE:Hid (gd≠sb):=by have:=P5.out.2.1;unfold Hid;omega
   obtain⟨D,hD⟩:∃ D,rn R k=D:=⟨_,rfl⟩
   rw[hD]at v0 FN h20 HOKk RG
   clear hb1 hl1 hc1 hb2 hd5 hD
   by_cases h2:2≤D.length
   ·have h2':¬ (D.length:Int)<2:=by omega
    have OKD:=Zh (HOKk.out h2)
    have h50:D.length≤50:=OKD.out.2.1
    rw[if_pos h2]at FN
    have ALX:=ALk.out k
    have OBX:=Zh (OBk.out k)
    have AL1:=ALk.out (k+1)
    have FX:Hid (alC (flt (R.take (k+1)))=alC (flt (R.take k)) ++ cdsD D∧obS dl (flt (R.take (k+1)))=obS dl (flt (R.take k))+dfS dl (nC (cdsD D))*wgt D.length):=by
     unfold Hid
     rw[FN.out,alC_snoc,obS_snoc]
     exact⟨rfl,rfl⟩
    obtain⟨X,hX⟩:∃ X,alC (flt (R.take k))=X:=⟨_,rfl⟩
    obtain⟨N,hN⟩:∃ N,obS dl (flt (R.take k))=N:=⟨_,rfl⟩
    rw[hX]at FX ALX hS
    rw[hN]at FX OBX hS
    clear hX hN HOKk
    have S0:=Zh hS.out
    clear hS
    go_wp2_with fail
    obtain⟨wo,hwo⟩:∃ x:World,x=wr:=⟨wr,rfl⟩
    subst hwo
    clear v0
    go_loopw [9,13,47] (fun v s i wr=>∃ j:Nat,j≤D.length∧i=.int .i64 j∧s=.int .i64 (sumL (fun x=>sumL (dl x) (cdsD D)) ((cdsD D).take j):Nat)∧Hid (InRa w W5 wr v sb (X ++ (cdsD D).take j) N)) (fun _ _ i _=>D.length-(intOf i).toNat)
    case atStart=>exact⟨0,Nat.zero_le _,rfl,rfl,by rw[List.take_zero,List.append_nil];exact S0.out⟩
    case round=>
     clear S0
     obtain⟨j,hj,rfl,rfl,hS⟩:=hrel
     by_cases hjl:j<D.length
     ·have hjl':(j:Int)<(D.length:Int):=by omega
      obtain⟨u0,u1,u2⟩:=(RG.out.kept hS.out.grw (fun e=>by injection e with e;exact GNE.out e.symm)).2 j hjl
      obtain⟨xn,hxn,hxh⟩:=cds_code OKD.out.2.2 hjl
      have XH:=Zh hxh
      have XE:=Zh hxn
      have TK:=Zh (cds_take hjl)
      have PT:=Zh (pr_take (dl:=dl) hjl)
      have PB:=pr_le DB.out h50 j
      rw[hxn]at u2 TK PT
      have TL:((cdsD D).take j).length≤50:=by rw[List.length_take,cds_len];omega
      obtain⟨S,hSS⟩:∃ S,sumL (fun x=>sumL (dl x) (cdsD D)) ((cdsD D).take j)=S:=⟨_,rfl⟩
      rw[hSS]at PT PB ⊢
      obtain⟨Z,hZ⟩:∃ Z,X ++ (cdsD D).take j=Z:=⟨_,rfl⟩
      have ZL:Z.length≤20100:=by rw[←hZ,List.length_append];omega
      have NZ:Hid (X ++ (cdsD D).take (j+1)=Z ++ [(xn:Int)]):=by unfold Hid;rw[TK.out,←List.append_assoc,hZ]
      rw[hZ]at hS
      clear hSS hZ TK hxn hxh
      obtain⟨WA,hWA⟩:∃ W,wr.alloc (.cells #[.int .i64 (cg D j).ca,.int .i64 (cg D j).co,.int .i64 (xn:Nat)] 69)=W:=⟨_,rfl⟩
      have bA:Below wr.heap.size wr WA:=by rw[←hWA];exact bel_one _ _
      have v0:WA.cell? ⟨wr.heap.size,2,none⟩=some (.int .i64 (xn:Nat)):=by rw[←hWA,World.cell?_alloc_new];rfl
      have zl:wr.heap.size<WA.heap.size:=by rw[←hWA];simp
      have SA:=Zh (hS.out.keep bA)
      have VX:=Zh v0
      have ZX:=Zh zl
      have VN:Hid (u9.ownBlock≠some wr.heap.size):=fun e=>by have:=(hS.out.own.lt _ e).2;omega
      clear hS bA zl
      go_wp2_with (at_builtin;refine wpList_append_own_at _ rfl _ _ 48 rfl W5.heap.size 3 i0 (.int .i64 0) 1 8 Tryz.underlying48 hi hz0 hz1 hz2 rfl (by decide) _ _ _ rfl (SA.out.own.alloc _) ⟨WA.heap.size,0,none⟩ 1 1 [.int .i64 (xn:Nat)] rfl rfl (cell_one_new _ _ _) (by simp[Value.oneCell']) ?c3 ?c4 ?c5 ?_)
      case c3=>unfold maxLen;omega
      case c4=>omega
      case c5=>have:=SA.out.grw.size;simp;omega
      intro v' w4 hown' hgrow _ hloc
      have S4:=Zh (SA.out.app P5.out.2.2.2 P5.out.2.2.1 hown' hgrow hloc)
      have vx:w4.cell? ⟨wr.heap.size,2,none⟩=some (.int .i64 (xn:Nat)):=hgrow.cell (((bel_one WA _).cell (p:=⟨wr.heap.size,2,none⟩) ZX.out).trans VX.out) (fun e=>VN.out e.symm)
      have zx:wr.heap.size<w4.heap.size:=Nat.lt_of_lt_of_le ZX.out (Nat.le_trans (bel_one WA _).size hgrow.size)
      have VX4:=Zh vx
      have ZX4:=Zh zx
      clear hown' hgrow hloc SA VX ZX VN hWA v0 u0 u1 u2 vx zx
      go_wp2_with fail
      obtain⟨zz,hzz⟩:∃ z,wr.heap.size=z:=⟨_,rfl⟩
      rw[hzz]at VX4 ZX4 ⊢
      clear hzz
      go_loopw [13,59] (fun s i wr=>∃ m:Nat,m≤D.length∧i=.int .i64 m∧s=.int .i64 (S+sumL (dl xn) ((cdsD D).take m):Nat)∧Hid (Below w4.heap.size w4 wr)) (fun _ i _=>D.length-(intOf i).toNat)
      case atStart=>exact⟨0,Nat.zero_le _,rfl,rfl,Below.refl _ _⟩
      case round=>
       obtain⟨m,hm,rfl,rfl,hB⟩:=hrel
       by_cases hml:m<D.length
       ·have hml':(m:Int)<(D.length:Int):=by omega
        obtain⟨u0,u1,u2⟩:=((RG.out.kept S4.out.grw (fun e=>by injection e with e;exact GNE.out e.symm)).kept (row:=none) (below_grow hB.out) (by simp)).2 m hml
        obtain⟨yn,hyn,hyh⟩:=cds_code OKD.out.2.2 hml
        have YH:=Zh hyh
        have IT:=Zh (in_take (dl:=dl) (x:=(xn:Int)) hml)
        have IB:=in_le DB.out h50 (xn:Int) m
        have IB2:=in_le DB.out h50 (xn:Int) (m+1)
        rw[hyn]at u2 IT
        obtain⟨WB,hWB⟩:∃ W,wr.alloc (.cells #[.int .i64 (cg D m).ca,.int .i64 (cg D m).co,.int .i64 (yn:Nat)] 69)=W:=⟨_,rfl⟩
        have bB:Below wr.heap.size wr WB:=by rw[←hWB];exact bel_one _ _
        have BB:=Zh (hB.out.trans (bB.mono hB.out.size))
        have w0:WB.cell? ⟨wr.heap.size,2,none⟩=some (.int .i64 (yn:Nat)):=by rw[←hWB,World.cell?_alloc_new];rfl
        have w1:=(BB.out.cell (p:=⟨zz,2,none⟩) ZX4.out).trans VX4.out
        obtain⟨q,hq⟩:∃ q,sumL (dl xn) ((cdsD D).take m)=q:=⟨_,rfl⟩
        rw[hq]at IT IB ⊢
        by_cases hjm:j=m
        ·have e1:((j:Int) != (m:Int))=false:=by rw[bne,beq_iff_eq.2 (by omega)];rfl
         have e0:dl xn yn=0:=by
          have:(xn:Int)=(yn:Int):=by rw[←hyn,←hjm];exact (XE.out).symm
          rw[this,←DE.out];exact dlS_same l t _
         rw[e0]at IT
         have IT2:Hid (sumL (dl xn) ((cdsD D).take (m+1))=q):=by unfold Hid;rw[IT.out,Nat.add_zero]
         clear bB hB hq hyn hyh IT e0 hjm w0 w1
         go_wp2_with fail
         go_roundw
         case rel=>exact⟨m+1,by omega,by go_num,by rw[IT2.out],BB.out⟩
         case measure=>simp[intOf];omega
        ·have e1:((j:Int) != (m:Int))=true:=by rw[bne,beq_eq_false_iff_ne.2 (by omega)];rfl
         have HFA:=rfarS_c sa c l t xn yn WB (HLw.out.below (S4.out.bel.trans (BB.out.mono S4.out.bel.size))) HF.out XH.out YH.out
         rw[DE.out]at HFA
         obtain⟨d,hd⟩:∃ d,dl (xn:Int) (yn:Int)=d:=⟨_,rfl⟩
         rw[hd]at HFA IT
         have HFA:=Zh HFA
         have d9:d≤12800:=by rw[IT.out]at IB2;omega
         clear bB hB hq hyn hyh hd hjm IB2
         go_wp2_with fail
         (with_reducible refine HFA.out.mono ?_)
         rintro e W8 ⟨rfl,b8⟩
         have B8:=Zh (BB.out.trans (b8.mono BB.out.size))
         clear b8 HFA w0 w1 BB hWB
         go_wp2_with fail
         go_roundw
         case rel=>exact⟨m+1,by omega,by go_num,by rw[IT.out];go_num,B8.out⟩
         case measure=>simp[intOf];omega
       ·obtain rfl:m=D.length:=by omega
        have et:(cdsD D).take D.length=cdsD D:=by rw[←cds_len,List.take_length]
        have NX:Hid (InRa w W5 wr v' sb (X ++ (cdsD D).take (j+1)) N):=by unfold Hid;rw[NZ.out];exact S4.out.keep hB.out
        have PT2:Hid (S+sumL (dl xn) ((cdsD D).take D.length)=sumL (fun x=>sumL (dl x) (cdsD D)) ((cdsD D).take (j+1))):=by unfold Hid;rw[et,PT.out]
        rw[PT2.out]
        clear hB hml S4 VX4 ZX4 PT PT2 NZ et
        go_wp2_with fail
        go_roundw
        case rel=>exact⟨j+1,by omega,by go_num,rfl,NX.out⟩
        case measure=>simp[intOf];omega
     ·obtain rfl:j=D.length:=by omega
      have et:(cdsD D).take D.length=cdsD D:=by rw[←cds_len,List.take_length]
      have S1:=Zh hS.out
      rw[et]at S1 ⊢
      have SUM:Hid (sumL (fun x=>sumL (dl x) (cdsD D)) (cdsD D)=dfS dl (nC (cdsD D))):=prS_is (OKD.out.2.2.codes HF.out.ord) dl
      have SB9:=pr_le DB.out h50 D.length
      rw[et,SUM.out]at SB9
      rw[SUM.out]
      obtain⟨f,n,d,hsee⟩:=S1.out.see
      have SEE:=Zh hsee
      have SML:=Zh (hsee.small OBX.out)
      obtain⟨fb,fa,fk,fc,fa',fk',fc'⟩:=f
      obtain rfl:fb=false:=hsee.fb
      obtain⟨r,hr⟩:∃ r,D.length-1=r:=⟨_,rfl⟩
      have hr':(D.length:Int)-1=(r:Int):=by omega
      have hr0:0<r:=by omega
      have hwr:IntKind.i64.wrap (r:Int)=(r:Int):=by rw[IntKind.wrap_i64]<;>omega
      have UP:Hid (∀ {x:Nat},x<1000000000000000000→x<tp 40000):=fun h=>tp_up 40000 (tp_small h) (by decide)
      have NXV:Hid (∀ n' d':Nat,sg false n'*((d*r:Nat):Int)=(sg false (n*r)+sg false (dfS dl (nC (cdsD D))*d))*(d':Int)→(n':Int)*(LM:Int)=((N+dfS dl (nC (cdsD D))*wgt D.length:Nat):Int)*(d':Int)):=fun n' d' h=>by
       rw[←hr]at h
       exact see_next h2 h50 SEE.out.pos SEE.out.val rfl h
      have HPL0:Hid (∀ V (hb:Below wr.heap.size wr V) (q:Fa),Fn V q (dfS dl (nC (cdsD D))) r→q.b=false→Calls Tryz.prog 30 #[.agg #[.bool false,.slice fa fk fc,.slice fa' fk' fc'],.agg #[.bool q.b,.slice q.a q.k q.c,.slice q.a' q.k' q.c']] V (FvF V.heap.size false (sg false (n*r)+sg q.b (dfS dl (nC (cdsD D))*d)) (d*r) V)):=fun V hb q hq hqb=>
       plus_f ⟨false,fa,fk,fc,fa',fk',fc'⟩ q n d (dfS dl (nC (cdsD D))) r V ⟨SEE.out.nn.below hb,SEE.out.dd.below hb,SEE.out.pos,tp_up 40000 SML.out.1 (by decide),tp_up 40000 SML.out.2 (by decide)⟩ hq hqb.symm
      have OBX3f:Hid (∀ V (hb:Below wr.heap.size wr V),Q3 V sb (.bool false) (.slice fa fk fc) (.slice fa' fk' fc')):=fun V hb=>SEE.out.box.keep hb
      have OBX3:Hid (∀ V (hb:Below wr.heap.size wr V),V.cell? ⟨sb,0,none⟩=some (.bool false)∧V.cell? ⟨sb,1,none⟩=some (.slice fa fk fc)∧V.cell? ⟨sb,2,none⟩=some (.slice fa' fk' fc')):=fun V hb=>⟨(OBX3f.out V hb).c0,(OBX3f.out V hb).c1,(OBX3f.out V hb).c2⟩
      obtain⟨sum,hsum⟩:∃ s,dfS dl (nC (cdsD D))=s:=⟨_,rfl⟩
      rw[hsum]at SB9 NXV HPL0 FX ⊢
      have HPT:Hid (∀ V (hb:Below wr.heap.size wr V),Calls Tryz.prog 18 #[.int .i64 (sum:Nat),.int .i64 (r:Nat)] V (FqP false sum r V)):=fun V _=>xpart_c sum r V (by omega) (by omega)
      clear hS hsee et hr hsum SUM hjl
      go_wp2_with fail
      refine wp_region_noPanic ?_
      refine wp_region_held_drew (S:=fun _=>True) (by kernel_rfl) trivial (fun _=>?_)
      obtain⟨WD,hWD⟩:∃ W,wr.drew=W:=⟨_,rfl⟩
      have bD:Hid (Below wr.heap.size wr WD):=by unfold Hid;rw[←hWD];exact (Below.refl _ _).drew
      rw[hWD]
      clear hWD
      refine Zt (i:=1) (v:=?v1p) rfl (Or.inl ⟨by rfl,?hy1p⟩) ?rest1p
      case hy1p=>
       intro w _
       go_simp
       try with_reducible rfl
      simp only[Act.put,Zd,Ze,Zf,Za,Zb,Zc]
      refine Zt (i:=2) (v:=?v2p) rfl (Or.inl ⟨by rfl,?hy2p⟩) ?rest2p
      case hy2p=>
       intro w _
       go_simp
       try with_reducible rfl
      simp only[Act.put,Zd,Ze,Zf,Za,Zb,Zc]
      refine Zt (i:=3) (v:=?v3p) rfl (Or.inl ⟨by rfl,?hy3p⟩) ?rest3p
      case hy3p=>
       intro w _
       go_simp
       try with_reducible rfl
      simp only[Act.put,Zd,Ze,Zf,Za,Zb,Zc]
      refine Zt (i:=4) (v:=?v4p) rfl (Or.inl ⟨by rfl,?hy4p⟩) ?rest4p
      case hy4p=>
       intro w _
       go_simp
       try with_reducible rfl
      simp only[Act.put,Zd,Ze,Zf,Za,Zb,Zc]
      refine wpAnyH_ready (rs:=[0,5]) (by kernel_rfl) (by simp) ?_
      refine AllReadyH.cons rfl (fun K hK=>?_) (AllReadyH.cons rfl (fun K hK=>?_) AllReadyH.nil)
      ·skip
       obtain⟨o0,o1,o2⟩:=OBX3.out WD bD.out
       go_simp
       refine hK.out _ _ trivial (fun _=>?_)
       clear hK K o0 o1 o2
       try simp only[Act.put,Zd,Ze,Zf,Za,Zb,Zc]
       refine wpAnyH_ready (rs:=[5]) (by kernel_rfl) (by simp) ?_
       refine AllReadyH.cons rfl (fun K hK=>?_) AllReadyH.nil
       go_simp
       (with_reducible refine (HPT.out _ bD.out).mono ?_)
       rintro e V1 ⟨pa,pk,pc,pa',pk',pc',rfl,pm,pm',bb⟩
       try go_simp
       have bV:=Zh (bD.out.trans (bb.mono bD.out.size))
       have F1:=Zh (show Fn V1 ⟨false,pa,pk,pc,pa',pk',pc'⟩ sum r from ⟨pm,pm',hr0,UP.out (by omega),UP.out (by omega)⟩)
       clear bb pm pm'
       refine hK.out _ _ trivial (fun _=>?_)
       clear hK K
       try simp only[Act.put,Zd,Ze,Zf,Za,Zb,Zc]
       refine wpAnyH_ready (rs:=[6]) (by kernel_rfl) (by simp) ?_
       refine AllReadyH.cons rfl (fun K hK=>?_) AllReadyH.nil
       go_simp
       have HPL:=Zh (HPL0.out V1 bV.out _ F1.out rfl)
       (with_reducible refine HPL.out.mono ?_)
       rintro e V2 ⟨sg2,n',d',⟨ga,gk,gc,ga',gk',gc',rfl,gm,gm',bb,lc1,lc2⟩,hd',hv',lo',hsg⟩
       obtain rfl:sg2=false:=hsg rfl
       try go_simp
       have bW:=Zh (bV.out.trans (bb.mono bV.out.size))
       have NX:=Zh (S1.out.put (N':=N+sum*wgt D.length) (f:=⟨false,ga,gk,gc,ga',gk',gc'⟩) bW.out P5.out.1 P5.out.2.2.1 rfl gm gm' hd' (NXV.out n' d' hv') lo' (lc1.mono bV.out.size) (lc2.mono bV.out.size))
       have BXs:=OBX3f.out V2 bW.out
       obtain⟨o0,o1,o2,ofr,_⟩:=BXs
       have of0:=ofr 0
       have of1:=ofr 1
       have of2:=ofr 2
       clear bb gm gm' hd' hv' lo' lc1 lc2 HPL F1 hsg
       refine hK.out _ _ trivial (fun _=>?_)
       clear hK K
       try simp only[Act.put,Zd,Ze,Zf,Za,Zb,Zc]
       refine wpAnyH_ready (rs:=[7]) (by kernel_rfl) (by simp) ?_
       refine AllReadyH.cons rfl (fun K hK=>?_) AllReadyH.nil
       go_simp
       unfold trio at NX
       refine hK.out _ _ trivial (fun _=>?_)
       clear hK K o0 o1 o2 ofr of0 of1 of2
       try simp only[Act.put,Zd,Ze,Zf,Za,Zb,Zc]
       refine wpAnyH_done (by kernel_rfl) ?_ _
       refine NoPanic.normal ?_
       go_wp2_with fail
       go_roundw
       case rel=>exact⟨k+1,by omega,by go_num,by rw[FX.out.1,FX.out.2];exact NX.out⟩
       case measure=>simp[intOf];omega
      ·skip
       go_simp
       (with_reducible refine (HPT.out _ bD.out).mono ?_)
       rintro e V1 ⟨pa,pk,pc,pa',pk',pc',rfl,pm,pm',bb⟩
       try go_simp
       have bV:=Zh (bD.out.trans (bb.mono bD.out.size))
       have F1:=Zh (show Fn V1 ⟨false,pa,pk,pc,pa',pk',pc'⟩ sum r from ⟨pm,pm',hr0,UP.out (by omega),UP.out (by omega)⟩)
       clear bb pm pm'
       refine hK.out _ _ trivial (fun _=>?_)
       clear hK K
       try simp only[Act.put,Zd,Ze,Zf,Za,Zb,Zc]
       refine wpAnyH_ready (rs:=[0]) (by kernel_rfl) (by simp) ?_
       refine AllReadyH.cons rfl (fun K hK=>?_) AllReadyH.nil
       obtain⟨o0,o1,o2⟩:=OBX3.out V1 bV.out
       go_simp
       refine hK.out _ _ trivial (fun _=>?_)
       clear hK K o0 o1 o2
       try simp only[Act.put,Zd,Ze,Zf,Za,Zb,Zc]
       refine wpAnyH_ready (rs:=[6]) (by kernel_rfl) (by simp) ?_
       refine AllReadyH.cons rfl (fun K hK=>?_) AllReadyH.nil
       go_simp
       have HPL:=Zh (HPL0.out V1 bV.out _ F1.out rfl)
       (with_reducible refine HPL.out.mono ?_)
       rintro e V2 ⟨sg2,n',d',⟨ga,gk,gc,ga',gk',gc',rfl,gm,gm',bb,lc1,lc2⟩,hd',hv',lo',hsg⟩
       obtain rfl:sg2=false:=hsg rfl
       try go_simp
       have bW:=Zh (bV.out.trans (bb.mono bV.out.size))
       have NX:=Zh (S1.out.put (N':=N+sum*wgt D.length) (f:=⟨false,ga,gk,gc,ga',gk',gc'⟩) bW.out P5.out.1 P5.out.2.2.1 rfl gm gm' hd' (NXV.out n' d' hv') lo' (lc1.mono bV.out.size) (lc2.mono bV.out.size))
       have BXs:=OBX3f.out V2 bW.out
       obtain⟨o0,o1,o2,ofr,_⟩:=BXs
       have of0:=ofr 0
       have of1:=ofr 1
       have of2:=ofr 2
       clear bb gm gm' hd' hv' lo' lc1 lc2 HPL F1 hsg
       refine hK.out _ _ trivial (fun _=>?_)
       clear hK K
       try simp only[Act.put,Zd,Ze,Zf,Za,Zb,Zc]
       refine wpAnyH_ready (rs:=[7]) (by kernel_rfl) (by simp) ?_
       refine AllReadyH.cons rfl (fun K hK=>?_) AllReadyH.nil
       go_simp
       unfold trio at NX
       refine hK.out _ _ trivial (fun _=>?_)
       clear hK K o0 o1 o2 ofr of0 of1 of2
       try simp only[Act.put,Zd,Ze,Zf,Za,Zb,Zc]
       refine wpAnyH_done (by kernel_rfl) ?_ _
       refine NoPanic.normal ?_
       go_wp2_with fail
       go_roundw
       case rel=>exact⟨k+1,by omega,by go_num,by rw[FX.out.1,FX.out.2];exact NX.out⟩
       case measure=>simp[intOf];omega
   ·have h2':(D.length:Int)<2:=by omega
    rw[if_neg h2]at FN
    have NX:=Zh hS.out
    rw[←FN.out]at NX
    clear hS FN h2
    go_wp2_with fail
    go_roundw
    case rel=>exact⟨k+1,by omega,by go_num,NX.out⟩
    case measure=>simp[intOf];omega
  ·obtain rfl:k=R.length:=by omega
   have TL:R.take R.length=R:=List.take_length
   have S1:=Zh hS.out
   have ALX:=ALk.out R.length
   have OBX:=Zh (OBk.out R.length)
   rw[TL]at S1 ALX OBX
   have IL:=Zh (InLd_all HR.out)
   have EXB:Hid (dfS dl (nC (alC (flt R)))≤102400000000):=Nat.le_trans (dfS_le (IL.out.codes HF.out.ord) DB.out) (Nat.mul_le_mul ALX (Nat.mul_le_mul_right 256 ALX))
   have NON:Hid ((alC (flt R)).length=0↔(flt R).length=0):=alC_none HR.out
   have NEX:Hid (ndS l (exS l dl (alC (flt R))) l.length=dfS dl (nC (alC (flt R)))):=all_nodes HF.out.ord IL.out dl
   obtain⟨X,hX⟩:∃ X,alC (flt R)=X:=⟨_,rfl⟩
   obtain⟨N,hN⟩:∃ N,obS dl (flt R)=N:=⟨_,rfl⟩
   rw[hX]at S1 ALX IL EXB NON NEX KS
   rw[hN]at S1 OBX KS
   obtain⟨ex,hex⟩:∃ ex,dfS dl (nC X)=ex:=⟨_,rfl⟩
   rw[hex]at EXB NEX KS
   clear hX hN hex hS TL hkl HOK HCL ALk OBk
   obtain⟨va,vc,hv,hrX⟩:=rd_own (zs:=X) S1.out.own rfl (by omega)
   subst hv
   have RX:=Zh hrX
   have exb:=EXB.out
   clear hrX
   by_cases h0:X.length=0
   ·have KR:alS l t C=(⟨#[]⟩,⟨#[]⟩,9):=by rw[KS.out,if_pos (NON.out.1 h0)]
    have h0':(X.length:Int)=0:=by omega
    have J9:=Zh S1.out.res
    have B9:=Zh S1.out.bel
    clear KS NON h0 S1
    obtain⟨W9,hW9⟩:∃ W9,two wr w.heap.size (.string ⟨#[]⟩) (.string ⟨#[]⟩)=W9:=⟨_,rfl⟩
    have R9:B2 W9 w.heap.size (.string ⟨#[]⟩) (.string ⟨#[]⟩):=by rw[←hW9];exact J9.out.set _ _
    have PP:Hid (OpPost (alS l t C) w (.returned (.tuple #[.agg #[.string ⟨#[]⟩,.string ⟨#[]⟩],.int .i64 9])) W9):=by
     rw[←hW9,KR]
     exact⟨rfl,below_two B9.out (Nat.le_refl _) _ _⟩
    have q0:=J9.out.c0
    have q1:=J9.out.c1
    have g0:=J9.out.fr 0
    have g1:=J9.out.fr 1
    obtain⟨r0,r1,_,_⟩:=id R9
    unfold two at hW9
    clear R9
    go_wp2_with fail
    exact bodyPost_ret (v:=.tuple #[.agg #[.string ⟨#[]⟩,.string ⟨#[]⟩],.int .i64 9]) (by simp[results,Tryz.results10,go_sem,r0,r1]) rfl PP.out
   ·have KR:Hid (alS l t C=alR X.length ex N):=by unfold Hid;rw[KS.out,if_neg (fun h=>h0 (NON.out.2 h))]
    have h0':((X.length:Int) == 0)=false:=by rw[beq_eq_false_iff_ne];omega
    clear KS NON
    go_wp2_with fail
    obtain⟨wo,hwo⟩:∃ x:World,x=wr:=⟨wr,rfl⟩
    subst hwo
    go_loopw [18,92] (fun s i wr=>∃ a:Nat,a≤l.length∧i=.int .i64 a∧s=.int .i64 (ndS l (exS l dl X) a:Nat)∧Hid (Below wo.heap.size wo wr)) (fun _ i _=>l.length-(intOf i).toNat)
    case atStart=>exact⟨0,Nat.zero_le _,rfl,rfl,Below.refl _ _⟩
    case round=>
     obtain⟨a,ha,rfl,rfl,hB⟩:=hrel
     by_cases hal:a<l.length
     ·have hal':(a:Int)<(l.length:Int):=by omega
      have LE1:=ndS_mono l (exS l dl X) (i:=a) (j:=l.length) ha
      have LE2:=ndS_mono l (exS l dl X) (i:=a+1) (j:=l.length) (by omega)
      rw[NEX.out]at LE1 LE2
      have hrg:=HF.out.ord.rng a hal
      obtain⟨xn,hxn⟩:∃ xn:Nat,(nd l a).cd=xn:=⟨(nd l a).cd.toNat,by omega⟩
      have XH:Hid (Has l xn):=⟨a,hal,hxn⟩
      obtain⟨b',off,rfl,u0,u1,u2⟩:=(HLw.out.below (S1.out.bel.trans (hB.out.mono S1.out.bel.size))).at_ hal
      have NX1:ndS l (exS l dl X) (a+1)=ndS l (exS l dl X) a+exS l dl X xn:=by rw[←hxn];rfl
      rw[NX1]at LE2
      have NX1:=Zh NX1
      obtain⟨E,hE⟩:∃ E,ndS l (exS l dl X) a=E:=⟨_,rfl⟩
      rw[hE]at LE1 LE2 NX1 ⊢
      rw[hxn]at u0
      obtain⟨W6,hW6⟩:∃ W,wr.alloc (.cells #[.int .i64 (xn:Nat),.int .i64 (nd l a).pr,.string (nd l a).ti] 45)=W:=⟨_,rfl⟩
      have B6:Hid (Below wo.heap.size wo W6):=by unfold Hid;rw[←hW6];exact hB.out.trans ((bel_one _ _).mono hB.out.size)
      have vx:W6.cell? ⟨wr.heap.size,0,none⟩=some (.int .i64 (xn:Nat)):=by rw[←hW6,World.cell?_alloc_new];rfl
      have zx:Hid (wr.heap.size<W6.heap.size):=by unfold Hid;rw[←hW6];simp
      clear hB hE hrg
      go_wp2_with fail
      clear hxn u0 u1 u2 hW6
      obtain⟨zz,hzz⟩:∃ z,wr.heap.size=z:=⟨_,rfl⟩
      rw[hzz]at vx zx ⊢
      clear hzz
      have VX:=Zh vx
      clear vx
      go_loopw [18,98] (fun s i wr=>∃ b:Nat,b≤l.length∧i=.int .i64 b∧s=.int .i64 (E+ndS l (fun y=>nC X xn*nC X y*dl xn y) b:Nat)∧Hid (Below W6.heap.size W6 wr)) (fun _ i _=>l.length-(intOf i).toNat)
      case atStart=>exact⟨0,Nat.zero_le _,rfl,rfl,Below.refl _ _⟩
      case round=>
       obtain⟨b,hb,rfl,rfl,hB⟩:=hrel
       by_cases hbl:b<l.length
       ·have hbl':(b:Int)<(l.length:Int):=by omega
        have LE3:=ndS_mono l (fun y=>nC X xn*nC X y*dl xn y) (i:=b) (j:=l.length) hb
        have LE4:=ndS_mono l (fun y=>nC X xn*nC X y*dl xn y) (i:=b+1) (j:=l.length) (by omega)
        have LEX:exS l dl X xn=ndS l (fun y=>nC X xn*nC X y*dl xn y) l.length:=rfl
        rw[LEX]at LE2
        have hrg:=HF.out.ord.rng b hbl
        obtain⟨yn,hyn⟩:∃ yn:Nat,(nd l b).cd=yn:=⟨(nd l b).cd.toNat,by omega⟩
        have YH:Hid (Has l yn):=⟨b,hbl,hyn⟩
        have BT:Hid (Below wo.heap.size wo wr):=B6.out.trans (hB.out.mono B6.out.size)
        obtain⟨b2,off2,e2,w0,w1,w2⟩:=(HLw.out.below (S1.out.bel.trans (BT.out.mono S1.out.bel.size))).at_ hbl
        injection e2 with e2
        injection e2 with e2 e3
        subst e2
        subst e3
        have NX2:ndS l (fun y=>nC X xn*nC X y*dl xn y) (b+1)=ndS l (fun y=>nC X xn*nC X y*dl xn y) b+nC X xn*nC X yn*dl xn yn:=by rw[←hyn];rfl
        rw[NX2]at LE4
        have NX2:=Zh NX2
        obtain⟨G,hG⟩:∃ G,ndS l (fun y=>nC X xn*nC X y*dl xn y) b=G:=⟨_,rfl⟩
        rw[hG]at LE3 LE4 NX2 ⊢
        rw[hyn]at w0
        have LET:=LE2
        obtain⟨T,hT⟩:∃ T,ndS l (fun y=>nC X xn*nC X y*dl xn y) l.length=T:=⟨_,rfl⟩
        rw[hT]at LE2 LE3 LE4 LET
        obtain⟨W7,hW7⟩:∃ W,wr.alloc (.cells #[.int .i64 (yn:Nat),.int .i64 (nd l b).pr,.string (nd l b).ti] 45)=W:=⟨_,rfl⟩
        have b7:Below wr.heap.size wr W7:=by rw[←hW7];exact bel_one _ _
        have B7:Hid (Below wo.heap.size wo W7):=BT.out.trans (b7.mono BT.out.size)
        have vy:W7.cell? ⟨wr.heap.size,0,none⟩=some (.int .i64 (yn:Nat)):=by rw[←hW7,World.cell?_alloc_new];rfl
        have zy:Hid (wr.heap.size<W7.heap.size):=by unfold Hid;rw[←hW7];simp
        have vx7:=(b7.cell (p:=⟨zz,0,none⟩) (Nat.lt_of_lt_of_le zx.out hB.out.size)).trans ((hB.out.cell (p:=⟨zz,0,none⟩) zx.out).trans VX.out)
        have zx7:Hid (zz<W7.heap.size):=Nat.lt_of_lt_of_le zx.out (Nat.le_trans hB.out.size b7.size)
        have VX7:=Zh vx7
        have B67:=Zh (hB.out.trans (b7.mono hB.out.size))
        clear hB b7 hG hT hrg vx7 LET LEX BT
        go_wp2_with fail
        clear hyn w0 w1 w2 hW7
        obtain⟨zw,hzw⟩:∃ z,wr.heap.size=z:=⟨_,rfl⟩
        rw[hzw]at vy zy ⊢
        clear hzw
        have VY:=Zh vy
        clear vy
        go_loopw [23,24,104] (fun p q i wr=>∃ m:Nat,m≤X.length∧i=.int .i64 m∧p=.int .i64 (nC (X.take m) xn:Nat)∧q=.int .i64 (nC (X.take m) yn:Nat)∧Hid (Below W7.heap.size W7 wr)) (fun _ _ i _=>X.length-(intOf i).toNat)
        case atStart=>exact⟨0,Nat.zero_le _,rfl,by simp[nC],by simp[nC],Below.refl _ _⟩
        case round=>
         obtain⟨m,hm,rfl,rfl,rfl,hB⟩:=hrel
         have r0:=(hB.out.cell (p:=⟨zz,0,none⟩) zx7.out).trans VX7.out
         have r1:=(hB.out.cell (p:=⟨zw,0,none⟩) zy.out).trans VY.out
         by_cases hml:m<X.length
         ·have hml':(m:Int)<(X.length:Int):=by omega
          obtain⟨b4,off4,rfl,p0⟩:=(RX.out.below (B7.out.trans (hB.out.mono B7.out.size))).at_ hml
          have NA:=Zh (nC_take hml (xn:Int))
          have NB:=Zh (nC_take hml (yn:Int))
          have l1:=nC_le (X.take m) (xn:Int)
          have l2:=nC_le (X.take m) (yn:Int)
          rw[List.length_take]at l1 l2
          have BB:=Zh hB.out
          obtain⟨cc,hcc⟩:∃ cc,fn X m=cc:=⟨_,rfl⟩
          rw[hcc]at p0 NA NB
          obtain⟨n1,hn1⟩:∃ n,nC (X.take m) (xn:Int)=n:=⟨_,rfl⟩
          obtain⟨n2,hn2⟩:∃ n,nC (X.take m) (yn:Int)=n:=⟨_,rfl⟩
          rw[hn1]at NA l1 ⊢
          rw[hn2]at NB l2 ⊢
          clear hB hcc hn1 hn2
          cases ea:(cc == (xn:Int))<;>cases eb:(cc == (yn:Int))<;>rw[ea]at NA<;>rw[eb]at NB
          ·have NA2:Hid (nC (X.take (m+1)) (xn:Int)=n1):=NA.out
           have NB2:Hid (nC (X.take (m+1)) (yn:Int)=n2):=NB.out
           clear NA NB
           go_wp2_with fail
           go_roundw
           case rel=>exact⟨m+1,by omega,by go_num,by rw[NA2.out],by rw[NB2.out],BB.out⟩
           case measure=>simp[intOf];omega
          ·have NA2:Hid (nC (X.take (m+1)) (xn:Int)=n1):=NA.out
           have NB2:Hid (nC (X.take (m+1)) (yn:Int)=n2+1):=NB.out
           clear NA NB
           go_wp2_with fail
           go_roundw
           case rel=>exact⟨m+1,by omega,by go_num,by rw[NA2.out],by rw[NB2.out];go_num,BB.out⟩
           case measure=>simp[intOf];omega
          ·have NA2:Hid (nC (X.take (m+1)) (xn:Int)=n1+1):=NA.out
           have NB2:Hid (nC (X.take (m+1)) (yn:Int)=n2):=NB.out
           clear NA NB
           go_wp2_with fail
           go_roundw
           case rel=>exact⟨m+1,by omega,by go_num,by rw[NA2.out];go_num,by rw[NB2.out],BB.out⟩
           case measure=>simp[intOf];omega
          ·have NA2:Hid (nC (X.take (m+1)) (xn:Int)=n1+1):=NA.out
           have NB2:Hid (nC (X.take (m+1)) (yn:Int)=n2+1):=NB.out
           clear NA NB
           go_wp2_with fail
           go_roundw
           case rel=>exact⟨m+1,by omega,by go_num,by rw[NA2.out];go_num,by rw[NB2.out];go_num,BB.out⟩
           case measure=>simp[intOf];omega
         ·obtain rfl:m=X.length:=by omega
          rw[List.take_length]
          have HFA:=rfarS_c (some ⟨b',off,none⟩) c l t xn yn wr (HLw.out.below (S1.out.bel.trans ((B7.out.trans (hB.out.mono B7.out.size)).mono S1.out.bel.size))) HF.out XH.out YH.out
          rw[DE.out]at HFA
          have d9:=DB.out (xn:Int) (yn:Int)
          have l1:=nC_le X (xn:Int)
          have l2:=nC_le X (yn:Int)
          obtain⟨d,hd⟩:∃ d,dl (xn:Int) (yn:Int)=d:=⟨_,rfl⟩
          obtain⟨n1,hn1⟩:∃ n,nC X (xn:Int)=n:=⟨_,rfl⟩
          obtain⟨n2,hn2⟩:∃ n,nC X (yn:Int)=n:=⟨_,rfl⟩
          have NX3:Hid (ndS l (fun y=>nC X xn*nC X y*dl xn y) (b+1)=G+n1*n2*d):=by unfold Hid;rw[NX2.out,hn1,hn2,hd]
          rw[hd]at HFA LE4 d9
          rw[hn1]at LE4 l1
          rw[hn2]at LE4 l2
          rw[hn1,hn2]
          have BB:=Zh (B67.out.trans (hB.out.mono B67.out.size))
          have HFA:=Zh HFA
          obtain⟨p1,hp1⟩:∃ p,n1*n2=p:=⟨_,rfl⟩
          obtain⟨p2,hp2⟩:∃ p,p1*d=p:=⟨_,rfl⟩
          have hm1:(n1:Int)*(n2:Int)=(p1:Int):=by rw[←hp1];simp
          have hm2:(p1:Int)*(d:Int)=(p2:Int):=by rw[←hp2];simp
          have q1:p1≤20000*20000:=by rw[←hp1];exact Nat.mul_le_mul (by omega) (by omega)
          rw[hp1,hp2]at LE4 NX3
          have q2:E+G+p2≤102400000000:=by omega
          clear hB hd hn1 hn2 hp1 hp2 NX2 LE4 hml
          go_wp2_with fail
          (with_reducible refine HFA.out.mono ?_)
          rintro e W8 ⟨rfl,b8⟩
          have B8:=Zh (BB.out.trans (b8.mono BB.out.size))
          clear b8 HFA BB r0 r1
          go_wp2_with fail
          go_roundw
          case rel=>exact⟨b+1,by omega,by go_num,by rw[NX3.out];go_num,B8.out⟩
          case measure=>simp[intOf];omega
       ·obtain rfl:b=l.length:=by omega
        have LEX:exS l dl X xn=ndS l (fun y=>nC X xn*nC X y*dl xn y) l.length:=rfl
        have NX3:Hid (E+ndS l (fun y=>nC X xn*nC X y*dl xn y) l.length=ndS l (exS l dl X) (a+1)):=by unfold Hid;rw[NX1.out,LEX]
        rw[NX3.out]
        have BB:=Zh (B6.out.trans (hB.out.mono B6.out.size))
        clear hB hbl NX3 NX1
        go_wp2_with fail
        go_roundw
        case rel=>exact⟨a+1,by omega,by go_num,rfl,BB.out⟩
        case measure=>simp[intOf];omega
     ·obtain rfl:a=l.length:=by omega
      rw[NEX.out]
      have S2:=Zh (S1.out.keep hB.out)
      clear hB hal S1 RX
      obtain⟨f,n,d,hsee⟩:=S2.out.see
      have SEE:=Zh hsee
      have SML:=Zh (hsee.small OBX.out)
      obtain⟨fb,fa,fk,fc,fa',fk',fc'⟩:=f
      obtain rfl:fb=false:=hsee.fb
      clear hsee
      by_cases hz0:ex=0
      ·subst hz0
       have HW:Hid (Calls Tryz.prog 16 #[.int .i64 1] wr (FqP false 1 1 wr)):=whole_pos 1 wr (by decide)
       go_wp2_with fail
       (with_reducible refine HW.out.mono ?_)
       rintro e V1 ⟨pa,pk,pc,pa',pk',pc',rfl,pm,pm',bb⟩
       have HRT:=ratio_c false pa pa' pc pc' pk pk' 1 1 V1 pm pm' (by decide) (tp_up 90000 (tp_small (by decide)) (by decide)) (tp_up 90000 (tp_small (by decide)) (by decide)) (PWw.out.below (S2.out.bel.trans (bb.mono S2.out.bel.size)))
       have KF:Hid (alS l t C=raR (zv false 1) 1):=by unfold Hid;rw[KR.out];unfold alR;rw[if_pos rfl];rfl
       obtain⟨r,hr⟩:∃ r,raR (zv false 1) ((1:Nat):Int)=r:=⟨_,rfl⟩
       have e11:raR (zv false 1) 1=r:=hr
       rw[e11]at KF
       rw[hr]at HRT
       have HRT:=Zh HRT
       have R1:=Zh (S2.out.res.keep bb)
       have BV1:=Zh (S2.out.bel.trans (bb.mono S2.out.bel.size))
       clear bb pm pm' HW hr e11
       go_wp2_with fail
       (with_reducible refine HRT.out.mono ?_)
       rintro e V2 ⟨rfl,bb⟩
       have J9:=Zh (R1.out.keep bb)
       have B9:=Zh (BV1.out.trans (bb.mono BV1.out.size))
       clear bb HRT R1 BV1
       obtain⟨W9,hW9⟩:∃ W9,two V2 w.heap.size (.string r.1) (.string r.2.1)=W9:=⟨_,rfl⟩
       have R9:B2 W9 w.heap.size (.string r.1) (.string r.2.1):=by rw[←hW9];exact J9.out.set _ _
       have PP:Hid (OpPost (alS l t C) w (.returned (.tuple #[.agg #[.string r.1,.string r.2.1],.int .i64 r.2.2])) W9):=by
        rw[←hW9,KF.out]
        exact⟨rfl,below_two B9.out (Nat.le_refl _) _ _⟩
       have q0:=J9.out.c0
       have q1:=J9.out.c1
       have g0:=J9.out.fr 0
       have g1:=J9.out.fr 1
       obtain⟨r0,r1,_,_⟩:=id R9
       unfold two at hW9
       clear R9
       go_wp2_with fail
       exact bodyPost_ret (v:=.tuple #[.agg #[.string r.1,.string r.2.1],.int .i64 r.2.2]) (by simp[results,Tryz.results10,go_sem,r0,r1]) rfl PP.out
      ·have h16:((ex:Int) == 0)=false:=by rw[beq_eq_false_iff_ne];omega
       obtain⟨r1,hr1⟩:∃ r,X.length-1=r:=⟨_,rfl⟩
       have hr':(X.length:Int)-1=(r1:Int):=by omega
       have hwr:IntKind.i64.wrap (r1:Int)=(r1:Int):=by rw[IntKind.wrap_i64]<;>omega
       have UP:Hid (∀ {x:Nat},x<1000000000000000000→x<tp 40000):=fun h=>tp_up 40000 (tp_small h) (by decide)
       have SK:Hid (∀ V (hb:Below wr.heap.size wr V),S3k sb (.bool false) (.slice fa fk fc) (.slice fa' fk' fc') V):=fun V hb=>s3k_of (SEE.out.box.keep hb)
       have FS:Hid (∀ V (hb:Below wr.heap.size wr V),Fn V ⟨false,fa,fk,fc,fa',fk',fc'⟩ n d):=fun V hb=>⟨SEE.out.nn.below hb,SEE.out.dd.below hb,SEE.out.pos,tp_up 40000 SML.out.1 (by decide),tp_up 40000 SML.out.2 (by decide)⟩
       have hall:1≤X.length:=by omega
       have hex0:0<ex:=by omega
       have NES:Hid (w.heap.size≠sb):=by have:=P5.out.1;unfold Hid;omega
       obtain⟨s0,s1,s2⟩:=SK.out wr (Below.refl _ _)
       go_wp2_with fail
       refine wp_region_noPanic ?_
       refine wp_region_held_drew (S:=S3k sb (.bool false) (.slice fa fk fc) (.slice fa' fk' fc')) (by kernel_rfl) (SK.out _ (Below.refl _ _).drew) (fun hS=>?_)
       obtain⟨WD,hWD⟩:∃ W,wr.drew=W:=⟨_,rfl⟩
       have bD:Hid (Below wr.heap.size wr WD):=by unfold Hid;rw[←hWD];exact (Below.refl _ _).drew
       rw[hWD]at hS ⊢
       clear hWD s0 s1 s2
       refine Zt (i:=1) (v:=?v1q) rfl (Or.inl ⟨by rfl,?hy1q⟩) ?rest1q
       case hy1q=>
        intro w hSw
        dsimp only[S3k]at hSw
        go_simp
        try with_reducible rfl
       simp only[Act.put,Zd,Ze,Zf,Za,Zb,Zc]
       refine Zt (i:=2) (v:=?v2q) rfl (Or.inl ⟨by rfl,?hy2q⟩) ?rest2q
       case hy2q=>
        intro w hSw
        dsimp only[S3k]at hSw
        go_simp
        try with_reducible rfl
       simp only[Act.put,Zd,Ze,Zf,Za,Zb,Zc]
       refine Zt (i:=3) (v:=?v3q) rfl (Or.inl ⟨by rfl,?hy3q⟩) ?rest3q
       case hy3q=>
        intro w hSw
        dsimp only[S3k]at hSw
        go_simp
        try with_reducible rfl
       simp only[Act.put,Zd,Ze,Zf,Za,Zb,Zc]
       refine Zt (i:=4) (v:=?v4q) rfl (Or.inl ⟨by rfl,?hy4q⟩) ?rest4q
       case hy4q=>
        intro w hSw
        dsimp only[S3k]at hSw
        go_simp
        try with_reducible rfl
       simp only[Act.put,Zd,Ze,Zf,Za,Zb,Zc]
       refine Zt (i:=5) (v:=?v5q) rfl (Or.inl ⟨by rfl,?hy5q⟩) ?rest5q
       case hy5q=>
        intro w hSw
        dsimp only[S3k]at hSw
        go_simp
        try with_reducible rfl
       simp only[Act.put,Zd,Ze,Zf,Za,Zb,Zc]
       have HW:Hid (Calls Tryz.prog 16 #[.int .i64 1] WD (FqP false 1 1 WD)):=whole_pos 1 WD (by decide)
       refine wpAnyH_ready (rs:=[0]) (by kernel_rfl) (by simp) ?_
       refine AllReadyH.cons rfl (fun K hK=>?_) AllReadyH.nil
       go_simp
       (with_reducible refine HW.out.mono ?_)
       rintro e V1 ⟨oa,ok,oc,oa',ok',oc',rfl,om,om',bb⟩
       try go_simp
       have b1:=Zh (bD.out.trans (bb.mono bD.out.size))
       have F1:=Zh (fun W (h:Below V1.heap.size V1 W)=>(show Fn W ⟨false,oa,ok,oc,oa',ok',oc'⟩ 1 1 from ⟨om.below h,om'.below h,by decide,UP.out (by decide),UP.out (by decide)⟩))
       clear om om' HW
       have hT:=SK.out _ b1.out
       refine hK.out _ _ hT (fun _=>?_)
       clear hK K hS bb
       have hS:=hT
       clear hT
       try simp only[Act.put,Zd,Ze,Zf,Za,Zb,Zc]
       have HPT:=Zh (xpart_c r1 ex V1 (by omega) (by omega))
       refine wpAnyH_ready (rs:=[6]) (by kernel_rfl) (by simp) ?_
       refine AllReadyH.cons rfl (fun K hK=>?_) AllReadyH.nil
       go_simp
       (with_reducible refine HPT.out.mono ?_)
       rintro e V2 ⟨pa,pk,pc,pa',pk',pc',rfl,pm,pm',bb⟩
       try go_simp
       have b2:=Zh (b1.out.trans (bb.mono b1.out.size))
       have F2:=Zh (show Fn V2 ⟨false,pa,pk,pc,pa',pk',pc'⟩ r1 ex from ⟨pm,pm',hex0,UP.out (by omega),UP.out (by omega)⟩)
       have b12:=Zh bb
       clear pm pm' HPT
       have hT:=SK.out _ b2.out
       refine hK.out _ _ hT (fun _=>?_)
       clear hK K hS bb
       have hS:=hT
       clear hT
       try simp only[Act.put,Zd,Ze,Zf,Za,Zb,Zc]
       have HTM:=times_c ⟨false,fa,fk,fc,fa',fk',fc'⟩ ⟨false,pa,pk,pc,pa',pk',pc'⟩ n d r1 ex V2 (FS.out V2 b2.out) F2.out
       dsimp only at HTM
       have HTM:=Zh HTM
       refine wpAnyH_ready (rs:=[7]) (by kernel_rfl) (by simp) ?_
       refine AllReadyH.cons rfl (fun K hK=>?_) AllReadyH.nil
       go_simp
       (with_reducible refine HTM.out.mono ?_)
       rintro e V3 ⟨g2,x2,y2,⟨ga,gk,gc,ga',gk',gc',rfl,gm,gm',bb⟩,hd2,e2,o2⟩
       try go_simp
       have b3:=Zh (b2.out.trans (bb.mono b2.out.size))
       have T2:=Zh (fv_tp (k:=24) (by decide) (Nat.mul_pos SEE.out.pos hex0) (by rw[xsg_abs];exact xtp_mul_lt (i:=12) (j:=12) SML.out.1 (tp_small (by omega))) (xtp_mul_lt (i:=12) (j:=12) SML.out.2 (tp_small (by omega))) e2 o2)
       have F3:=Zh (show Fn V3 ⟨g2,ga,gk,gc,ga',gk',gc'⟩ x2 y2 from ⟨gm,gm',hd2,tp_up 40000 T2.out.1 (by decide),tp_up 40000 T2.out.2 (by decide)⟩)
       have E2:=Zh e2
       have D2:=Zh hd2
       have b13:=Zh (b12.out.trans (bb.mono b12.out.size))
       clear gm gm' hd2 e2 o2 HTM F2
       have hT:=SK.out _ b3.out
       refine hK.out _ _ hT (fun _=>?_)
       clear hK K hS bb
       have hS:=hT
       clear hT
       try simp only[Act.put,Zd,Ze,Zf,Za,Zb,Zc]
       have HMI:=minus_c ⟨false,oa,ok,oc,oa',ok',oc'⟩ ⟨g2,ga,gk,gc,ga',gk',gc'⟩ 1 1 x2 y2 V3 (F1.out V3 b13.out) F3.out
       dsimp only at HMI
       have HMI:=Zh HMI
       refine wpAnyH_ready (rs:=[8]) (by kernel_rfl) (by simp) ?_
       refine AllReadyH.cons rfl (fun K hK=>?_) AllReadyH.nil
       go_simp
       (with_reducible refine HMI.out.mono ?_)
       rintro e V4 ⟨g3,x3,y3,⟨ha,hk,hc,ha',hk',hc',rfl,hm,hm',bb⟩,hd3,e3,o3⟩
       try go_simp
       have b4:=Zh (b3.out.trans (bb.mono b3.out.size))
       have T3:=Zh (fv_tp (k:=25) (by decide) (by have:=D2.out;omega) (sub_small T2.out.1 T2.out.2) (by rw[Nat.one_mul];exact tp_up 25 T2.out.2 (by decide)) e3 o3)
       have E3:=Zh e3
       have D3:=Zh hd3
       have M1:=Zh hm
       have M2:=Zh hm'
       clear hm hm' hd3 e3 o3 HMI F3 F1
       have hT:=SK.out _ b4.out
       refine hK.out _ _ hT (fun _=>?_)
       clear hK K hS bb
       have hS:=hT
       clear hT
       try simp only[Act.put,Zd,Ze,Zf,Za,Zb,Zc]
       have KV:raR (zv g3 x3) y3=alR X.length ex N:=by
        have h2:=E2.out
        rw[←hr1]at h2
        exact al_val hex0 SEE.out.pos D2.out D3.out hall SEE.out.val h2 E3.out
       have KF:Hid (alS l t C=raR (zv g3 x3) y3):=by unfold Hid;rw[KR.out,KV]
       have HRT:=ratio_c g3 ha ha' hc hc' hk hk' x3 y3 V4 M1.out M2.out D3.out (tp_up 90000 T3.out.1 (by decide)) (tp_up 90000 T3.out.2 (by decide)) (PWw.out.below (S2.out.bel.trans (b4.out.mono S2.out.bel.size)))
       obtain⟨r,hr⟩:∃ r,raR (zv g3 x3) y3=r:=⟨_,rfl⟩
       rw[hr]at HRT KF
       have HRT:=Zh HRT
       clear hr KV E2 E3 D2 D3 T2 T3 M1 M2
       refine wpAnyH_ready (rs:=[9]) (by kernel_rfl) (by simp) ?_
       refine AllReadyH.cons rfl (fun K hK=>?_) AllReadyH.nil
       go_simp
       (with_reducible refine HRT.out.mono ?_)
       rintro e V5 ⟨rfl,bb⟩
       try go_simp
       have b5:=Zh (b4.out.trans (bb.mono b4.out.size))
       have J5:=Zh (S2.out.res.keep b5.out)
       have B5:=Zh (S2.out.bel.trans (b5.out.mono S2.out.bel.size))
       have X5:=Zh (SEE.out.box.keep b5.out)
       have hT:=SK.out _ b5.out
       refine hK.out _ _ hT (fun _=>?_)
       clear hK K hS bb
       have hS:=hT
       clear hT
       try simp only[Act.put,Zd,Ze,Zf,Za,Zb,Zc]
       refine Zt (i:=10) (v:=?v10q) rfl (Or.inl ⟨by rfl,?hy10q⟩) ?rest10q
       case hy10q=>
        intro w hSw
        dsimp only[S3k]at hSw
        go_simp
        try with_reducible rfl
       simp only[Act.put,Zd,Ze,Zf,Za,Zb,Zc]
       refine Zt (i:=11) (v:=?v11q) rfl (Or.inl ⟨by rfl,?hy11q⟩) ?rest11q
       case hy11q=>
        intro w hSw
        dsimp only[S3k]at hSw
        go_simp
        try with_reducible rfl
       simp only[Act.put,Zd,Ze,Zf,Za,Zb,Zc]
       refine wpAnyH_ready (rs:=[12]) (by kernel_rfl) (by simp) ?_
       refine AllReadyH.cons rfl (fun K hK=>?_) AllReadyH.nil
       have q0:=J5.out.c0
       have q1:=J5.out.c1
       have g0:=J5.out.fr 0
       have g1:=J5.out.fr 1
       go_simp
       clear q0 q1 g0 g1
       have R9:B2 (two V5 w.heap.size (.string r.1) (.string r.2.1)) w.heap.size (.string r.1) (.string r.2.1):=J5.out.set _ _
       have PP:Hid (OpPost (alS l t C) w (.returned (.tuple #[.agg #[.string r.1,.string r.2.1],.int .i64 r.2.2])) (two V5 w.heap.size (.string r.1) (.string r.2.1))):=by
        rw[KF.out]
        exact⟨rfl,below_two B5.out (Nat.le_refl _) _ _⟩
       have hT:S3k sb (.bool false) (.slice fa fk fc) (.slice fa' fk' fc') (two V5 w.heap.size (.string r.1) (.string r.2.1)):=⟨(two_cell NES.out _ _ 0).trans X5.out.c0,(two_cell NES.out _ _ 1).trans X5.out.c1,(two_cell NES.out _ _ 2).trans X5.out.c2⟩
       obtain⟨r0,rr1,_,_⟩:=id R9
       clear R9 J5 B5 X5 NES
       unfold two at hT r0 rr1 PP
       refine hK.out _ _ hT (fun _=>?_)
       clear hK K hS
       have hS:=hT
       clear hT
       try simp only[Act.put,Zd,Ze,Zf,Za,Zb,Zc]
       refine Zt (i:=13) (v:=?v13q) rfl (Or.inl ⟨by rfl,?hy13q⟩) ?rest13q
       case hy13q=>
        intro w hSw
        dsimp only[S3k]at hSw
        go_simp
        try with_reducible rfl
       simp only[Act.put,Zd,Ze,Zf,Za,Zb,Zc]
       refine wpAnyH_done (by kernel_rfl) ?_ _
       refine NoPanic.normal ?_
       clear hS
       generalize (V5.setCell ⟨w.heap.size,0,none⟩ (.string r.1)).setCell ⟨w.heap.size,1,none⟩ (.string r.2.1)=WB at *
       go_wp2_with fail
       exact bodyPost_ret (v:=.tuple #[.agg #[.string r.1,.string r.2.1],.int .i64 r.2.2]) (by simp[results,Tryz.results10,go_sem,r0,rr1]) rfl PP.out
set_option maxHeartbeats 4000000 in
theorem law_agreement(sa:Option Addr) (c:Nat) (l:List Nd) (a2:Option Addr) (c2:Nat) (C:List Cg) (a b:Int) (t:Bool) (w:World) (hl:RdN w sa l) (hf:Fits l) (hC:RdC w a2 C) (hcap:C.length≤c2) (hE:Pow w) :
  Calls Tryz.prog 3 #[.slice sa l.length c,.slice a2 C.length c2,.int .i64 a,.int .i64 b,.bool t] w fun e w'=>e=.returned (.bool true)∧Below w.heap.size w w':=by
 have K1:=Zh (Confusions_c sa c l a2 c2 C a b w hl hf hC hcap)
 have K2:=Zh (fun W (hb:Below w.heap.size w W)=>rConfusions_c sa c l a2 c2 C a b W (hl.below hb) hf (hC.below hb))
 have K3:=Zh (fun W (hb:Below w.heap.size w W)=>Kappa_c sa c l a2 c2 C a b W (hl.below hb) hf (hC.below hb) hcap)
 have K4:=Zh (fun W (hb:Below w.heap.size w W)=>rKappa_c sa c l a2 c2 C a b W (hl.below hb) hf (hC.below hb) (hE.below hb))
 have K5:=Zh (fun W (hb:Below w.heap.size w W)=>Alpha_c sa c l a2 c2 C t W (hl.below hb) hf (hC.below hb) hcap)
 have K6:=Zh (fun W (hb:Below w.heap.size w W)=>rAlpha_c sa c l a2 c2 C t W (hl.below hb) hf (hC.below hb) (hE.below hb))
 have h9:=hC.1
 have h8:=hl.1
 obtain⟨r,hr⟩:∃ r,kapS l C a b=r:=⟨_,rfl⟩
 obtain⟨q,hq⟩:∃ q,alS l t C=q:=⟨_,rfl⟩
 rw[hr]at K3 K4
 rw[hq]at K5 K6
 clear hl hf hC hr hq hE hcap
 go_enter Tryz.func3,Tryz.ntmps3
 go_wp2_with fail
 (with_reducible refine K1.out.mono ?_)
 intro e W1 he
 obtain⟨x,xc,rfl,x1,b1⟩:=cf_read he
 have B1:=Zh b1
 have X1:=Zh x1
 have K2:=Zh (K2.out W1 b1)
 clear he b1 x1 K1
 go_wp2_with fail
 (with_reducible refine K2.out.mono ?_)
 intro e W2 he
 obtain⟨y,yc,rfl,y2,b2⟩:=cf_read he
 have BW2:=Zh (B1.out.trans (b2.mono B1.out.size))
 have x2:=X1.out.below b2
 obtain⟨f,hf⟩:∃ f,coS l C a b=f:=⟨_,rfl⟩
 obtain⟨Z,hZ⟩:∃ Z,zzC l C a b=Z:=⟨_,rfl⟩
 rw[hZ]at x2 y2 ⊢
 rw[hf]
 have EQ:=Zh (eqCf_c x y xc yc Z W2 x2 y2)
 have h7:=x2.1
 clear he b2 x2 y2 hf hZ K2 B1 X1
 go_wp2_with fail
 (with_reducible refine EQ.out.mono ?_)
 rintro e W3 ⟨rfl,b3⟩
 have BW3:=Zh (BW2.out.trans (b3.mono BW2.out.size))
 have K3:=Zh (K3.out W3 BW3.out)
 clear b3 EQ BW2
 go_wp2_with fail
 (with_reducible refine K3.out.mono ?_)
 rintro e W4 ⟨rfl,b4⟩
 have BW4:=Zh (BW3.out.trans (b4.mono BW3.out.size))
 clear b4 K3 BW3
 obtain⟨W5,hW5⟩:∃ W5,W4.alloc (.cells #[.string r.1,.string r.2.1] 32)=W5:=⟨_,rfl⟩
 have b5:Below W4.heap.size W4 W5:=by rw[←hW5];exact bel_one _ _
 have J5:Hid (B2 W5 W4.heap.size (.string r.1) (.string r.2.1)):=by rw[←hW5];exact B2.made _ _ _ _
 have BW5:=Zh (BW4.out.trans (b5.mono BW4.out.size))
 have n4:=BW4.out.size
 have K4:=Zh (K4.out W5 BW5.out)
 have n5:W5.heap.size=W4.heap.size+1:=by rw[←hW5];exact Array.size_push _
 clear b5
 go_wp2_with fail
 (with_reducible refine K4.out.mono ?_)
 rintro e W6 ⟨rfl,b6⟩
 have J6:=Zh (J5.out.keep b6)
 have BW6:=Zh (BW5.out.trans (b6.mono BW5.out.size))
 have n6:=b6.size
 have NE1:W4.heap.size≠W6.heap.size:=by omega
 have NE2:W6.heap.size≠W4.heap.size:=by omega
 have n7:=BW6.out.size
 have NE1:=Zh NE1
 have NE2:=Zh NE2
 clear b6 K4 J5 BW5 hW5 n5 n6
 obtain⟨W7,hW7⟩:∃ W7,W6.alloc (.cells #[.string r.1,.string r.2.1] 32)=W7:=⟨_,rfl⟩
 have b7:Below W6.heap.size W6 W7:=by rw[←hW7];exact bel_one _ _
 have J7:=Zh (J6.out.keep b7)
 have I7:Hid (B2 W7 W6.heap.size (.string r.1) (.string r.2.1)):=by rw[←hW7];exact B2.made _ _ _ _
 have BW7:=Zh (BW6.out.trans (b7.mono BW6.out.size))
 have x0:=J7.out.c0
 have x1:=J7.out.c1
 have y0:=I7.out.c0
 have y1:=I7.out.c1
 clear b7 J6
 have K5:=Zh (K5.out W7 BW7.out)
 go_wp2_with fail
 (with_reducible refine K5.out.mono ?_)
 rintro e W8 ⟨rfl,b8⟩
 have J8:=Zh (J7.out.keep b8)
 have I8:=Zh (I7.out.keep b8)
 have BW8:=Zh (BW7.out.trans (b8.mono BW7.out.size))
 clear b8 K5 J7 I7 BW7 hW7 x0 x1 y0 y1
 obtain⟨W9,hW9⟩:∃ W9,two W8 W4.heap.size (.string q.1) (.string q.2.1)=W9:=⟨_,rfl⟩
 have J9:Hid (B2 W9 W4.heap.size (.string q.1) (.string q.2.1)):=by rw[←hW9];exact J8.out.set _ _
 have I9:Hid (B2 W9 W6.heap.size (.string r.1) (.string r.2.1)):=by rw[←hW9];exact I8.out.other NE1.out _ _
 have BW9:Hid (Below w.heap.size w W9):=by rw[←hW9];exact below_two BW8.out n4 _ _
 have K6:=Zh (K6.out W9 BW9.out)
 have q0:=J8.out.c0
 have q1:=J8.out.c1
 have g0:=J8.out.fr 0
 have g1:=J8.out.fr 1
 unfold two at hW9
 go_wp2_with fail
 (with_reducible refine K6.out.mono ?_)
 rintro e W10 ⟨rfl,b10⟩
 have J10:=Zh (J9.out.keep b10)
 have I10:=Zh (I9.out.keep b10)
 have BW10:=Zh (BW9.out.trans (b10.mono BW9.out.size))
 clear b10 K6 J9 I9 BW9 hW9 q0 q1 g0 g1 J8 I8 BW8
 obtain⟨W11,hW11⟩:∃ W11,two W10 W6.heap.size (.string q.1) (.string q.2.1)=W11:=⟨_,rfl⟩
 have J11:Hid (B2 W11 W4.heap.size (.string q.1) (.string q.2.1)):=by rw[←hW11];exact J10.out.other NE2.out _ _
 have I11:Hid (B2 W11 W6.heap.size (.string q.1) (.string q.2.1)):=by rw[←hW11];exact I10.out.set _ _
 have BW11:Hid (Below w.heap.size w W11):=by rw[←hW11];exact below_two BW10.out n7 _ _
 have q0:=I10.out.c0
 have q1:=I10.out.c1
 have g0:=I10.out.fr 0
 have g1:=I10.out.fr 1
 have x0:=J11.out.c0
 have x1:=J11.out.c1
 have y0:=I11.out.c0
 have y1:=I11.out.c1
 unfold two at hW11
 go_wp2_with fail
 go_ret
 exact⟨rfl,BW11.out⟩
open Go.ChangeShapes Go.WideShapes Go.ChangeAt Go.Joins
theorem laidOut:laidOutB Tryz.prog=true:=by kernel_rfl
theorem own:ownKnob Tryz.prog.godebug=none:=by kernel_rfl
theorem block_lt{W:World}{b o:Nat}{v:Value}(h:W.cell? ⟨b,o,none⟩=some v):b<W.heap.size:=by
 rcases Nat.lt_or_ge b W.heap.size with l|l
 ·exact l
 ·simp[World.cell?,Array.getElem?_eq_none l]at h
theorem add_none(b off i:Nat):(Addr.mk b off none).add i=⟨b,off+i,none⟩:=by
 unfold Addr.add
 split
 ·rename_i h;subst h;simp
 ·rfl
theorem cellsI:Tryz.prog.cellsOf 3=1:=by kernel_rfl
theorem cellsTx:Tryz.prog.cellsOf 9=1:=by kernel_rfl
theorem cellsNd:Tryz.prog.cellsOf 45=3:=by kernel_rfl
theorem cellsCg:Tryz.prog.cellsOf 69=3:=by kernel_rfl
theorem wf_in{n:Int}(h:(Lit.int .i64 n).wf=true):in64 n:=by
 unfold in64
 simp[Lit.wf,IntKind.min,IntKind.max,IntKind.signed,IntKind.bits]at h
 omega
section
variable {H:Type} {enc:TypeId×Value→H} {W:World}
theorem bulk_all_cons{d:DataW H}{r:List (DataW H)}:Rows.uptoBulkAll (d::r)=Rows.uptoBulk d+Rows.uptoBulkAll r:=by simp only[Rows.uptoBulkAll]
theorem open_row{α:Type} {tS tE:TypeId} {m:Nat} (hS:Tryz.prog.underlying tS=some (.slice tE)) (hm:Tryz.prog.cellsOf tE=m) (h0:0<m) (El:α→List Value→Prop) (size:α→Nat)
  (hEl:∀ fuel cs y,DataW.trod enc Tryz.prog W 0 (fun _=>true) true fuel tE cs=some y→∃ c,El c cs∧size c≤Rows.uptoBulk y.1)
  {fuel:Nat} {cs:List Value} {x:DataW H×List MemPlace} (h:DataW.trod enc Tryz.prog W 0 (fun _=>true) true fuel tS cs=some x) :
  ∃ (l:List α) (a:Option Addr) (cap:Nat),cs=[.slice a l.length cap]∧(l=[]∨∃ b off,a=some ⟨b,off,none⟩∧b<W.heap.size∧(l.length≤cap∧cap≤9223372036854775807) ∧
   ∀ (j:Nat) (c:α),l[j]?=some c→∃ cs',El c cs'∧∀ i,i<m→W.cell? ⟨b,off+j*m+i,none⟩=cs'[i]?)∧(l.map size).sum+1≤Rows.uptoBulk x.1∧l.length+1≤Rows.uptoBulk x.1:=by
 have pos:∀ d:DataW H,1≤Rows.uptoBulk d:=fun d=>by
  cases d with
  | lit v=>cases v<;>simp only[Rows.uptoBulk]<;>omega
  | _=>simp only[Rows.uptoBulk];omega
 rcases DataW.trod_slice hS h with ⟨e7,e8⟩|⟨a,len,cap,elems,rest,n,hn,e7,e8,_,hlc,hcm,hel,hat,_,_⟩
 ·exact⟨[],none,0,e7,.inl rfl,by rw[e8];simp[Rows.uptoBulk],by rw[e8];simp[Rows.uptoBulk]⟩
 ·have hel1:Rows.uptoBulkAll (elems.map (·.1))+1≤Rows.uptoBulk x.1:=by
   rw[e8];simp only[Rows.uptoBulk];omega
  unfold maxLen at hcm
  by_cases hl0:len=0
  ·subst hl0
   exact⟨[],some a,cap,e7,.inl rfl,by simp;omega,by simp;omega⟩
  rw[hm]at hat
  have each:∀ i,i<len→∃ cs' y,elems[i]?=some y∧W.cells? 0 (a.add (i*m)) m=some cs'∧DataW.trod enc Tryz.prog W 0 (fun _=>true) true n tE cs'=some y:=by
   intro i hi
   have h5:=hat i hi
   have h6:elems[i]?=some (elems[i]'(by omega)):=List.getElem?_eq_getElem (by omega)
   rw[h6]at h5
   obtain⟨cs',h7,h8⟩:=Option.bind_eq_some_iff.1 h5
   exact⟨cs',_,h6,h7,h8⟩
  obtain⟨b,off,spot⟩:=a
  obtain⟨hspot,hblk⟩:spot=none∧b<W.heap.size:=by
   obtain⟨cs',y,_,h7,h8⟩:=each 0 (by omega)
   obtain⟨hlen,_,hc⟩:=World.cells?_some h7
   have hc0:=hc 0 (by omega)
   have hx:∃ v,cs'[0]?=some v:=⟨cs'[0]'(by omega),List.getElem?_eq_getElem (by omega)⟩
   obtain⟨v,hv⟩:=hx
   rw[hv]at hc0
   have hs0:spot=none:=by
    simpa[Addr.add] using World.cell?_spot hc0
   subst hs0
   rw[add_none,add_none]at hc0
   exact⟨rfl,block_lt hc0⟩
  subst hspot
  have row:∀ j,j≤len→∃ l:List α,l.length=j∧(l.map size).sum≤Rows.uptoBulkAll ((elems.drop (len-j)).map (·.1))∧l.length≤Rows.uptoBulkAll ((elems.drop (len-j)).map (·.1)) ∧
    ∀ (i:Nat) (c:α),l[i]?=some c→∃ cs',El c cs'∧∀ q,q<m→W.cell? ⟨b,off+(len-j+i)*m+q,none⟩=cs'[q]?:=by
   intro j
   induction j with
   | zero=>intro _;exact⟨[],rfl,by simp,by simp,fun i c hi=>by simp at hi⟩
   | succ j ihj=>
    intro hj
    obtain⟨l,hx1,hx2,hx3,hx4⟩:=ihj (by omega)
    obtain⟨cs',y,h6,h7,h8⟩:=each (len-(j+1)) (by omega)
    obtain⟨c,g1,g2⟩:=hEl _ _ _ h8
    obtain⟨_,_,hc⟩:=World.cells?_some h7
    rw[add_none]at hc
    have cc:∀ i,i<m→W.cell? ⟨b,off+(len-(j+1))*m+i,none⟩=cs'[i]?:=fun i hi=>by
     rw[←add_none];exact hc i hi
    have hdrop:elems.drop (len-(j+1))=y::elems.drop (len-j):=by
     obtain⟨hlt,he⟩:=List.getElem?_eq_some_iff.1 h6
     rw[List.drop_eq_getElem_cons hlt,he,show len-(j+1)+1=len-j by omega]
    have hp:=pos y.1
    refine⟨c::l,by simp[hx1],?_,?_,?_⟩
    ·rw[hdrop,List.map_cons,List.map_cons,List.sum_cons,bulk_all_cons];omega
    ·rw[hdrop,List.map_cons,List.length_cons,bulk_all_cons];omega
    ·intro i c' hi
     cases i with
     | zero=>
      simp only[List.getElem?_cons_zero,Option.some.injEq]at hi
      subst hi
      exact⟨cs',g1,cc⟩
     | succ i=>
      obtain⟨cs2,g3,g4⟩:=hx4 i c' (by simpa using hi)
      refine⟨cs2,g3,fun q hq=>?_⟩
      rw[show len-(j+1)+(i+1)=len-j+i by omega]
      exact g4 q hq
  obtain⟨l,hx1,hx2,hx3,hx4⟩:=row len (Nat.le_refl _)
  rw[Nat.sub_self,List.drop_zero]at hx2 hx3
  simp only[Nat.sub_self,Nat.zero_add]at hx4
  exact⟨l,some ⟨b,off,none⟩,cap,by rw[e7,hx1],.inr ⟨b,off,rfl,hblk,⟨by omega,by omega⟩,hx4⟩,by omega,by omega⟩
theorem open_nd(fuel:Nat) (cs:List Value) (y:DataW H×List MemPlace) (h:DataW.trod enc Tryz.prog W 0 (fun _=>true) true fuel 45 cs=some y) :
  ∃ u:Nd,(cs=[.int .i64 u.cd,.int .i64 u.pr,.string u.ti]∧((-9223372036854775808≤u.cd∧u.cd≤9223372036854775807)∧(-9223372036854775808≤u.pr∧u.pr≤9223372036854775807)∧u.ti.size≤9223372036854775807))∧0≤Rows.uptoBulk y.1:=by
 obtain⟨ys,n,_,rfl,hl,hlen,hf⟩:=DataW.trod_struct Tryz.underlying45 h
 rw[cellsNd]at hl
 obtain⟨c0,c1,c2,rfl⟩:∃ c0 c1 c2,cs=[c0,c1,c2]:=by
  match cs,hl with
  | [a0,a1,a2],_=>exact⟨a0,a1,a2,rfl⟩
 obtain⟨y0,y1,y2,rfl⟩:∃ y0 y1 y2,ys=[y0,y1,y2]:=by
  match ys,hlen with
  | [a0,a1,a2],_=>exact⟨a0,a1,a2,rfl⟩
 have h0:DataW.trod enc Tryz.prog W 0 (fun _=>true) true n 3 (([c0,c1,c2].drop 0).take (Tryz.prog.cellsOf 3))=some y0:=hf 0 _ rfl
 have h1:DataW.trod enc Tryz.prog W 0 (fun _=>true) true n 3 (([c0,c1,c2].drop 1).take (Tryz.prog.cellsOf 3))=some y1:=hf 1 _ rfl
 have h2:DataW.trod enc Tryz.prog W 0 (fun _=>true) true n 9 (([c0,c1,c2].drop 2).take (Tryz.prog.cellsOf 9))=some y2:=hf 2 _ rfl
 simp only[cellsI,cellsTx,List.drop_zero,List.drop_succ_cons,List.take_succ_cons,List.take_zero]at h0 h1 h2
 obtain⟨v0,e0,_,w0⟩:=DataW.trod_int Tryz.underlying3 h0
 obtain⟨v1,e1,_,w1⟩:=DataW.trod_int Tryz.underlying3 h1
 obtain⟨v2,e2,_,w2⟩:=DataW.trod_string Tryz.underlying9 h2
 simp only[List.cons.injEq,and_true]at e0 e1 e2
 subst e0 e1 e2
 unfold maxLen at w2
 exact⟨⟨v0,v1,v2⟩,⟨rfl,wf_in w0,wf_in w1,w2⟩,Nat.zero_le _⟩
theorem open_cg(fuel:Nat) (cs:List Value) (y:DataW H×List MemPlace) (h:DataW.trod enc Tryz.prog W 0 (fun _=>true) true fuel 69 cs=some y) :
  ∃ u:Cg,(cs=[.int .i64 u.ca,.int .i64 u.co,.int .i64 u.cd]∧(in64 u.ca∧in64 u.co∧in64 u.cd))∧0≤Rows.uptoBulk y.1:=by
 obtain⟨ys,n,_,rfl,hl,hlen,hf⟩:=DataW.trod_struct Tryz.underlying69 h
 rw[cellsCg]at hl
 obtain⟨c0,c1,c2,rfl⟩:∃ c0 c1 c2,cs=[c0,c1,c2]:=by
  match cs,hl with
  | [a0,a1,a2],_=>exact⟨a0,a1,a2,rfl⟩
 obtain⟨y0,y1,y2,rfl⟩:∃ y0 y1 y2,ys=[y0,y1,y2]:=by
  match ys,hlen with
  | [a0,a1,a2],_=>exact⟨a0,a1,a2,rfl⟩
 have h0:DataW.trod enc Tryz.prog W 0 (fun _=>true) true n 3 (([c0,c1,c2].drop 0).take (Tryz.prog.cellsOf 3))=some y0:=hf 0 _ rfl
 have h1:DataW.trod enc Tryz.prog W 0 (fun _=>true) true n 3 (([c0,c1,c2].drop 1).take (Tryz.prog.cellsOf 3))=some y1:=hf 1 _ rfl
 have h2:DataW.trod enc Tryz.prog W 0 (fun _=>true) true n 3 (([c0,c1,c2].drop 2).take (Tryz.prog.cellsOf 3))=some y2:=hf 2 _ rfl
 simp only[cellsI,cellsTx,List.drop_zero,List.drop_succ_cons,List.take_succ_cons,List.take_zero]at h0 h1 h2
 obtain⟨v0,e0,_,w0⟩:=DataW.trod_int Tryz.underlying3 h0
 obtain⟨v1,e1,_,w1⟩:=DataW.trod_int Tryz.underlying3 h1
 obtain⟨v2,e2,_,w2⟩:=DataW.trod_int Tryz.underlying3 h2
 simp only[List.cons.injEq,and_true]at e0 e1 e2
 subst e0 e1 e2
 skip
 exact⟨⟨v0,v1,v2⟩,⟨rfl,wf_in w0,wf_in w1,wf_in w2⟩,Nat.zero_le _⟩
theorem open_N{b0:Nat} {v:Value} {d:DataW H} {p:List MemPlace} (hv:Value.okWide Tryz.prog W .any b0 22 v) (h:DataW.Trod enc Tryz.prog W 0 (fun _=>true) true 22 v d p) :
  ∃ a l c,v=.slice a (List.length l) c∧RdN W a l∧Fits l∧List.length l≤c:=by
 obtain⟨a0,len,cap,rfl⟩:=okWide_slice Tryz.underlying22 hv
 obtain⟨m,h⟩:=h
 obtain⟨l,a,cap',e,hr,_,_⟩:=open_row (α:=Nd) Tryz.underlying22 cellsNd (by decide) (fun u cs=>cs=[.int .i64 u.cd,.int .i64 u.pr,.string u.ti]∧((-9223372036854775808≤u.cd∧u.cd≤9223372036854775807)∧(-9223372036854775808≤u.pr∧u.pr≤9223372036854775807)∧u.ti.size≤9223372036854775807)) (fun _=>0) open_nd h
 simp[Value.cells]at e
 obtain⟨rfl,rfl,rfl⟩:=e
 refine⟨_,l,_,rfl,?_⟩
 rcases hr with rfl|⟨b,off,rfl,hb,hc,hr⟩
 ·exact⟨⟨by simp,fun h=>by simp at h⟩,(fun u hu=>by cases hu),by simp⟩
 ·refine⟨⟨by omega,fun _=>⟨b,off,rfl,hb,fun j hj=>?_⟩⟩,fun u hu=>?_,hc.1⟩
  ·obtain⟨cs',hcs,hq⟩:=hr j (nd l j) (by unfold nd;rw[List.getD,List.getElem?_eq_getElem hj];simp)
   obtain⟨rfl,_⟩:=hcs
   exact⟨hq 0 (by omega),hq 1 (by omega),hq 2 (by omega)⟩
  ·obtain⟨j,hj,rfl⟩:=List.mem_iff_getElem.1 hu
   obtain⟨cs',⟨_,hs⟩,_⟩:=hr j l[j] (List.getElem?_eq_getElem hj)
   exact hs
theorem open_C{b0:Nat} {v:Value} {d:DataW H} {p:List MemPlace} (hv:Value.okWide Tryz.prog W .any b0 23 v) (h:DataW.Trod enc Tryz.prog W 0 (fun _=>true) true 23 v d p) :
  ∃ a l c,v=.slice a (List.length l) c∧RdC W a l∧FitsC l∧List.length l≤c:=by
 obtain⟨a0,len,cap,rfl⟩:=okWide_slice Tryz.underlying23 hv
 obtain⟨m,h⟩:=h
 obtain⟨l,a,cap',e,hr,_,_⟩:=open_row (α:=Cg) Tryz.underlying23 cellsCg (by decide) (fun u cs=>cs=[.int .i64 u.ca,.int .i64 u.co,.int .i64 u.cd]∧(in64 u.ca∧in64 u.co∧in64 u.cd)) (fun _=>0) open_cg h
 simp[Value.cells]at e
 obtain⟨rfl,rfl,rfl⟩:=e
 refine⟨_,l,_,rfl,?_⟩
 rcases hr with rfl|⟨b,off,rfl,hb,hc,hr⟩
 ·exact⟨⟨by simp,fun h=>by simp at h⟩,(fun u hu=>by cases hu),by simp⟩
 ·refine⟨⟨by omega,fun _=>⟨b,off,rfl,hb,fun j hj=>?_⟩⟩,fun u hu=>?_,hc.1⟩
  ·obtain⟨cs',hcs,hq⟩:=hr j (cg l j) (by unfold cg;rw[List.getD,List.getElem?_eq_getElem hj];simp)
   obtain⟨rfl,_⟩:=hcs
   exact⟨hq 0 (by omega),hq 1 (by omega),hq 2 (by omega)⟩
  ·obtain⟨j,hj,rfl⟩:=List.mem_iff_getElem.1 hu
   obtain⟨cs',⟨_,hs⟩,_⟩:=hr j l[j] (List.getElem?_eq_getElem hj)
   exact hs
end
end Go.Proofs.YtghgbhmiliiohaaGreatDoor
