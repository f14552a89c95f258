/-
  CodeAgreementMatchesSpec: the reference's Kappa.
-/
import Derived.Test.YtghgbhmiliiohaaGreatDoorAM37
import Derived.Test.YtghgbhmiliiohaaGreatDoorAM35
import Derived.Test.YtghgbhmiliiohaaGreatDoorAMQ
import Derived.Test.YtghgbhmiliiohaaGreatDoorAM23
import Derived.Deep.RegionHeld3
set_option maxRecDepth 100000
namespace Go.Proofs.YtghgbhmiliiohaaGreatDoor
open Go.RowKit
structure Rt (w:World) (g:Nat) (sb:Bool) (na:Option Addr) (nk nc:Nat) (ea:Option Addr) (ek ec:Nat) (m e:Nat) (W:World):Prop where
 x:Q3 W g (.bool sb) (.slice na nk nc) (.slice ea ek ec)
 r:B2 W (w.heap.size+1) (.string ⟨#[]⟩) (.string ⟨#[]⟩)
 n:Nt W na nk nc m
 e:Nt W ea ek ec e
 pow:Pow W
 bel:Below w.heap.size w W
 lo:w.heap.size+1<g
theorem Rt.keep{w:World}{g:Nat}{sb:Bool}{na:Option Addr}{nk nc:Nat}{ea:Option Addr}{ek ec:Nat}{m e:Nat}{W W':World}(h:Rt w g sb na nk nc ea ek ec m e W)(hb:Below W.heap.size W W'):Rt w g sb na nk nc ea ek ec m e W':=
 ⟨h.x.keep hb,h.r.keep hb,h.n.below hb,h.e.below hb,h.pow.below hb,h.bel.trans (hb.mono h.bel.size),h.lo⟩
def S2x(g:Nat)(na:Option Addr)(nk nc:Nat)(ea:Option Addr)(ek ec:Nat)(W:World):Prop:=
 W.cell? ⟨g,1,none⟩=some (.slice na nk nc)∧W.cell? ⟨g,2,none⟩=some (.slice ea ek ec)
theorem Rt.s2{w:World}{g:Nat}{sb:Bool}{na:Option Addr}{nk nc:Nat}{ea:Option Addr}{ek ec:Nat}{m e:Nat}{W:World}(h:Rt w g sb na nk nc ea ek ec m e W):S2x g na nk nc ea ek ec W:=⟨h.x.c1,h.x.c2⟩
theorem shV_and(b:Bool)(m e:Nat):shV (b && decide (0<m)) m e=shV b m e:=by
 unfold shV
 cases b<;>cases h:decide (0<m)<;>simp
set_option maxHeartbeats 4000000 in
theorem ratio_c(b:Bool) (a1 a2:Option Addr) (c1 c2 k1 k2 p d:Nat) (w:World) (h1:Nt w a1 k1 c1 p) (h2:Nt w a2 k2 c2 d) (hd:0<d) (hn9:p<tp 90000) (hd9:d<tp 90000) (hE:Pow w) :
  Calls Tryz.prog 17 #[.agg #[.bool b,.slice a1 k1 c1,.slice a2 k2 c2]] w (OpPost (raR (zv b p) d) w):=by
 obtain⟨W0,hW0⟩:∃ W0,(w.alloc (.cells #[.bool b,.slice a1 k1 c1,.slice a2 k2 c2] 51)).alloc (.cells #[.string ⟨#[]⟩,.string ⟨#[]⟩] 32)=W0:=⟨_,rfl⟩
 have s1:(w.alloc (.cells #[.bool b,.slice a1 k1 c1,.slice a2 k2 c2] 51)).heap.size=w.heap.size+1:=by simp
 have B0:Hid (Below w.heap.size w W0):=by rw[←hW0];exact ((Below.refl _ _).alloc (Nat.le_refl _) _).alloc (by simp) _
 have X0:Q3 W0 w.heap.size (.bool b) (.slice a1 k1 c1) (.slice a2 k2 c2):=by rw[←hW0];exact (Q3.made w _ _ _ _).keep (bel_one _ _)
 have R0:Hid (B2 W0 (w.heap.size+1) (.string ⟨#[]⟩) (.string ⟨#[]⟩)):=by rw[←hW0,←s1];exact B2.made _ _ _ _
 have P0:=Zh (hE.below B0.out)
 have HL:=Zh (lowest_c b a1 a2 c1 c2 k1 k2 p d W0 (h1.below B0.out) (h2.below B0.out) hd hn9 hd9)
 obtain⟨m,hm⟩:∃ m,p / Nat.gcd p d=m:=⟨_,rfl⟩
 obtain⟨e,he⟩:∃ e,d / Nat.gcd p d=e:=⟨_,rfl⟩
 obtain⟨sb,hsb⟩:∃ sb,(b && decide (0<p))=sb:=⟨_,rfl⟩
 obtain⟨rr,hrr⟩:∃ rr,raR (zv b p) d=rr:=⟨_,rfl⟩
 have hpm:decide (0<p)=decide (0<m):=by
  have hg:0<Nat.gcd p d:=Nat.gcd_pos_of_pos_right _ hd
  rw[←hm]
  apply decide_eq_decide.2
  constructor
  ·intro h;exact Nat.div_pos (Nat.le_of_dvd h (Nat.gcd_dvd_left _ _)) hg
  ·intro h
   rcases Nat.eq_zero_or_pos p with e|e
   ·subst e;rw[Nat.zero_div]at h;omega
   ·exact e
 have RS:Hid (rr=shV sb m e):=by unfold Hid;rw[←hrr,raR_zv b p d hd,hm,he,←hsb,hpm,shV_and]
 have SBM:Hid ((sb && decide (0<m))=sb):=by unfold Hid;rw[←hsb,hpm];cases b<;>cases decide (0<m)<;>rfl
 rw[hm,he,hsb]at HL
 rw[hrr]
 have x0:=X0.c0
 have x1:=X0.c1
 have x2:=X0.c2
 clear h1 h2 hE hd hn9 hd9 X0 s1 hm he hsb hpm hrr
 go_enter Tryz.func17,Tryz.ntmps17
 go_wp2_with fail
 clear hW0 x0 x1 x2
 (with_reducible refine HL.out.mono ?_)
 rintro e0 w2 ⟨na,nk,nc,ea,ek,ec,rfl,l1,l2,b2⟩
 have R2:=Zh (R0.out.keep b2)
 have B2:=Zh (B0.out.trans (b2.mono B0.out.size))
 have P2:=Zh (P0.out.below b2)
 have L1:=Zh l1
 have L2:=Zh l2
 clear HL R0 B0 P0 l1 l2 b2
 obtain⟨W3,hW3⟩:∃ W3,w2.alloc (.cells #[.bool false,.slice none 0 0,.slice none 0 0] 51)=W3:=⟨_,rfl⟩
 have J3:Q3 W3 w2.heap.size (.bool false) (.slice none 0 0) (.slice none 0 0):=by rw[←hW3];exact Q3.made _ _ _ _ _
 have b3:Below w2.heap.size w2 W3:=by rw[←hW3];exact bel_one _ _
 obtain⟨WX,hWX⟩:∃ WX,trio W3 w2.heap.size (.bool sb) (.slice na nk nc) (.slice ea ek ec)=WX:=⟨_,rfl⟩
 have bx:Below w2.heap.size w2 WX:=by rw[←hWX];exact below_trio b3 (Nat.le_refl _) _ _ _
 have JX:Hid (Rt w w2.heap.size sb na nk nc ea ek ec m e WX):=
  ⟨by rw[←hWX];exact J3.set _ _ _,R2.out.keep bx,L1.out.below bx,L2.out.below bx,P2.out.below bx,B2.out.trans (bx.mono B2.out.size),R2.out.lt⟩
 obtain⟨r0,r1,r2,rf,_⟩:=J3
 have rf0:=rf 0
 have rf1:=rf 1
 have rf2:=rf 2
 obtain⟨t0,t1,t2,_,_⟩:=id JX.out.x
 clear rf L1 L2 R2 B2 P2 b3 bx
 unfold trio at hWX
 go_wp2_with fail
 clear hWX hW3 t0 t1 t2 r0 r1 r2 rf0 rf1 rf2
 generalize w2.heap.size=g at *
 refine wp_region_noPanic ?_
 refine wp_region_held_drew (S:=S2x g na nk nc ea ek ec) (by kernel_rfl) (JX.out.keep (Below.refl _ _).drew).s2 (fun hS=>?_)
 have J_0:=Zh (JX.out.keep (Below.refl _ _).drew)
 clear JX
 generalize WX.drew=WD at *
 refine Zt (i:=0) (v:=?v0z1) rfl (Or.inl ⟨by rfl,?hy0z1⟩) ?rest0z1
 case hy0z1=>
  intro w hSw
  dsimp only[S2x]at hSw
  go_simp
  try with_reducible rfl
 simp only[Act.put,Zd,Ze,Zf,Za,Zb,Zc]
 refine Zt (i:=1) (v:=?v1z2) rfl (Or.inl ⟨by rfl,?hy1z2⟩) ?rest1z2
 case hy1z2=>
  intro w hSw
  dsimp only[S2x]at hSw
  go_simp
  try with_reducible rfl
 simp only[Act.put,Zd,Ze,Zf,Za,Zb,Zc]
 refine Zt (i:=3) (v:=?v3z3) rfl (Or.inl ⟨by rfl,?hy3z3⟩) ?rest3z3
 case hy3z3=>
  intro w hSw
  dsimp only[S2x]at hSw
  go_simp
  try with_reducible rfl
 simp only[Act.put,Zd,Ze,Zf,Za,Zb,Zc]
 refine Zt (i:=4) (v:=?v4z4) rfl (Or.inl ⟨by rfl,?hy4z4⟩) ?rest4z4
 case hy4z4=>
  intro w hSw
  dsimp only[S2x]at hSw
  go_simp
  try with_reducible rfl
 simp only[Act.put,Zd,Ze,Zf,Za,Zb,Zc]
 refine wpAnyH_ready (rs:=[2,7]) (by kernel_rfl) (by simp) ?_
 refine AllReadyH.cons rfl (fun K hK=>?_) (AllReadyH.cons rfl (fun K hK=>?_) AllReadyH.nil)
 ·go_simp
  (refine (rtext_c na nk nc m WD J_0.out.n J_0.out.pow).mono ?_)
  rintro e0 W1x ⟨rfl,bc⟩
  try go_simp
  have J_1:=Zh (J_0.out.keep bc)
  have hT:=J_1.out.s2
  refine hK.out _ _ hT (fun _=>?_)
  clear hK K hS bc J_0
  have hS:=hT
  clear hT
  try simp only[Act.put,Za,Zb,Zc]
  refine wpAnyH_ready (rs:=[5,7]) (by kernel_rfl) (by simp) ?_
  refine AllReadyH.cons rfl (fun K hK=>?_) (AllReadyH.cons rfl (fun K hK=>?_) AllReadyH.nil)
  ·go_simp
   (refine (rtext_c ea ek ec e W1x J_1.out.e J_1.out.pow).mono ?_)
   rintro e0 W2x ⟨rfl,bc⟩
   try go_simp
   have J_2:=Zh (J_1.out.keep bc)
   have hT:=J_2.out.s2
   refine hK.out _ _ hT (fun _=>?_)
   clear hK K hS bc J_1
   have hS:=hT
   clear hT
   try simp only[Act.put,Za,Zb,Zc]
   refine Zt (i:=6) (v:=?v6z5) rfl (Or.inl ⟨by rfl,?hy6z5⟩) ?rest6z5
   case hy6z5=>
    intro w hSw
    dsimp only[S2x]at hSw
    go_simp
    try with_reducible rfl
   simp only[Act.put,Zd,Ze,Zf,Za,Zb,Zc]
   refine wpAnyH_ready (rs:=[7]) (by kernel_rfl) (by simp) ?_
   refine AllReadyH.cons rfl (fun K hK=>?_) AllReadyH.nil
   go_simp
   have bc:=bel_one W2x (.cells #[.string ⟨#[]⟩,.string ⟨#[]⟩] 32)
   have J_3:=Zh (J_2.out.keep bc)
   have NE:Hid (W2x.heap.size≠g∧w.heap.size+1<W2x.heap.size):=by have:=J_2.out.x.lt;have:=J_2.out.lo;unfold Hid;omega
   have D_3:Hid (B2 (W2x.alloc (.cells #[.string ⟨#[]⟩,.string ⟨#[]⟩] 32)) W2x.heap.size (.string ⟨#[]⟩) (.string ⟨#[]⟩)):=B2.made _ _ _ _
   have hT:=J_3.out.s2
   refine hK.out _ _ hT (fun _=>?_)
   clear hK K hS bc J_2
   try simp only[Act.put,Za,Zb,Zc]
   generalize W2x.alloc (.cells #[.string ⟨#[]⟩,.string ⟨#[]⟩] 32)=W3x at *
   generalize W2x.heap.size=h at *
   have hS:=hT
   clear hT
   refine wpAnyH_ready (rs:=[8]) (by kernel_rfl) (by simp) ?_
   refine AllReadyH.cons rfl (fun K hK=>?_) AllReadyH.nil
   have q0:=D_3.out.c0
   have q1:=D_3.out.c1
   have g0:=D_3.out.fr 0
   have g1:=D_3.out.fr 1
   go_simp
   clear q0 q1 g0 g1
   have hT:S2x g na nk nc ea ek ec (two W3x h (.string (decB m)) (.string (decB e))):=⟨(two_cell NE.out.1 _ _ 1).trans J_3.out.x.c1,(two_cell NE.out.1 _ _ 2).trans J_3.out.x.c2⟩
   have JR:Hid (B2 (two W3x h (.string (decB m)) (.string (decB e))) (w.heap.size+1) (.string ⟨#[]⟩) (.string ⟨#[]⟩)):=J_3.out.r.other (by have:=NE.out.2;omega) _ _
   have JB:Hid (Below w.heap.size w (two W3x h (.string (decB m)) (.string (decB e)))):=below_two J_3.out.bel (by have:=NE.out.2;omega) _ _
   have D2:Hid (B2 (two W3x h (.string (decB m)) (.string (decB e))) h (.string (decB m)) (.string (decB e))):=D_3.out.set _ _
   have q0:(two W3x h (.string (decB m)) (.string (decB e))).cell? ⟨g,0,none⟩=some (.bool sb):=(two_cell NE.out.1 _ _ 0).trans J_3.out.x.c0
   have GE:Hid (w.heap.size+1<h):=NE.out.2
   clear J_3 D_3 NE
   unfold two at hT JR JB D2 q0
   refine hK.out _ _ hT (fun _=>?_)
   clear hK K hS hT
   try simp only[Act.put,Za,Zb,Zc]
   refine wpAnyH_done (by kernel_rfl) ?_ _
   refine NoPanic.normal ?_
   generalize (W3x.setCell ⟨h,0,none⟩ (.string (decB m))).setCell ⟨h,1,none⟩ (.string (decB e))=WB at *
   have p0:=D2.out.c0
   have p1:=D2.out.c1
   have hms:=decB_size m
   have hes:=decB_size e
   by_cases f1:(Lib.decDigits m).length≤2000
   ·have i1:¬ (2000:Int)<((decB m).size:Int):=by omega
    by_cases f2:(Lib.decDigits e).length≤2000
    ·have i2:¬ (2000:Int)<((decB e).size:Int):=by omega
     have VS:Hid (shV sb m e=((if (sb && decide (0<m))=true then ⟨#[45]⟩ ++ decB m else decB m),decB e,0)):=by unfold Hid shV;rw[if_pos (by simp[f1,f2])]
     have hmb:¬ (9223372036854775807:Int)<1+((decB m).size:Int):=by omega
     have hmb':¬ 9223372036854775807<1+(decB m).size:=by omega
     clear f1 f2 hms hes
     cases sb
     ·have RS2:Hid (rr=(decB m,decB e,0)):=by unfold Hid;rw[RS.out,VS.out];rfl
      clear RS VS hmb hmb'
      obtain⟨W9,hW9⟩:∃ W9,two WB (w.heap.size+1) (.string (decB m)) (.string (decB e))=W9:=⟨_,rfl⟩
      have R9:B2 W9 (w.heap.size+1) (.string (decB m)) (.string (decB e)):=by rw[←hW9];exact JR.out.set _ _
      have PP:Hid (OpPost rr w (.returned (.tuple #[.agg #[.string (decB m),.string (decB e)],.int .i64 0])) W9):=by
       rw[←hW9]
       exact⟨by rw[RS2.out],below_two JB.out (by omega) _ _⟩
      have c0:=JR.out.c0
      have c1':=JR.out.c1
      have cf0:=JR.out.fr 0
      have cf1:=JR.out.fr 1
      obtain⟨r0,r1,_,_⟩:=id R9
      unfold two at hW9
      clear R9
      go_wp2_with fail
      exact bodyPost_ret (v:=.tuple #[.agg #[.string (decB m),.string (decB e)],.int .i64 0]) (by simp[results,Tryz.results17,go_sem,r0,r1]) rfl PP.out
     ·have RS2:Hid (rr=(⟨#[45]⟩ ++ decB m,decB e,0)):=by
       unfold Hid
       rw[RS.out,VS.out,SBM.out]
       rfl
      clear RS VS
      obtain⟨WC,hWC⟩:∃ W,WB.setCell ⟨h,0,none⟩ (.string (⟨#[45]⟩ ++ decB m))=W:=⟨_,rfl⟩
      have JR2:Hid (B2 WC (w.heap.size+1) (.string ⟨#[]⟩) (.string ⟨#[]⟩)):=by
       rw[←hWC]
       have ne:∀ o,(⟨h,0,none⟩:Addr)≠⟨w.heap.size+1,o,none⟩:=fun o e=>by injection e with e1 _;have:=GE.out;omega
       exact⟨(World.cell?_setCell_other _ _ _ _ (ne 0)).trans JR.out.c0,(World.cell?_setCell_other _ _ _ _ (ne 1)).trans JR.out.c1,fun o=>by rw[World.frozen?_setCell];exact JR.out.fr o,by simpa using JR.out.lt⟩
      have JB2:Hid (Below w.heap.size w WC):=by
       rw[←hWC]
       exact JB.out.setCell (p:=⟨h,0,none⟩) (by have:=GE.out;show w.heap.size≤h;omega) _
      have v0:WC.cell? ⟨h,0,none⟩=some (.string (⟨#[45]⟩ ++ decB m)):=by rw[←hWC];exact World.cell?_setCell_same _ _ _ p0
      have v1:WC.cell? ⟨h,1,none⟩=some (.string (decB e)):=by rw[←hWC,World.cell?_setCell_other _ _ _ _ (qne (by decide))];exact p1
      have pf0:=D2.out.fr 0
      clear JR JB D2
      have JR:=JR2
      have JB:=JB2
      clear JR2 JB2
      obtain⟨W9,hW9⟩:∃ W9,two WC (w.heap.size+1) (.string (⟨#[45]⟩ ++ decB m)) (.string (decB e))=W9:=⟨_,rfl⟩
      have R9:B2 W9 (w.heap.size+1) (.string (⟨#[45]⟩ ++ decB m)) (.string (decB e)):=by rw[←hW9];exact JR.out.set _ _
      have PP:Hid (OpPost rr w (.returned (.tuple #[.agg #[.string (⟨#[45]⟩ ++ decB m),.string (decB e)],.int .i64 0])) W9):=by
       rw[←hW9]
       exact⟨by rw[RS2.out],below_two JB.out (by omega) _ _⟩
      have c0:=JR.out.c0
      have c1':=JR.out.c1
      have cf0:=JR.out.fr 0
      have cf1:=JR.out.fr 1
      obtain⟨r0,r1,_,_⟩:=id R9
      unfold two at hW9
      clear R9
      go_wp2_with fail
      exact bodyPost_ret (v:=.tuple #[.agg #[.string (⟨#[45]⟩ ++ decB m),.string (decB e)],.int .i64 0]) (by simp[results,Tryz.results17,go_sem,r0,r1]) rfl PP.out
    ·have i2:(2000:Int)<((decB e).size:Int):=by omega
     have RS2:Hid (rr=(⟨#[]⟩,⟨#[]⟩,2)):=by unfold Hid;rw[RS.out];unfold shV;rw[if_neg (by simp[f2])]
     clear f1 f2 RS hms hes
     obtain⟨W9,hW9⟩:∃ W9,two WB (w.heap.size+1) (.string ⟨#[]⟩) (.string ⟨#[]⟩)=W9:=⟨_,rfl⟩
     have R9:B2 W9 (w.heap.size+1) (.string ⟨#[]⟩) (.string ⟨#[]⟩):=by rw[←hW9];exact JR.out.set _ _
     have PP:Hid (OpPost rr w (.returned (.tuple #[.agg #[.string ⟨#[]⟩,.string ⟨#[]⟩],.int .i64 2])) W9):=by
      rw[←hW9]
      exact⟨by rw[RS2.out],below_two JB.out (by omega) _ _⟩
     have c0:=JR.out.c0
     have c1':=JR.out.c1
     have cf0:=JR.out.fr 0
     have cf1:=JR.out.fr 1
     obtain⟨r0,r1,_,_⟩:=id R9
     unfold two at hW9
     clear R9
     go_wp2_with fail
     exact bodyPost_ret (v:=.tuple #[.agg #[.string ⟨#[]⟩,.string ⟨#[]⟩],.int .i64 2]) (by simp[results,Tryz.results17,go_sem,r0,r1]) rfl PP.out
   ·have i1:(2000:Int)<((decB m).size:Int):=by omega
    have RS2:Hid (rr=(⟨#[]⟩,⟨#[]⟩,2)):=by unfold Hid;rw[RS.out];unfold shV;rw[if_neg (by simp[f1])]
    clear f1 RS hms hes
    obtain⟨W9,hW9⟩:∃ W9,two WB (w.heap.size+1) (.string ⟨#[]⟩) (.string ⟨#[]⟩)=W9:=⟨_,rfl⟩
    have R9:B2 W9 (w.heap.size+1) (.string ⟨#[]⟩) (.string ⟨#[]⟩):=by rw[←hW9];exact JR.out.set _ _
    have PP:Hid (OpPost rr w (.returned (.tuple #[.agg #[.string ⟨#[]⟩,.string ⟨#[]⟩],.int .i64 2])) W9):=by
     rw[←hW9]
     exact⟨by rw[RS2.out],below_two JB.out (by omega) _ _⟩
    have c0:=JR.out.c0
    have c1':=JR.out.c1
    have cf0:=JR.out.fr 0
    have cf1:=JR.out.fr 1
    obtain⟨r0,r1,_,_⟩:=id R9
    unfold two at hW9
    clear R9
    go_wp2_with fail
    exact bodyPost_ret (v:=.tuple #[.agg #[.string ⟨#[]⟩,.string ⟨#[]⟩],.int .i64 2]) (by simp[results,Tryz.results17,go_sem,r0,r1]) rfl PP.out
  ·go_simp
   have bc:=bel_one W1x (.cells #[.string ⟨#[]⟩,.string ⟨#[]⟩] 32)
   have J_2:=Zh (J_1.out.keep bc)
   have NE:Hid (W1x.heap.size≠g∧w.heap.size+1<W1x.heap.size):=by have:=J_1.out.x.lt;have:=J_1.out.lo;unfold Hid;omega
   have D_2:Hid (B2 (W1x.alloc (.cells #[.string ⟨#[]⟩,.string ⟨#[]⟩] 32)) W1x.heap.size (.string ⟨#[]⟩) (.string ⟨#[]⟩)):=B2.made _ _ _ _
   have hT:=J_2.out.s2
   refine hK.out _ _ hT (fun _=>?_)
   clear hK K hS bc J_1
   try simp only[Act.put,Za,Zb,Zc]
   generalize W1x.alloc (.cells #[.string ⟨#[]⟩,.string ⟨#[]⟩] 32)=W4x at *
   generalize W1x.heap.size=h at *
   have hS:=hT
   clear hT
   refine wpAnyH_ready (rs:=[5]) (by kernel_rfl) (by simp) ?_
   refine AllReadyH.cons rfl (fun K hK=>?_) AllReadyH.nil
   go_simp
   (refine (rtext_c ea ek ec e W4x J_2.out.e J_2.out.pow).mono ?_)
   rintro e0 W5x ⟨rfl,bc⟩
   try go_simp
   have J_3:=Zh (J_2.out.keep bc)
   have D_3:=Zh (D_2.out.keep bc)
   have hT:=J_3.out.s2
   refine hK.out _ _ hT (fun _=>?_)
   clear hK K hS bc J_2 D_2
   have hS:=hT
   clear hT
   try simp only[Act.put,Za,Zb,Zc]
   refine Zt (i:=6) (v:=?v6z6) rfl (Or.inl ⟨by rfl,?hy6z6⟩) ?rest6z6
   case hy6z6=>
    intro w hSw
    dsimp only[S2x]at hSw
    go_simp
    try with_reducible rfl
   simp only[Act.put,Zd,Ze,Zf,Za,Zb,Zc]
   refine wpAnyH_ready (rs:=[8]) (by kernel_rfl) (by simp) ?_
   refine AllReadyH.cons rfl (fun K hK=>?_) AllReadyH.nil
   have q0:=D_3.out.c0
   have q1:=D_3.out.c1
   have g0:=D_3.out.fr 0
   have g1:=D_3.out.fr 1
   go_simp
   clear q0 q1 g0 g1
   have hT:S2x g na nk nc ea ek ec (two W5x h (.string (decB m)) (.string (decB e))):=⟨(two_cell NE.out.1 _ _ 1).trans J_3.out.x.c1,(two_cell NE.out.1 _ _ 2).trans J_3.out.x.c2⟩
   have JR:Hid (B2 (two W5x h (.string (decB m)) (.string (decB e))) (w.heap.size+1) (.string ⟨#[]⟩) (.string ⟨#[]⟩)):=J_3.out.r.other (by have:=NE.out.2;omega) _ _
   have JB:Hid (Below w.heap.size w (two W5x h (.string (decB m)) (.string (decB e)))):=below_two J_3.out.bel (by have:=NE.out.2;omega) _ _
   have D2:Hid (B2 (two W5x h (.string (decB m)) (.string (decB e))) h (.string (decB m)) (.string (decB e))):=D_3.out.set _ _
   have q0:(two W5x h (.string (decB m)) (.string (decB e))).cell? ⟨g,0,none⟩=some (.bool sb):=(two_cell NE.out.1 _ _ 0).trans J_3.out.x.c0
   have GE:Hid (w.heap.size+1<h):=NE.out.2
   clear J_3 D_3 NE
   unfold two at hT JR JB D2 q0
   refine hK.out _ _ hT (fun _=>?_)
   clear hK K hS hT
   try simp only[Act.put,Za,Zb,Zc]
   refine wpAnyH_done (by kernel_rfl) ?_ _
   refine NoPanic.normal ?_
   generalize (W5x.setCell ⟨h,0,none⟩ (.string (decB m))).setCell ⟨h,1,none⟩ (.string (decB e))=WB at *
   have p0:=D2.out.c0
   have p1:=D2.out.c1
   have hms:=decB_size m
   have hes:=decB_size e
   by_cases f1:(Lib.decDigits m).length≤2000
   ·have i1:¬ (2000:Int)<((decB m).size:Int):=by omega
    by_cases f2:(Lib.decDigits e).length≤2000
    ·have i2:¬ (2000:Int)<((decB e).size:Int):=by omega
     have VS:Hid (shV sb m e=((if (sb && decide (0<m))=true then ⟨#[45]⟩ ++ decB m else decB m),decB e,0)):=by unfold Hid shV;rw[if_pos (by simp[f1,f2])]
     have hmb:¬ (9223372036854775807:Int)<1+((decB m).size:Int):=by omega
     have hmb':¬ 9223372036854775807<1+(decB m).size:=by omega
     clear f1 f2 hms hes
     cases sb
     ·have RS2:Hid (rr=(decB m,decB e,0)):=by unfold Hid;rw[RS.out,VS.out];rfl
      clear RS VS hmb hmb'
      obtain⟨W9,hW9⟩:∃ W9,two WB (w.heap.size+1) (.string (decB m)) (.string (decB e))=W9:=⟨_,rfl⟩
      have R9:B2 W9 (w.heap.size+1) (.string (decB m)) (.string (decB e)):=by rw[←hW9];exact JR.out.set _ _
      have PP:Hid (OpPost rr w (.returned (.tuple #[.agg #[.string (decB m),.string (decB e)],.int .i64 0])) W9):=by
       rw[←hW9]
       exact⟨by rw[RS2.out],below_two JB.out (by omega) _ _⟩
      have c0:=JR.out.c0
      have c1':=JR.out.c1
      have cf0:=JR.out.fr 0
      have cf1:=JR.out.fr 1
      obtain⟨r0,r1,_,_⟩:=id R9
      unfold two at hW9
      clear R9
      go_wp2_with fail
      exact bodyPost_ret (v:=.tuple #[.agg #[.string (decB m),.string (decB e)],.int .i64 0]) (by simp[results,Tryz.results17,go_sem,r0,r1]) rfl PP.out
     ·have RS2:Hid (rr=(⟨#[45]⟩ ++ decB m,decB e,0)):=by
       unfold Hid
       rw[RS.out,VS.out,SBM.out]
       rfl
      clear RS VS
      obtain⟨WC,hWC⟩:∃ W,WB.setCell ⟨h,0,none⟩ (.string (⟨#[45]⟩ ++ decB m))=W:=⟨_,rfl⟩
      have JR2:Hid (B2 WC (w.heap.size+1) (.string ⟨#[]⟩) (.string ⟨#[]⟩)):=by
       rw[←hWC]
       have ne:∀ o,(⟨h,0,none⟩:Addr)≠⟨w.heap.size+1,o,none⟩:=fun o e=>by injection e with e1 _;have:=GE.out;omega
       exact⟨(World.cell?_setCell_other _ _ _ _ (ne 0)).trans JR.out.c0,(World.cell?_setCell_other _ _ _ _ (ne 1)).trans JR.out.c1,fun o=>by rw[World.frozen?_setCell];exact JR.out.fr o,by simpa using JR.out.lt⟩
      have JB2:Hid (Below w.heap.size w WC):=by
       rw[←hWC]
       exact JB.out.setCell (p:=⟨h,0,none⟩) (by have:=GE.out;show w.heap.size≤h;omega) _
      have v0:WC.cell? ⟨h,0,none⟩=some (.string (⟨#[45]⟩ ++ decB m)):=by rw[←hWC];exact World.cell?_setCell_same _ _ _ p0
      have v1:WC.cell? ⟨h,1,none⟩=some (.string (decB e)):=by rw[←hWC,World.cell?_setCell_other _ _ _ _ (qne (by decide))];exact p1
      have pf0:=D2.out.fr 0
      clear JR JB D2
      have JR:=JR2
      have JB:=JB2
      clear JR2 JB2
      obtain⟨W9,hW9⟩:∃ W9,two WC (w.heap.size+1) (.string (⟨#[45]⟩ ++ decB m)) (.string (decB e))=W9:=⟨_,rfl⟩
      have R9:B2 W9 (w.heap.size+1) (.string (⟨#[45]⟩ ++ decB m)) (.string (decB e)):=by rw[←hW9];exact JR.out.set _ _
      have PP:Hid (OpPost rr w (.returned (.tuple #[.agg #[.string (⟨#[45]⟩ ++ decB m),.string (decB e)],.int .i64 0])) W9):=by
       rw[←hW9]
       exact⟨by rw[RS2.out],below_two JB.out (by omega) _ _⟩
      have c0:=JR.out.c0
      have c1':=JR.out.c1
      have cf0:=JR.out.fr 0
      have cf1:=JR.out.fr 1
      obtain⟨r0,r1,_,_⟩:=id R9
      unfold two at hW9
      clear R9
      go_wp2_with fail
      exact bodyPost_ret (v:=.tuple #[.agg #[.string (⟨#[45]⟩ ++ decB m),.string (decB e)],.int .i64 0]) (by simp[results,Tryz.results17,go_sem,r0,r1]) rfl PP.out
    ·have i2:(2000:Int)<((decB e).size:Int):=by omega
     have RS2:Hid (rr=(⟨#[]⟩,⟨#[]⟩,2)):=by unfold Hid;rw[RS.out];unfold shV;rw[if_neg (by simp[f2])]
     clear f1 f2 RS hms hes
     obtain⟨W9,hW9⟩:∃ W9,two WB (w.heap.size+1) (.string ⟨#[]⟩) (.string ⟨#[]⟩)=W9:=⟨_,rfl⟩
     have R9:B2 W9 (w.heap.size+1) (.string ⟨#[]⟩) (.string ⟨#[]⟩):=by rw[←hW9];exact JR.out.set _ _
     have PP:Hid (OpPost rr w (.returned (.tuple #[.agg #[.string ⟨#[]⟩,.string ⟨#[]⟩],.int .i64 2])) W9):=by
      rw[←hW9]
      exact⟨by rw[RS2.out],below_two JB.out (by omega) _ _⟩
     have c0:=JR.out.c0
     have c1':=JR.out.c1
     have cf0:=JR.out.fr 0
     have cf1:=JR.out.fr 1
     obtain⟨r0,r1,_,_⟩:=id R9
     unfold two at hW9
     clear R9
     go_wp2_with fail
     exact bodyPost_ret (v:=.tuple #[.agg #[.string ⟨#[]⟩,.string ⟨#[]⟩],.int .i64 2]) (by simp[results,Tryz.results17,go_sem,r0,r1]) rfl PP.out
   ·have i1:(2000:Int)<((decB m).size:Int):=by omega
    have RS2:Hid (rr=(⟨#[]⟩,⟨#[]⟩,2)):=by unfold Hid;rw[RS.out];unfold shV;rw[if_neg (by simp[f1])]
    clear f1 RS hms hes
    obtain⟨W9,hW9⟩:∃ W9,two WB (w.heap.size+1) (.string ⟨#[]⟩) (.string ⟨#[]⟩)=W9:=⟨_,rfl⟩
    have R9:B2 W9 (w.heap.size+1) (.string ⟨#[]⟩) (.string ⟨#[]⟩):=by rw[←hW9];exact JR.out.set _ _
    have PP:Hid (OpPost rr w (.returned (.tuple #[.agg #[.string ⟨#[]⟩,.string ⟨#[]⟩],.int .i64 2])) W9):=by
     rw[←hW9]
     exact⟨by rw[RS2.out],below_two JB.out (by omega) _ _⟩
    have c0:=JR.out.c0
    have c1':=JR.out.c1
    have cf0:=JR.out.fr 0
    have cf1:=JR.out.fr 1
    obtain⟨r0,r1,_,_⟩:=id R9
    unfold two at hW9
    clear R9
    go_wp2_with fail
    exact bodyPost_ret (v:=.tuple #[.agg #[.string ⟨#[]⟩,.string ⟨#[]⟩],.int .i64 2]) (by simp[results,Tryz.results17,go_sem,r0,r1]) rfl PP.out
 ·go_simp
  have bc:=bel_one WD (.cells #[.string ⟨#[]⟩,.string ⟨#[]⟩] 32)
  have J_1:=Zh (J_0.out.keep bc)
  have NE:Hid (WD.heap.size≠g∧w.heap.size+1<WD.heap.size):=by have:=J_0.out.x.lt;have:=J_0.out.lo;unfold Hid;omega
  have D_1:Hid (B2 (WD.alloc (.cells #[.string ⟨#[]⟩,.string ⟨#[]⟩] 32)) WD.heap.size (.string ⟨#[]⟩) (.string ⟨#[]⟩)):=B2.made _ _ _ _
  have hT:=J_1.out.s2
  refine hK.out _ _ hT (fun _=>?_)
  clear hK K hS bc J_0
  try simp only[Act.put,Za,Zb,Zc]
  generalize WD.alloc (.cells #[.string ⟨#[]⟩,.string ⟨#[]⟩] 32)=W6x at *
  generalize WD.heap.size=h at *
  have hS:=hT
  clear hT
  refine wpAnyH_ready (rs:=[2]) (by kernel_rfl) (by simp) ?_
  refine AllReadyH.cons rfl (fun K hK=>?_) AllReadyH.nil
  go_simp
  (refine (rtext_c na nk nc m W6x J_1.out.n J_1.out.pow).mono ?_)
  rintro e0 W7x ⟨rfl,bc⟩
  try go_simp
  have J_2:=Zh (J_1.out.keep bc)
  have D_2:=Zh (D_1.out.keep bc)
  have hT:=J_2.out.s2
  refine hK.out _ _ hT (fun _=>?_)
  clear hK K hS bc J_1 D_1
  have hS:=hT
  clear hT
  try simp only[Act.put,Za,Zb,Zc]
  refine wpAnyH_ready (rs:=[5]) (by kernel_rfl) (by simp) ?_
  refine AllReadyH.cons rfl (fun K hK=>?_) AllReadyH.nil
  go_simp
  (refine (rtext_c ea ek ec e W7x J_2.out.e J_2.out.pow).mono ?_)
  rintro e0 W8x ⟨rfl,bc⟩
  try go_simp
  have J_3:=Zh (J_2.out.keep bc)
  have D_3:=Zh (D_2.out.keep bc)
  have hT:=J_3.out.s2
  refine hK.out _ _ hT (fun _=>?_)
  clear hK K hS bc J_2 D_2
  have hS:=hT
  clear hT
  try simp only[Act.put,Za,Zb,Zc]
  refine Zt (i:=6) (v:=?v6z7) rfl (Or.inl ⟨by rfl,?hy6z7⟩) ?rest6z7
  case hy6z7=>
   intro w hSw
   dsimp only[S2x]at hSw
   go_simp
   try with_reducible rfl
  simp only[Act.put,Zd,Ze,Zf,Za,Zb,Zc]
  refine wpAnyH_ready (rs:=[8]) (by kernel_rfl) (by simp) ?_
  refine AllReadyH.cons rfl (fun K hK=>?_) AllReadyH.nil
  have q0:=D_3.out.c0
  have q1:=D_3.out.c1
  have g0:=D_3.out.fr 0
  have g1:=D_3.out.fr 1
  go_simp
  clear q0 q1 g0 g1
  have hT:S2x g na nk nc ea ek ec (two W8x h (.string (decB m)) (.string (decB e))):=⟨(two_cell NE.out.1 _ _ 1).trans J_3.out.x.c1,(two_cell NE.out.1 _ _ 2).trans J_3.out.x.c2⟩
  have JR:Hid (B2 (two W8x h (.string (decB m)) (.string (decB e))) (w.heap.size+1) (.string ⟨#[]⟩) (.string ⟨#[]⟩)):=J_3.out.r.other (by have:=NE.out.2;omega) _ _
  have JB:Hid (Below w.heap.size w (two W8x h (.string (decB m)) (.string (decB e)))):=below_two J_3.out.bel (by have:=NE.out.2;omega) _ _
  have D2:Hid (B2 (two W8x h (.string (decB m)) (.string (decB e))) h (.string (decB m)) (.string (decB e))):=D_3.out.set _ _
  have q0:(two W8x h (.string (decB m)) (.string (decB e))).cell? ⟨g,0,none⟩=some (.bool sb):=(two_cell NE.out.1 _ _ 0).trans J_3.out.x.c0
  have GE:Hid (w.heap.size+1<h):=NE.out.2
  clear J_3 D_3 NE
  unfold two at hT JR JB D2 q0
  refine hK.out _ _ hT (fun _=>?_)
  clear hK K hS hT
  try simp only[Act.put,Za,Zb,Zc]
  refine wpAnyH_done (by kernel_rfl) ?_ _
  refine NoPanic.normal ?_
  generalize (W8x.setCell ⟨h,0,none⟩ (.string (decB m))).setCell ⟨h,1,none⟩ (.string (decB e))=WB at *
  have p0:=D2.out.c0
  have p1:=D2.out.c1
  have hms:=decB_size m
  have hes:=decB_size e
  by_cases f1:(Lib.decDigits m).length≤2000
  ·have i1:¬ (2000:Int)<((decB m).size:Int):=by omega
   by_cases f2:(Lib.decDigits e).length≤2000
   ·have i2:¬ (2000:Int)<((decB e).size:Int):=by omega
    have VS:Hid (shV sb m e=((if (sb && decide (0<m))=true then ⟨#[45]⟩ ++ decB m else decB m),decB e,0)):=by unfold Hid shV;rw[if_pos (by simp[f1,f2])]
    have hmb:¬ (9223372036854775807:Int)<1+((decB m).size:Int):=by omega
    have hmb':¬ 9223372036854775807<1+(decB m).size:=by omega
    clear f1 f2 hms hes
    cases sb
    ·have RS2:Hid (rr=(decB m,decB e,0)):=by unfold Hid;rw[RS.out,VS.out];rfl
     clear RS VS hmb hmb'
     obtain⟨W9,hW9⟩:∃ W9,two WB (w.heap.size+1) (.string (decB m)) (.string (decB e))=W9:=⟨_,rfl⟩
     have R9:B2 W9 (w.heap.size+1) (.string (decB m)) (.string (decB e)):=by rw[←hW9];exact JR.out.set _ _
     have PP:Hid (OpPost rr w (.returned (.tuple #[.agg #[.string (decB m),.string (decB e)],.int .i64 0])) W9):=by
      rw[←hW9]
      exact⟨by rw[RS2.out],below_two JB.out (by omega) _ _⟩
     have c0:=JR.out.c0
     have c1':=JR.out.c1
     have cf0:=JR.out.fr 0
     have cf1:=JR.out.fr 1
     obtain⟨r0,r1,_,_⟩:=id R9
     unfold two at hW9
     clear R9
     go_wp2_with fail
     exact bodyPost_ret (v:=.tuple #[.agg #[.string (decB m),.string (decB e)],.int .i64 0]) (by simp[results,Tryz.results17,go_sem,r0,r1]) rfl PP.out
    ·have RS2:Hid (rr=(⟨#[45]⟩ ++ decB m,decB e,0)):=by
      unfold Hid
      rw[RS.out,VS.out,SBM.out]
      rfl
     clear RS VS
     obtain⟨WC,hWC⟩:∃ W,WB.setCell ⟨h,0,none⟩ (.string (⟨#[45]⟩ ++ decB m))=W:=⟨_,rfl⟩
     have JR2:Hid (B2 WC (w.heap.size+1) (.string ⟨#[]⟩) (.string ⟨#[]⟩)):=by
      rw[←hWC]
      have ne:∀ o,(⟨h,0,none⟩:Addr)≠⟨w.heap.size+1,o,none⟩:=fun o e=>by injection e with e1 _;have:=GE.out;omega
      exact⟨(World.cell?_setCell_other _ _ _ _ (ne 0)).trans JR.out.c0,(World.cell?_setCell_other _ _ _ _ (ne 1)).trans JR.out.c1,fun o=>by rw[World.frozen?_setCell];exact JR.out.fr o,by simpa using JR.out.lt⟩
     have JB2:Hid (Below w.heap.size w WC):=by
      rw[←hWC]
      exact JB.out.setCell (p:=⟨h,0,none⟩) (by have:=GE.out;show w.heap.size≤h;omega) _
     have v0:WC.cell? ⟨h,0,none⟩=some (.string (⟨#[45]⟩ ++ decB m)):=by rw[←hWC];exact World.cell?_setCell_same _ _ _ p0
     have v1:WC.cell? ⟨h,1,none⟩=some (.string (decB e)):=by rw[←hWC,World.cell?_setCell_other _ _ _ _ (qne (by decide))];exact p1
     have pf0:=D2.out.fr 0
     clear JR JB D2
     have JR:=JR2
     have JB:=JB2
     clear JR2 JB2
     obtain⟨W9,hW9⟩:∃ W9,two WC (w.heap.size+1) (.string (⟨#[45]⟩ ++ decB m)) (.string (decB e))=W9:=⟨_,rfl⟩
     have R9:B2 W9 (w.heap.size+1) (.string (⟨#[45]⟩ ++ decB m)) (.string (decB e)):=by rw[←hW9];exact JR.out.set _ _
     have PP:Hid (OpPost rr w (.returned (.tuple #[.agg #[.string (⟨#[45]⟩ ++ decB m),.string (decB e)],.int .i64 0])) W9):=by
      rw[←hW9]
      exact⟨by rw[RS2.out],below_two JB.out (by omega) _ _⟩
     have c0:=JR.out.c0
     have c1':=JR.out.c1
     have cf0:=JR.out.fr 0
     have cf1:=JR.out.fr 1
     obtain⟨r0,r1,_,_⟩:=id R9
     unfold two at hW9
     clear R9
     go_wp2_with fail
     exact bodyPost_ret (v:=.tuple #[.agg #[.string (⟨#[45]⟩ ++ decB m),.string (decB e)],.int .i64 0]) (by simp[results,Tryz.results17,go_sem,r0,r1]) rfl PP.out
   ·have i2:(2000:Int)<((decB e).size:Int):=by omega
    have RS2:Hid (rr=(⟨#[]⟩,⟨#[]⟩,2)):=by unfold Hid;rw[RS.out];unfold shV;rw[if_neg (by simp[f2])]
    clear f1 f2 RS hms hes
    obtain⟨W9,hW9⟩:∃ W9,two WB (w.heap.size+1) (.string ⟨#[]⟩) (.string ⟨#[]⟩)=W9:=⟨_,rfl⟩
    have R9:B2 W9 (w.heap.size+1) (.string ⟨#[]⟩) (.string ⟨#[]⟩):=by rw[←hW9];exact JR.out.set _ _
    have PP:Hid (OpPost rr w (.returned (.tuple #[.agg #[.string ⟨#[]⟩,.string ⟨#[]⟩],.int .i64 2])) W9):=by
     rw[←hW9]
     exact⟨by rw[RS2.out],below_two JB.out (by omega) _ _⟩
    have c0:=JR.out.c0
    have c1':=JR.out.c1
    have cf0:=JR.out.fr 0
    have cf1:=JR.out.fr 1
    obtain⟨r0,r1,_,_⟩:=id R9
    unfold two at hW9
    clear R9
    go_wp2_with fail
    exact bodyPost_ret (v:=.tuple #[.agg #[.string ⟨#[]⟩,.string ⟨#[]⟩],.int .i64 2]) (by simp[results,Tryz.results17,go_sem,r0,r1]) rfl PP.out
  ·have i1:(2000:Int)<((decB m).size:Int):=by omega
   have RS2:Hid (rr=(⟨#[]⟩,⟨#[]⟩,2)):=by unfold Hid;rw[RS.out];unfold shV;rw[if_neg (by simp[f1])]
   clear f1 RS hms hes
   obtain⟨W9,hW9⟩:∃ W9,two WB (w.heap.size+1) (.string ⟨#[]⟩) (.string ⟨#[]⟩)=W9:=⟨_,rfl⟩
   have R9:B2 W9 (w.heap.size+1) (.string ⟨#[]⟩) (.string ⟨#[]⟩):=by rw[←hW9];exact JR.out.set _ _
   have PP:Hid (OpPost rr w (.returned (.tuple #[.agg #[.string ⟨#[]⟩,.string ⟨#[]⟩],.int .i64 2])) W9):=by
    rw[←hW9]
    exact⟨by rw[RS2.out],below_two JB.out (by omega) _ _⟩
   have c0:=JR.out.c0
   have c1':=JR.out.c1
   have cf0:=JR.out.fr 0
   have cf1:=JR.out.fr 1
   obtain⟨r0,r1,_,_⟩:=id R9
   unfold two at hW9
   clear R9
   go_wp2_with fail
   exact bodyPost_ret (v:=.tuple #[.agg #[.string ⟨#[]⟩,.string ⟨#[]⟩],.int .i64 2]) (by simp[results,Tryz.results17,go_sem,r0,r1]) rfl PP.out
open Go.WideMaps Go.Maps
theorem kap_val{q n ch n1 d1 n2 d2 n3 d3:Nat} {b1 b2 b3:Bool} (hn:0<n) (hc:ch<n*n) (hd1:0<d1) (hd2:0<d2) (hd3:0<d3)
  (e1:sg b1 n1*((n*(n*n):Nat):Int)=(sg false (q*(n*n))-sg false (ch*n))*(d1:Int))
  (e2:sg b2 n2*((1*(n*n):Nat):Int)=(sg false (1*(n*n))-sg false (ch*1))*(d2:Int))
  (e3:sg b3 n3*((d1*n2:Nat):Int)=sg (b1 != b2) (n1*d2)*(d3:Int)) :
  raR (zv b3 n3) d3=raR ((q*n:Nat)-(ch:Int)) ((n*n:Nat)-(ch:Int)):=by
 have hz:∀ (b:Bool) (n:Nat),zv b n=sg b n:=fun b n=>rfl
 have hN:(0:Int)<((n*n:Nat):Int):=by have:=Nat.mul_pos hn hn;omega
 have hp:(0:Int)<((n*n:Nat):Int)-(ch:Int):=by omega
 have g1:sg b1 n1*(n:Int)*(n:Int)=((q:Int)*n-ch)*d1:=by
  have s1:sg false (q*(n*n))=(q:Int)*(n*n):=by simp[sg]
  have s2:sg false (ch*n)=(ch:Int)*n:=by simp[sg]
  rw[s1,s2]at e1
  have hn0:(n:Int)≠0:=by omega
  apply Int.eq_of_mul_eq_mul_left hn0
  have:((n*(n*n):Nat):Int)=(n:Int)*(n*n):=by simp
  rw[this]at e1
  grind
 have g2:sg b2 n2*(n:Int)*(n:Int)=((n:Int)*n-ch)*d2:=by
  have s1:sg false (1*(n*n))=(n:Int)*n:=by simp[sg]
  have s2:sg false (ch*1)=(ch:Int):=by simp[sg]
  rw[s1,s2]at e2
  have:((1*(n*n):Nat):Int)=(n:Int)*n:=by simp
  rw[this]at e2
  rw[Int.mul_assoc]
  exact e2
 have hp2:(0:Int)<(n:Int)*n-ch:=by simpa using hp
 have hb:b2=false:=by
  cases b2
  ·rfl
  ·exfalso
   have l1:0<((n:Int)*n-ch)*d2:=Int.mul_pos hp2 (by omega)
   have l2:sg true n2*(n:Int)*(n:Int)≤0:=by
    have:sg true n2*(n:Int)*(n:Int)=-((n2*n*n:Nat):Int):=by simp[sg,Int.neg_mul]
    omega
   omega
 subst hb
 have g3:sg b3 n3*(d1:Int)*n2=sg b1 n1*d2*d3:=by
  have s1:sg (b1 != false) (n1*d2)=sg b1 n1*d2:=by cases b1<;>simp[sg,Int.neg_mul]
  rw[s1]at e3
  have:((d1*n2:Nat):Int)=(d1:Int)*n2:=by simp
  rw[this]at e3
  rw[Int.mul_assoc]
  exact e3
 have g2':(n2:Int)*n*n=((n:Int)*n-ch)*d2:=g2
 refine raR_eq (by omega) (by omega) ?_
 rw[hz]
 generalize sg b3 n3=X at *
 generalize sg b1 n1=A at *
 have c1:((q*n:Nat):Int)=(q:Int)*n:=by simp
 have c2:((n*n:Nat):Int)=(n:Int)*n:=by simp
 rw[c1,c2]
 have hd:(d1:Int)*d2≠0:=Int.mul_ne_zero (by omega) (by omega)
 apply Int.eq_of_mul_eq_mul_left hd
 clear e1 e2 e3
 grind
theorem xsg_abs(b:Bool)(n:Nat):(sg b n).natAbs=n:=by cases b<;>simp[sg]
theorem fv_bound{b:Bool}{n d y:Nat}{x:Int}(hy:0<y)(hg:Nat.gcd n d=1)(e:sg b n*(y:Int)=x*(d:Int)):n≤x.natAbs∧d≤y:=by
 have e2:n*y=x.natAbs*d:=by
  have:=congrArg Int.natAbs e
  rw[Int.natAbs_mul,Int.natAbs_mul,xsg_abs,Int.natAbs_natCast,Int.natAbs_natCast]at this
  exact this
 have hc:Nat.Coprime n d:=hg
 refine⟨?_,Nat.le_of_dvd hy (Nat.Coprime.dvd_of_dvd_mul_left hc.symm ⟨x.natAbs,by rw[e2,Nat.mul_comm]⟩)⟩
 rcases Nat.eq_zero_or_pos x.natAbs with h|h
 ·rw[h,Nat.zero_mul]at e2
  rcases Nat.mul_eq_zero.1 e2 with h2|h2<;>omega
 ·exact Nat.le_of_dvd h (Nat.Coprime.dvd_of_dvd_mul_right hc ⟨y,e2.symm⟩)
theorem tp_two:tp 2=1000000000000000000:=by rw[show (2:Nat)=1+1 from rfl,tp_add,tp_one]
theorem fv_tp{b:Bool} {n d y k:Nat} {x:Int} (hk:12≤k) (hy:0<y) (lx:x.natAbs<tp k) (ly:y<tp k) (e:sg b n*(y:Int)=x*(d:Int))
  (h:(n<tp 12∧d<tp 12)∨Nat.gcd n d=1):n<tp k∧d<tp k:=by
 rcases h with ⟨h1,h2⟩|h
 ·have:=tp_mono hk
  exact⟨Nat.lt_of_lt_of_le h1 this,Nat.lt_of_lt_of_le h2 this⟩
 ·have:=fv_bound hy h e
  omega
theorem tp_up{n k:Nat}(j:Nat)(h:n<tp k)(hk:k≤j):n<tp j:=Nat.lt_of_lt_of_le h (tp_mono hk)
theorem tp_small{n:Nat}(h:n<1000000000000000000):n<tp 12:=Nat.lt_of_lt_of_le (show n<tp 2 by rw[tp_two];exact h) (tp_mono (by decide))
theorem minus_small{q n ch s2:Nat}(h1:q≤20000)(h2:ch≤400000000)(h3:n≤20000)(h4:s2≤400000000):(sg false (q*s2)-sg false (ch*n)).natAbs<tp 12:=by
 have l1:q*s2≤20000*400000000:=Nat.mul_le_mul h1 h4
 have l2:ch*n≤400000000*20000:=Nat.mul_le_mul h2 h3
 refine tp_small ?_
 unfold sg
 generalize q*s2=A at *
 generalize ch*n=B at *
 simp only[Bool.false_eq_true,if_false]
 omega
theorem minus_small2{ch s2:Nat}(h2:ch≤400000000)(h4:s2≤400000000):(sg false (1*s2)-sg false (ch*1)).natAbs<tp 12:=by
 refine tp_small ?_
 unfold sg
 simp only[Bool.false_eq_true,if_false]
 omega
theorem small3{n s2:Nat}(h3:n≤20000)(h4:s2≤400000000):n*s2<1000000000000000000:=by
 have l1:n*s2≤20000*400000000:=Nat.mul_le_mul h3 h4
 omega
theorem kap_pos{ch s2 n2 d2:Nat}{b2:Bool}(hc:ch<s2)(hd2:0<d2)(e2:sg b2 n2*((1*s2:Nat):Int)=(sg false (1*s2)-sg false (ch*1))*(d2:Int)):0<n2:=by
 rcases Nat.eq_zero_or_pos n2 with h|h
 ·exfalso
  subst h
  have l1:0<((s2:Int)-ch)*d2:=Int.mul_pos (by omega) (by omega)
  have z:sg b2 0=0:=by cases b2<;>rfl
  have s1:sg false (1*s2)-sg false (ch*1)=(s2:Int)-ch:=by simp[sg]
  rw[z,s1,Int.zero_mul]at e2
  omega
 ·exact h
theorem xtp_mul_lt{a b i j:Nat}(ha:a<tp i)(hb:b<tp j):a*b<tp (i+j):=by
 rw[tp_add]
 exact Nat.mul_lt_mul_of_lt_of_le ha (Nat.le_of_lt hb) (tp_pos _)
def S3k(g:Nat)(v0 v1 v2:Value)(W:World):Prop:=W.cell? ⟨g,0,none⟩=some v0∧W.cell? ⟨g,1,none⟩=some v1∧W.cell? ⟨g,2,none⟩=some v2
theorem s3k_of{W:World}{g:Nat}{v0 v1 v2:Value}(h:Q3 W g v0 v1 v2):S3k g v0 v1 v2 W:=⟨h.c0,h.c1,h.c2⟩
set_option maxHeartbeats 8000000 in
theorem rKappa_c(sa:Option Addr) (c:Nat) (l:List Nd) (a2:Option Addr) (c2:Nat) (C:List Cg) (a b:Int) (w:World) (hl:RdN w sa l) (hf:Fits l) (hC:RdC w a2 C) (hE:Pow w) :
  Calls Tryz.prog 8 #[.slice sa l.length c,.slice a2 C.length c2,.int .i64 a,.int .i64 b] w (OpPost (kapS l C a b) w):=by
 obtain⟨W1,hW1⟩:∃ W1,w.alloc (.cells #[.string ⟨#[]⟩,.string ⟨#[]⟩] 32)=W1:=⟨_,rfl⟩
 have JR1:Hid (B2 W1 w.heap.size (.string ⟨#[]⟩) (.string ⟨#[]⟩)):=by rw[←hW1];exact B2.made _ _ _ _
 have JB1:Hid (Below w.heap.size w W1):=by rw[←hW1];exact bel_one _ _
 have HC:=Zh (rcheckPair_c sa c l a2 c2 C a b W1 (hl.below JB1.out) hf (hC.below JB1.out))
 have HL:=Zh (hl.below JB1.out)
 have HCC:=Zh (hC.below JB1.out)
 have PW:=Zh (hE.below JB1.out)
 have h9:=hC.1
 have h8:=hl.1
 clear hl hf hC hE
 by_cases hz:coS l C a b≠0
 ·have KR:kapS l C a b=(⟨#[]⟩,⟨#[]⟩,coS l C a b):=by unfold kapS;rw[if_pos hz]
  obtain⟨f,hfl⟩:∃ f,coS l C a b=f:=⟨_,rfl⟩
  rw[hfl]at HC hz KR
  have f2:(f != 0)=true:=by rw[bne,beq_eq_false_iff_ne.2 hz];rfl
  clear hfl hz HL HCC PW
  go_enter Tryz.func8,Tryz.ntmps8
  go_wp2_with fail
  (with_reducible refine HC.out.mono ?_)
  rintro e W2 ⟨rfl,b2⟩
  have J2:=Zh (JR1.out.keep b2)
  have BW2:=Zh (JB1.out.trans (b2.mono JB1.out.size))
  clear b2 HC JR1 JB1
  obtain⟨W9,hW9⟩:∃ W9,two W2 w.heap.size (.string ⟨#[]⟩) (.string ⟨#[]⟩)=W9:=⟨_,rfl⟩
  have R9:B2 W9 w.heap.size (.string ⟨#[]⟩) (.string ⟨#[]⟩):=by rw[←hW9];exact J2.out.set _ _
  have PP:Hid (OpPost (kapS l C a b) w (.returned (.tuple #[.agg #[.string ⟨#[]⟩,.string ⟨#[]⟩],.int .i64 f])) W9):=by
   rw[←hW9,KR]
   exact⟨rfl,below_two BW2.out (Nat.le_refl _) _ _⟩
  have q0:=J2.out.c0
  have q1:=J2.out.c1
  have g0:=J2.out.fr 0
  have g1:=J2.out.fr 1
  obtain⟨r0,r1,_,_⟩:=id R9
  unfold two at hW9
  clear R9
  go_wp2_with fail
  exact bodyPost_ret (v:=.tuple #[.agg #[.string ⟨#[]⟩,.string ⟨#[]⟩],.int .i64 f]) (by simp[results,Tryz.results8,go_sem,r0,r1]) rfl PP.out
 have hz:coS l C a b=0:=by omega
 have hz2:forS l C=0:=by
  unfold coS at hz
  by_cases h:forS l C≠0
  ·rw[if_pos h]at hz;exact absurd hz h
  ·omega
 obtain⟨F,hcg,hCn,_⟩:=for_ok hz2
 have HIF:=Zh (prs_inF hz2 a b)
 have HF:=Zh F
 have hl6:=F.le
 have KS:Hid (kapS l C a b=if (prs a b (cases_ C)).length=0 then (⟨#[]⟩,⟨#[]⟩,9) else kaS (prs a b (cases_ C))):=by unfold Hid kapS;rw[if_neg (by simpa using hz)]
 have HK:=Zh (fun W (h:Below W1.heap.size W1 W)=>rcommon_c a2 c2 C a b W (HCC.out.below h) hcg)
 have PLN:Hid ((prs a b (cases_ C)).length≤20000):=Nat.le_trans (Nat.le_trans (prs_len a b (cases_ C)) (cases_len C)) hCn
 rw[hz]at HC
 obtain⟨P,hPP⟩:∃ P,prs a b (cases_ C)=P:=⟨_,rfl⟩
 rw[hPP]at HIF KS HK PLN
 clear hz hz2 F hcg hCn hPP
 go_enter Tryz.func8,Tryz.ntmps8
 go_wp2_with fail
 (with_reducible refine HC.out.mono ?_)
 rintro e W2 ⟨rfl,b2⟩
 have K2:=Zh (HK.out W2 b2)
 have B2x:=Zh b2
 clear b2 HC HK
 go_wp2_with fail
 (with_reducible refine K2.out.mono ?_)
 rintro e W3 ⟨s,cs,rfl,hP,b3⟩
 have B13:=Zh (B2x.out.trans (b3.mono B2x.out.size))
 have J3:=Zh (JR1.out.keep B13.out)
 have BW3:=Zh (JB1.out.trans (B13.out.mono JB1.out.size))
 have HP:=Zh hP
 have HL3:=Zh (HL.out.below B13.out)
 have PW3:=Zh (PW.out.below B13.out)
 have hP9:=hP.1
 have hPn:=PLN.out
 clear b3 hP K2 B2x B13 JR1 JB1 HL PW HCC hW1
 by_cases h0:P.length=0
 ·have KR:kapS l C a b=(⟨#[]⟩,⟨#[]⟩,9):=by rw[KS.out,if_pos h0]
  have h0':(P.length:Int)=0:=by omega
  clear KS h0
  obtain⟨W9,hW9⟩:∃ W9,two W3 w.heap.size (.string ⟨#[]⟩) (.string ⟨#[]⟩)=W9:=⟨_,rfl⟩
  have R9:B2 W9 w.heap.size (.string ⟨#[]⟩) (.string ⟨#[]⟩):=by rw[←hW9];exact J3.out.set _ _
  have PP:Hid (OpPost (kapS l C a b) w (.returned (.tuple #[.agg #[.string ⟨#[]⟩,.string ⟨#[]⟩],.int .i64 9])) W9):=by
   rw[←hW9,KR]
   exact⟨rfl,below_two BW3.out (Nat.le_refl _) _ _⟩
  have q0:=J3.out.c0
  have q1:=J3.out.c1
  have g0:=J3.out.fr 0
  have g1:=J3.out.fr 1
  obtain⟨r0,r1,_,_⟩:=id R9
  unfold two at hW9
  clear R9
  go_wp2_with fail
  exact bodyPost_ret (v:=.tuple #[.agg #[.string ⟨#[]⟩,.string ⟨#[]⟩],.int .i64 9]) (by simp[results,Tryz.results8,go_sem,r0,r1]) rfl PP.out
 have KR:Hid (kapS l C a b=kaS P):=by unfold Hid;rw[KS.out,if_neg h0]
 have h0':((P.length:Int) == 0)=false:=by rw[beq_eq_false_iff_ne];omega
 have HN0:=Zh h0
 have NE:=Zh (nE_le P)
 clear KS h0
 go_wp2_with fail
 go_loopw [13,44] (fun v i wr=>∃ j:Nat,j≤P.length∧i=.int .i64 j∧v=.int .i64 (nE (P.take j):Nat)∧Hid (Below W3.heap.size W3 wr)) (fun _ i _=>P.length-(intOf i).toNat)
 case atStart=>exact⟨0,Nat.zero_le _,rfl,by simp[nE],Below.refl _ _⟩
 case round=>
  obtain⟨j,hj,rfl,rfl,hB⟩:=hrel
  by_cases hjl:j<P.length
  ·have hjl':(j:Int)<(P.length:Int):=by omega
   obtain⟨b',off,rfl,u0,u1⟩:=(HP.out.below hB.out).at_ hjl
   have NX1:=Zh (nE_next hjl)
   have ln:nE (P.take j)≤20000:=by have:=nE_le (P.take j);rw[List.length_take]at this;omega
   obtain⟨W4,hW4⟩:∃ W4,wr.alloc (.cells #[.int .i64 (pn P j).1,.int .i64 (pn P j).2] 46)=W4:=⟨_,rfl⟩
   have B4:Hid (Below W3.heap.size W3 W4):=by unfold Hid;rw[←hW4];exact hB.out.trans ((bel_one _ _).mono hB.out.size)
   have v0:W4.cell? ⟨wr.heap.size,0,none⟩=some (.int .i64 (pn P j).1):=by rw[←hW4,World.cell?_alloc_new];rfl
   have v1:W4.cell? ⟨wr.heap.size,1,none⟩=some (.int .i64 (pn P j).2):=by rw[←hW4,World.cell?_alloc_new];rfl
   clear hB
   by_cases he:(pn P j).1=(pn P j).2
   ·have eb:((pn P j).1 == (pn P j).2)=true:=by rw[beq_iff_eq];exact he
    have NX:Hid (nE (P.take (j+1))=nE (P.take j)+1):=by unfold Hid;rw[NX1.out,if_pos he]
    clear he NX1
    go_wp2_with fail
    go_roundw
    case rel=>exact⟨j+1,by omega,by go_num,by rw[NX.out];go_num,B4.out⟩
    case measure=>simp[intOf];omega
   ·have eb:((pn P j).1 == (pn P j).2)=false:=by rw[beq_eq_false_iff_ne];exact he
    have NX:Hid (nE (P.take (j+1))=nE (P.take j)):=by unfold Hid;rw[NX1.out,if_neg he,Nat.add_zero]
    clear he NX1
    go_wp2_with fail
    go_roundw
    case rel=>exact⟨j+1,by omega,by go_num,by rw[NX.out],B4.out⟩
    case measure=>simp[intOf];omega
  ·obtain rfl:j=P.length:=by omega
   rw[List.take_length]
   clear hjl
   have B3:=Zh hB.out
   go_wp2_with fail
   go_loopw [14,58] (fun v i wr=>∃ k:Nat,k≤l.length∧i=.int .i64 k∧v=.int .i64 (exN l P k:Nat)∧Hid (Below W3.heap.size W3 wr)) (fun _ i _=>l.length-(intOf i).toNat)
   case atStart=>exact⟨0,Nat.zero_le _,rfl,rfl,B3.out⟩
   case round=>
    clear hB B3
    obtain⟨k,hk,rfl,rfl,hB⟩:=hrel
    by_cases hkl:k<l.length
    ·have hkl':(k:Int)<(l.length:Int):=by omega
     obtain⟨b',off,rfl,u0,u1,u2⟩:=(HL3.out.below hB.out).at_ hkl
     obtain⟨cdv,hcdv⟩:∃ cdv,(nd l k).cd=cdv:=⟨_,rfl⟩
     have NX1:Hid (exN l P (k+1)=exN l P k+nF P cdv*nS P cdv):=by rw[←hcdv];rfl
     have LE1:=Zh (exN_le HF.out.ord HIF.out (k:=k) (by omega))
     have LE2:=Zh (exN_le HF.out.ord HIF.out (k:=k+1) (by omega))
     have SQ:=Zh (sq_le PLN.out)
     obtain⟨W5,hW5⟩:∃ W5,wr.alloc (.cells #[.int .i64 cdv,.int .i64 (nd l k).pr,.string (nd l k).ti] 45)=W5:=⟨_,rfl⟩
     have B5:Hid (Below W3.heap.size W3 W5):=by unfold Hid;rw[←hW5];exact hB.out.trans ((bel_one _ _).mono hB.out.size)
     have v0:W5.cell? ⟨wr.heap.size,0,none⟩=some (.int .i64 cdv):=by rw[←hW5,World.cell?_alloc_new];rfl
     have z0:Hid (wr.heap.size<W5.heap.size):=by unfold Hid;rw[←hW5];simp
     clear hB
     go_wp2_with fail
     clear hcdv u0 u1 u2 hW5
     obtain⟨zz,hzz⟩:∃ zz,wr.heap.size=zz:=⟨_,rfl⟩
     rw[hzz]at v0 z0 ⊢
     clear hzz
     go_loopw [19,20,64] (fun x y i wr=>∃ j:Nat,j≤P.length∧i=.int .i64 j∧x=.int .i64 (nF (P.take j) cdv:Nat)∧y=.int .i64 (nS (P.take j) cdv:Nat)∧Hid (Below W5.heap.size W5 wr)) (fun _ _ i _=>P.length-(intOf i).toNat)
     case atStart=>exact⟨0,Nat.zero_le _,rfl,by simp[nF],by simp[nS],Below.refl _ _⟩
     case round=>
      obtain⟨j,hj,rfl,rfl,rfl,hB⟩:=hrel
      by_cases hjl:j<P.length
      ·have hjl':(j:Int)<(P.length:Int):=by omega
       obtain⟨b',off,rfl,u0,u1⟩:=(HP.out.below (B5.out.trans (hB.out.mono B5.out.size))).at_ hjl
       have v0':=(hB.out.cell (p:=⟨zz,0,none⟩) z0.out).trans v0
       have NF1:=Zh (nF_next hjl cdv)
       have NS1:=Zh (nS_next hjl cdv)
       have ln1:nF (P.take j) cdv≤20000:=by have:=nF_le (P.take j) cdv;rw[List.length_take]at this;omega
       have ln2:nS (P.take j) cdv≤20000:=by have:=nS_le (P.take j) cdv;rw[List.length_take]at this;omega
       obtain⟨W6,hW6⟩:∃ W6,wr.alloc (.cells #[.int .i64 (pn P j).1,.int .i64 (pn P j).2] 46)=W6:=⟨_,rfl⟩
       have B6:Hid (Below W5.heap.size W5 W6):=by unfold Hid;rw[←hW6];exact hB.out.trans ((bel_one _ _).mono hB.out.size)
       have vp0:W6.cell? ⟨wr.heap.size,0,none⟩=some (.int .i64 (pn P j).1):=by rw[←hW6,World.cell?_alloc_new];rfl
       have vp1:W6.cell? ⟨wr.heap.size,1,none⟩=some (.int .i64 (pn P j).2):=by rw[←hW6,World.cell?_alloc_new];rfl
       have v6:=(B6.out.cell (p:=⟨zz,0,none⟩) z0.out).trans v0
       clear hB
       by_cases hx:(pn P j).1=cdv
       ·have ex:((pn P j).1 == cdv)=true:=by rw[beq_iff_eq];exact hx
        have NF2:Hid (nF (P.take (j+1)) cdv=nF (P.take j) cdv+1):=by unfold Hid;rw[←NF1.out,if_pos hx.symm,hx]
        by_cases hy:(pn P j).2=cdv
        ·have ey:((pn P j).2 == cdv)=true:=by rw[beq_iff_eq];exact hy
         have NS2:Hid (nS (P.take (j+1)) cdv=nS (P.take j) cdv+1):=by unfold Hid;rw[←NS1.out,if_pos hy.symm,hy]
         clear hx hy NF1 NS1 v0 v0'
         go_wp2_with fail
         go_roundw
         case rel=>exact⟨j+1,by omega,by go_num,by rw[NF2.out];go_num,by rw[NS2.out];go_num,B6.out⟩
         case measure=>simp[intOf];omega
        ·have ey:((pn P j).2 == cdv)=false:=by rw[beq_eq_false_iff_ne];exact hy
         have NS2:Hid (nS (P.take (j+1)) cdv=nS (P.take j) cdv):=by unfold Hid;rw[←NS1.out,if_neg (fun e=>hy e.symm)]
         clear hx hy NF1 NS1 v0 v0'
         go_wp2_with fail
         go_roundw
         case rel=>exact⟨j+1,by omega,by go_num,by rw[NF2.out];go_num,by rw[NS2.out],B6.out⟩
         case measure=>simp[intOf];omega
       ·have ex:((pn P j).1 == cdv)=false:=by rw[beq_eq_false_iff_ne];exact hx
        have NF2:Hid (nF (P.take (j+1)) cdv=nF (P.take j) cdv):=by unfold Hid;rw[←NF1.out,if_neg (fun e=>hx e.symm)]
        by_cases hy:(pn P j).2=cdv
        ·have ey:((pn P j).2 == cdv)=true:=by rw[beq_iff_eq];exact hy
         have NS2:Hid (nS (P.take (j+1)) cdv=nS (P.take j) cdv+1):=by unfold Hid;rw[←NS1.out,if_pos hy.symm,hy]
         clear hx hy NF1 NS1 v0 v0'
         go_wp2_with fail
         go_roundw
         case rel=>exact⟨j+1,by omega,by go_num,by rw[NF2.out],by rw[NS2.out];go_num,B6.out⟩
         case measure=>simp[intOf];omega
        ·have ey:((pn P j).2 == cdv)=false:=by rw[beq_eq_false_iff_ne];exact hy
         have NS2:Hid (nS (P.take (j+1)) cdv=nS (P.take j) cdv):=by unfold Hid;rw[←NS1.out,if_neg (fun e=>hy e.symm)]
         clear hx hy NF1 NS1 v0 v0'
         go_wp2_with fail
         go_roundw
         case rel=>exact⟨j+1,by omega,by go_num,by rw[NF2.out],by rw[NS2.out],B6.out⟩
         case measure=>simp[intOf];omega
      ·obtain rfl:j=P.length:=by omega
       rw[List.take_length]
       have B7:=Zh (B5.out.trans (hB.out.mono B5.out.size))
       have lf:=nF_le P cdv
       have ls:=nS_le P cdv
       obtain⟨f,hf⟩:∃ f,nF P cdv=f:=⟨_,rfl⟩
       obtain⟨g,hg⟩:∃ g,nS P cdv=g:=⟨_,rfl⟩
       rw[hf]at NX1 lf ⊢
       rw[hg]at NX1 ls ⊢
       obtain⟨m,hm⟩:∃ m,f*g=m:=⟨_,rfl⟩
       obtain⟨x,hx⟩:∃ x,exN l P k=x:=⟨_,rfl⟩
       have hmul:(f:Int)*(g:Int)=(m:Int):=by rw[←hm];simp
       rw[hm,hx]at NX1
       rw[hx]at LE1 ⊢
       have hb:x+m≤400000000:=by have h1:=LE2.out;rw[NX1.out]at h1;exact Nat.le_trans h1 SQ.out
       clear hjl hB hf hg hm hx LE1 LE2 SQ v0 B5 z0
       go_wp2_with fail
       go_roundw
       case rel=>exact⟨k+1,by omega,by go_num,by rw[NX1.out];go_num,B7.out⟩
       case measure=>simp[intOf];omega
    ·obtain rfl:k=l.length:=by omega
     rw[exN_all HF.out.ord HIF.out]
     have J7:=Zh (J3.out.keep hB.out)
     have BW7:=Zh (BW3.out.trans (hB.out.mono BW3.out.size))
     have PW7:=Zh (PW3.out.below hB.out)
     have CL:=Zh (chN_le P)
     clear hkl hB HP J3 BW3 PW3 HL3 HF HIF
     obtain⟨n,hn⟩:∃ n,P.length=n:=⟨_,rfl⟩
     obtain⟨q,hq⟩:∃ q,nE P=q:=⟨_,rfl⟩
     obtain⟨ch,hch⟩:∃ ch,chN P=ch:=⟨_,rfl⟩
     have KK:Hid (kaS P=roS (if ch=n*n then ((1:Int),(1:Int)) else ((q*n:Nat)-(ch:Int),(n*n:Nat)-(ch:Int))).1 (if ch=n*n then ((1:Int),(1:Int)) else ((q*n:Nat)-(ch:Int),(n*n:Nat)-(ch:Int))).2):=by
      unfold Hid kaS kaN
      rw[hn,hq,hch]
     rw[hn]at HN0 NE CL hPn ⊢
     rw[hq]at NE ⊢
     rw[hch]at CL ⊢
     clear hn hq hch
     have SQ:=Zh (sq_le hPn)
     obtain⟨s2,hs2⟩:∃ s2,n*n=s2:=⟨_,rfl⟩
     rw[hs2]at CL SQ KK
     have hall:(n:Int)*(n:Int)=(s2:Int):=by rw[←hs2];simp
     have hs9:s2≤400000000:=SQ.out
     have HS2:=Zh hs2
     clear hs2
     by_cases he:ch=s2
     ·subst he
      have RK:Hid (kapS l C a b=raR (zv false 1) (1:Nat)):=by
       unfold Hid
       rw[KR.out,KK.out,if_pos rfl]
       unfold roS
       rw[if_neg (by decide)]
       rfl
      have HW:Hid (Calls Tryz.prog 16 #[.int .i64 1] wr (FqP false 1 1 wr)):=whole_pos 1 wr (by decide)
      obtain⟨r,hr⟩:∃ r,raR (zv false 1) (1:Nat)=r:=⟨_,rfl⟩
      have T1:1<tp 90000:=tp_up 90000 (tp_small (n:=1) (by decide)) (by decide)
      have HRT:=Zh (fun W a1 a2 c1 c2 k1 k2 (h1:Nt W a1 k1 c1 1) (h2:Nt W a2 k2 c2 1) (hE:Pow W)=>ratio_c false a1 a2 c1 c2 k1 k2 1 1 W h1 h2 (by decide) T1 T1 hE)
      rw[hr]at HRT RK
      clear hr T1 KR KK
      go_wp2_with fail
      (with_reducible refine HW.out.mono ?_)
      rintro e W8 ⟨a1,k1,c1,a2,k2,c2,rfl,n1,n2,b8⟩
      have J8:=Zh (J7.out.keep b8)
      have BW8:=Zh (BW7.out.trans (b8.mono BW7.out.size))
      have HR8:=Zh (HRT.out W8 a1 a2 c1 c2 k1 k2 n1 n2 (PW7.out.below b8))
      clear n1 n2 b8 HW HRT J7 BW7 PW7
      go_wp2_with fail
      (with_reducible refine HR8.out.mono ?_)
      rintro e W10 ⟨rfl,b10⟩
      have J10:=Zh (J8.out.keep b10)
      have BW10:=Zh (BW8.out.trans (b10.mono BW8.out.size))
      clear b10 HR8 J8 BW8
      obtain⟨W9,hW9⟩:∃ W9,two W10 w.heap.size (.string r.1) (.string r.2.1)=W9:=⟨_,rfl⟩
      have R9:B2 W9 w.heap.size (.string r.1) (.string r.2.1):=by rw[←hW9];exact J10.out.set _ _
      have PP:Hid (OpPost (kapS l C a b) w (.returned (.tuple #[.agg #[.string r.1,.string r.2.1],.int .i64 r.2.2])) W9):=by
       rw[←hW9,RK.out]
       exact⟨rfl,below_two BW10.out (Nat.le_refl _) _ _⟩
      have q0:=J10.out.c0
      have q1:=J10.out.c1
      have g0:=J10.out.fr 0
      have g1:=J10.out.fr 1
      obtain⟨r0,r1,_,_⟩:=id R9
      unfold two at hW9
      clear R9
      go_wp2_with fail
      exact bodyPost_ret (v:=.tuple #[.agg #[.string r.1,.string r.2.1],.int .i64 r.2.2]) (by simp[results,Tryz.results8,go_sem,r0,r1]) rfl PP.out
     have hlt2:ch<s2:=by have:=CL.out;omega
     have he':((ch:Int) == (s2:Int))=false:=by rw[beq_eq_false_iff_ne];omega
     have HPT:=Zh (xpart_c ch s2 wr (by omega) (by omega))
     go_wp2_with fail
     (with_reducible refine HPT.out.mono ?_)
     rintro e W8 ⟨a1,k1,c1,a3,k3,c3,rfl,n1,n2,b8⟩
     obtain⟨W9,hW9⟩:∃ W9,W8.alloc (.cells #[.bool false,.slice a1 k1 c1,.slice a3 k3 c3] 51)=W9:=⟨_,rfl⟩
     have b9:Below wr.heap.size wr W9:=b8.trans ((by rw[←hW9];exact bel_one _ _:Below W8.heap.size W8 W9).mono b8.size)
     have b89:Below W8.heap.size W8 W9:=by rw[←hW9];exact bel_one _ _
     have X9:Hid (Q3 W9 W8.heap.size (.bool false) (.slice a1 k1 c1) (.slice a3 k3 c3)):=by unfold Hid;rw[←hW9];exact Q3.made _ _ _ _ _
     have J9:=Zh (J7.out.keep b9)
     have BW9:=Zh (BW7.out.trans (b9.mono BW7.out.size))
     have PW9:=Zh (PW7.out.below b9)
     have M1:=Zh (n1.below b89)
     have M2:=Zh (n2.below b89)
     have hN1:0<n:=by have:=HN0.out;omega
     have hs0:0<s2:=by omega
     have NEW:=Zh (show w.heap.size≠W8.heap.size by have:=J7.out.lt;have:=b8.size;omega)
     clear n1 n2 b8 b9 b89 HPT J7 BW7 PW7
     go_wp2_with fail
     clear hW9
     refine wp_region_noPanic ?_
     refine wp_region_held_drew (S:=S3k W8.heap.size (.bool false) (.slice a1 k1 c1) (.slice a3 k3 c3)) (by kernel_rfl) (s3k_of (X9.out.keep (Below.refl _ _).drew)) (fun hS=>?_)
     obtain⟨WD,hWD⟩:∃ W,W9.drew=W:=⟨_,rfl⟩
     have bD:Below W9.heap.size W9 WD:=by rw[←hWD];exact (Below.refl _ _).drew
     rw[hWD]at hS ⊢
     clear hWD
     have JX:=Zh (J9.out.keep bD)
     have BX:=Zh (BW9.out.trans (bD.mono BW9.out.size))
     have PX:=Zh (PW9.out.below bD)
     have XX:=Zh (X9.out.keep bD)
     have N1:=Zh (M1.out.below bD)
     have N2:=Zh (M2.out.below bD)
     clear bD J9 BW9 PW9 M1 M2 X9
     refine Zt (i:=0) (v:=?v0k) rfl (Or.inl ⟨by rfl,?hy0k⟩) ?rest0k
     case hy0k=>
      intro w hSw
      dsimp only[S3k]at hSw
      go_simp
      try with_reducible rfl
     simp only[Act.put,Zd,Ze,Zf,Za,Zb,Zc]
     refine Zt (i:=1) (v:=?v1k) rfl (Or.inl ⟨by rfl,?hy1k⟩) ?rest1k
     case hy1k=>
      intro w hSw
      dsimp only[S3k]at hSw
      go_simp
      try with_reducible rfl
     simp only[Act.put,Zd,Ze,Zf,Za,Zb,Zc]
     refine Zt (i:=3) (v:=?v3k) rfl (Or.inl ⟨by rfl,?hy3k⟩) ?rest3k
     case hy3k=>
      intro w hSw
      dsimp only[S3k]at hSw
      go_simp
      try with_reducible rfl
     simp only[Act.put,Zd,Ze,Zf,Za,Zb,Zc]
     refine Zt (i:=6) (v:=?v6k) rfl (Or.inl ⟨by rfl,?hy6k⟩) ?rest6k
     case hy6k=>
      intro w hSw
      dsimp only[S3k]at hSw
      go_simp
      try with_reducible rfl
     simp only[Act.put,Zd,Ze,Zf,Za,Zb,Zc]
     have up:Hid (∀ {x:Nat},x<1000000000000000000→x<tp 40000):=fun h=>tp_up 40000 (tp_small h) (by decide)
     have FE:=Zh (fun W (h1:Nt W a1 k1 c1 ch) (h2:Nt W a3 k3 c3 s2)=>(show Fn W ⟨false,a1,k1,c1,a3,k3,c3⟩ ch s2 from ⟨h1,h2,hs0,up.out (by omega),up.out (by omega)⟩))
     have hq20:q≤20000:=by have:=NE.out;omega
     have HPT:=Zh (xpart_c q n WD (by omega) (by omega))
     refine wpAnyH_ready (rs:=[2]) (by kernel_rfl) (by simp) ?_
     refine AllReadyH.cons rfl (fun K hK=>?_) AllReadyH.nil
     go_simp
     ((with_reducible refine HPT.out.mono ?_))
     rintro e V1 ⟨pa,pk,pc,pa',pk',pc',rfl,pm,pm',bb⟩
     try go_simp
     have JN2:=Zh (JX.out.keep bb)
     have BN2:=Zh (BX.out.trans (bb.mono BX.out.size))
     have PN2:=Zh (PX.out.below bb)
     have XN2:=Zh (XX.out.keep bb)
     have NN1:=Zh (N1.out.below bb)
     have NN2:=Zh (N2.out.below bb)
     have F1:=Zh (show Fn V1 ⟨false,pa,pk,pc,pa',pk',pc'⟩ q n from ⟨pm,pm',hN1,up.out (by omega),up.out (by omega)⟩)
     have hT:=s3k_of XN2.out
     refine hK.out _ _ hT (fun _=>?_)
     clear hK K hS bb JX BX PX XX N1 N2 HPT pm pm'
     have hS:=hT
     have JX:=JN2
     have BX:=BN2
     have PX:=PN2
     have XX:=XN2
     have N1:=NN1
     have N2:=NN2
     clear hT JN2 BN2 PN2 XN2 NN1 NN2
     try simp only[Act.put,Za,Zb,Zc]
     have HM:=minus_c _ _ _ _ _ _ V1 F1.out (FE.out V1 N1.out N2.out)
     dsimp only at HM
     have HM:=Zh HM
     refine wpAnyH_ready (rs:=[4]) (by kernel_rfl) (by simp) ?_
     refine AllReadyH.cons rfl (fun K hK=>?_) AllReadyH.nil
     go_simp
     ((with_reducible refine HM.out.mono ?_))
     rintro e V2 ⟨b1,x1,y1,⟨ga,gk,gc,ga',gk',gc',rfl,gm,gm',bb⟩,hd1,e1,o1⟩
     try go_simp
     have JN4:=Zh (JX.out.keep bb)
     have BN4:=Zh (BX.out.trans (bb.mono BX.out.size))
     have PN4:=Zh (PX.out.below bb)
     have XN4:=Zh (XX.out.keep bb)
     have NN1:=Zh (N1.out.below bb)
     have NN2:=Zh (N2.out.below bb)
     have T1:=Zh (fv_tp (k:=12) (by decide) (Nat.mul_pos hN1 hs0) (minus_small hq20 (by omega:ch≤400000000) hPn hs9) (tp_small (small3 hPn hs9)) e1 o1)
     have F3:=Zh (show Fn V2 ⟨b1,ga,gk,gc,ga',gk',gc'⟩ x1 y1 from ⟨gm,gm',hd1,tp_up 40000 T1.out.1 (by decide),tp_up 40000 T1.out.2 (by decide)⟩)
     have E1:=Zh e1
     have D1:=Zh hd1
     have hT:=s3k_of XN4.out
     refine hK.out _ _ hT (fun _=>?_)
     clear hK K hS bb JX BX PX XX N1 N2 HM F1 gm gm' e1 o1 hd1
     have hS:=hT
     have JX:=JN4
     have BX:=BN4
     have PX:=PN4
     have XX:=XN4
     have N1:=NN1
     have N2:=NN2
     clear hT JN4 BN4 PN4 XN4 NN1 NN2
     try simp only[Act.put,Za,Zb,Zc]
     have HW:Hid (Calls Tryz.prog 16 #[.int .i64 1] V2 (FqP false 1 1 V2)):=whole_pos 1 V2 (by decide)
     refine wpAnyH_ready (rs:=[5]) (by kernel_rfl) (by simp) ?_
     refine AllReadyH.cons rfl (fun K hK=>?_) AllReadyH.nil
     go_simp
     ((with_reducible refine HW.out.mono ?_))
     rintro e V3 ⟨ra,rk,rc,ra',rk',rc',rfl,rm,rm',bb⟩
     try go_simp
     have JN5:=Zh (JX.out.keep bb)
     have BN5:=Zh (BX.out.trans (bb.mono BX.out.size))
     have PN5:=Zh (PX.out.below bb)
     have XN5:=Zh (XX.out.keep bb)
     have NN1:=Zh (N1.out.below bb)
     have NN2:=Zh (N2.out.below bb)
     have F4:=Zh (show Fn V3 ⟨false,ra,rk,rc,ra',rk',rc'⟩ 1 1 from ⟨rm,rm',by decide,up.out (by decide),up.out (by decide)⟩)
     have F5:=Zh (F3.out.below bb)
     have hT:=s3k_of XN5.out
     refine hK.out _ _ hT (fun _=>?_)
     clear hK K hS bb JX BX PX XX N1 N2 HW F3 rm rm'
     have hS:=hT
     have JX:=JN5
     have BX:=BN5
     have PX:=PN5
     have XX:=XN5
     have N1:=NN1
     have N2:=NN2
     clear hT JN5 BN5 PN5 XN5 NN1 NN2
     try simp only[Act.put,Za,Zb,Zc]
     have HM:=minus_c _ _ _ _ _ _ V3 F4.out (FE.out V3 N1.out N2.out)
     dsimp only at HM
     have HM:=Zh HM
     refine wpAnyH_ready (rs:=[7]) (by kernel_rfl) (by simp) ?_
     refine AllReadyH.cons rfl (fun K hK=>?_) AllReadyH.nil
     go_simp
     ((with_reducible refine HM.out.mono ?_))
     rintro e V4 ⟨b2,x2,y2,⟨ga,gk,gc,ga',gk',gc',rfl,gm,gm',bb⟩,hd2,e2,o2⟩
     try go_simp
     have JN7:=Zh (JX.out.keep bb)
     have BN7:=Zh (BX.out.trans (bb.mono BX.out.size))
     have PN7:=Zh (PX.out.below bb)
     have XN7:=Zh (XX.out.keep bb)
     have NN1:=Zh (N1.out.below bb)
     have NN2:=Zh (N2.out.below bb)
     have T2:=Zh (fv_tp (k:=12) (by decide) (by omega:0<1*s2) (minus_small2 (by omega:ch≤400000000) hs9) (tp_small (by omega)) e2 o2)
     have F6:=Zh (show Fn V4 ⟨b2,ga,gk,gc,ga',gk',gc'⟩ x2 y2 from ⟨gm,gm',hd2,tp_up 40000 T2.out.1 (by decide),tp_up 40000 T2.out.2 (by decide)⟩)
     have F7:=Zh (F5.out.below bb)
     have E2:=Zh e2
     have D2:=Zh hd2
     have Z2:=Zh (kap_pos hlt2 hd2 e2)
     have hT:=s3k_of XN7.out
     refine hK.out _ _ hT (fun _=>?_)
     clear hK K hS bb JX BX PX XX N1 N2 HM F4 F5 gm gm' e2 o2 hd2
     have hS:=hT
     have JX:=JN7
     have BX:=BN7
     have PX:=PN7
     have XX:=XN7
     have N1:=NN1
     have N2:=NN2
     clear hT JN7 BN7 PN7 XN7 NN1 NN2
     try simp only[Act.put,Za,Zb,Zc]
     have HM:=over_c _ _ _ _ _ _ V4 F7.out F6.out Z2.out
     dsimp only at HM
     have HM:=Zh HM
     refine wpAnyH_ready (rs:=[8]) (by kernel_rfl) (by simp) ?_
     refine AllReadyH.cons rfl (fun K hK=>?_) AllReadyH.nil
     go_simp
     ((with_reducible refine HM.out.mono ?_))
     rintro e V5 ⟨b3,x3,y3,⟨ga,gk,gc,ga',gk',gc',rfl,gm,gm',bb⟩,hd3,e3,o3⟩
     try go_simp
     have JN8:=Zh (JX.out.keep bb)
     have BN8:=Zh (BX.out.trans (bb.mono BX.out.size))
     have PN8:=Zh (PX.out.below bb)
     have XN8:=Zh (XX.out.keep bb)
     have NN1:=Zh (N1.out.below bb)
     have NN2:=Zh (N2.out.below bb)
     have T3:=Zh (fv_tp (k:=24) (by decide) (Nat.mul_pos D1.out Z2.out) (by rw[xsg_abs];exact xtp_mul_lt (i:=12) (j:=12) T1.out.1 T2.out.2) (xtp_mul_lt (i:=12) (j:=12) T1.out.2 T2.out.1) e3 o3)
     have G1:=Zh gm
     have G2:=Zh gm'
     have E3:=Zh e3
     have D3:=Zh hd3
     have hT:=s3k_of XN8.out
     refine hK.out _ _ hT (fun _=>?_)
     clear hK K hS bb JX BX PX XX N1 N2 HM F6 F7 gm gm' e3 o3 hd3
     have hS:=hT
     have JX:=JN8
     have BX:=BN8
     have PX:=PN8
     have XX:=XN8
     have N1:=NN1
     have N2:=NN2
     clear hT JN8 BN8 PN8 XN8 NN1 NN2
     try simp only[Act.put,Za,Zb,Zc]
     have RK:Hid (kapS l C a b=raR (zv b3 x3) y3):=by
      unfold Hid
      rw[KR.out,KK.out,if_neg he]
      unfold roS
      rw[if_neg (by dsimp only;omega)]
      have e1:=E1.out
      have e2:=E2.out
      have e3:=E3.out
      have hs:=HS2.out
      subst hs
      exact (kap_val hN1 hlt2 D1.out D2.out D3.out e1 e2 e3).symm
     have HR:=ratio_c b3 ga ga' gc gc' gk gk' x3 y3 V5 G1.out G2.out D3.out (tp_up 90000 T3.out.1 (by decide)) (tp_up 90000 T3.out.2 (by decide)) PX.out
     obtain⟨r,hr⟩:∃ r,raR (zv b3 x3) y3=r:=⟨_,rfl⟩
     rw[hr]at HR RK
     have HR:=Zh HR
     clear hr KR KK E1 E2 E3 D1 D2 D3 T1 T2 T3 Z2 HS2 G1 G2 FE up he he'
     refine wpAnyH_ready (rs:=[9]) (by kernel_rfl) (by simp) ?_
     refine AllReadyH.cons rfl (fun K hK=>?_) AllReadyH.nil
     go_simp
     ((with_reducible refine HR.out.mono ?_))
     rintro e V6 ⟨rfl,bb⟩
     try go_simp
     have J9:=Zh (JX.out.keep bb)
     have B9:=Zh (BX.out.trans (bb.mono BX.out.size))
     have X9:=Zh (XX.out.keep bb)
     have hT:=s3k_of X9.out
     refine hK.out _ _ hT (fun _=>?_)
     clear hK K hS bb JX BX PX XX N1 N2 HR
     have hS:=hT
     clear hT
     try simp only[Act.put,Za,Zb,Zc]
     refine Zt (i:=10) (v:=?v10k) rfl (Or.inl ⟨by rfl,?hy10k⟩) ?rest10k
     case hy10k=>
      intro w hSw
      dsimp only[S3k]at hSw
      go_simp
      try with_reducible rfl
     simp only[Act.put,Zd,Ze,Zf,Za,Zb,Zc]
     refine Zt (i:=11) (v:=?v11k) rfl (Or.inl ⟨by rfl,?hy11k⟩) ?rest11k
     case hy11k=>
      intro w hSw
      dsimp only[S3k]at hSw
      go_simp
      try with_reducible rfl
     simp only[Act.put,Zd,Ze,Zf,Za,Zb,Zc]
     refine wpAnyH_ready (rs:=[12]) (by kernel_rfl) (by simp) ?_
     refine AllReadyH.cons rfl (fun K hK=>?_) AllReadyH.nil
     have q0:=J9.out.c0
     have q1:=J9.out.c1
     have g0:=J9.out.fr 0
     have g1:=J9.out.fr 1
     go_simp
     clear q0 q1 g0 g1
     have R9:B2 (two V6 w.heap.size (.string r.1) (.string r.2.1)) w.heap.size (.string r.1) (.string r.2.1):=J9.out.set _ _
     have PP:Hid (OpPost (kapS l C a b) w (.returned (.tuple #[.agg #[.string r.1,.string r.2.1],.int .i64 r.2.2])) (two V6 w.heap.size (.string r.1) (.string r.2.1))):=by
      rw[RK.out]
      exact⟨rfl,below_two B9.out (Nat.le_refl _) _ _⟩
     have hT:S3k W8.heap.size (.bool false) (.slice a1 k1 c1) (.slice a3 k3 c3) (two V6 w.heap.size (.string r.1) (.string r.2.1)):=⟨(two_cell NEW.out _ _ 0).trans X9.out.c0,(two_cell NEW.out _ _ 1).trans X9.out.c1,(two_cell NEW.out _ _ 2).trans X9.out.c2⟩
     obtain⟨r0,r1,_,_⟩:=id R9
     clear R9 J9 B9 X9 NEW
     unfold two at hT r0 r1 PP
     refine hK.out _ _ hT (fun _=>?_)
     clear hK K hS
     have hS:=hT
     clear hT
     try simp only[Act.put,Za,Zb,Zc]
     refine Zt (i:=13) (v:=?v13k) rfl (Or.inl ⟨by rfl,?hy13k⟩) ?rest13k
     case hy13k=>
      intro w hSw
      dsimp only[S3k]at hSw
      go_simp
      try with_reducible rfl
     simp only[Act.put,Zd,Ze,Zf,Za,Zb,Zc]
     refine wpAnyH_done (by kernel_rfl) ?_ _
     refine NoPanic.normal ?_
     clear hS
     generalize (V6.setCell ⟨w.heap.size,0,none⟩ (.string r.1)).setCell ⟨w.heap.size,1,none⟩ (.string r.2.1)=WB at *
     go_wp2_with fail
     exact bodyPost_ret (v:=.tuple #[.agg #[.string r.1,.string r.2.1],.int .i64 r.2.2]) (by simp[results,Tryz.results8,go_sem,r0,r1]) rfl PP.out
end Go.Proofs.YtghgbhmiliiohaaGreatDoor
