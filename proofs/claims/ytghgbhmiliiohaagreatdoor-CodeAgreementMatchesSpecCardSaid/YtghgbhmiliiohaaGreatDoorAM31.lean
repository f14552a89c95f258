/-
  Numbers of the reference: small numbers as digits.
-/
import Derived.Test.YtghgbhmiliiohaaGreatDoorAM28
import Derived.Test.YtghgbhmiliiohaaGreatDoorAM30
import Derived.Lib.OwnBridge
import Derived.Test.YtghgbhmiliiohaaGreatDoorAMQ
import Derived.Test.YtghgbhmiliiohaaGreatDoorAM11
import Derived.Test.YtghgbhmiliiohaaGreatDoorAM27
set_option maxRecDepth 100000
namespace Go.Proofs.YtghgbhmiliiohaaGreatDoor
open Go.RowKit Go.WideMaps Go.Maps Go.Lib Go.Sort
abbrev Sl3:=Option Addr×Nat×Nat
def encSl(y:Sl3):Value:=.slice y.1 y.2.1 y.2.2
theorem map_surjA{α β:Type}{f:α→β}:∀ (xs:List β),(∀ x∈xs,∃ y,x=f y)→∃ ys:List α,xs=ys.map f
 | [],_=>⟨[],rfl⟩
 | x::xs,h=>by
  obtain⟨y,hy⟩:=h x (List.mem_cons_self ..)
  obtain⟨ys,hys⟩:=map_surjA xs fun z hz=>h z (List.mem_cons_of_mem _ hz)
  exact⟨y::ys,by rw[hy,hys];rfl⟩
def RelL(w0:World):List Sl3→List (List Cg)→Prop
 | [],[]=>True
 | y::ys,D::R=>(y.2.1=D.length∧RdC w0 y.1 D)∧RelL w0 ys R
 | _,_=>False
theorem RelL.of_at{w0:World}:∀ (ys:List Sl3) (R:List (List Cg)),ys.length=R.length→(∀ j y,ys[j]?=some y→y.2.1=(rn R j).length∧RdC w0 y.1 (rn R j))→RelL w0 ys R
 | [],[],_,_=>trivial
 | [],D::R,h,_=>by simp at h
 | y::ys,[],h,_=>by simp at h
 | y::ys,D::R,h,hh=>⟨hh 0 y rfl,RelL.of_at ys R (by simpa using h) fun j z hz=>hh (j+1) z (by simpa using hz)⟩
theorem RelL.len{w0:World}:∀ {ys:List Sl3} {R:List (List Cg)},RelL w0 ys R→ys.length=R.length
 | [],[],_=>rfl
 | [],D::R,h=>h.elim
 | y::ys,[],h=>h.elim
 | y::ys,D::R,h=>by simp only[List.length_cons,RelL.len h.2]
theorem RelL.at_{w0:World}:∀ {ys:List Sl3} {R:List (List Cg)},RelL w0 ys R→∀ j,j<R.length→∃ y,ys[j]?=some y∧y.2.1=(rn R j).length∧RdC w0 y.1 (rn R j)
 | [],[],_,j,hj=>by simp at hj
 | [],D::R,h,_,_=>h.elim
 | y::ys,[],h,_,_=>h.elim
 | y::ys,D::R,h,0,_=>⟨y,rfl,h.1⟩
 | y::ys,D::R,h,j+1,hj=>by
  obtain⟨z,h1,h2⟩:=RelL.at_ h.2 j (by simpa using hj)
  exact⟨z,by simpa using h1,h2⟩
theorem RelL.flt{w0:World}:∀ {ys:List Sl3} {R:List (List Cg)},RelL w0 ys R→RelL w0 (ys.filter fun y=>!decide (y.2.1<2)) (flt R)
 | [],[],_=>trivial
 | [],D::R,h=>h.elim
 | y::ys,[],h=>h.elim
 | y::ys,D::R,h=>by
  have ih:=RelL.flt h.2
  unfold Go.Proofs.YtghgbhmiliiohaaGreatDoor.flt at ih ⊢
  rw[List.filter_cons,List.filter_cons,h.1.1]
  split
  ·exact⟨h.1,ih⟩
  ·exact ih
theorem RdR.below{w w':World}{a:Option Addr}{R:List (List Cg)}(h:RdR w a R)(hb:Below w.heap.size w w'):RdR w' a R:=fun j hj=>by
 obtain⟨g,a',c',e,hl,hc,hr⟩:=h j hj
 exact⟨g,a',c',e,Nat.lt_of_lt_of_le hl hb.size,(hb.cell (p:=⟨g,j,none⟩) hl).trans hc,hr.below hb⟩
theorem OwnR.list{w0 w:World}{B:Nat}{v:Value}{R:List (List Cg)}(h:OwnR w0 w B v R):∃ ys:List Sl3,w.ownsRow B 23 1 v R.length (ys.map encSl)∧RelL w0 ys R:=by
 obtain⟨xs,ho,hx⟩:=h
 have hl:xs.length=R.length:=by have:=ho.1;omega
 obtain⟨ys,rfl⟩:=map_surjA (f:=encSl) xs fun x hx2=>by
  obtain⟨j,hj,rfl⟩:=List.getElem_of_mem hx2
  obtain⟨a,c,e,_⟩:=hx j (by omega)
  rw[List.getElem?_eq_getElem hj]at e
  injection e with e
  exact⟨(a,(rn R j).length,c),e⟩
 refine⟨ys,ho,RelL.of_at ys R (by simpa using hl) fun j y hy=>?_⟩
 have hj:j<R.length:=by
  have:=(List.getElem?_eq_some_iff.1 hy).1
  rw[List.length_map]at hl
  omega
 obtain⟨a,c,e,hr⟩:=hx j hj
 rw[List.getElem?_map,hy]at e
 simp only[Option.map_some,Option.some.injEq,encSl,Value.slice.injEq]at e
 obtain⟨e1,e2,_⟩:=e
 exact⟨e2,by rw[e1];exact hr⟩
theorem short_gives(y:Sl3)(W:World):FnGives Tryz.prog 24 #[] #[encSl y] (.bool (decide (y.2.1<2))) W:=by
 obtain⟨a,n,c⟩:=y
 show Calls Tryz.prog 24 #[.slice a n c] W _
 have hd:decide ((n:Int)<2)=decide (n<2):=by rw[decide_eq_decide];omega
 go_enter Tryz.func24,Tryz.ntmps24
 go_wp2
 all_goals (go_ret;exact⟨by simp_all,0,rfl⟩)
theorem zeroSl(w:World):(zeroValue 23).run Tryz.prog w=.ok (encSl (none,0,0)) w:=by kernel_rfl
abbrev shv:Value:=.func (.func 24) #[] #[]
theorem short_enters(args:Array Value)(w:World):(callFunc 24 args).run Tryz.prog w=.ok (.enter 24 args) w:=enters_of Tryz.func24 (by kernel_rfl) rfl args w
theorem delete_nil(fv:Value)(w:World):Calls Tryz.prog 22 #[.slice none 0 0,fv] w fun e w'=>e=.returned (.slice none 0 0)∧w'=w:=by
 have hI:=AnyE.slices_IndexFunc_empty (P:=Tryz.prog) (ρ:=Tryz.delF_ren) { Tryz.delF with } none 0 fv w
 change Calls Tryz.prog 49 _ _ _ at hI
 go_enter Tryz.func22,Tryz.ntmps22
 go_wp2_with fail
 (with_reducible refine hI.mono ?_)
 rintro e w' ⟨rfl,rfl⟩
 go_wp2_with fail
 go_ret
 exact⟨rfl,rfl⟩
theorem delete_c(W0 W:World) (v:Value) (R:List (List Cg)) (hO:OwnR W0 W W0.heap.size v R) (hb:Below W0.heap.size W0 W) (hn:R.length≤20000) :
  Calls Tryz.prog 22 #[v,shv] W fun e W'=>∃ a c,e=.returned (.slice a (flt R).length c)∧RdR W' a (flt R)∧Below W0.heap.size W0 W':=by
 obtain⟨ys,ho,hr⟩:=hO.list
 by_cases hv:v=.slice none 0 0
 ·subst hv
  have h0:R.length=0:=by
   rcases ho.2 with ⟨_,h⟩|⟨g,cap,cur,h,_⟩
   ·exact h
   ·cases h
  obtain rfl:R=[]:=List.eq_nil_of_length_eq_zero h0
  refine (delete_nil shv W).mono ?_
  rintro e w' ⟨rfl,rfl⟩
  exact⟨none,0,rfl,fun j hj=>by simp[flt]at hj,hb⟩
 ·obtain⟨g,cap,rfl,hB,hg,hcap,hmax,hlen,hH⟩:=holds_of_ownsRow (zs:=ys) ho hv
  have hsz:ys.toArray.size=R.length:=by simpa using hlen
  have hcon:=AnyE.slices_DeleteFunc (P:=Tryz.prog) (ρ:=Tryz.delF_ren) Tryz.delF encSl (fun _=>rfl) (fun y=>decide (y.2.1<2)) 24 #[] short_enters (none,0,0) zeroSl g 0 cap ys.toArray W (fun W' y _=>short_gives y W') (fun _ _ _ y _=>short_gives y _) hH (by rw[hsz];omega) (by rw[hsz];exact hcap)
  change Calls Tryz.prog 22 _ _ _ at hcon
  rw[hsz]at hcon
  refine hcon.mono ?_
  rintro e w' ⟨rfl,q,rfl⟩
  have hf:=hr.flt
  have hfl:=hf.len
  have hle:(ys.filter fun y=>!decide (y.2.1<2)).length≤ys.length:=List.length_filter_le _ _
  have hbel:=below_putRow (enc:=encSl) (q:=q) (d:=((ys.filter fun y=>!decide (y.2.1<2)) ++ List.replicate (R.length-(ys.filter fun y=>!decide (y.2.1<2)).length) ((none,0,0):Sl3)).toArray) hb hB
  have hown:=ownsRow_putRow (enc:=encSl) (q:=q) (ys:=(ys.filter fun y=>!decide (y.2.1<2)) ++ List.replicate (R.length-(ys.filter fun y=>!decide (y.2.1<2)).length) ((none,0,0):Sl3)) (k:=(ys.filter fun y=>!decide (y.2.1<2)).length) ho (by rw[List.length_append,List.length_replicate];omega) (by omega)
  rw[List.take_left']at hown
  ·refine⟨some ⟨g,0,none⟩,cap,?_,?_,hbel⟩
   ·show Ending.returned (.slice (some ⟨g,0,none⟩) (ys.filter fun y=>!decide (y.2.1<2)).length cap)=_
    rw[hfl]
   ·intro j hj
    obtain⟨y,h1,h2,h3⟩:=hf.at_ j hj
    refine⟨g,y.1,y.2.2,rfl,?_,?_,h3.below hbel⟩
    ·exact (hown.lt g rfl).2
    ·have:=hown.cells (g:=g) rfl j (encSl y) (by rw[List.getElem?_map,h1];rfl)
     rw[add_at,Nat.zero_add]at this
     rw[←h2]
     exact this
  ·rfl
set_option maxHeartbeats 1000000 in
theorem agDiff_c(l:List Nd) (F:Fr l) (t:Bool) (x y:Nat) (w:World) (hx:Arr w x (par l)) (hy:Arr w y (lev l)) :
  Calls Tryz.prog 26 #[fv x y,.bool t] w fun e w'=>∃ fb tb,e=.returned (dfv fb tb)∧DifOk l t fb tb w'∧Below w.heap.size w w':=by
 obtain⟨W1,hW1⟩:∃ W1,w.alloc (.cells #[row x,row y] 57)=W1:=⟨_,rfl⟩
 have b1:Below w.heap.size w W1:=by rw[←hW1];exact (Below.refl _ _).alloc (Nat.le_refl _) _
 have c0:W1.cell? ⟨w.heap.size,0,none⟩=some (row x):=by rw[←hW1,World.cell?_alloc_new];rfl
 have c1:W1.cell? ⟨w.heap.size,1,none⟩=some (row y):=by rw[←hW1,World.cell?_alloc_new];rfl
 have l1:w.heap.size<W1.heap.size:=by rw[←hW1];simp
 obtain⟨W2,hW2⟩:∃ W2,W1.alloc (.cells #[.bool t] 4)=W2:=⟨_,rfl⟩
 have b2:Below W1.heap.size W1 W2:=by rw[←hW2];exact (Below.refl _ _).alloc (Nat.le_refl _) _
 have ct:W2.cell? ⟨W1.heap.size,0,none⟩=some (.bool t):=by rw[←hW2,World.cell?_alloc_new];rfl
 have l2:W1.heap.size<W2.heap.size:=by rw[←hW2];simp
 have R:Hid (DifOk l t w.heap.size W1.heap.size W2∧Below w.heap.size w W2):=by
  have b12:=b1.trans (b2.mono b1.size)
  refine⟨fun W hW a b ha hb=>?_,b12⟩
  have hb3:=b12.trans (hW.mono b12.size)
  exact dif1_c l F t x y w.heap.size W1.heap.size a b W (hx.below hb3) (hy.below hb3) ha hb
   ((hW.cell (p:=⟨w.heap.size,0,none⟩) (Nat.lt_trans l1 l2)).trans ((b2.cell (p:=⟨w.heap.size,0,none⟩) l1).trans c0))
   ((hW.cell (p:=⟨w.heap.size,1,none⟩) (Nat.lt_trans l1 l2)).trans ((b2.cell (p:=⟨w.heap.size,1,none⟩) l1).trans c1))
   ((hW.cell (p:=⟨W1.heap.size,0,none⟩) l2).trans ct) (Nat.lt_of_lt_of_le l2 hW.size)
 clear c0 c1 ct b1 b2 l1 l2 hx hy F
 go_enter Tryz.func26,Tryz.ntmps26
 go_wp2
 go_ret
 exact⟨w.heap.size,W1.heap.size,rfl,R.out⟩
set_option maxHeartbeats 4000000 in
theorem Alpha_c(sa:Option Addr) (c:Nat) (l:List Nd) (a2:Option Addr) (c2:Nat) (C:List Cg) (t:Bool) (w:World) (hl:RdN w sa l) (hf:Fits l) (hC:RdC w a2 C) (hcap:C.length≤c2) :
  Calls Tryz.prog 9 #[.slice sa l.length c,.slice a2 C.length c2,.bool t] w (OpPost (alS l t C) w):=by
 obtain⟨W1,hW1⟩:∃ W1,w.alloc (.cells #[.string ⟨#[]⟩,.string ⟨#[]⟩] 32)=W1:=⟨_,rfl⟩
 have JR1:Hid (B2 W1 w.heap.size (.string ⟨#[]⟩) (.string ⟨#[]⟩)):=by rw[←hW1];exact B2.made _ _ _ _
 have JB1:Hid (Below w.heap.size w W1):=by rw[←hW1];exact bel_one _ _
 have HC:=Zh (frameFor_c sa c l a2 c2 C W1 (hl.below JB1.out) hf (hC.below JB1.out))
 have HCC:=Zh (hC.below JB1.out)
 have h9:=hC.1
 clear hl hf hC
 by_cases hz:forS l C≠0
 ·have KR:alS l t C=(⟨#[]⟩,⟨#[]⟩,forS l C):=by unfold alS;rw[if_pos hz]
  obtain⟨f,hfl⟩:∃ f,forS l C=f:=⟨_,rfl⟩
  rw[hfl]at HC hz KR
  have f2:(f != 0)=true:=by rw[bne,beq_eq_false_iff_ne.2 hz];rfl
  have HZ:=Zh hz
  clear hfl hz HCC
  go_enter Tryz.func9,Tryz.ntmps9
  go_wp2_with fail
  (with_reducible refine HC.out.mono ?_)
  intro e W2 he
  obtain⟨h,_⟩|⟨_,rfl,b2⟩:=he
  ·exact absurd h HZ.out
  have b2x:Below W2.heap.size W2 (W2.alloc (.cells #[.slice none 0 0,.slice none 0 0] 57)):=(Below.refl _ _).alloc (Nat.le_refl _) _
  have b3:=b2.trans (b2x.mono b2.size)
  have J3:=Zh (JR1.out.keep b3)
  have BW3:=Zh (JB1.out.trans (b3.mono JB1.out.size))
  clear b2 b2x b3 HC JR1 JB1
  obtain⟨W9,hW9⟩:∃ W9,two (W2.alloc (.cells #[.slice none 0 0,.slice none 0 0] 57)) w.heap.size (.string ⟨#[]⟩) (.string ⟨#[]⟩)=W9:=⟨_,rfl⟩
  have R9:B2 W9 w.heap.size (.string ⟨#[]⟩) (.string ⟨#[]⟩):=by rw[←hW9];exact J3.out.set _ _
  have PP:Hid (OpPost (alS l t C) w (.returned (.tuple #[.agg #[.string ⟨#[]⟩,.string ⟨#[]⟩],.int .i64 f])) W9):=by
   rw[←hW9,KR]
   exact⟨rfl,below_two BW3.out (Nat.le_refl _) _ _⟩
  have q0:=J3.out.c0
  have q1:=J3.out.c1
  have g0:=J3.out.fr 0
  have g1:=J3.out.fr 1
  obtain⟨r0,r1,_,_⟩:=id R9
  unfold two at hW9
  clear R9
  go_wp2_with fail
  exact bodyPost_ret (v:=.tuple #[.agg #[.string ⟨#[]⟩,.string ⟨#[]⟩],.int .i64 f]) (by simp[results,Tryz.results9,go_sem,r0,r1]) rfl PP.out
 have hz:forS l C=0:=by omega
 obtain⟨F,hcg,hCn,_⟩:=for_ok hz
 have HF:=Zh F
 have KS:Hid (alS l t C=if (flt (cases_ C)).length=0 then (⟨#[]⟩,⟨#[]⟩,9) else alR (alC (flt (cases_ C))).length (dfS (dlS l t) (nC (alC (flt (cases_ C))))) (obS (dlS l t) (flt (cases_ C)))):=by unfold Hid alS;rw[if_neg (by simpa using hz)]
 have HR:Hid (∀ D∈flt (cases_ C),OkD l D):=fun D hD=>flt_ok hz hD
 have HS:Hid (sumR List.length (flt (cases_ C))≤20000):=Nat.le_trans (sumR_flt _ _) (by rw[cases_sum];exact hCn)
 have HCN:Hid ((cases_ C).length≤20000):=Nat.le_trans (cases_len C) hCn
 have HK:=Zh (fun W (h:Below W1.heap.size W1 W)=>casesOfO_c a2 c2 C W (HCC.out.below h) hCn hcap)
 rw[hz]at HC
 clear hz F hcg hCn HCC
 go_enter Tryz.func9,Tryz.ntmps9
 go_wp2_with fail
 (with_reducible refine HC.out.mono ?_)
 intro e W2 he
 obtain⟨_,x,y,rfl,hx,hy,b2,_,_⟩|⟨h,_⟩:=he
 rotate_left
 ·exact absurd rfl h
 obtain⟨W3,hW3⟩:∃ W3,W2.alloc (.cells #[row x,row y] 57)=W3:=⟨_,rfl⟩
 have b3:Below W2.heap.size W2 W3:=by rw[←hW3];exact bel_one _ _
 have D3:Hid (B2 W3 W2.heap.size (row x) (row y)):=by unfold Hid;rw[←hW3];exact B2.made _ _ _ _
 have B13:=Zh (b2.trans (b3.mono b2.size))
 have J3:=Zh (JR1.out.keep B13.out)
 have BW3:=Zh (JB1.out.trans (B13.out.mono JB1.out.size))
 have HX:=Zh (hx.below b3)
 have HY:=Zh (hy.below b3)
 have HK3:=Zh (HK.out W3 B13.out)
 clear b2 b3 hx hy HC HK JR1 JB1 B13 hW1
 go_wp2_with fail
 (with_reducible refine HK3.out.mono ?_)
 rintro e W4 ⟨v,rfl,hown,b4⟩
 have HD:=Zh (delete_c W3 W4 v (cases_ C) hown b4 HCN.out)
 clear hown b4 HK3 hW3
 go_wp2_with fail
 (with_reducible refine HD.out.mono ?_)
 rintro e W5 ⟨a5,c5,rfl,hrd,b5⟩
 have J5:=Zh (J3.out.keep b5)
 have BW5:=Zh (BW3.out.trans (b5.mono BW3.out.size))
 have D5:=Zh (D3.out.keep b5)
 have HRD:=Zh hrd
 have HX5:=Zh (HX.out.below b5)
 have HY5:=Zh (HY.out.below b5)
 clear hrd b5 HD J3 BW3 D3 HX HY
 obtain⟨R,hR⟩:∃ R,flt (cases_ C)=R:=⟨_,rfl⟩
 rw[hR]at KS HR HS HRD ⊢
 clear hR HCN
 by_cases h0:R.length=0
 ·have KR:alS l t C=(⟨#[]⟩,⟨#[]⟩,9):=by rw[KS.out,if_pos h0]
  have h0':(R.length:Int)=0:=by omega
  clear KS h0
  obtain⟨W9,hW9⟩:∃ W9,two W5 w.heap.size (.string ⟨#[]⟩) (.string ⟨#[]⟩)=W9:=⟨_,rfl⟩
  have R9:B2 W9 w.heap.size (.string ⟨#[]⟩) (.string ⟨#[]⟩):=by rw[←hW9];exact J5.out.set _ _
  have PP:Hid (OpPost (alS l t C) w (.returned (.tuple #[.agg #[.string ⟨#[]⟩,.string ⟨#[]⟩],.int .i64 9])) W9):=by
   rw[←hW9,KR]
   exact⟨rfl,below_two BW5.out (Nat.le_refl _) _ _⟩
  have q0:=J5.out.c0
  have q1:=J5.out.c1
  have g0:=J5.out.fr 0
  have g1:=J5.out.fr 1
  obtain⟨r0,r1,_,_⟩:=id R9
  unfold two at hW9
  clear R9
  go_wp2_with fail
  exact bodyPost_ret (v:=.tuple #[.agg #[.string ⟨#[]⟩,.string ⟨#[]⟩],.int .i64 9]) (by simp[results,Tryz.results9,go_sem,r0,r1]) rfl PP.out
 ·have KR:Hid (alS l t C=alR (alC R).length (dfS (dlS l t) (nC (alC R))) (obS (dlS l t) R)):=by unfold Hid;rw[KS.out,if_neg h0]
  have h0':((R.length:Int) == 0)=false:=by rw[beq_eq_false_iff_ne];omega
  have d0:=D5.out.c0
  have d1:=D5.out.c1
  have HDF:=Zh (agDiff_c l HF.out t x y W5 HX5.out HY5.out)
  clear KS h0
  go_wp2_with fail
  (with_reducible refine HDF.out.mono ?_)
  rintro e W6 ⟨fb,tb,rfl,hdk,b6⟩
  have J6:=Zh (J5.out.keep b6)
  have BW6:=Zh (BW5.out.trans (b6.mono BW5.out.size))
  have HA:=Zh (alphaOf_c l t fb tb a5 c5 R W6 (HRD.out.below b6) HF.out.ord HR.out HS.out hdk)
  obtain⟨r,hr⟩:∃ r,alR (alC R).length (dfS (dlS l t) (nC (alC R))) (obS (dlS l t) R)=r:=⟨_,rfl⟩
  rw[hr]at HA KR
  clear b6 hdk HDF J5 BW5 d0 d1 D5 HX5 HY5 HRD hr
  go_wp2_with fail
  (with_reducible refine HA.out.mono ?_)
  rintro e W7 ⟨rfl,b7⟩
  have J7:=Zh (J6.out.keep b7)
  have BW7:=Zh (BW6.out.trans (b7.mono BW6.out.size))
  clear b7 HA J6 BW6
  obtain⟨W9,hW9⟩:∃ W9,two W7 w.heap.size (.string r.1) (.string r.2.1)=W9:=⟨_,rfl⟩
  have R9:B2 W9 w.heap.size (.string r.1) (.string r.2.1):=by rw[←hW9];exact J7.out.set _ _
  have PP:Hid (OpPost (alS l t C) w (.returned (.tuple #[.agg #[.string r.1,.string r.2.1],.int .i64 r.2.2])) W9):=by
   rw[←hW9,KR.out]
   exact⟨rfl,below_two BW7.out (Nat.le_refl _) _ _⟩
  have q0:=J7.out.c0
  have q1:=J7.out.c1
  have g0:=J7.out.fr 0
  have g1:=J7.out.fr 1
  obtain⟨r0,r1,_,_⟩:=id R9
  unfold two at hW9
  clear R9
  go_wp2_with fail
  exact bodyPost_ret (v:=.tuple #[.agg #[.string r.1,.string r.2.1],.int .i64 r.2.2]) (by simp[results,Tryz.results9,go_sem,r0,r1]) rfl PP.out
theorem infoT:(Tryz.prog.info? 3).map (fun i=>(i.zero,i.size,i.bytes))=some (some (.int .i64 0),1,8):=by kernel_rfl
theorem info_int:∃ i,Tryz.prog.info? 3=some i∧i.zero=some (.int .i64 0)∧i.size=1∧i.bytes=8:=by
 have h:=infoT
 cases e:Tryz.prog.info? 3 with
 | none=>rw[e]at h;cases h
 | some i=>rw[e]at h;simp at h;exact⟨i,rfl,h⟩
def Rj(W:World)(a:Option Addr)(k:Nat)(f:Nat→Nat):Prop:=
 k≤100000∧Ld f k∧(0<k→∃ b off,a=some ⟨b,off,none⟩∧b<W.heap.size∧∀ j,j<k→W.cell? ⟨b,off+j,none⟩=some (.int .i64 (f j)))
theorem Rj.below{W W':World}{a:Option Addr}{k:Nat}{f:Nat→Nat}(h:Rj W a k f)(hb:Below W.heap.size W W'):Rj W' a k f:=
 ⟨h.1,h.2.1,fun h0=>by
  obtain⟨b,off,e,hl,hc⟩:=h.2.2 h0
  exact⟨b,off,e,Nat.lt_of_lt_of_le hl hb.size,fun j hj=>by rw[hb.cell (p:=⟨b,off+j,none⟩) hl];exact hc j hj⟩⟩
theorem Rj.at_{W:World} {a:Option Addr} {k:Nat} {f:Nat→Nat} (h:Rj W a k f) {j:Nat} (hj:j<k) :
  ∃ b off,a=some ⟨b,off,none⟩∧b<W.heap.size∧W.cell? ⟨b,off+j,none⟩=some (.int .i64 (f j)):=by
 obtain⟨b,off,e,hl,hc⟩:=h.2.2 (by omega)
 exact⟨b,off,e,hl,hc j hj⟩
theorem Rj.nil(W:World)(a:Option Addr)(f:Nat→Nat):Rj W a 0 f:=⟨by omega,fun j hj=>by omega,fun h=>by omega⟩
theorem Rj.low{W:World}{a:Option Addr}{k m:Nat}{f:Nat→Nat}(h:Rj W a k f)(hm:m≤k):Rj W a m f:=
 ⟨by have:=h.1;omega,fun j hj=>h.2.1 j (by omega),fun h0=>by
  obtain⟨b,off,e,hl,hc⟩:=h.2.2 (by omega)
  exact⟨b,off,e,hl,fun j hj=>hc j (by omega)⟩⟩
def Nt(W:World)(a:Option Addr)(k c n:Nat):Prop:=∃ f,Rj W a k f∧k≤c∧c≤9223372036854775807∧Tod f k∧Tn f k=n∧Pl a c
theorem Nt.below{W W':World}{a:Option Addr}{k c n:Nat}(h:Nt W a k c n)(hb:Below W.heap.size W W'):Nt W' a k c n:=by
 obtain⟨f,h1,h2⟩:=h
 exact⟨f,h1.below hb,h2⟩
theorem Nt.zero(W:World)(a:Option Addr)(c:Nat)(hc:c≤9223372036854775807)(ha:Pl a c):Nt W a 0 c 0:=⟨fun _=>0,Rj.nil _ _ _,by omega,hc,.inl rfl,rfl,ha⟩
theorem Nt.len{W:World}{a:Option Addr}{k c n K:Nat}(h:Nt W a k c n)(hn:n<tp K):k≤K:=by
 obtain⟨f,_,_,_,ht,hs,_⟩:=h
 exact tod_len ht (by rw[hs];exact hn)
theorem Nt.lt{W:World}{a:Option Addr}{k c n:Nat}(h:Nt W a k c n):n<tp k:=by
 obtain⟨f,h1,_,_,_,hs,_⟩:=h
 rw[←hs];exact Tn_lt h1.2.1
theorem Nt.pos{W:World}{a:Option Addr}{k c n:Nat}(h:Nt W a k c n)(hk:0<k):tp (k-1)≤n:=by
 obtain⟨f,_,_,_,ht,hs,_⟩:=h
 rw[←hs];exact tod_ge ht hk
theorem Nt.nul{W:World}{a:Option Addr}{k c:Nat}(h:Nt W a k c 0):k=0:=by
 obtain⟨f,_,_,_,ht,hs,_⟩:=h
 exact tod_zero ht hs
theorem Nt.one{W:World}{a:Option Addr}{k c n:Nat}(h:Nt W a k c n)(hn:0<n):0<k:=by
 rcases Nat.eq_zero_or_pos k with e|e
 ·subst e
  have:=h.lt
  rw[tp_zero]at this
  omega
 ·exact e
def NtPost(n:Nat)(w:World)(e:Ending)(w':World):Prop:=∃ a k c,e=.returned (.slice a k c)∧Nt w' a k c n∧Below w.heap.size w w'
def dvals(f:Nat→Nat)(j:Nat):List Value:=(List.range j).map fun i=>Value.int .i64 (f i:Int)
theorem dvals_succ(f:Nat→Nat)(j:Nat):dvals f (j+1)=dvals f j ++ [.int .i64 (f j:Int)]:=by unfold dvals;rw[List.range_succ,List.map_append];rfl
theorem dvals_congr{f g:Nat→Nat}{j:Nat}(h:∀ i,i<j→f i=g i):dvals f j=dvals g j:=by
 unfold dvals
 exact List.map_congr_left fun i hi=>by rw[h i (List.mem_range.1 hi)]
structure Dg (B:Nat) (w0:World) (f:Nat→Nat) (j:Nat) (v:Value) (w:World):Prop where
 row:w.ownsRow B 3 1 v j (dvals f j)
 bel:Below B w0 w
 size:B≤w.heap.size
theorem Dg.nil(w:World)(f:Nat→Nat):Dg w.heap.size w f 0 (.slice none 0 0) w:=⟨World.ownsRow_nil _ _ _ _,Below.refl _ _,Nat.le_refl _⟩
theorem Dg.more{B:Nat}{w0 w w':World}{f:Nat→Nat}{j:Nat}{v v':Value}(h:Dg B w0 f j v w)(x:Nat)(hown:w'.ownsRow B 3 1 v' (j+1) (dvals f j ++ [.int .i64 (x:Int)]))(o:Obj)(hg:(w.alloc o).grownBy w' v.ownBlock):Dg B w0 (put f j x) (j+1) v' w':=by
 have hb:=(h.bel.alloc h.size o).grown hg (by simp;have:=h.size;omega) (fun b hb=>(World.ownsRow.lt (h.row.alloc o) b hb).1)
 refine⟨?_,hb,Nat.le_trans (Nat.le_trans h.size (by simp)) hg.size⟩
 rw[dvals_succ,put_same,dvals_congr (g:=f) (fun i hi=>put_ne (by omega))]
 exact hown
theorem Dg.congr{B:Nat}{w0 w:World}{f g:Nat→Nat}{j:Nat}{v:Value}(h:Dg B w0 f j v w)(he:∀ i,i<j→g i=f i):Dg B w0 g j v w:=⟨by rw[dvals_congr he];exact h.row,h.bel,h.size⟩
theorem Dg.reads{B:Nat} {w0 w:World} {f:Nat→Nat} {j:Nat} {v:Value} (h:Dg B w0 f j v w) (hj:j≤100000) (hl:Ld f j) :
  ∃ a c,v=.slice a j c∧Rj w a j f∧j≤c∧c≤9223372036854775807∧Pl a c:=by
 have hc:=fun (g:Nat) (hg:v.ownBlock=some g)=>World.ownsRow.cells h.row hg
 obtain⟨_,⟨e1,e2⟩|⟨g,cap,cur,rfl,hb,hg,hnc,hm,hs,ht⟩⟩:=h.row
 ·subst e1
  obtain rfl:j=0:=by first|exact e2|(simp[dvals]at e2;omega)
  exact⟨none,0,rfl,Rj.nil _ _ _,by omega,by omega,Pl.none_⟩
 ·refine⟨some ⟨g,0,none⟩,cap,rfl,⟨hj,hl,fun _=>⟨g,0,rfl,lt_of_block hg,fun i hi=>?_⟩⟩,hnc,by unfold maxLen at hm;omega,Pl.some_ _ _⟩
  have t:=hc g rfl i (.int .i64 (f i)) (by simp[dvals,hi])
  by_cases h0:i=0<;>simpa[Addr.add,h0] using t
theorem Dg.fresh{B:Nat}{w0 w:World}{f:Nat→Nat}{j k c:Nat}{a:Option Addr}(h:Dg B w0 f j (.slice a k c) w):∀ b off,a=some ⟨b,off,none⟩→B≤b:=by
 intro b off e
 obtain⟨_,⟨e1,_⟩|⟨g,cap,cur,e1,hb,_⟩⟩:=h.row
 ·injection e1 with e2
  rw[e]at e2
  cases e2
 ·injection e1 with e2
  rw[e]at e2
  injection e2 with e3
  injection e3 with e4
  omega
theorem Dg.some{B:Nat}{w0 w:World}{f:Nat→Nat}{j k c:Nat}{a:Option Addr}(h:Dg B w0 f j (.slice a k c) w)(hj:0<j):∃ b off,a=some ⟨b,off,none⟩:=by
 obtain⟨_,⟨_,e2⟩|⟨g,cap,cur,e1,_⟩⟩:=h.row
 ·omega
 ·injection e1 with e2
  exact⟨g,0,e2⟩
def NtG(K n:Nat)(w:World)(e:Ending)(w':World):Prop:=∃ a k c,e=.returned (.slice a k c)∧Nt w' a k c n∧Below w.heap.size w w'∧(∀ b off,a=some ⟨b,off,none⟩→w.heap.size≤b)∧(0<K→∃ b off,a=some ⟨b,off,none⟩)
theorem NtG.weak{K n:Nat}{w w':World}{e:Ending}(h:NtG K n w e w'):NtPost n w e w':=by
 obtain⟨a,k,c,h1,h2,h3,_⟩:=h
 exact⟨a,k,c,h1,h2,h3⟩
def NtF(n:Nat)(w:World)(e:Ending)(w':World):Prop:=∃ a k c,e=.returned (.slice a k c)∧Nt w' a k c n∧Below w.heap.size w w'∧∀ b off,a=some ⟨b,off,none⟩→w.heap.size≤b
theorem NtF.weak{n:Nat}{w w':World}{e:Ending}(h:NtF n w e w'):NtPost n w e w':=by
 obtain⟨a,k,c,h1,h2,h3,_⟩:=h
 exact⟨a,k,c,h1,h2,h3⟩
def dig(n i:Nat):Nat:=n / tp i % 1000000000
theorem dig_sum(n:Nat):∀ j,Tn (dig n) j+n / tp j*tp j=n
 | 0=>by rw[Tn_zero,tp_zero];omega
 | j+1=>by
  have h:=dig_sum n j
  have e:n / (tp j*1000000000)=n / tp j / 1000000000:=(Nat.div_div_eq_div_mul _ _ _).symm
  have d:=Nat.div_add_mod (n / tp j) 1000000000
  rw[Tn_succ,tp_succ,e]
  show Tn (dig n) j+n / tp j % 1000000000*tp j+_=n
  generalize n / tp j=q at *
  generalize Tn (dig n) j=s at *
  generalize q / 1000000000=u at *
  generalize q % 1000000000=r at *
  generalize tp j=t at *
  grind
theorem dig_lt(n:Nat)(k:Nat):Ld (dig n) k:=fun _ _=>Nat.mod_lt _ (by decide)
theorem dig_done{n j:Nat}(h:n / tp j=0):Tn (dig n) j=n:=by
 have:=dig_sum n j
 rw[h]at this
 omega
theorem dig_top{n j:Nat}(h:n / tp j=0)(hp:0<j→0<n / tp (j-1)):Tod (dig n) j:=by
 rcases Nat.eq_zero_or_pos j with e|e
 ·exact .inl e
 ·refine .inr ?_
  obtain⟨m,rfl⟩:∃ m,j=m+1:=⟨j-1,by omega⟩
  have p:=hp e
  rw[Nat.add_sub_cancel]at p ⊢
  rw[tp_succ,←Nat.div_div_eq_div_mul]at h
  show n / tp m % 1000000000≠0
  omega
theorem tp_three:tp 3=1000000000000000000000000000:=by rw[tp_succ,tp_succ,tp_one]
set_option maxHeartbeats 1000000 in
theorem nsmall_c(n:Nat)(w:World)(hn:n<9223372036854775808):Calls Tryz.prog 41 #[.int .i64 n] w (NtPost n w):=by
 obtain⟨i0,hi,hz0,hz1,hz2⟩:=info_int
 have HN:=Zh hn
 clear hn
 go_enter Tryz.func41,Tryz.ntmps41
 go_wp2
 go_loopw [0,3] (fun x v wr=>∃ j q:Nat,j≤3∧x=.int .i64 q∧q<9223372036854775808∧Hid (n / tp j=q∧(0<j→0<n / tp (j-1))∧Dg w.heap.size w (dig n) j v wr)) (fun x _ _=>(intOf x).toNat)
 case atStart=>exact⟨0,n,by omega,rfl,HN.out,by rw[tp_zero,Nat.div_one],by omega,Dg.nil w _⟩
 case round=>
  obtain⟨j,q,hj,rfl,hq9,hR⟩:=hrel
  rcases Nat.eq_zero_or_pos q with e|e
  ·subst e
   obtain⟨a,c,rfl,h1,h2,h3,h4⟩:=hR.out.2.2.reads (by omega) (dig_lt n j)
   have RR:Hid (NtPost n w (.returned (.slice a j c)) wr):=⟨a,j,c,rfl,⟨dig n,h1,h2,h3,dig_top hR.out.1 hR.out.2.1,dig_done hR.out.1,h4⟩,hR.out.2.2.bel⟩
   clear h1 h2 h3 h4
   go_wp2
   go_ret
   exact RR.out
  ·have hj2:j<3:=by
    have h:=hR.out.1
    have t:tp j≤n:=by
     rcases Nat.lt_or_ge n (tp j) with l|l
     ·rw[Nat.div_eq_of_lt l]at h;omega
     ·exact l
    refine tp_lt ?_
    rw[tp_three]
    have:=HN.out
    omega
   have hp:(0:Int)<(q:Int):=by omega
   obtain⟨q2,hq2⟩:∃ q2,q / 1000000000=q2:=⟨_,rfl⟩
   obtain⟨r,hr⟩:∃ r,q % 1000000000=r:=⟨_,rfl⟩
   have e1:(q:Int).tdiv 1000000000=(q2:Int):=by rw[Int.tdiv_eq_ediv_of_nonneg (by omega)];omega
   have e2:(q:Int).tmod 1000000000=(r:Int):=by rw[Int.tmod_eq_emod_of_nonneg (by omega)];omega
   have hr9:r<1000000000:=by omega
   have hq29:q2<9223372036854775808:=by omega
   have HM:Hid (q2<q):=by unfold Hid;omega
   have hD:=Zh hR.out.2.2
   have HQ:Hid (n / tp (j+1)=q2∧dig n j=r∧0<n / tp j):=by
    refine⟨by rw[tp_succ,←Nat.div_div_eq_div_mul,hR.out.1,hq2],?_,by rw[hR.out.1];exact e⟩
    show n / tp j % 1000000000=r
    rw[hR.out.1,hr]
   clear hq2 hr hR
   go_wp2_with (at_builtin;refine wpList_append_own _ rfl _ _ 49 rfl w.heap.size 3 i0 (.int .i64 0) 1 8 Tryz.underlying49 hi hz0 hz1 hz2 rfl (by decide) _ _ _ rfl (hD.out.row.alloc _) ⟨wr.heap.size,0,none⟩ 1 1 [.int .i64 (r:Int)] rfl rfl ?c1 ?c2 ?c3 ?c4 ?c5 ?_)
   case c1=>
    intro i u hu
    match i,hu with
    | 0,hu=>simp at hu;subst hu;simp[Addr.add]
   case c2=>intro u hu;simp at hu;subst hu;rfl
   case c3=>unfold maxLen;omega
   case c4=>omega
   case c5=>have:=hD.out.size;simp;omega
   intro v' w1 hown' hgrow _
   have hD':Hid (Dg w.heap.size w (dig n) (j+1) v' w1):=(hD.out.more r hown' _ hgrow).congr fun i hi=>by
    by_cases ei:i=j
    ·subst ei;rw[put_same];exact HQ.out.2.1
    ·rw[put_ne ei]
   clear hown' hgrow hD
   go_wp2
   go_roundw
   case rel=>exact⟨j+1,q2,by omega,by go_num,hq29,HQ.out.1,by rw[Nat.add_sub_cancel];exact fun _=>HQ.out.2.2,hD'.out⟩
   case measure=>simp[intOf];have:=HM.out;omega
end Go.Proofs.YtghgbhmiliiohaaGreatDoor
