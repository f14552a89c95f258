/-
  The reference of package code: cases.
-/
import Derived.Test.YtghgbhmiliiohaaGreatDoorAMQ
import Derived.Test.YtghgbhmiliiohaaGreatDoorAM21
import Derived.Test.YtghgbhmiliiohaaGreatDoorAM10
import Derived.Test.YtghgbhmiliiohaaGreatDoorAM07
import Derived.Laws.OwnMore
import Derived.Deep.RegionHeld3
import Derived.Deep.AppendLies
set_option maxRecDepth 100000
namespace Go.Proofs.YtghgbhmiliiohaaGreatDoor
open Go.RowKit Go.WideMaps Go.Maps
def kapS(l:List Nd)(C:List Cg)(a b:Int):ByteArray×ByteArray×Int:=
 if coS l C a b≠0 then (⟨#[]⟩,⟨#[]⟩,coS l C a b) else if (prs a b (cases_ C)).length=0 then (⟨#[]⟩,⟨#[]⟩,9) else kaS (prs a b (cases_ C))
theorem raR_one:raR 1 1=(⟨#[49]⟩,⟨#[49]⟩,0):=by
 have e:red 1 1=(1,1):=by decide
 have d1:Lib.decDigits 1=[49]:=by rw[Lib.decDigits,dif_pos (by omega)];rfl
 unfold raR
 rw[e]
 simp[ra,fits,tzB,tz,d1]
set_option maxHeartbeats 4000000 in
theorem Kappa_c(sa:Option Addr) (c:Nat) (l:List Nd) (a2:Option Addr) (c2:Nat) (C:List Cg) (a b:Int) (w:World) (hl:RdN w sa l) (hf:Fits l) (hC:RdC w a2 C) (hcap:C.length≤c2) :
  Calls Tryz.prog 7 #[.slice sa l.length c,.slice a2 C.length c2,.int .i64 a,.int .i64 b] w (OpPost (kapS l C a b) w):=by
 obtain⟨W1,hW1⟩:∃ W1,w.alloc (.cells #[.string ⟨#[]⟩,.string ⟨#[]⟩] 32)=W1:=⟨_,rfl⟩
 have JR1:Hid (B2 W1 w.heap.size (.string ⟨#[]⟩) (.string ⟨#[]⟩)):=by rw[←hW1];exact B2.made _ _ _ _
 have JB1:Hid (Below w.heap.size w W1):=by rw[←hW1];exact bel_one _ _
 have HC:=Zh (commonOf_c sa c l a2 c2 C a b W1 (hl.below JB1.out) hf (hC.below JB1.out) hcap)
 have HCC:=Zh (fun (e:coS l C a b=0)=>(by
  have e2:forS l C=0:=by
   unfold coS at e
   by_cases h:forS l C≠0
   ·rw[if_pos h]at e;exact absurd e h
   ·omega
  exact And.intro (prs_small (for_cgs e2) a b) (Nat.le_trans (Nat.le_trans (prs_len a b (cases_ C)) (cases_len C)) (cgs_ok (for_cgs e2)).1):SmP (prs a b (cases_ C))∧(prs a b (cases_ C)).length≤20000))
 have h9:=hC.1
 clear hl hf hC
 go_enter Tryz.func7,Tryz.ntmps7
 go_wp2_with fail
 (with_reducible refine HC.out.mono ?_)
 intro e W2 he
 obtain⟨hz,s,cs,rfl,hP,b2⟩|⟨hz,rfl,b2⟩:=he
 ·have J2:=Zh (JR1.out.keep b2)
  have BW2:=Zh (JB1.out.trans (b2.mono JB1.out.size))
  have HH:=Zh (HCC.out hz)
  have KS:Hid (kapS l C a b=if (prs a b (cases_ C)).length=0 then (⟨#[]⟩,⟨#[]⟩,9) else kaS (prs a b (cases_ C))):=by unfold Hid kapS;rw[if_neg (by simpa using hz)]
  clear b2 hz HCC HC
  obtain⟨P,hPP⟩:∃ P,prs a b (cases_ C)=P:=⟨_,rfl⟩
  rw[hPP]at hP HH KS ⊢
  clear hPP
  by_cases h0:P.length=0
  ·have KR:kapS l C a b=(⟨#[]⟩,⟨#[]⟩,9):=by rw[KS.out,if_pos h0]
   have h0':(P.length:Int)=0:=by omega
   clear KS HH h0
   obtain⟨W9,hW9⟩:∃ W9,two W2 w.heap.size (.string ⟨#[]⟩) (.string ⟨#[]⟩)=W9:=⟨_,rfl⟩
   have R9:B2 W9 w.heap.size (.string ⟨#[]⟩) (.string ⟨#[]⟩):=by rw[←hW9];exact J2.out.set _ _
   have PP:Hid (OpPost (kapS l C a b) w (.returned (.tuple #[.agg #[.string ⟨#[]⟩,.string ⟨#[]⟩],.int .i64 9])) W9):=by
    rw[←hW9,KR]
    exact⟨rfl,below_two BW2.out (Nat.le_refl _) _ _⟩
   have q0:=J2.out.c0
   have q1:=J2.out.c1
   have g0:=J2.out.fr 0
   have g1:=J2.out.fr 1
   obtain⟨r0,r1,_,_⟩:=id R9
   unfold two at hW9
   clear R9
   go_wp2_with fail
   exact bodyPost_ret (v:=.tuple #[.agg #[.string ⟨#[]⟩,.string ⟨#[]⟩],.int .i64 9]) (by simp[results,Tryz.results7,go_sem,r0,r1]) rfl PP.out
  ·have KR:Hid (kapS l C a b=kaS P):=by unfold Hid;rw[KS.out,if_neg h0]
   have h0':((P.length:Int) == 0)=false:=by rw[beq_eq_false_iff_ne];omega
   have h1:=hP.1
   have HK:=Zh (kappaOf_c s cs P W2 hP HH.out.1 HH.out.2)
   obtain⟨r,hr⟩:∃ r,kaS P=r:=⟨_,rfl⟩
   rw[hr]at HK KR
   clear KS HH h0 hP hr
   go_wp2_with fail
   (with_reducible refine HK.out.mono ?_)
   rintro e W5 ⟨rfl,b5⟩
   have J5:=Zh (J2.out.keep b5)
   have BW5:=Zh (BW2.out.trans (b5.mono BW2.out.size))
   clear b5 HK
   obtain⟨W9,hW9⟩:∃ W9,two W5 w.heap.size (.string r.1) (.string r.2.1)=W9:=⟨_,rfl⟩
   have R9:B2 W9 w.heap.size (.string r.1) (.string r.2.1):=by rw[←hW9];exact J5.out.set _ _
   have PP:Hid (OpPost (kapS l C a b) w (.returned (.tuple #[.agg #[.string r.1,.string r.2.1],.int .i64 r.2.2])) W9):=by
    rw[←hW9,KR.out]
    exact⟨rfl,below_two BW5.out (Nat.le_refl _) _ _⟩
   have q0:=J5.out.c0
   have q1:=J5.out.c1
   have g0:=J5.out.fr 0
   have g1:=J5.out.fr 1
   obtain⟨r0,r1,_,_⟩:=id R9
   unfold two at hW9
   clear R9
   go_wp2_with fail
   exact bodyPost_ret (v:=.tuple #[.agg #[.string r.1,.string r.2.1],.int .i64 r.2.2]) (by simp[results,Tryz.results7,go_sem,r0,r1]) rfl PP.out
 ·have J2:=Zh (JR1.out.keep b2)
  have BW2:=Zh (JB1.out.trans (b2.mono JB1.out.size))
  have KR:kapS l C a b=(⟨#[]⟩,⟨#[]⟩,coS l C a b):=by unfold kapS;rw[if_pos hz]
  obtain⟨f,hf⟩:∃ f,coS l C a b=f:=⟨_,rfl⟩
  rw[hf]at KR hz ⊢
  have f1:(f == 0)=false:=by rw[beq_eq_false_iff_ne];exact hz
  have f2:(f != 0)=true:=by rw[bne,f1];rfl
  clear b2 hf hz HCC HC
  obtain⟨W9,hW9⟩:∃ W9,two W2 w.heap.size (.string ⟨#[]⟩) (.string ⟨#[]⟩)=W9:=⟨_,rfl⟩
  have R9:B2 W9 w.heap.size (.string ⟨#[]⟩) (.string ⟨#[]⟩):=by rw[←hW9];exact J2.out.set _ _
  have PP:Hid (OpPost (kapS l C a b) w (.returned (.tuple #[.agg #[.string ⟨#[]⟩,.string ⟨#[]⟩],.int .i64 f])) W9):=by
   rw[←hW9,KR]
   exact⟨rfl,below_two BW2.out (Nat.le_refl _) _ _⟩
  have q0:=J2.out.c0
  have q1:=J2.out.c1
  have g0:=J2.out.fr 0
  have g1:=J2.out.fr 1
  obtain⟨r0,r1,_,_⟩:=id R9
  unfold two at hW9
  clear R9
  go_wp2_with fail
  exact bodyPost_ret (v:=.tuple #[.agg #[.string ⟨#[]⟩,.string ⟨#[]⟩],.int .i64 f]) (by simp[results,Tryz.results7,go_sem,r0,r1]) rfl PP.out
def RdG(w:World)(g:Nat)(C:List Cg):Prop:=g<w.heap.size∧∀ j,j<C.length→CgAt w g (j*3) (cg C j)
theorem RdG.kept{w w':World}{g:Nat}{C:List Cg}{row:Option Nat}(h:RdG w g C)(hg:w.grownBy w' row)(hne:row≠some g):RdG w' g C:=
 ⟨Nat.lt_of_lt_of_le h.1 hg.size,fun j hj=>by
  obtain⟨h0,h1,h2⟩:=h.2 j hj
  exact⟨hg.cell h0 (fun e=>hne e.symm),hg.cell h1 (fun e=>hne e.symm),hg.cell h2 (fun e=>hne e.symm)⟩⟩
theorem RdG.alloc{w:World}{g:Nat}{C:List Cg}(h:RdG w g C)(o:Obj):RdG (w.alloc o) g C:=h.kept (row:=none) (below_grow (Cqbel_one w o)) (by simp)
theorem RdG.rd{w:World}{g:Nat}{C:List Cg}(h:RdG w g C)(hn:C.length≤9223372036854775807):RdC w (some ⟨g,0,none⟩) C:=
 ⟨hn,fun _=>⟨g,0,rfl,h.1,fun j hj=>by rw[Nat.zero_add];exact h.2 j hj⟩⟩
structure InQ (w wr:World) (v vl:Value) (xs:List Value) (R:List (List Cg)) (L:List Cg):Prop where
 own:wr.ownsRow w.heap.size 23 1 v (R.length+1) (xs ++ [vl])
 len:xs.length=R.length
 runs:∀ j,j<R.length→∃ g c,xs[j]?=some (.slice (some ⟨g,0,none⟩) (rn R j).length c)∧RdG wr g (rn R j)∧v.ownBlock≠some g∧vl.ownBlock≠some g∧w.heap.size≤g
 last:wr.ownsRow w.heap.size 69 3 vl L.length (crow L)
 ne:∀ g,vl.ownBlock=some g→v.ownBlock≠some g
 bel:Below w.heap.size w wr
theorem InQ.keep{w wr W:World}{v vl:Value}{xs:List Value}{R:List (List Cg)}{L:List Cg}(h:InQ w wr v vl xs R L)(hb:Below wr.heap.size wr W):InQ w W v vl xs R L:=
 ⟨Cqown_keep h.own hb,h.len,fun j hj=>by
  obtain⟨g,c,e,hr,h1,h2,h3⟩:=h.runs j hj
  exact⟨g,c,e,hr.kept (row:=none) (below_grow hb) (by simp),h1,h2,h3⟩,Cqown_keep h.last hb,h.ne,h.bel.trans (hb.mono h.bel.size)⟩
theorem InQ.val{w wr:World}{v vl:Value}{xs:List Value}{R:List (List Cg)}{L:List Cg}(h:InQ w wr v vl xs R L):∃ gv cap,v=.slice (some ⟨gv,0,none⟩) (R.length+1) cap∧wr.cell? ⟨gv,R.length,none⟩=some vl∧gv<wr.heap.size∧w.heap.size≤gv:=by
 rcases h.own.2 with ⟨_,e2⟩|⟨g,cap,cur,e1,_⟩
 ·omega
 ·have h0:=h.own
  subst e1
  have:=h0.cells (g:=g) rfl R.length vl (by rw[←h.len,List.getElem?_append_right (Nat.le_refl _)];simp)
  rw[add_at,Nat.zero_add]at this
  exact⟨g,cap,rfl,this,(h0.lt g rfl).2,(h0.lt g rfl).1⟩
theorem InQ.grown{w wr w4:World} {gv cap:Nat} {vl vl':Value} {xs:List Value} {R:List (List Cg)} {L:List Cg} {o:Obj} (h:InQ w wr (.slice (some ⟨gv,0,none⟩) (R.length+1) cap) vl xs R L)
  (hg:(wr.alloc o).grownBy w4 vl.ownBlock):w4.ownsRow w.heap.size 23 1 (.slice (some ⟨gv,0,none⟩) (R.length+1) cap) (R.length+1) (xs ++ [vl])∧w4.cell? ⟨gv,R.length,none⟩=some vl∧w4.frozen? ⟨gv,R.length,none⟩=false:=by
 have ho:=(h.own.alloc o).kept hg (.inr fun e=>by
  cases e2:vl.ownBlock with
  | none=>rw[e2]at e;simp[Value.ownBlock]at e
  | some g=>exact h.ne g e2 (e.trans e2))
 have:=ho.cells (g:=gv) rfl R.length vl (by rw[←h.len,List.getElem?_append_right (Nat.le_refl _)];simp)
 rw[add_at,Nat.zero_add]at this
 exact⟨ho,this,ho.frozenAt _⟩
theorem InQ.more{w wr w4:World} {gv cap:Nat} {vl vl':Value} {xs:List Value} {R:List (List Cg)} {L:List Cg} {o:Obj} {u:Cg} (h:InQ w wr (.slice (some ⟨gv,0,none⟩) (R.length+1) cap) vl xs R L)
  (hown:w4.ownsRow w.heap.size 69 3 vl' (L.length+1) (crow L ++ ccells u)) (hg:(wr.alloc o).grownBy w4 vl.ownBlock) (hloc:vl'.ownBlock=vl.ownBlock∨vl'.ownBlock=some (wr.heap.size+1)) :
  InQ w (w4.setCell ⟨gv,R.length,none⟩ vl') (.slice (some ⟨gv,0,none⟩) (R.length+1) cap) vl' xs R (L ++ [u]):=by
 have lv:=h.own.lt gv rfl
 have hx:∀ g,g<wr.heap.size→vl.ownBlock≠some g→vl'.ownBlock≠some g:=fun g hlt hne e=>by
  rcases hloc with q|q
  ·exact hne (q.symm.trans e)
  ·rw[q]at e;injection e with e;omega
 have hvl:vl.ownBlock≠some gv:=fun e=>h.ne gv e rfl
 obtain⟨ho,_,_⟩:=h.grown hg (vl':=vl')
 obtain⟨hs,hgs⟩:=ho.stored R.length vl'
 have es:(xs ++ [vl]).set R.length vl'=xs ++ [vl']:=by
  rw[←h.len,List.set_append_right _ _ (Nat.le_refl _),Nat.sub_self];rfl
 rw[es]at hs
 refine⟨hs,h.len,fun j hj=>?_,?_,fun g e1 e2=>?_,?_⟩
 ·obtain⟨g,c,e,hr,h1,h2,h3⟩:=h.runs j hj
  have hgl:=hr.1
  refine⟨g,c,e,((hr.alloc o).kept hg h2).kept hgs (fun e=>h1 e),h1,hx g hgl h2,h3⟩
 ·rw[List.length_append,crow_snoc]
  refine hown.kept hgs (.inr fun e=>?_)
  exact hx gv lv.2 hvl e
 ·injection e2 with e2
  have e2:gv=g:=e2
  subst e2
  exact hx gv lv.2 hvl e1
 ·have hsz:=h.bel.size
  exact ((h.bel.alloc hsz o).grown hg (by simp;omega) (fun g hg=>(h.last.lt g hg).1)).setCell (p:=⟨gv,R.length,none⟩) lv.1 _
theorem InQ.new{w wr w4:World} {v v' vl:Value} {xs:List Value} {R:List (List Cg)} {L:List Cg} {o:Obj} (h:InQ w wr v vl xs R L) (hL:0<L.length)
  (hown:w4.ownsRow w.heap.size 23 1 v' (R.length+1+1) ((xs ++ [vl]) ++ [.slice none 0 0])) (hg:(wr.alloc o).grownBy w4 v.ownBlock) (hloc:v'.ownBlock=v.ownBlock∨v'.ownBlock=some (wr.heap.size+1)) :
  InQ w w4 v' (.slice none 0 0) (xs ++ [vl]) (R ++ [L]) []:=by
 have hx:∀ g,g<wr.heap.size→v.ownBlock≠some g→v'.ownBlock≠some g:=fun g hlt hne e=>by
  rcases hloc with q|q
  ·exact hne (q.symm.trans e)
  ·rw[q]at e;injection e with e;omega
 refine⟨by rw[List.length_append];exact hown,by simp[h.len],fun j hj=>?_,World.ownsRow_nil _ _ _ _,fun g e=>by simp[Value.ownBlock]at e,?_⟩
 ·rcases rn_snoc hj with ⟨e1,e2⟩|⟨e1,e2⟩
  ·obtain⟨g,c,e,hr,h1,h2,h3⟩:=h.runs j e1
   rw[e2]
   exact⟨g,c,by rw[List.getElem?_append_left (by have:=h.len;omega)];exact e,(hr.alloc o).kept hg h1,hx g hr.1 h1,by simp[Value.ownBlock],h3⟩
  ·subst e1
   rw[e2]
   obtain⟨g,c,rfl,ho⟩:=own_C h.last hL
   have hr:RdG wr g L:=⟨ho.lt,ho.at_⟩
   have h1:=h.ne g rfl
   exact⟨g,c,by rw[←h.len,List.getElem?_append_right (Nat.le_refl _)];simp,(hr.alloc o).kept hg h1,hx g hr.1 h1,by simp[Value.ownBlock],(h.last.lt g rfl).1⟩
 ·have hsz:=h.bel.size
  exact (h.bel.alloc hsz o).grown hg (by simp;omega) (fun g hg=>(h.own.lt g hg).1)
theorem inQ_first{w wr w4:World}{v':Value}{o:Obj}(hb:Below w.heap.size w wr)(hown:w4.ownsRow w.heap.size 23 1 v' (0+1) ([] ++ [.slice none 0 0]))(hg:(wr.alloc o).grownBy w4 none):InQ w w4 v' (.slice none 0 0) [] [] []:=
 ⟨hown,rfl,fun j hj=>by simp at hj,World.ownsRow_nil _ _ _ _,fun g e=>by simp[Value.ownBlock]at e,(hb.alloc hb.size o).grown hg (by have:=hb.size;simp;omega) (fun g hg=>by cases hg)⟩
def RdRb(B:Nat)(w:World)(a:Option Addr)(R:List (List Cg)):Prop:=
 ∀ j,j<R.length→∃ g g' c',a=some ⟨g,0,none⟩∧B≤g∧g<w.heap.size∧w.cell? ⟨g,j,none⟩=some (.slice (some ⟨g',0,none⟩) (rn R j).length c')∧B≤g'∧RdG w g' (rn R j)
theorem RdRb.rd{B:Nat}{w:World}{a:Option Addr}{R:List (List Cg)}(h:RdRb B w a R)(hn:∀ D∈R,D.length≤9223372036854775807):RdR w a R:=fun j hj=>by
 obtain⟨g,g',c',e,_,hl,hc,_,hr⟩:=h j hj
 exact⟨g,_,c',e,hl,hc,hr.rd (hn _ (rn_in hj))⟩
theorem InQ.doneB{w wr:World}{v vl:Value}{xs:List Value}{R:List (List Cg)}{L:List Cg}(h:InQ w wr v vl xs R L)(hL:0<L.length):∃ a c,v=.slice a (R ++ [L]).length c∧RdRb w.heap.size wr a (R ++ [L]):=by
 obtain⟨gv,cap,rfl,_,hgl,hgb⟩:=h.val
 refine⟨some ⟨gv,0,none⟩,cap,by rw[List.length_append];rfl,fun j hj=>?_⟩
 have key:∀ x,(xs ++ [vl])[j]?=some x→wr.cell? ⟨gv,j,none⟩=some x:=fun x hx=>by
  have:=h.own.cells (g:=gv) rfl j x hx
  rw[add_at,Nat.zero_add]at this
  exact this
 rcases rn_snoc hj with ⟨e1,e2⟩|⟨e1,e2⟩
 ·obtain⟨g,c,e,hr,_,_,h3⟩:=h.runs j e1
  rw[e2]
  exact⟨gv,g,c,rfl,hgb,hgl,key _ (by rw[List.getElem?_append_left (by have:=h.len;omega)];exact e),h3,hr⟩
 ·subst e1
  rw[e2]
  obtain⟨g,c,rfl,ho⟩:=own_C h.last hL
  exact⟨gv,g,c,rfl,hgb,hgl,key _ (by rw[←h.len,List.getElem?_append_right (Nat.le_refl _)];simp),(h.last.lt g rfl).1,⟨ho.lt,ho.at_⟩⟩
def RelQ(C:List Cg)(w wr:World)(v:Value)(k:Nat):Prop:=
 (k=0∧v=.slice none 0 0∧Below w.heap.size w wr)∨(0<k∧∃ vl xs,InQ w wr v vl xs (cas C (k-1)) (seg C (beg C (k-1)) (k-beg C (k-1))))
theorem rel_more{C:List Cg}{w wr:World}{v vl:Value}{xs:List Value}{R:List (List Cg)}{L:List Cg}{k:Nat}(e:R=cas C k∧L=seg C (beg C k) (k+1-beg C k))(h:InQ w wr v vl xs R L):RelQ C w wr v (k+1):=
 .inr ⟨by omega,vl,xs,by rw[Nat.add_sub_cancel,←e.1,←e.2];exact h⟩
def S7(z:Nat)(u:Cg)(V:World):Prop:=V.cell? ⟨z,0,none⟩=some (.int .i64 u.ca)∧V.cell? ⟨z,1,none⟩=some (.int .i64 u.co)∧V.cell? ⟨z,2,none⟩=some (.int .i64 u.cd)
structure B0 (V:World) (z:Nat) (u:Cg):Prop where
 c0:V.cell? ⟨z,0,none⟩=some (.int .i64 u.ca)
 c1:V.cell? ⟨z,1,none⟩=some (.int .i64 u.co)
 c2:V.cell? ⟨z,2,none⟩=some (.int .i64 u.cd)
 lt:z<V.heap.size
theorem B0.keep{V W:World}{z:Nat}{u:Cg}(h:B0 V z u)(hb:Below V.heap.size V W):B0 W z u:=
 ⟨(hb.cell (p:=⟨z,0,none⟩) h.lt).trans h.c0,(hb.cell (p:=⟨z,1,none⟩) h.lt).trans h.c1,(hb.cell (p:=⟨z,2,none⟩) h.lt).trans h.c2,Nat.lt_of_lt_of_le h.lt hb.size⟩
theorem box_of{V:World}{z:Nat}{u:Cg}(h:S7 z u V∧z<V.heap.size):B0 V z u:=⟨h.1.1,h.1.2.1,h.1.2.2,h.2⟩
theorem s7_of{V:World}{z:Nat}{u:Cg}(h:B0 V z u):S7 z u V:=⟨h.c0,h.c1,h.c2⟩
def CsB(C:List Cg)(w:World)(e:Ending)(w':World):Prop:=∃ a c,e=.returned (.slice a (cases_ C).length c)∧RdRb w.heap.size w' a (cases_ C)∧Below w.heap.size w w'
set_option maxHeartbeats 4000000 in
theorem rcasesB_c(a:Option Addr) (c:Nat) (C:List Cg) (w:World) (hC:RdC w a C) (hn:C.length≤20000) :
  Calls Tryz.prog 28 #[.slice a C.length c] w (CsB C w):=by
 obtain⟨i0,hi,hz0,hz1,hz2⟩:=info_parts infoS
 obtain⟨j0,hj,hy0,hy1,hy2⟩:=info_parts infoC
 have HC:=Zh hC
 have h9:=hC.1
 clear hC
 go_enter Tryz.func28,Tryz.ntmps28
 go_wp2
 go_loopw [3,8] (fun v i wr=>∃ k:Nat,k≤C.length∧i=.int .i64 k∧Hid (RelQ C w wr v k)) (fun _ i _=>C.length-(intOf i).toNat)
 case atStart=>exact⟨0,Nat.zero_le _,rfl,.inl ⟨rfl,rfl,Below.refl _ _⟩⟩
 case round=>
  obtain⟨k,hk,rfl,hS⟩:=hrel
  have BE:Hid (Below w.heap.size w wr):=by
   rcases hS.out with ⟨_,_,h⟩|⟨_,_,_,h⟩
   ·exact h
   ·exact h.bel
  by_cases hlt:k<C.length
  ·obtain⟨b',off,rfl,u0,u1,u2⟩:=(HC.out.below BE.out).at_ hlt
   have hlt':(k:Int)<(C.length:Int):=by omega
   have hk9:(k:Int)<20000:=by omega
   obtain⟨W1,hW1⟩:∃ W1,wr.alloc (.cells #[.int .i64 (cg C k).ca,.int .i64 (cg C k).co,.int .i64 (cg C k).cd] 69)=W1:=⟨_,rfl⟩
   have N1:Hid (CodB wr W1 (cg C k)):=by unfold Hid;rw[←hW1];exact cod_b _ _
   have v0:=N1.out.2.c0
   obtain⟨z,hz⟩:∃ z,wr.heap.size=z:=⟨_,rfl⟩
   have ZL:Hid (z<W1.heap.size):=by rw[←hz];exact N1.out.2.lt
   have BX:Hid (CqB3 W1 z (.int .i64 (cg C k).ca) (.int .i64 (cg C k).co) (.int .i64 (cg C k).cd)):=by rw[←hz];exact N1.out.2
   rw[hz]at v0
   by_cases hk0:k=0
   ·obtain rfl:u3=.slice none 0 0:=by
     rcases hS.out with ⟨_,h,_⟩|⟨h,_⟩
     ·exact h
     ·omega
    have BW1:=Zh (BE.out.trans (N1.out.1.mono BE.out.size))
    subst hk0
    simp only[Nat.zero_mul,Nat.add_zero]at u0 u1 u2
    clear hS N1 BE
    go_wp2_with fail
    go_quiet (fail)
    have O2:Hid (Below w.heap.size w (W1.drewN nq)∧CqB3 (W1.drewN nq) z (.int .i64 (cg C 0).ca) (.int .i64 (cg C 0).co) (.int .i64 (cg C 0).cd)):=⟨below_drewN BW1.out nq,BX.out.keep (below_drewN (Below.refl _ _) nq)⟩
    clear BW1 hW1 u0 u1 u2 v0 BX
    have ZL2:Hid (z<(W1.drewN nq).heap.size):=ZL.out
    clear ZL
    generalize W1.drewN nq=W2 at O2 ZL2 ⊢
    have ON:Hid (W2.ownsRow w.heap.size 23 1 (.slice none 0 0) 0 []):=World.ownsRow_nil _ _ _ _
    go_wp2_with (at_builtin;refine wpList_append_own_at _ rfl _ _ 60 rfl w.heap.size 23 i0 (.slice none 0 0) 1 24 Tryz.underlying60 hi hz0 hz1 hz2 rfl (by decide) _ _ _ rfl (ON.out.alloc _) ⟨W2.heap.size,0,none⟩ 1 1 [.slice none 0 0] rfl rfl (cell_one_new _ _ _) (by simp[Value.oneCell']) ?c3 ?c4 ?c5 ?_)
    case c3=>unfold maxLen;omega
    case c4=>omega
    case c5=>have:=O2.out.1.size;simp;omega
    intro v' w4 hown hgrow _ hloc
    have Q:Hid (InQ w w4 v' (.slice none 0 0) [] [] []):=inQ_first O2.out.1 hown hgrow
    have b4:Below W2.heap.size W2 w4:=((Cqbel_one W2 _).grown hgrow (by simp) (fun g hg=>by cases hg))
    have X:Hid (S7 z (cg C 0) w4∧z<w4.heap.size):=by
     have:=O2.out.2.keep b4
     exact⟨⟨this.c0,this.c1,this.c2⟩,this.lt⟩
    have ZL:Hid (z<w4.heap.size):=X.out.2
    have VZ:Hid (v'.ownBlock≠some z):=fun e=>by
     have h1:=ZL2.out
     rcases hloc with h|h
     ·rw[h]at e;simp[Value.ownBlock]at e
     ·rw[h]at e;injection e with e;first | omega | (simp at e;omega)
    have VZL:Hid ((.slice none 0 0:Value).ownBlock≠some z):=by unfold Hid;simp[Value.ownBlock]
    have EE:Hid (([]:List (List Cg))=cas C 0∧([]:List Cg) ++ [cg C 0]=seg C (beg C 0) (0+1-beg C 0)):=⟨rfl,rfl⟩
    obtain⟨R,hR'⟩:∃ R:List (List Cg),R=[]:=⟨_,rfl⟩
    obtain⟨xs,hxs⟩:∃ xs:List Value,xs=[]:=⟨_,rfl⟩
    have hR:R.length≤20000:=by rw[hR'];simp
    rw[←hR']at EE
    rw[←hR',←hxs]at Q
    clear hown hgrow hloc b4 O2 ON hR' hxs ZL2
    obtain⟨gv,cap,rfl,hcv0,hgl,hgb⟩:=Q.out.val
    have hm9:R.length≤20000:=hR
    obtain⟨m,hm⟩:∃ m,R.length=m:=⟨_,rfl⟩
    have HM:=Zh hm
    rw[hm]at hcv0 hm9
    have hm1:(m:Int)+1-1=(m:Int):=by omega
    have hm2:(m:Int)<(m:Int)+1:=by omega
    have hmw:IntKind.i64.wrap (m:Int)=(m:Int):=by rw[IntKind.wrap_i64]<;>omega
    have hm0:(0:Int)≤(m:Int):=by omega
    have VZ2:Hid (gv≠z):=fun e=>VZ.out (by rw[e];rfl)
    clear hR
    rw[hm]
    go_wp2_with fail
    refine wp_region_noPanic ?_
    refine wp_region_held_drew (S:=S7 z (cg C 0)) (by kernel_rfl) (s7_of ((box_of X.out).keep (Below.refl _ _).drew)) (fun hS=>?_)
    obtain⟨WD,hWD⟩:∃ W,w4.drew=W:=⟨_,rfl⟩
    have D0:Hid (Below w4.heap.size w4 WD):=by unfold Hid;rw[←hWD];exact (Below.refl _ _).drew
    rw[hWD]at hS ⊢
    clear hWD
    have QD:=Zh (Q.out.keep D0.out)
    have hcv:WD.cell? ⟨gv,m,none⟩=some (.slice none 0 0):=(D0.out.cell (p:=⟨gv,m,none⟩) hgl).trans hcv0
    have GL:Hid (gv<WD.heap.size):=Nat.lt_of_lt_of_le hgl D0.out.size
    have hS0:Hid (S7 z (cg C 0) WD∧z<WD.heap.size):=⟨hS,Nat.lt_of_lt_of_le ZL.out D0.out.size⟩
    clear hcv0 hgl Q X D0
    refine Zt (i:=0) (v:=?v0z1) rfl (Or.inl ⟨by rfl,?hy0z1⟩) ?rest0z1
    case hy0z1=>
     intro w hSw
     dsimp only[S7]at hSw
     go_simp
     try with_reducible rfl
    simp only[Act.put,Zd,Ze,Zf,Za,Zb,Zc]
    refine Zt (i:=1) (v:=?v1z2) rfl (Or.inl ⟨by rfl,?hy1z2⟩) ?rest1z2
    case hy1z2=>
     intro w hSw
     dsimp only[S7]at hSw
     go_simp
     try with_reducible rfl
    simp only[Act.put,Zd,Ze,Zf,Za,Zb,Zc]
    refine Zt (i:=2) (v:=?v2z3) rfl (Or.inl ⟨by rfl,?hy2z3⟩) ?rest2z3
    case hy2z3=>
     intro w hSw
     dsimp only[S7]at hSw
     go_simp
     try with_reducible rfl
    simp only[Act.put,Zd,Ze,Zf,Za,Zb,Zc]
    refine Zt (i:=3) (v:=?v3z4) rfl (Or.inl ⟨by rfl,?hy3z4⟩) ?rest3z4
    case hy3z4=>
     intro w hSw
     dsimp only[S7]at hSw
     go_simp
     try with_reducible rfl
    simp only[Act.put,Zd,Ze,Zf,Za,Zb,Zc]
    refine Zt (i:=4) (v:=?v4z5) rfl (Or.inl ⟨by rfl,?hy4z5⟩) ?rest4z5
    case hy4z5=>
     intro w hSw
     dsimp only[S7]at hSw
     go_simp
     try with_reducible rfl
    simp only[Act.put,Zd,Ze,Zf,Za,Zb,Zc]
    refine Zt (i:=5) (v:=?v5z6) rfl (Or.inl ⟨by rfl,?hy5z6⟩) ?rest5z6
    case hy5z6=>
     intro w hSw
     dsimp only[S7]at hSw
     go_simp
     try with_reducible rfl
    simp only[Act.put,Zd,Ze,Zf,Za,Zb,Zc]
    refine Zt (i:=6) (v:=?v6z7) rfl (Or.inl ⟨by rfl,?hy6z7⟩) ?rest6z7
    case hy6z7=>
     intro w hSw
     dsimp only[S7]at hSw
     go_simp
     try with_reducible rfl
    simp only[Act.put,Zd,Ze,Zf,Za,Zb,Zc]
    refine Zt (i:=7) (v:=?v7z8) rfl (Or.inl ⟨by rfl,?hy7z8⟩) ?rest7z8
    case hy7z8=>
     intro w hSw
     dsimp only[S7]at hSw
     go_simp
     try with_reducible rfl
    simp only[Act.put,Zd,Ze,Zf,Za,Zb,Zc]
    refine Zt (i:=8) (v:=?v8z9) rfl (Or.inl ⟨by rfl,?hy8z9⟩) ?rest8z9
    case hy8z9=>
     intro w hSw
     dsimp only[S7]at hSw
     go_simp
     try with_reducible rfl
    simp only[Act.put,Zd,Ze,Zf,Za,Zb,Zc]
    refine Zt (i:=10) (v:=?v10z10) rfl (Or.inl ⟨by rfl,?hy10z10⟩) ?rest10z10
    case hy10z10=>
     intro w hSw
     dsimp only[S7]at hSw
     go_simp
     try with_reducible rfl
    simp only[Act.put,Zd,Ze,Zf,Za,Zb,Zc]
    refine wpAnyH_ready (rs:=[9,11]) (by kernel_rfl) (by simp) ?_
    refine AllReadyH.cons rfl (fun K hK=>?_) (AllReadyH.cons rfl (fun K hK=>?_) AllReadyH.nil)
    ·go_simp
     refine hK.out _ _ hS (fun _=>?_)
     clear hK K
     try simp only[Act.put,Za,Zb,Zc]
     refine wpAnyH_ready (rs:=[11]) (by kernel_rfl) (by simp) ?_
     refine AllReadyH.cons rfl (fun K hK=>?_) AllReadyH.nil
     go_simp
     have hT:S7 z (cg C 0) (WD.alloc (.cells #[.int .i64 (cg C 0).ca,.int .i64 (cg C 0).co,.int .i64 (cg C 0).cd] 69)):=s7_of ((box_of hS0.out).keep (Cqbel_one WD _))
     have ca:(WD.alloc (.cells #[.int .i64 (cg C 0).ca,.int .i64 (cg C 0).co,.int .i64 (cg C 0).cd] 69)).cell? ⟨gv,m,none⟩=some (.slice none 0 0):=((Cqbel_one WD _).cell (p:=⟨gv,m,none⟩) GL.out).trans hcv
     refine hK.out _ _ hT (fun _=>?_)
     clear hK K hS
     have hS:=hT
     clear hT
     try simp only[Act.put,Za,Zb,Zc]
     have hx1:∀ u∈[Value.int .i64 (cg C 0).ca,.int .i64 (cg C 0).co,.int .i64 (cg C 0).cd],u.oneCell'=true:=by intro u hu;simp at hu;rcases hu with rfl | rfl | rfl<;>rfl
     have hx2:([]:List Cg).length+1≤maxLen:=by unfold maxLen;simp
     have hx3:(([]:List Cg).length+1)*24≤140737488355328:=by simp
     have hx4:w.heap.size≤(WD.alloc (.cells #[.int .i64 (cg C 0).ca,.int .i64 (cg C 0).co,.int .i64 (cg C 0).cd] 69)).heap.size:=by have:=QD.out.bel.size;simp;omega
     refine wpAnyH_ready (rs:=[12]) (by kernel_rfl) (by simp) ?_
     refine AllReadyH.cons rfl (fun K hK=>?_) AllReadyH.nil
     first
      | refine wp_append_lies _ _ _ 23 (by rfl) w.heap.size 69 j0 (.agg #[.int .i64 0,.int .i64 0,.int .i64 0]) 3 24 Tryz.underlying23 hj hy0 hy1 hy2 rfl (by decide) _ _ _ (by rfl) (QD.out.last.alloc _) ⟨WD.heap.size,0,none⟩ 1 1 [.int .i64 (cg C 0).ca,.int .i64 (cg C 0).co,.int .i64 (cg C 0).cd] (by rfl) rfl (cell_three_new _ _ _ _ _) hx1 (by decide) hx2 hx3 hx4 (WD.heap.size+1) (by simp) ?_
      | refine step_append_lies _ rfl _ _ 23 (by rfl) w.heap.size 69 j0 (.agg #[.int .i64 0,.int .i64 0,.int .i64 0]) 3 24 Tryz.underlying23 hj hy0 hy1 hy2 rfl (by decide) _ _ _ (by rfl) (QD.out.last.alloc _) ⟨WD.heap.size,0,none⟩ 1 1 [.int .i64 (cg C 0).ca,.int .i64 (cg C 0).co,.int .i64 (cg C 0).cd] (by rfl) rfl (cell_three_new _ _ _ _ _) hx1 (by decide) hx2 hx3 hx4 (WD.heap.size+1) (by simp) ?_
     intro g' cap' w9 hown9 hgrow9 hloc9 _
     have GR:=QD.out.grown (vl':=.slice (some ⟨g',0,none⟩) (([]:List Cg).length+1) cap') hgrow9
     rw[HM.out]at GR
     have c9:=GR.2.1
     have f9:=GR.2.2
     have hT:S7 z (cg C 0) w9:=by
      have t:=(box_of hS0.out).keep (Cqbel_one WD (.cells #[.int .i64 (cg C 0).ca,.int .i64 (cg C 0).co,.int .i64 (cg C 0).cd] 69))
      have ne:∀ o,some (⟨z,o,none⟩:Addr).block≠(.slice none 0 0:Value).ownBlock:=fun o e=>VZL.out e.symm
      exact⟨hgrow9.cell t.c0 (ne 0),hgrow9.cell t.c1 (ne 1),hgrow9.cell t.c2 (ne 2)⟩
     have HT9:=Zh hT
     refine hK.out _ _ hT (fun _=>?_)
     have NX:Hid (InQ w (w9.setCell ⟨gv,m,none⟩ (.slice (some ⟨g',0,none⟩) (([]:List Cg).length+1) cap')) (.slice (some ⟨gv,0,none⟩) (m+1) cap) (.slice (some ⟨g',0,none⟩) (([]:List Cg).length+1) cap') xs R ([] ++ [cg C 0])):=by
      have:=QD.out.more (u:=cg C 0) hown9 hgrow9 (by rcases hloc9 with h | h;exact .inl h.symm;exact .inr (by rw[h];rfl))
      rw[HM.out]at this
      exact this
     clear hK K hS hT hown9 hgrow9 hloc9 GR hx1 hx2 hx3 hx4
     try simp only[Act.put,Za,Zb,Zc]
     refine Zt (i:=13) (v:=?v13z11) rfl (Or.inl ⟨by rfl,?hy13z11⟩) ?rest13z11
     case hy13z11=>
      intro w hSw
      dsimp only[S7]at hSw
      go_simp
      try with_reducible rfl
     simp only[Act.put,Zd,Ze,Zf,Za,Zb,Zc]
     refine wpAnyH_ready (rs:=[14]) (by kernel_rfl) (by simp) ?_
     refine AllReadyH.cons rfl (fun K hK=>?_) AllReadyH.nil
     go_simp
     have hT:S7 z (cg C 0) (w9.setCell ⟨gv,m,none⟩ (.slice (some ⟨g',0,none⟩) (([]:List Cg).length+1) cap')):=by
      have ne:gv≠z:=fun e=>VZ2.out e
      exact⟨(set_cell ne _).trans HT9.out.1,(set_cell ne _).trans HT9.out.2.1,(set_cell ne _).trans HT9.out.2.2⟩
     refine hK.out _ _ hT (fun _=>?_)
     clear hK K hT
     try simp only[Act.put,Za,Zb,Zc]
     refine wpAnyH_done (by kernel_rfl) ?_ _
     refine NoPanic.normal ?_
     go_wp2
     go_roundw
     case rel=>exact⟨0+1,by omega,by go_num,rel_more EE.out NX.out⟩
     case measure=>simp[intOf];omega
    ·go_simp
     have hT:S7 z (cg C 0) (WD.alloc (.cells #[.int .i64 (cg C 0).ca,.int .i64 (cg C 0).co,.int .i64 (cg C 0).cd] 69)):=s7_of ((box_of hS0.out).keep (Cqbel_one WD _))
     have ca:(WD.alloc (.cells #[.int .i64 (cg C 0).ca,.int .i64 (cg C 0).co,.int .i64 (cg C 0).cd] 69)).cell? ⟨gv,m,none⟩=some (.slice none 0 0):=((Cqbel_one WD _).cell (p:=⟨gv,m,none⟩) GL.out).trans hcv
     refine hK.out _ _ hT (fun _=>?_)
     clear hK K hS
     have hS:=hT
     clear hT
     try simp only[Act.put,Za,Zb,Zc]
     refine wpAnyH_ready (rs:=[9]) (by kernel_rfl) (by simp) ?_
     refine AllReadyH.cons rfl (fun K hK=>?_) AllReadyH.nil
     go_simp
     refine hK.out _ _ hS (fun _=>?_)
     clear hK K
     try simp only[Act.put,Za,Zb,Zc]
     have hx1:∀ u∈[Value.int .i64 (cg C 0).ca,.int .i64 (cg C 0).co,.int .i64 (cg C 0).cd],u.oneCell'=true:=by intro u hu;simp at hu;rcases hu with rfl | rfl | rfl<;>rfl
     have hx2:([]:List Cg).length+1≤maxLen:=by unfold maxLen;simp
     have hx3:(([]:List Cg).length+1)*24≤140737488355328:=by simp
     have hx4:w.heap.size≤(WD.alloc (.cells #[.int .i64 (cg C 0).ca,.int .i64 (cg C 0).co,.int .i64 (cg C 0).cd] 69)).heap.size:=by have:=QD.out.bel.size;simp;omega
     refine wpAnyH_ready (rs:=[12]) (by kernel_rfl) (by simp) ?_
     refine AllReadyH.cons rfl (fun K hK=>?_) AllReadyH.nil
     first
      | refine wp_append_lies _ _ _ 23 (by rfl) w.heap.size 69 j0 (.agg #[.int .i64 0,.int .i64 0,.int .i64 0]) 3 24 Tryz.underlying23 hj hy0 hy1 hy2 rfl (by decide) _ _ _ (by rfl) (QD.out.last.alloc _) ⟨WD.heap.size,0,none⟩ 1 1 [.int .i64 (cg C 0).ca,.int .i64 (cg C 0).co,.int .i64 (cg C 0).cd] (by rfl) rfl (cell_three_new _ _ _ _ _) hx1 (by decide) hx2 hx3 hx4 (WD.heap.size+1) (by simp) ?_
      | refine step_append_lies _ rfl _ _ 23 (by rfl) w.heap.size 69 j0 (.agg #[.int .i64 0,.int .i64 0,.int .i64 0]) 3 24 Tryz.underlying23 hj hy0 hy1 hy2 rfl (by decide) _ _ _ (by rfl) (QD.out.last.alloc _) ⟨WD.heap.size,0,none⟩ 1 1 [.int .i64 (cg C 0).ca,.int .i64 (cg C 0).co,.int .i64 (cg C 0).cd] (by rfl) rfl (cell_three_new _ _ _ _ _) hx1 (by decide) hx2 hx3 hx4 (WD.heap.size+1) (by simp) ?_
     intro g' cap' w9 hown9 hgrow9 hloc9 _
     have GR:=QD.out.grown (vl':=.slice (some ⟨g',0,none⟩) (([]:List Cg).length+1) cap') hgrow9
     rw[HM.out]at GR
     have c9:=GR.2.1
     have f9:=GR.2.2
     have hT:S7 z (cg C 0) w9:=by
      have t:=(box_of hS0.out).keep (Cqbel_one WD (.cells #[.int .i64 (cg C 0).ca,.int .i64 (cg C 0).co,.int .i64 (cg C 0).cd] 69))
      have ne:∀ o,some (⟨z,o,none⟩:Addr).block≠(.slice none 0 0:Value).ownBlock:=fun o e=>VZL.out e.symm
      exact⟨hgrow9.cell t.c0 (ne 0),hgrow9.cell t.c1 (ne 1),hgrow9.cell t.c2 (ne 2)⟩
     have HT9:=Zh hT
     refine hK.out _ _ hT (fun _=>?_)
     have NX:Hid (InQ w (w9.setCell ⟨gv,m,none⟩ (.slice (some ⟨g',0,none⟩) (([]:List Cg).length+1) cap')) (.slice (some ⟨gv,0,none⟩) (m+1) cap) (.slice (some ⟨g',0,none⟩) (([]:List Cg).length+1) cap') xs R ([] ++ [cg C 0])):=by
      have:=QD.out.more (u:=cg C 0) hown9 hgrow9 (by rcases hloc9 with h | h;exact .inl h.symm;exact .inr (by rw[h];rfl))
      rw[HM.out]at this
      exact this
     clear hK K hS hT hown9 hgrow9 hloc9 GR hx1 hx2 hx3 hx4
     try simp only[Act.put,Za,Zb,Zc]
     refine Zt (i:=13) (v:=?v13z12) rfl (Or.inl ⟨by rfl,?hy13z12⟩) ?rest13z12
     case hy13z12=>
      intro w hSw
      dsimp only[S7]at hSw
      go_simp
      try with_reducible rfl
     simp only[Act.put,Zd,Ze,Zf,Za,Zb,Zc]
     refine wpAnyH_ready (rs:=[14]) (by kernel_rfl) (by simp) ?_
     refine AllReadyH.cons rfl (fun K hK=>?_) AllReadyH.nil
     go_simp
     have hT:S7 z (cg C 0) (w9.setCell ⟨gv,m,none⟩ (.slice (some ⟨g',0,none⟩) (([]:List Cg).length+1) cap')):=by
      have ne:gv≠z:=fun e=>VZ2.out e
      exact⟨(set_cell ne _).trans HT9.out.1,(set_cell ne _).trans HT9.out.2.1,(set_cell ne _).trans HT9.out.2.2⟩
     refine hK.out _ _ hT (fun _=>?_)
     clear hK K hT
     try simp only[Act.put,Za,Zb,Zc]
     refine wpAnyH_done (by kernel_rfl) ?_ _
     refine NoPanic.normal ?_
     go_wp2
     go_roundw
     case rel=>exact⟨0+1,by omega,by go_num,rel_more EE.out NX.out⟩
     case measure=>simp[intOf];omega
   ·obtain⟨vl,xs,hQ⟩:∃ vl xs,InQ w wr u3 vl xs (cas C (k-1)) (seg C (beg C (k-1)) (k-beg C (k-1))):=by
     rcases hS.out with ⟨h,_⟩|⟨_,h⟩
     ·exact absurd h hk0
     ·exact h
    have Q1:=Zh (hQ.keep N1.out.1)
    obtain⟨n,rfl⟩:∃ n,k=n+1:=⟨k-1,by omega⟩
    rw[Nat.add_sub_cancel]at Q1
    obtain⟨_,_,e,p0,_,_⟩:=(HC.out.below (BE.out.trans (N1.out.1.mono BE.out.size))).at_ (k:=n) (by omega)
    injection e with e;injection e with e1 e2;subst e1;subst e2
    have hb1:=beg_le C n
    have hcl:=cas_len C n
    have hk1:¬ (n:Int)+1=0:=by omega
    have hk2:((n:Int)+1 == 0)=false:=by rw[beq_eq_false_iff_ne];exact hk1
    have hk3:decide ((n:Int)+1=0)=false:=decide_eq_false hk1
    have hk4:(n:Int)+1-1=(n:Int):=by omega
    have hk5:(n:Int)<(C.length:Int):=by omega
    have hk6:IntKind.i64.wrap (n:Int)=(n:Int):=by rw[IntKind.wrap_i64]<;>omega
    have hk7:(n:Int)<20000:=by omega
    have hk8:(n:Int)+1<20000:=by omega
    have HLs:Hid (beg C n≤n):=hb1
    have VZ:Hid (u3.ownBlock≠some z):=fun e=>by
     have:=(hQ.own.lt z e).2
     omega
    have VZL:Hid (vl.ownBlock≠some z):=fun e=>by
     have:=(hQ.last.lt z e).2
     omega
    clear hQ hS N1 BE hk0
    by_cases hne:(cg C (n+1)).ca=(cg C n).ca
    ·have hO:¬ New C (n+1):=fun h=>by
      rcases h with h|h
      ·omega
      ·exact h (by rw[Nat.add_sub_cancel];exact hne)
     have EE:Hid (cas C n=cas C (n+1)∧seg C (beg C n) (n+1-beg C n) ++ [cg C (n+1)]=seg C (beg C (n+1)) (n+1+1-beg C (n+1))):=by
      refine⟨(cas_old hO).symm,?_⟩
      rw[beg_old hO,show n+1+1-beg C n=(n+1-beg C n)+1 by omega,seg_succ,show beg C n+(n+1-beg C n)=n+1 by omega]
     have hne0:((cg C (n+1)).ca == (cg C n).ca)=true:=by rw[beq_iff_eq];exact hne
     have hne1:((cg C (n+1)).ca != (cg C n).ca)=false:=by rw[bne,hne0];rfl
     clear hO hne
     go_wp2_with fail
     go_quiet (fail)
     have Q2:Hid (InQ w (W1.drewN nq) u3 vl xs (cas C n) (seg C (beg C n) (n+1-beg C n))):=Q1.out.keep (below_drewN (Below.refl _ _) nq)
     have X:Hid (S7 z (cg C (n+1)) (W1.drewN nq)∧z<(W1.drewN nq).heap.size):=by
      have:=BX.out.keep (below_drewN (Below.refl _ _) nq)
      exact⟨⟨this.c0,this.c1,this.c2⟩,this.lt⟩
     clear Q1 hW1 u0 u1 u2 v0 p0 ZL BX
     generalize W1.drewN nq=W2 at Q2 X ⊢
     have ZL:Hid (z<W2.heap.size):=X.out.2
     obtain⟨R,hR'⟩:∃ R,cas C n=R:=⟨_,rfl⟩
     obtain⟨L,hL'⟩:∃ L,seg C (beg C n) (n+1-beg C n)=L:=⟨_,rfl⟩
     have hL9:Hid (L.length≤20000):=by rw[←hL'];unfold Hid;rw[seg_len];omega
     have hR:R.length≤20000:=by rw[←hR'];omega
     rw[hR',hL']at EE Q2
     have Q:=Zh Q2.out
     obtain⟨k,hkk⟩:∃ k,n+1=k:=⟨_,rfl⟩
     rw[hkk]at X EE hlt hlt' hk ⊢
     have hk9:(k:Int)<20000:=by omega
     clear Q2 hL' hR' hb1 hcl hk1 hk2 hk3 hk4 hk5 hk6 hk7 hk8
     obtain⟨gv,cap,rfl,hcv0,hgl,hgb⟩:=Q.out.val
     have hm9:R.length≤20000:=hR
     obtain⟨m,hm⟩:∃ m,R.length=m:=⟨_,rfl⟩
     have HM:=Zh hm
     rw[hm]at hcv0 hm9
     have hm1:(m:Int)+1-1=(m:Int):=by omega
     have hm2:(m:Int)<(m:Int)+1:=by omega
     have hmw:IntKind.i64.wrap (m:Int)=(m:Int):=by rw[IntKind.wrap_i64]<;>omega
     have hm0:(0:Int)≤(m:Int):=by omega
     have VZ2:Hid (gv≠z):=fun e=>VZ.out (by rw[e];rfl)
     clear hR
     rw[hm]
     go_wp2_with fail
     refine wp_region_noPanic ?_
     refine wp_region_held_drew (S:=S7 z (cg C k)) (by kernel_rfl) (s7_of ((box_of X.out).keep (Below.refl _ _).drew)) (fun hS=>?_)
     obtain⟨WD,hWD⟩:∃ W,W2.drew=W:=⟨_,rfl⟩
     have D0:Hid (Below W2.heap.size W2 WD):=by unfold Hid;rw[←hWD];exact (Below.refl _ _).drew
     rw[hWD]at hS ⊢
     clear hWD
     have QD:=Zh (Q.out.keep D0.out)
     have hcv:WD.cell? ⟨gv,m,none⟩=some (vl):=(D0.out.cell (p:=⟨gv,m,none⟩) hgl).trans hcv0
     have GL:Hid (gv<WD.heap.size):=Nat.lt_of_lt_of_le hgl D0.out.size
     have hS0:Hid (S7 z (cg C k) WD∧z<WD.heap.size):=⟨hS,Nat.lt_of_lt_of_le ZL.out D0.out.size⟩
     clear hcv0 hgl Q X D0
     refine Zt (i:=0) (v:=?v0z13) rfl (Or.inl ⟨by rfl,?hy0z13⟩) ?rest0z13
     case hy0z13=>
      intro w hSw
      dsimp only[S7]at hSw
      go_simp
      try with_reducible rfl
     simp only[Act.put,Zd,Ze,Zf,Za,Zb,Zc]
     refine Zt (i:=1) (v:=?v1z14) rfl (Or.inl ⟨by rfl,?hy1z14⟩) ?rest1z14
     case hy1z14=>
      intro w hSw
      dsimp only[S7]at hSw
      go_simp
      try with_reducible rfl
     simp only[Act.put,Zd,Ze,Zf,Za,Zb,Zc]
     refine Zt (i:=2) (v:=?v2z15) rfl (Or.inl ⟨by rfl,?hy2z15⟩) ?rest2z15
     case hy2z15=>
      intro w hSw
      dsimp only[S7]at hSw
      go_simp
      try with_reducible rfl
     simp only[Act.put,Zd,Ze,Zf,Za,Zb,Zc]
     refine Zt (i:=3) (v:=?v3z16) rfl (Or.inl ⟨by rfl,?hy3z16⟩) ?rest3z16
     case hy3z16=>
      intro w hSw
      dsimp only[S7]at hSw
      go_simp
      try with_reducible rfl
     simp only[Act.put,Zd,Ze,Zf,Za,Zb,Zc]
     refine Zt (i:=4) (v:=?v4z17) rfl (Or.inl ⟨by rfl,?hy4z17⟩) ?rest4z17
     case hy4z17=>
      intro w hSw
      dsimp only[S7]at hSw
      go_simp
      try with_reducible rfl
     simp only[Act.put,Zd,Ze,Zf,Za,Zb,Zc]
     refine Zt (i:=5) (v:=?v5z18) rfl (Or.inl ⟨by rfl,?hy5z18⟩) ?rest5z18
     case hy5z18=>
      intro w hSw
      dsimp only[S7]at hSw
      go_simp
      try with_reducible rfl
     simp only[Act.put,Zd,Ze,Zf,Za,Zb,Zc]
     refine Zt (i:=6) (v:=?v6z19) rfl (Or.inl ⟨by rfl,?hy6z19⟩) ?rest6z19
     case hy6z19=>
      intro w hSw
      dsimp only[S7]at hSw
      go_simp
      try with_reducible rfl
     simp only[Act.put,Zd,Ze,Zf,Za,Zb,Zc]
     refine Zt (i:=7) (v:=?v7z20) rfl (Or.inl ⟨by rfl,?hy7z20⟩) ?rest7z20
     case hy7z20=>
      intro w hSw
      dsimp only[S7]at hSw
      go_simp
      try with_reducible rfl
     simp only[Act.put,Zd,Ze,Zf,Za,Zb,Zc]
     refine Zt (i:=8) (v:=?v8z21) rfl (Or.inl ⟨by rfl,?hy8z21⟩) ?rest8z21
     case hy8z21=>
      intro w hSw
      dsimp only[S7]at hSw
      go_simp
      try with_reducible rfl
     simp only[Act.put,Zd,Ze,Zf,Za,Zb,Zc]
     refine Zt (i:=10) (v:=?v10z22) rfl (Or.inl ⟨by rfl,?hy10z22⟩) ?rest10z22
     case hy10z22=>
      intro w hSw
      dsimp only[S7]at hSw
      go_simp
      try with_reducible rfl
     simp only[Act.put,Zd,Ze,Zf,Za,Zb,Zc]
     refine wpAnyH_ready (rs:=[9,11]) (by kernel_rfl) (by simp) ?_
     refine AllReadyH.cons rfl (fun K hK=>?_) (AllReadyH.cons rfl (fun K hK=>?_) AllReadyH.nil)
     ·go_simp
      refine hK.out _ _ hS (fun _=>?_)
      clear hK K
      try simp only[Act.put,Za,Zb,Zc]
      refine wpAnyH_ready (rs:=[11]) (by kernel_rfl) (by simp) ?_
      refine AllReadyH.cons rfl (fun K hK=>?_) AllReadyH.nil
      go_simp
      have hT:S7 z (cg C k) (WD.alloc (.cells #[.int .i64 (cg C k).ca,.int .i64 (cg C k).co,.int .i64 (cg C k).cd] 69)):=s7_of ((box_of hS0.out).keep (Cqbel_one WD _))
      have ca:(WD.alloc (.cells #[.int .i64 (cg C k).ca,.int .i64 (cg C k).co,.int .i64 (cg C k).cd] 69)).cell? ⟨gv,m,none⟩=some (vl):=((Cqbel_one WD _).cell (p:=⟨gv,m,none⟩) GL.out).trans hcv
      refine hK.out _ _ hT (fun _=>?_)
      clear hK K hS
      have hS:=hT
      clear hT
      try simp only[Act.put,Za,Zb,Zc]
      have hx1:∀ u∈[Value.int .i64 (cg C k).ca,.int .i64 (cg C k).co,.int .i64 (cg C k).cd],u.oneCell'=true:=by intro u hu;simp at hu;rcases hu with rfl | rfl | rfl<;>rfl
      have hx2:(L:List Cg).length+1≤maxLen:=by unfold maxLen;have:=hL9.out;omega
      have hx3:((L:List Cg).length+1)*24≤140737488355328:=by have:=hL9.out;omega
      have hx4:w.heap.size≤(WD.alloc (.cells #[.int .i64 (cg C k).ca,.int .i64 (cg C k).co,.int .i64 (cg C k).cd] 69)).heap.size:=by have:=QD.out.bel.size;simp;omega
      refine wpAnyH_ready (rs:=[12]) (by kernel_rfl) (by simp) ?_
      refine AllReadyH.cons rfl (fun K hK=>?_) AllReadyH.nil
      first
       | refine wp_append_lies _ _ _ 23 (by rfl) w.heap.size 69 j0 (.agg #[.int .i64 0,.int .i64 0,.int .i64 0]) 3 24 Tryz.underlying23 hj hy0 hy1 hy2 rfl (by decide) _ _ _ (by rfl) (QD.out.last.alloc _) ⟨WD.heap.size,0,none⟩ 1 1 [.int .i64 (cg C k).ca,.int .i64 (cg C k).co,.int .i64 (cg C k).cd] (by rfl) rfl (cell_three_new _ _ _ _ _) hx1 (by decide) hx2 hx3 hx4 (WD.heap.size+1) (by simp) ?_
       | refine step_append_lies _ rfl _ _ 23 (by rfl) w.heap.size 69 j0 (.agg #[.int .i64 0,.int .i64 0,.int .i64 0]) 3 24 Tryz.underlying23 hj hy0 hy1 hy2 rfl (by decide) _ _ _ (by rfl) (QD.out.last.alloc _) ⟨WD.heap.size,0,none⟩ 1 1 [.int .i64 (cg C k).ca,.int .i64 (cg C k).co,.int .i64 (cg C k).cd] (by rfl) rfl (cell_three_new _ _ _ _ _) hx1 (by decide) hx2 hx3 hx4 (WD.heap.size+1) (by simp) ?_
      intro g' cap' w9 hown9 hgrow9 hloc9 _
      have GR:=QD.out.grown (vl':=.slice (some ⟨g',0,none⟩) ((L:List Cg).length+1) cap') hgrow9
      rw[HM.out]at GR
      have c9:=GR.2.1
      have f9:=GR.2.2
      have hT:S7 z (cg C k) w9:=by
       have t:=(box_of hS0.out).keep (Cqbel_one WD (.cells #[.int .i64 (cg C k).ca,.int .i64 (cg C k).co,.int .i64 (cg C k).cd] 69))
       have ne:∀ o,some (⟨z,o,none⟩:Addr).block≠(vl:Value).ownBlock:=fun o e=>VZL.out e.symm
       exact⟨hgrow9.cell t.c0 (ne 0),hgrow9.cell t.c1 (ne 1),hgrow9.cell t.c2 (ne 2)⟩
      have HT9:=Zh hT
      refine hK.out _ _ hT (fun _=>?_)
      have NX:Hid (InQ w (w9.setCell ⟨gv,m,none⟩ (.slice (some ⟨g',0,none⟩) ((L:List Cg).length+1) cap')) (.slice (some ⟨gv,0,none⟩) (m+1) cap) (.slice (some ⟨g',0,none⟩) ((L:List Cg).length+1) cap') xs R (L ++ [cg C k])):=by
       have:=QD.out.more (u:=cg C k) hown9 hgrow9 (by rcases hloc9 with h | h;exact .inl h.symm;exact .inr (by rw[h];rfl))
       rw[HM.out]at this
       exact this
      clear hK K hS hT hown9 hgrow9 hloc9 GR hx1 hx2 hx3 hx4
      try simp only[Act.put,Za,Zb,Zc]
      refine Zt (i:=13) (v:=?v13z23) rfl (Or.inl ⟨by rfl,?hy13z23⟩) ?rest13z23
      case hy13z23=>
       intro w hSw
       dsimp only[S7]at hSw
       go_simp
       try with_reducible rfl
      simp only[Act.put,Zd,Ze,Zf,Za,Zb,Zc]
      refine wpAnyH_ready (rs:=[14]) (by kernel_rfl) (by simp) ?_
      refine AllReadyH.cons rfl (fun K hK=>?_) AllReadyH.nil
      go_simp
      have hT:S7 z (cg C k) (w9.setCell ⟨gv,m,none⟩ (.slice (some ⟨g',0,none⟩) ((L:List Cg).length+1) cap')):=by
       have ne:gv≠z:=fun e=>VZ2.out e
       exact⟨(set_cell ne _).trans HT9.out.1,(set_cell ne _).trans HT9.out.2.1,(set_cell ne _).trans HT9.out.2.2⟩
      refine hK.out _ _ hT (fun _=>?_)
      clear hK K hT
      try simp only[Act.put,Za,Zb,Zc]
      refine wpAnyH_done (by kernel_rfl) ?_ _
      refine NoPanic.normal ?_
      go_wp2
      go_roundw
      case rel=>exact⟨k+1,by omega,by go_num,rel_more EE.out NX.out⟩
      case measure=>simp[intOf];omega
     ·go_simp
      have hT:S7 z (cg C k) (WD.alloc (.cells #[.int .i64 (cg C k).ca,.int .i64 (cg C k).co,.int .i64 (cg C k).cd] 69)):=s7_of ((box_of hS0.out).keep (Cqbel_one WD _))
      have ca:(WD.alloc (.cells #[.int .i64 (cg C k).ca,.int .i64 (cg C k).co,.int .i64 (cg C k).cd] 69)).cell? ⟨gv,m,none⟩=some (vl):=((Cqbel_one WD _).cell (p:=⟨gv,m,none⟩) GL.out).trans hcv
      refine hK.out _ _ hT (fun _=>?_)
      clear hK K hS
      have hS:=hT
      clear hT
      try simp only[Act.put,Za,Zb,Zc]
      refine wpAnyH_ready (rs:=[9]) (by kernel_rfl) (by simp) ?_
      refine AllReadyH.cons rfl (fun K hK=>?_) AllReadyH.nil
      go_simp
      refine hK.out _ _ hS (fun _=>?_)
      clear hK K
      try simp only[Act.put,Za,Zb,Zc]
      have hx1:∀ u∈[Value.int .i64 (cg C k).ca,.int .i64 (cg C k).co,.int .i64 (cg C k).cd],u.oneCell'=true:=by intro u hu;simp at hu;rcases hu with rfl | rfl | rfl<;>rfl
      have hx2:(L:List Cg).length+1≤maxLen:=by unfold maxLen;have:=hL9.out;omega
      have hx3:((L:List Cg).length+1)*24≤140737488355328:=by have:=hL9.out;omega
      have hx4:w.heap.size≤(WD.alloc (.cells #[.int .i64 (cg C k).ca,.int .i64 (cg C k).co,.int .i64 (cg C k).cd] 69)).heap.size:=by have:=QD.out.bel.size;simp;omega
      refine wpAnyH_ready (rs:=[12]) (by kernel_rfl) (by simp) ?_
      refine AllReadyH.cons rfl (fun K hK=>?_) AllReadyH.nil
      first
       | refine wp_append_lies _ _ _ 23 (by rfl) w.heap.size 69 j0 (.agg #[.int .i64 0,.int .i64 0,.int .i64 0]) 3 24 Tryz.underlying23 hj hy0 hy1 hy2 rfl (by decide) _ _ _ (by rfl) (QD.out.last.alloc _) ⟨WD.heap.size,0,none⟩ 1 1 [.int .i64 (cg C k).ca,.int .i64 (cg C k).co,.int .i64 (cg C k).cd] (by rfl) rfl (cell_three_new _ _ _ _ _) hx1 (by decide) hx2 hx3 hx4 (WD.heap.size+1) (by simp) ?_
       | refine step_append_lies _ rfl _ _ 23 (by rfl) w.heap.size 69 j0 (.agg #[.int .i64 0,.int .i64 0,.int .i64 0]) 3 24 Tryz.underlying23 hj hy0 hy1 hy2 rfl (by decide) _ _ _ (by rfl) (QD.out.last.alloc _) ⟨WD.heap.size,0,none⟩ 1 1 [.int .i64 (cg C k).ca,.int .i64 (cg C k).co,.int .i64 (cg C k).cd] (by rfl) rfl (cell_three_new _ _ _ _ _) hx1 (by decide) hx2 hx3 hx4 (WD.heap.size+1) (by simp) ?_
      intro g' cap' w9 hown9 hgrow9 hloc9 _
      have GR:=QD.out.grown (vl':=.slice (some ⟨g',0,none⟩) ((L:List Cg).length+1) cap') hgrow9
      rw[HM.out]at GR
      have c9:=GR.2.1
      have f9:=GR.2.2
      have hT:S7 z (cg C k) w9:=by
       have t:=(box_of hS0.out).keep (Cqbel_one WD (.cells #[.int .i64 (cg C k).ca,.int .i64 (cg C k).co,.int .i64 (cg C k).cd] 69))
       have ne:∀ o,some (⟨z,o,none⟩:Addr).block≠(vl:Value).ownBlock:=fun o e=>VZL.out e.symm
       exact⟨hgrow9.cell t.c0 (ne 0),hgrow9.cell t.c1 (ne 1),hgrow9.cell t.c2 (ne 2)⟩
      have HT9:=Zh hT
      refine hK.out _ _ hT (fun _=>?_)
      have NX:Hid (InQ w (w9.setCell ⟨gv,m,none⟩ (.slice (some ⟨g',0,none⟩) ((L:List Cg).length+1) cap')) (.slice (some ⟨gv,0,none⟩) (m+1) cap) (.slice (some ⟨g',0,none⟩) ((L:List Cg).length+1) cap') xs R (L ++ [cg C k])):=by
       have:=QD.out.more (u:=cg C k) hown9 hgrow9 (by rcases hloc9 with h | h;exact .inl h.symm;exact .inr (by rw[h];rfl))
       rw[HM.out]at this
       exact this
      clear hK K hS hT hown9 hgrow9 hloc9 GR hx1 hx2 hx3 hx4
      try simp only[Act.put,Za,Zb,Zc]
      refine Zt (i:=13) (v:=?v13z24) rfl (Or.inl ⟨by rfl,?hy13z24⟩) ?rest13z24
      case hy13z24=>
       intro w hSw
       dsimp only[S7]at hSw
       go_simp
       try with_reducible rfl
      simp only[Act.put,Zd,Ze,Zf,Za,Zb,Zc]
      refine wpAnyH_ready (rs:=[14]) (by kernel_rfl) (by simp) ?_
      refine AllReadyH.cons rfl (fun K hK=>?_) AllReadyH.nil
      go_simp
      have hT:S7 z (cg C k) (w9.setCell ⟨gv,m,none⟩ (.slice (some ⟨g',0,none⟩) ((L:List Cg).length+1) cap')):=by
       have ne:gv≠z:=fun e=>VZ2.out e
       exact⟨(set_cell ne _).trans HT9.out.1,(set_cell ne _).trans HT9.out.2.1,(set_cell ne _).trans HT9.out.2.2⟩
      refine hK.out _ _ hT (fun _=>?_)
      clear hK K hT
      try simp only[Act.put,Za,Zb,Zc]
      refine wpAnyH_done (by kernel_rfl) ?_ _
      refine NoPanic.normal ?_
      go_wp2
      go_roundw
      case rel=>exact⟨k+1,by omega,by go_num,rel_more EE.out NX.out⟩
      case measure=>simp[intOf];omega
    ·have hN:New C (n+1):=.inr (by rw[Nat.add_sub_cancel];exact hne)
     have EE:Hid (cas C n ++ [seg C (beg C n) (n+1-beg C n)]=cas C (n+1)∧([]:List Cg) ++ [cg C (n+1)]=seg C (beg C (n+1)) (n+1+1-beg C (n+1))):=by
      refine⟨(cas_new hN).symm,?_⟩
      rw[beg_new hN,show n+1+1-(n+1)=0+1 by omega,seg_succ]
      rfl
     have hne0:((cg C (n+1)).ca == (cg C n).ca)=false:=by rw[beq_eq_false_iff_ne];exact hne
     have hne1:((cg C (n+1)).ca != (cg C n).ca)=true:=by rw[bne,hne0];rfl
     clear hN hne
     go_wp2_with fail
     go_quiet (fail)
     have Q2:Hid (InQ w (W1.drewN nq) u3 vl xs (cas C n) (seg C (beg C n) (n+1-beg C n))):=Q1.out.keep (below_drewN (Below.refl _ _) nq)
     have X2:Hid (CqB3 (W1.drewN nq) z (.int .i64 (cg C (n+1)).ca) (.int .i64 (cg C (n+1)).co) (.int .i64 (cg C (n+1)).cd)∧u3.ownBlock≠some z):=⟨BX.out.keep (below_drewN (Below.refl _ _) nq),VZ.out⟩
     clear Q1 hW1 u0 u1 u2 v0 p0 ZL BX VZ VZL
     generalize W1.drewN nq=W2 at Q2 X2 ⊢
     have hc9:(cas C n).length+1≤20000:=by omega
     go_wp2_with (at_builtin;refine wpList_append_own_at _ rfl _ _ 60 rfl w.heap.size 23 i0 (.slice none 0 0) 1 24 Tryz.underlying60 hi hz0 hz1 hz2 rfl (by decide) _ _ _ rfl (Q2.out.own.alloc _) ⟨W2.heap.size,0,none⟩ 1 1 [.slice none 0 0] rfl rfl (cell_one_new _ _ _) (by simp[Value.oneCell']) ?c3 ?c4 ?c5 ?_)
     case c3=>unfold maxLen;omega
     case c4=>omega
     case c5=>have:=Q2.out.bel.size;simp;omega
     intro v' w4 hown hgrow _ hloc
     have Q:=Zh (Q2.out.new (by rw[seg_len];have:=HLs.out;omega) (by rw[List.append_assoc];exact hown) hgrow hloc)
     have X:Hid (S7 z (cg C (n+1)) w4∧z<w4.heap.size):=by
      have t:=X2.out.1.keep (Cqbel_one W2 (.cells #[.slice none 0 0] 23))
      have ne:∀ o,some (⟨z,o,none⟩:Addr).block≠u3.ownBlock:=fun o e=>X2.out.2 e.symm
      exact⟨⟨hgrow.cell t.c0 (ne 0),hgrow.cell t.c1 (ne 1),hgrow.cell t.c2 (ne 2)⟩,Nat.lt_of_lt_of_le t.lt hgrow.size⟩
     have ZL:Hid (z<w4.heap.size):=X.out.2
     have VZ:Hid (v'.ownBlock≠some z):=fun e=>by
      have h1:=X2.out.1.lt
      rcases hloc with h|h
      ·exact X2.out.2 (h.symm.trans e)
      ·rw[h]at e;injection e with e;first | omega | (simp at e;omega)
     have VZL:Hid ((.slice none 0 0:Value).ownBlock≠some z):=by unfold Hid;simp[Value.ownBlock]
     have hR0:(cas C n ++ [seg C (beg C n) (n+1-beg C n)]).length≤20000:=by rw[List.length_append];simpa using hc9
     obtain⟨R,hR'⟩:∃ R,cas C n ++ [seg C (beg C n) (n+1-beg C n)]=R:=⟨_,rfl⟩
     obtain⟨ys,hys⟩:∃ ys,xs ++ [vl]=ys:=⟨_,rfl⟩
     rw[hR']at hR0 EE Q
     rw[hys]at Q
     have hR:=hR0
     obtain⟨k,hkk⟩:∃ k,n+1=k:=⟨_,rfl⟩
     rw[hkk]at X EE hlt hlt' hk ⊢
     have hk9:(k:Int)<20000:=by omega
     clear hown hgrow hloc Q2 X2 hR' hys hR0 hb1 hcl hk1 hk2 hk3 hk4 hk5 hk6 hk7 hk8 hc9
     obtain⟨gv,cap,rfl,hcv0,hgl,hgb⟩:=Q.out.val
     have hm9:R.length≤20000:=hR
     obtain⟨m,hm⟩:∃ m,R.length=m:=⟨_,rfl⟩
     have HM:=Zh hm
     rw[hm]at hcv0 hm9
     have hm1:(m:Int)+1-1=(m:Int):=by omega
     have hm2:(m:Int)<(m:Int)+1:=by omega
     have hmw:IntKind.i64.wrap (m:Int)=(m:Int):=by rw[IntKind.wrap_i64]<;>omega
     have hm0:(0:Int)≤(m:Int):=by omega
     have VZ2:Hid (gv≠z):=fun e=>VZ.out (by rw[e];rfl)
     clear hR
     rw[hm]
     go_wp2_with fail
     refine wp_region_noPanic ?_
     refine wp_region_held_drew (S:=S7 z (cg C k)) (by kernel_rfl) (s7_of ((box_of X.out).keep (Below.refl _ _).drew)) (fun hS=>?_)
     obtain⟨WD,hWD⟩:∃ W,w4.drew=W:=⟨_,rfl⟩
     have D0:Hid (Below w4.heap.size w4 WD):=by unfold Hid;rw[←hWD];exact (Below.refl _ _).drew
     rw[hWD]at hS ⊢
     clear hWD
     have QD:=Zh (Q.out.keep D0.out)
     have hcv:WD.cell? ⟨gv,m,none⟩=some (.slice none 0 0):=(D0.out.cell (p:=⟨gv,m,none⟩) hgl).trans hcv0
     have GL:Hid (gv<WD.heap.size):=Nat.lt_of_lt_of_le hgl D0.out.size
     have hS0:Hid (S7 z (cg C k) WD∧z<WD.heap.size):=⟨hS,Nat.lt_of_lt_of_le ZL.out D0.out.size⟩
     clear hcv0 hgl Q X D0
     refine Zt (i:=0) (v:=?v0z25) rfl (Or.inl ⟨by rfl,?hy0z25⟩) ?rest0z25
     case hy0z25=>
      intro w hSw
      dsimp only[S7]at hSw
      go_simp
      try with_reducible rfl
     simp only[Act.put,Zd,Ze,Zf,Za,Zb,Zc]
     refine Zt (i:=1) (v:=?v1z26) rfl (Or.inl ⟨by rfl,?hy1z26⟩) ?rest1z26
     case hy1z26=>
      intro w hSw
      dsimp only[S7]at hSw
      go_simp
      try with_reducible rfl
     simp only[Act.put,Zd,Ze,Zf,Za,Zb,Zc]
     refine Zt (i:=2) (v:=?v2z27) rfl (Or.inl ⟨by rfl,?hy2z27⟩) ?rest2z27
     case hy2z27=>
      intro w hSw
      dsimp only[S7]at hSw
      go_simp
      try with_reducible rfl
     simp only[Act.put,Zd,Ze,Zf,Za,Zb,Zc]
     refine Zt (i:=3) (v:=?v3z28) rfl (Or.inl ⟨by rfl,?hy3z28⟩) ?rest3z28
     case hy3z28=>
      intro w hSw
      dsimp only[S7]at hSw
      go_simp
      try with_reducible rfl
     simp only[Act.put,Zd,Ze,Zf,Za,Zb,Zc]
     refine Zt (i:=4) (v:=?v4z29) rfl (Or.inl ⟨by rfl,?hy4z29⟩) ?rest4z29
     case hy4z29=>
      intro w hSw
      dsimp only[S7]at hSw
      go_simp
      try with_reducible rfl
     simp only[Act.put,Zd,Ze,Zf,Za,Zb,Zc]
     refine Zt (i:=5) (v:=?v5z30) rfl (Or.inl ⟨by rfl,?hy5z30⟩) ?rest5z30
     case hy5z30=>
      intro w hSw
      dsimp only[S7]at hSw
      go_simp
      try with_reducible rfl
     simp only[Act.put,Zd,Ze,Zf,Za,Zb,Zc]
     refine Zt (i:=6) (v:=?v6z31) rfl (Or.inl ⟨by rfl,?hy6z31⟩) ?rest6z31
     case hy6z31=>
      intro w hSw
      dsimp only[S7]at hSw
      go_simp
      try with_reducible rfl
     simp only[Act.put,Zd,Ze,Zf,Za,Zb,Zc]
     refine Zt (i:=7) (v:=?v7z32) rfl (Or.inl ⟨by rfl,?hy7z32⟩) ?rest7z32
     case hy7z32=>
      intro w hSw
      dsimp only[S7]at hSw
      go_simp
      try with_reducible rfl
     simp only[Act.put,Zd,Ze,Zf,Za,Zb,Zc]
     refine Zt (i:=8) (v:=?v8z33) rfl (Or.inl ⟨by rfl,?hy8z33⟩) ?rest8z33
     case hy8z33=>
      intro w hSw
      dsimp only[S7]at hSw
      go_simp
      try with_reducible rfl
     simp only[Act.put,Zd,Ze,Zf,Za,Zb,Zc]
     refine Zt (i:=10) (v:=?v10z34) rfl (Or.inl ⟨by rfl,?hy10z34⟩) ?rest10z34
     case hy10z34=>
      intro w hSw
      dsimp only[S7]at hSw
      go_simp
      try with_reducible rfl
     simp only[Act.put,Zd,Ze,Zf,Za,Zb,Zc]
     refine wpAnyH_ready (rs:=[9,11]) (by kernel_rfl) (by simp) ?_
     refine AllReadyH.cons rfl (fun K hK=>?_) (AllReadyH.cons rfl (fun K hK=>?_) AllReadyH.nil)
     ·go_simp
      refine hK.out _ _ hS (fun _=>?_)
      clear hK K
      try simp only[Act.put,Za,Zb,Zc]
      refine wpAnyH_ready (rs:=[11]) (by kernel_rfl) (by simp) ?_
      refine AllReadyH.cons rfl (fun K hK=>?_) AllReadyH.nil
      go_simp
      have hT:S7 z (cg C k) (WD.alloc (.cells #[.int .i64 (cg C k).ca,.int .i64 (cg C k).co,.int .i64 (cg C k).cd] 69)):=s7_of ((box_of hS0.out).keep (Cqbel_one WD _))
      have ca:(WD.alloc (.cells #[.int .i64 (cg C k).ca,.int .i64 (cg C k).co,.int .i64 (cg C k).cd] 69)).cell? ⟨gv,m,none⟩=some (.slice none 0 0):=((Cqbel_one WD _).cell (p:=⟨gv,m,none⟩) GL.out).trans hcv
      refine hK.out _ _ hT (fun _=>?_)
      clear hK K hS
      have hS:=hT
      clear hT
      try simp only[Act.put,Za,Zb,Zc]
      have hx1:∀ u∈[Value.int .i64 (cg C k).ca,.int .i64 (cg C k).co,.int .i64 (cg C k).cd],u.oneCell'=true:=by intro u hu;simp at hu;rcases hu with rfl | rfl | rfl<;>rfl
      have hx2:([]:List Cg).length+1≤maxLen:=by unfold maxLen;simp
      have hx3:(([]:List Cg).length+1)*24≤140737488355328:=by simp
      have hx4:w.heap.size≤(WD.alloc (.cells #[.int .i64 (cg C k).ca,.int .i64 (cg C k).co,.int .i64 (cg C k).cd] 69)).heap.size:=by have:=QD.out.bel.size;simp;omega
      refine wpAnyH_ready (rs:=[12]) (by kernel_rfl) (by simp) ?_
      refine AllReadyH.cons rfl (fun K hK=>?_) AllReadyH.nil
      first
       | refine wp_append_lies _ _ _ 23 (by rfl) w.heap.size 69 j0 (.agg #[.int .i64 0,.int .i64 0,.int .i64 0]) 3 24 Tryz.underlying23 hj hy0 hy1 hy2 rfl (by decide) _ _ _ (by rfl) (QD.out.last.alloc _) ⟨WD.heap.size,0,none⟩ 1 1 [.int .i64 (cg C k).ca,.int .i64 (cg C k).co,.int .i64 (cg C k).cd] (by rfl) rfl (cell_three_new _ _ _ _ _) hx1 (by decide) hx2 hx3 hx4 (WD.heap.size+1) (by simp) ?_
       | refine step_append_lies _ rfl _ _ 23 (by rfl) w.heap.size 69 j0 (.agg #[.int .i64 0,.int .i64 0,.int .i64 0]) 3 24 Tryz.underlying23 hj hy0 hy1 hy2 rfl (by decide) _ _ _ (by rfl) (QD.out.last.alloc _) ⟨WD.heap.size,0,none⟩ 1 1 [.int .i64 (cg C k).ca,.int .i64 (cg C k).co,.int .i64 (cg C k).cd] (by rfl) rfl (cell_three_new _ _ _ _ _) hx1 (by decide) hx2 hx3 hx4 (WD.heap.size+1) (by simp) ?_
      intro g' cap' w9 hown9 hgrow9 hloc9 _
      have GR:=QD.out.grown (vl':=.slice (some ⟨g',0,none⟩) (([]:List Cg).length+1) cap') hgrow9
      rw[HM.out]at GR
      have c9:=GR.2.1
      have f9:=GR.2.2
      have hT:S7 z (cg C k) w9:=by
       have t:=(box_of hS0.out).keep (Cqbel_one WD (.cells #[.int .i64 (cg C k).ca,.int .i64 (cg C k).co,.int .i64 (cg C k).cd] 69))
       have ne:∀ o,some (⟨z,o,none⟩:Addr).block≠(.slice none 0 0:Value).ownBlock:=fun o e=>VZL.out e.symm
       exact⟨hgrow9.cell t.c0 (ne 0),hgrow9.cell t.c1 (ne 1),hgrow9.cell t.c2 (ne 2)⟩
      have HT9:=Zh hT
      refine hK.out _ _ hT (fun _=>?_)
      have NX:Hid (InQ w (w9.setCell ⟨gv,m,none⟩ (.slice (some ⟨g',0,none⟩) (([]:List Cg).length+1) cap')) (.slice (some ⟨gv,0,none⟩) (m+1) cap) (.slice (some ⟨g',0,none⟩) (([]:List Cg).length+1) cap') ys R ([] ++ [cg C k])):=by
       have:=QD.out.more (u:=cg C k) hown9 hgrow9 (by rcases hloc9 with h | h;exact .inl h.symm;exact .inr (by rw[h];rfl))
       rw[HM.out]at this
       exact this
      clear hK K hS hT hown9 hgrow9 hloc9 GR hx1 hx2 hx3 hx4
      try simp only[Act.put,Za,Zb,Zc]
      refine Zt (i:=13) (v:=?v13z35) rfl (Or.inl ⟨by rfl,?hy13z35⟩) ?rest13z35
      case hy13z35=>
       intro w hSw
       dsimp only[S7]at hSw
       go_simp
       try with_reducible rfl
      simp only[Act.put,Zd,Ze,Zf,Za,Zb,Zc]
      refine wpAnyH_ready (rs:=[14]) (by kernel_rfl) (by simp) ?_
      refine AllReadyH.cons rfl (fun K hK=>?_) AllReadyH.nil
      go_simp
      have hT:S7 z (cg C k) (w9.setCell ⟨gv,m,none⟩ (.slice (some ⟨g',0,none⟩) (([]:List Cg).length+1) cap')):=by
       have ne:gv≠z:=fun e=>VZ2.out e
       exact⟨(set_cell ne _).trans HT9.out.1,(set_cell ne _).trans HT9.out.2.1,(set_cell ne _).trans HT9.out.2.2⟩
      refine hK.out _ _ hT (fun _=>?_)
      clear hK K hT
      try simp only[Act.put,Za,Zb,Zc]
      refine wpAnyH_done (by kernel_rfl) ?_ _
      refine NoPanic.normal ?_
      go_wp2
      go_roundw
      case rel=>exact⟨k+1,by omega,by go_num,rel_more EE.out NX.out⟩
      case measure=>simp[intOf];omega
     ·go_simp
      have hT:S7 z (cg C k) (WD.alloc (.cells #[.int .i64 (cg C k).ca,.int .i64 (cg C k).co,.int .i64 (cg C k).cd] 69)):=s7_of ((box_of hS0.out).keep (Cqbel_one WD _))
      have ca:(WD.alloc (.cells #[.int .i64 (cg C k).ca,.int .i64 (cg C k).co,.int .i64 (cg C k).cd] 69)).cell? ⟨gv,m,none⟩=some (.slice none 0 0):=((Cqbel_one WD _).cell (p:=⟨gv,m,none⟩) GL.out).trans hcv
      refine hK.out _ _ hT (fun _=>?_)
      clear hK K hS
      have hS:=hT
      clear hT
      try simp only[Act.put,Za,Zb,Zc]
      refine wpAnyH_ready (rs:=[9]) (by kernel_rfl) (by simp) ?_
      refine AllReadyH.cons rfl (fun K hK=>?_) AllReadyH.nil
      go_simp
      refine hK.out _ _ hS (fun _=>?_)
      clear hK K
      try simp only[Act.put,Za,Zb,Zc]
      have hx1:∀ u∈[Value.int .i64 (cg C k).ca,.int .i64 (cg C k).co,.int .i64 (cg C k).cd],u.oneCell'=true:=by intro u hu;simp at hu;rcases hu with rfl | rfl | rfl<;>rfl
      have hx2:([]:List Cg).length+1≤maxLen:=by unfold maxLen;simp
      have hx3:(([]:List Cg).length+1)*24≤140737488355328:=by simp
      have hx4:w.heap.size≤(WD.alloc (.cells #[.int .i64 (cg C k).ca,.int .i64 (cg C k).co,.int .i64 (cg C k).cd] 69)).heap.size:=by have:=QD.out.bel.size;simp;omega
      refine wpAnyH_ready (rs:=[12]) (by kernel_rfl) (by simp) ?_
      refine AllReadyH.cons rfl (fun K hK=>?_) AllReadyH.nil
      first
       | refine wp_append_lies _ _ _ 23 (by rfl) w.heap.size 69 j0 (.agg #[.int .i64 0,.int .i64 0,.int .i64 0]) 3 24 Tryz.underlying23 hj hy0 hy1 hy2 rfl (by decide) _ _ _ (by rfl) (QD.out.last.alloc _) ⟨WD.heap.size,0,none⟩ 1 1 [.int .i64 (cg C k).ca,.int .i64 (cg C k).co,.int .i64 (cg C k).cd] (by rfl) rfl (cell_three_new _ _ _ _ _) hx1 (by decide) hx2 hx3 hx4 (WD.heap.size+1) (by simp) ?_
       | refine step_append_lies _ rfl _ _ 23 (by rfl) w.heap.size 69 j0 (.agg #[.int .i64 0,.int .i64 0,.int .i64 0]) 3 24 Tryz.underlying23 hj hy0 hy1 hy2 rfl (by decide) _ _ _ (by rfl) (QD.out.last.alloc _) ⟨WD.heap.size,0,none⟩ 1 1 [.int .i64 (cg C k).ca,.int .i64 (cg C k).co,.int .i64 (cg C k).cd] (by rfl) rfl (cell_three_new _ _ _ _ _) hx1 (by decide) hx2 hx3 hx4 (WD.heap.size+1) (by simp) ?_
      intro g' cap' w9 hown9 hgrow9 hloc9 _
      have GR:=QD.out.grown (vl':=.slice (some ⟨g',0,none⟩) (([]:List Cg).length+1) cap') hgrow9
      rw[HM.out]at GR
      have c9:=GR.2.1
      have f9:=GR.2.2
      have hT:S7 z (cg C k) w9:=by
       have t:=(box_of hS0.out).keep (Cqbel_one WD (.cells #[.int .i64 (cg C k).ca,.int .i64 (cg C k).co,.int .i64 (cg C k).cd] 69))
       have ne:∀ o,some (⟨z,o,none⟩:Addr).block≠(.slice none 0 0:Value).ownBlock:=fun o e=>VZL.out e.symm
       exact⟨hgrow9.cell t.c0 (ne 0),hgrow9.cell t.c1 (ne 1),hgrow9.cell t.c2 (ne 2)⟩
      have HT9:=Zh hT
      refine hK.out _ _ hT (fun _=>?_)
      have NX:Hid (InQ w (w9.setCell ⟨gv,m,none⟩ (.slice (some ⟨g',0,none⟩) (([]:List Cg).length+1) cap')) (.slice (some ⟨gv,0,none⟩) (m+1) cap) (.slice (some ⟨g',0,none⟩) (([]:List Cg).length+1) cap') ys R ([] ++ [cg C k])):=by
       have:=QD.out.more (u:=cg C k) hown9 hgrow9 (by rcases hloc9 with h | h;exact .inl h.symm;exact .inr (by rw[h];rfl))
       rw[HM.out]at this
       exact this
      clear hK K hS hT hown9 hgrow9 hloc9 GR hx1 hx2 hx3 hx4
      try simp only[Act.put,Za,Zb,Zc]
      refine Zt (i:=13) (v:=?v13z36) rfl (Or.inl ⟨by rfl,?hy13z36⟩) ?rest13z36
      case hy13z36=>
       intro w hSw
       dsimp only[S7]at hSw
       go_simp
       try with_reducible rfl
      simp only[Act.put,Zd,Ze,Zf,Za,Zb,Zc]
      refine wpAnyH_ready (rs:=[14]) (by kernel_rfl) (by simp) ?_
      refine AllReadyH.cons rfl (fun K hK=>?_) AllReadyH.nil
      go_simp
      have hT:S7 z (cg C k) (w9.setCell ⟨gv,m,none⟩ (.slice (some ⟨g',0,none⟩) (([]:List Cg).length+1) cap')):=by
       have ne:gv≠z:=fun e=>VZ2.out e
       exact⟨(set_cell ne _).trans HT9.out.1,(set_cell ne _).trans HT9.out.2.1,(set_cell ne _).trans HT9.out.2.2⟩
      refine hK.out _ _ hT (fun _=>?_)
      clear hK K hT
      try simp only[Act.put,Za,Zb,Zc]
      refine wpAnyH_done (by kernel_rfl) ?_ _
      refine NoPanic.normal ?_
      go_wp2
      go_roundw
      case rel=>exact⟨k+1,by omega,by go_num,rel_more EE.out NX.out⟩
      case measure=>simp[intOf];omega
  ·obtain rfl:k=C.length:=by omega
   have R:Hid (CsB C w (.returned u3) wr):=by
    rcases hS.out with ⟨h0,rfl,hb⟩|⟨h0,vl,xs,h⟩
    ·have e:cases_ C=[]:=by unfold cases_;rw[if_pos h0]
     rw[CsB,e]
     exact⟨none,0,rfl,fun j hj=>by simp at hj,hb⟩
    ·have e:cas C (C.length-1) ++ [seg C (beg C (C.length-1)) (C.length-beg C (C.length-1))]=cases_ C:=by unfold cases_;rw[if_neg (by omega)]
     have hb:=beg_le C (C.length-1)
     obtain⟨a',c',rfl,hr⟩:=h.doneB (by rw[seg_len];omega)
     rw[e]at hr ⊢
     exact⟨a',c',rfl,hr,h.bel⟩
   clear hlt hS BE
   go_wp2
   go_ret
   exact R.out
theorem rcases_c(a:Option Addr) (c:Nat) (C:List Cg) (w:World) (hC:RdC w a C) (hn:C.length≤20000) :
  Calls Tryz.prog 28 #[.slice a C.length c] w (CsP C w):=
 (rcasesB_c a c C w hC hn).mono fun _ _ ⟨a',c',e,hr,hb⟩=>⟨a',c',e,hr.rd (fun D hD=>by
  obtain⟨_,s,h2,_⟩:=cases_all hD
  omega),hb⟩
end Go.Proofs.YtghgbhmiliiohaaGreatDoor
