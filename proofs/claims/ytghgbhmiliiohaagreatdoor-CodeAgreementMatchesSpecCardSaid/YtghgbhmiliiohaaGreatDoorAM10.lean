/-
  CodeAgreementIsSymmetric: the pairs of common cases.
-/
import Derived.Test.YtghgbhmiliiohaaGreatDoorAM09
import Derived.Test.YtghgbhmiliiohaaGreatDoorAM08
import Derived.Test.YtghgbhmiliiohaaGreatDoorAM05
import Derived.Test.YtghgbhmiliiohaaGreatDoorAMQ
import Derived.Test.YtghgbhmiliiohaaGreatDoorAM04
set_option maxRecDepth 100000
namespace Go.Proofs.YtghgbhmiliiohaaGreatDoor
open Go.RowKit Go.WideMaps Go.Maps
theorem rn_in{R:List (List Cg)}{j:Nat}(h:j<R.length):rn R j∈R:=by
 unfold rn
 rw[List.getD,List.getElem?_eq_getElem h]
 exact List.getElem_mem h
theorem rdT_own{w:World}{T:TypeId}{B:Nat}{v:Value}{C:List Cg}(h:w.ownsRow B T 3 v C.length (crow C))(hn:C.length≤9223372036854775807):∃ a c,v=.slice a C.length c∧RdC w a C:=by
 obtain⟨a,c,rfl⟩:=own_slice h
 refine⟨a,c,rfl,hn,fun h0=>?_⟩
 rcases h.2 with ⟨_,e2⟩|⟨g,cap,cur,e1,_⟩
 ·omega
 ·injection e1 with e1
  subst e1
  refine⟨g,0,rfl,(h.lt g rfl).2,fun j hj=>?_⟩
  have hc:=h.cells (g:=g) rfl
  have at3:∀ i,i<3→w.cell? ⟨g,j*3+i,none⟩=(ccells (cg C j))[i]?:=fun i hi=>by
   have e:=crow_at C j hj i hi
   have hlt:i<(ccells (cg C j)).length:=hi
   rw[List.getElem?_eq_getElem hlt]at e
   have:=hc _ _ e
   rw[add_at,Nat.zero_add]at this
   rw[this,List.getElem?_eq_getElem hlt]
  rw[Nat.zero_add]
  exact⟨at3 0 (by omega),at3 1 (by omega),at3 2 (by omega)⟩
def pcells(p:Int×Int):List Value:=[.int .i64 p.1,.int .i64 p.2]
def prow(P:List (Int×Int)):List Value:=P.flatMap pcells
theorem prow_snoc(P:List (Int×Int))(p:Int×Int):prow (P ++ [p])=prow P ++ pcells p:=by unfold prow;rw[List.flatMap_append];simp
theorem prow_at:∀ (P:List (Int×Int)) (j:Nat),j<P.length→∀ i,i<2→(prow P)[j*2+i]?=(pcells (pn P j))[i]?
 | [],_,h,_,_=>by simp at h
 | u::P,0,_,i,hi=>by
  show (pcells u ++ prow P)[0*2+i]?=_
  rw[Nat.zero_mul,Nat.zero_add,List.getElem?_append_left (by simpa[pcells] using hi)]
  rfl
 | u::P,j+1,h,i,hi=>by
  show (pcells u ++ prow P)[(j+1)*2+i]?=_
  rw[List.getElem?_append_right (by simp only[pcells,List.length_cons,List.length_nil];omega)]
  rw[show (j+1)*2+i-(pcells u).length=j*2+i by simp only[pcells,List.length_cons,List.length_nil];omega]
  rw[prow_at P j (by simpa using h) i hi]
  rfl
def RdP(w:World)(a:Option Addr)(P:List (Int×Int)):Prop:=
 P.length≤9223372036854775807∧(0<P.length→∃ b off,a=some ⟨b,off,none⟩∧b<w.heap.size∧∀ j,j<P.length→w.cell? ⟨b,off+j*2,none⟩=some (.int .i64 (pn P j).1)∧w.cell? ⟨b,off+j*2+1,none⟩=some (.int .i64 (pn P j).2))
theorem RdP.below{w w':World}{a:Option Addr}{P:List (Int×Int)}(h:RdP w a P)(hb:Below w.heap.size w w'):RdP w' a P:=
 ⟨h.1,fun h0=>by
  obtain⟨b,off,e,hl,hc⟩:=h.2 h0
  exact⟨b,off,e,Nat.lt_of_lt_of_le hl hb.size,fun j hj=>⟨(hb.cell (p:=⟨b,off+j*2,none⟩) hl).trans (hc j hj).1,(hb.cell (p:=⟨b,off+j*2+1,none⟩) hl).trans (hc j hj).2⟩⟩⟩
theorem RdP.at_{w:World} {a:Option Addr} {P:List (Int×Int)} (h:RdP w a P) {k:Nat} (hk:k<P.length) :
  ∃ b off,a=some ⟨b,off,none⟩∧w.cell? ⟨b,off+k*2,none⟩=some (.int .i64 (pn P k).1)∧w.cell? ⟨b,off+k*2+1,none⟩=some (.int .i64 (pn P k).2):=by
 obtain⟨b,off,e,_,hc⟩:=h.2 (by omega)
 exact⟨b,off,e,(hc k hk).1,(hc k hk).2⟩
theorem infoPr:(Tryz.prog.info? 74).map (fun i=>(i.zero,i.size,i.bytes))=some (some (.agg #[.int .i64 0,.int .i64 0]),2,16):=by kernel_rfl
theorem rdP_own{w:World}{T:TypeId}{B:Nat}{v:Value}{P:List (Int×Int)}(h:w.ownsRow B T 2 v P.length (prow P))(hn:P.length≤9223372036854775807):∃ a c,v=.slice a P.length c∧RdP w a P:=by
 obtain⟨a,c,rfl⟩:=own_slice h
 refine⟨a,c,rfl,hn,fun h0=>?_⟩
 rcases h.2 with ⟨_,e2⟩|⟨g,cap,cur,e1,_⟩
 ·omega
 ·injection e1 with e1
  subst e1
  refine⟨g,0,rfl,(h.lt g rfl).2,fun j hj=>?_⟩
  have hc:=h.cells (g:=g) rfl
  have at2:∀ i,i<2→w.cell? ⟨g,j*2+i,none⟩=(pcells (pn P j))[i]?:=fun i hi=>by
   have e:=prow_at P j hj i hi
   have hlt:i<(pcells (pn P j)).length:=hi
   rw[List.getElem?_eq_getElem hlt]at e
   have:=hc _ _ e
   rw[add_at,Nat.zero_add]at this
   rw[this,List.getElem?_eq_getElem hlt]
  rw[Nat.zero_add]
  exact⟨at2 0 (by omega),at2 1 (by omega)⟩
theorem cell_two_new(w:World)(x y:Value)(e:TypeId):∀ j v,[x,y][j]?=some v→(w.alloc (.cells #[x,y] e)).cell? ((⟨w.heap.size,0,none⟩:Addr).add j)=some v:=fun j v h=>by
 rw[add_at,Nat.zero_add,World.cell?_alloc_new]
 match j,h with
 | 0,h=>simpa using h
 | 1,h=>simpa using h
theorem beg_run(C:List Cg):∀ k j,beg C k<j→j≤k→¬ New C j
 | 0,j,h1,h2=>by unfold beg at h1;omega
 | k+1,j,h1,h2=>by
  by_cases hN:New C (k+1)
  ·rw[beg_new hN]at h1;omega
  ·rw[beg_old hN]at h1
   by_cases e:j=k+1
   ·rw[e];exact hN
   ·exact beg_run C k j h1 (by omega)
def Run(C D:List Cg):Prop:=∃ s,s+D.length≤C.length∧D=seg C s D.length∧∀ j,s<j→j<s+D.length→¬ New C j
theorem run_seg{C:List Cg}{k:Nat}(hk:k<C.length):Run C (seg C (beg C k) (k+1-beg C k)):=by
 have hb:=beg_le C k
 refine⟨beg C k,by rw[seg_len];omega,by rw[seg_len],fun j h1 h2=>beg_run C k j h1 (by rw[seg_len]at h2;omega)⟩
theorem cas_run(C:List Cg):∀ k,k<C.length→∀ D∈cas C k,Run C D
 | 0,_,D,h=>by unfold cas at h;simp at h
 | k+1,hk,D,h=>by
  by_cases hN:New C (k+1)
  ·rw[cas_new hN]at h
   rcases List.mem_append.1 h with h|h
   ·exact cas_run C k (by omega) D h
   ·simp at h
    subst h
    exact run_seg (by omega)
  ·rw[cas_old hN]at h
   exact cas_run C k (by omega) D h
theorem cases_run{C D:List Cg}(h:D∈cases_ C):Run C D:=by
 unfold cases_ at h
 split at h
 ·simp at h
 ·rename_i h0
  rcases List.mem_append.1 h with h|h
  ·exact cas_run C _ (by omega) D h
  ·simp at h
   subst h
   have:=run_seg (C:=C) (k:=C.length-1) (by omega)
   rwa [show C.length-1+1=C.length by omega]at this
theorem cgs_order{h:Int→Bool}{C:List Cg}(e:cgsS h C=0){k:Nat}(hk:k+1<C.length)(hs:(cg C (k+1)).ca=(cg C k).ca):(cg C k).co<(cg C (k+1)).co:=by
 unfold cgsS at e
 by_cases h1:20000<C.length
 ·rw[if_pos h1]at e;simp at e
 rw[if_neg h1]at e
 have h2:=fe_zero e (k+1) hk
 have el:lst C (k+1)=cg C k:=by unfold lst;rw[if_neg (by omega)];rfl
 unfold cgE at h2
 rw[el]at h2
 split at h2
 ·simp at h2
 split at h2
 ·simp at h2
 split at h2
 ·simp at h2
 ·rename_i a b c
  split at h2
  ·simp at h2
  ·rename_i d
   have c2:¬ (cg C (k+1)).co<(cg C k).co:=fun h=>c (.inr ⟨hs,h⟩)
   have d2:(cg C (k+1)).co≠(cg C k).co:=fun h=>d ⟨hs,h⟩
   omega
theorem case_srt{h:Int→Bool}{C D:List Cg}(e:cgsS h C=0)(hD:D∈cases_ C):Srt D:=by
 obtain⟨s,hs,e1,hr⟩:=cases_run hD
 intro i hi
 have e2:∀ j,j<D.length→cg D j=cg C (s+j):=fun j hj=>by rw[e1,seg_at hj]
 rw[e2 i (by omega),e2 (i+1) hi]
 have hN:=hr (s+i+1) (by omega) (by omega)
 refine cgs_order e (k:=s+i) (by omega) ?_
 by_cases hc:(cg C (s+i+1)).ca=(cg C (s+i)).ca
 ·exact hc
 ·exact absurd (.inr hc) hN
theorem cgs_codes{lv:Nat→Nat}{C:List Cg}(e:cgsS (hasB lv) C=0){k:Nat}(hk:k<C.length):0<(cg C k).cd∧(cg C k).cd<1000:=by
 have:=((cgs_ok e).2 k hk).2
 unfold hasB at this
 simp only[Bool.and_eq_true,decide_eq_true_eq]at this
 omega
theorem byC_mem{D:List Cg}{x:Int}(h:byC D x≠0):∃ j,j<D.length∧(cg D j).cd=byC D x:=by
 unfold byC at h ⊢
 cases hf:D.find? (fun u=>u.co == x) with
 | none=>rw[hf]at h;exact absurd rfl h
 | some u=>
  obtain⟨j,hj,e⟩:=List.getElem_of_mem (List.mem_of_find?_eq_some hf)
  exact⟨j,hj,by rw[cg_is hj,e];rfl⟩
theorem byC_code{lv:Nat→Nat}{C D:List Cg}(e:cgsS (hasB lv) C=0)(hD:D∈cases_ C){x:Int}(h:byC D x≠0):0<byC D x∧byC D x<1000:=by
 obtain⟨j,hj,e1⟩:=byC_mem h
 obtain⟨s,hs,e2,_⟩:=cases_run hD
 rw[←e1,e2,seg_at hj]
 exact cgs_codes e (by omega)
theorem prs_small{lv:Nat→Nat}{C:List Cg}(e:cgsS (hasB lv) C=0)(a b:Int):SmP (prs a b (cases_ C)):=by
 intro p hp
 obtain⟨D,hD,h⟩:=List.mem_filterMap.1 hp
 unfold prOf at h
 split at h
 ·rename_i h2
  injection h with h
  rw[←h]
  exact⟨byC_code e hD h2.1,byC_code e hD h2.2⟩
 ·cases h
theorem prs_len(a b:Int)(R:List (List Cg)):(prs a b R).length≤R.length:=List.length_filterMap_le _ _
theorem take_rn{R:List (List Cg)}{j:Nat}(h:j<R.length):R.take (j+1)=R.take j ++ [rn R j]:=by
 have:rn R j=R[j]:=by unfold rn;rw[List.getD,List.getElem?_eq_getElem h];rfl
 rw[this,List.take_succ_eq_append_getElem h]
theorem prs_next(a b:Int){R:List (List Cg)}{j:Nat}(h:j<R.length):prs a b (R.take (j+1))=prs a b (R.take j) ++ (prOf a b (rn R j)).toList:=by
 rw[take_rn h]
 unfold prs
 rw[List.filterMap_append]
 simp only[List.filterMap_cons,List.filterMap_nil]
 cases prOf a b (rn R j)<;>rfl
theorem checkCg_c(sa:Option Addr) (c:Nat) (l:List Nd) (a2:Option Addr) (c2:Nat) (C:List Cg) (w:World) (hl:RdN w sa l) (hf:Fits l) (hC:RdC w a2 C) :
  Calls Tryz.prog 32 #[.slice sa l.length c,.slice a2 C.length c2] w (IntP (forS l C) w):=by
 have HC:=Zh (frameFor_c sa c l a2 c2 C w hl hf hC)
 clear hl hf hC
 obtain⟨f,hfl⟩:∃ f,forS l C=f:=⟨_,rfl⟩
 have HP:=Zh hfl
 rw[hfl]at HC ⊢
 clear hfl
 go_enter Tryz.func32,Tryz.ntmps32
 go_wp2_with fail
 (with_reducible refine HC.out.mono ?_)
 intro e W2 he
 obtain⟨rfl,x,y,rfl,_,_,b2,_,_⟩|⟨_,rfl,b2⟩:=he
 ·have B:=Zh (b2.trans ((Cqbel_one W2 (.cells #[row x,row y] 57)).mono b2.size))
  clear b2
  go_wp2
  go_ret
  exact⟨rfl,B.out⟩
 ·have B:=Zh (b2.trans ((Cqbel_one W2 (.cells #[.slice none 0 0,.slice none 0 0] 57)).mono b2.size))
  clear b2
  go_wp2
  go_ret
  exact⟨rfl,B.out⟩
def isCo(x:Int):Bool:=decide (1≤x∧x≤50)
def coS(l:List Nd)(C:List Cg)(a b:Int):Int:=if forS l C≠0 then forS l C else if isCo a=true∧isCo b=true then 0 else 1
def CoP(l:List Nd)(C:List Cg)(a b:Int)(w:World)(e:Ending)(w':World):Prop:=
 (coS l C a b=0∧∃ s c,e=.returned (.tuple #[.slice s (prs a b (cases_ C)).length c,.int .i64 0])∧RdP w' s (prs a b (cases_ C))∧Below w.heap.size w w') ∨
 (coS l C a b≠0∧e=.returned (.tuple #[.slice none 0 0,.int .i64 (coS l C a b)])∧Below w.heap.size w w')
theorem for_cgs{l:List Nd}{C:List Cg}(h:forS l C=0):cgsS (hasB (lev l)) C=0:=by
 unfold forS at h
 by_cases e:frS l≠0
 ·rw[if_pos e]at h;exact absurd h e
 ·rw[if_neg e]at h;exact h
structure InP (W0 wr:World) (v:Value) (P:List (Int×Int)):Prop where
 own:wr.ownsRow W0.heap.size 74 2 v P.length (prow P)
 bel:Below W0.heap.size W0 wr
theorem InP.keep{W0 wr W:World}{v:Value}{P:List (Int×Int)}(h:InP W0 wr v P)(hb:Below wr.heap.size wr W):InP W0 W v P:=
 ⟨Cqown_keep h.own hb,h.bel.trans (hb.mono h.bel.size)⟩
theorem InP.snoc{W0 W6 w4:World} {v v':Value} {P:List (Int×Int)} {o:Obj} {p:Int×Int} (h:InP W0 W6 v P)
  (ho:w4.ownsRow W0.heap.size 74 2 v' (P.length+1) (prow P ++ pcells p)) (hg:(W6.alloc o).grownBy w4 v.ownBlock):InP W0 w4 v' (P ++ [p]):=by
 refine⟨by rw[List.length_append,prow_snoc];exact ho,?_⟩
 have hs:=h.bel.size
 exact (h.bel.alloc hs o).grown hg (by simp;omega) (fun g hg=>(h.own.lt g hg).1)
set_option maxHeartbeats 4000000 in
theorem commonOf_c(sa:Option Addr) (c:Nat) (l:List Nd) (a2:Option Addr) (c2:Nat) (C:List Cg) (a b:Int) (w:World) (hl:RdN w sa l) (hf:Fits l) (hC:RdC w a2 C) (hcap:C.length≤c2) :
  Calls Tryz.prog 11 #[.slice sa l.length c,.slice a2 C.length c2,.int .i64 a,.int .i64 b] w (CoP l C a b w):=by
 obtain⟨i0,hi,hz0,hz1,hz2⟩:=info_parts infoPr
 have HC:=Zh (checkCg_c sa c l a2 c2 C w hl hf hC)
 have HCC:=Zh hC
 have h9:=hC.1
 clear hl hf hC
 by_cases hz:forS l C≠0
 ·have RS:Hid (coS l C a b=forS l C):=by unfold Hid coS;rw[if_pos hz]
  have HZ:=Zh hz
  obtain⟨f,hfl⟩:∃ f,forS l C=f:=⟨_,rfl⟩
  have HP:=Zh hfl
  rw[hfl]at HC hz
  have f1:(f == 0)=false:=by rw[beq_eq_false_iff_ne];exact hz
  have f2:(f != 0)=true:=by rw[bne,f1];rfl
  clear hfl hz
  go_enter Tryz.func11,Tryz.ntmps11
  go_wp2_with fail
  (with_reducible refine HC.out.mono ?_)
  rintro e W2 ⟨rfl,b2⟩
  have R:Hid (CoP l C a b w (.returned (.tuple #[.slice none 0 0,.int .i64 f])) W2):=.inr ⟨by rw[RS.out];exact HZ.out,by rw[RS.out,HP.out],b2⟩
  clear b2
  go_wp2_with fail
  go_ret2
  exact R.out
 have hz:forS l C=0:=by omega
 have HCG:=Zh (for_cgs hz)
 have hn:=(cgs_ok HCG.out).1
 rw[hz]at HC
 have IA:=Zh (fun W=>isCoder_c a W)
 have IB:=Zh (fun W=>isCoder_c b W)
 by_cases ha:isCo a=true
 rotate_left
 ·have RS:Hid (coS l C a b=1):=by unfold Hid coS;rw[if_neg (by omega),if_neg (fun h=>ha h.1)]
  have ha':decide (1≤a∧a≤50)=false:=by unfold isCo at ha;simpa using ha
  rw[ha']at IA
  clear hz ha ha'
  go_enter Tryz.func11,Tryz.ntmps11
  go_wp2_with fail
  (with_reducible refine HC.out.mono ?_)
  rintro e W2 ⟨rfl,b2⟩
  have R:Hid (CoP l C a b w (.returned (.tuple #[.slice none 0 0,.int .i64 1])) W2):=.inr ⟨by rw[RS.out];decide,by rw[RS.out],b2⟩
  clear b2
  have IA2:=Zh (IA.out W2)
  go_wp2_with fail
  (with_reducible refine IA2.out.mono ?_)
  rintro e W3 ⟨rfl,rfl⟩
  go_wp2_with fail
  go_ret2
  exact R.out
 have ha':decide (1≤a∧a≤50)=true:=ha
 by_cases hb:isCo b=true
 rotate_left
 ·have RS:Hid (coS l C a b=1):=by unfold Hid coS;rw[if_neg (by omega),if_neg (fun h=>hb h.2)]
  have hb':decide (1≤b∧b≤50)=false:=by unfold isCo at hb;simpa using hb
  rw[ha']at IA
  rw[hb']at IB
  clear hz ha ha' hb hb'
  go_enter Tryz.func11,Tryz.ntmps11
  go_wp2_with fail
  (with_reducible refine HC.out.mono ?_)
  rintro e W2 ⟨rfl,b2⟩
  have R:Hid (CoP l C a b w (.returned (.tuple #[.slice none 0 0,.int .i64 1])) W2):=.inr ⟨by rw[RS.out];decide,by rw[RS.out],b2⟩
  clear b2
  have IA2:=Zh (IA.out W2)
  have IB2:=Zh (IB.out W2)
  go_wp2_with fail
  (with_reducible refine IA2.out.mono ?_)
  rintro e W3 ⟨rfl,rfl⟩
  go_wp2_with fail
  (with_reducible refine IB2.out.mono ?_)
  rintro e W3 ⟨rfl,rfl⟩
  go_wp2_with fail
  go_ret2
  exact R.out
 have hb':decide (1≤b∧b≤50)=true:=hb
 have RS:Hid (coS l C a b=0):=by unfold Hid coS;rw[if_neg (by omega),if_pos ⟨ha,hb⟩]
 rw[ha']at IA
 rw[hb']at IB
 have KC:=Zh (fun W (hb:Below w.heap.size w W)=>casesOf_c a2 c2 C W (HCC.out.below hb) hn hcap)
 have HLEN:=Zh (cases_len C)
 clear hz ha ha' hb hb'
 go_enter Tryz.func11,Tryz.ntmps11
 go_wp2_with fail
 (with_reducible refine HC.out.mono ?_)
 rintro e W2 ⟨rfl,b2⟩
 have IA2:=Zh (IA.out W2)
 have IB2:=Zh (IB.out W2)
 have K:=Zh (KC.out W2 b2)
 have B2:=Zh b2
 clear b2 KC IA IB
 go_wp2_with fail
 (with_reducible refine IA2.out.mono ?_)
 rintro e W3 ⟨rfl,rfl⟩
 go_wp2_with fail
 (with_reducible refine IB2.out.mono ?_)
 rintro e W4 ⟨rfl,rfl⟩
 go_wp2_with fail
 (with_reducible refine K.out.mono ?_)
 rintro e W4 ⟨a5,c5,rfl,hrs,b4⟩
 have BW4:=Zh (B2.out.trans (b4.mono B2.out.size))
 have HR:=Zh hrs
 clear b4 hrs K HC B2 IA2 IB2
 obtain⟨N,hN⟩:∃ N,(cases_ C).length=N:=⟨_,rfl⟩
 have HN:=Zh hN
 rw[hN]at HLEN ⊢
 have hN9:N≤20000:=by have:=HLEN.out;omega
 clear hN
 go_wp2_with fail
 go_loopw [11,32] (fun v i wr=>∃ k:Nat,k≤N∧i=.int .i64 k∧Hid (InP W4 wr v (prs a b ((cases_ C).take k)))) (fun _ i _=>N-(intOf i).toNat)
 case atStart=>exact⟨0,Nat.zero_le _,rfl,World.ownsRow_nil _ _ _ _,Below.refl _ _⟩
 case round=>
  obtain⟨k,hk,rfl,hS⟩:=hrel
  by_cases hlt:k<N
  ·have hlt':(k:Int)<(N:Int):=by omega
   obtain⟨g,a',c',rfl,_,q0,hD0⟩:=HR.out k (by rw[HN.out];exact hlt)
   have q1:wr.cell? ⟨g,k,none⟩=some (.slice a' (rn (cases_ C) k).length c'):=(hS.out.bel.cell (p:=⟨g,k,none⟩) (by assumption)).trans q0
   have hmem:=rn_in (R:=cases_ C) (j:=k) (by rw[HN.out];exact hlt)
   have hsr:=case_srt HCG.out hmem
   obtain⟨h0,s9,hs9,_⟩:=cases_all hmem
   have NXT:=Zh (prs_next a b (R:=cases_ C) (j:=k) (by rw[HN.out];exact hlt))
   obtain⟨D,hDD⟩:∃ D,rn (cases_ C) k=D:=⟨_,rfl⟩
   rw[hDD]at hD0 h0 hs9 q1 hsr NXT
   obtain⟨P,hP⟩:∃ P,prs a b ((cases_ C).take k)=P:=⟨_,rfl⟩
   rw[hP]at hS NXT
   have PL:Hid (P.length≤k):=by
    have:=prs_len a b ((cases_ C).take k)
    rw[hP,List.length_take]at this
    unfold Hid;omega
   have KA:=Zh (codeBy_c a' c' D a wr (hD0.below hS.out.bel) (by omega) hsr)
   have KB:=Zh (fun W (hb:Below wr.heap.size wr W)=>codeBy_c a' c' D b W ((hD0.below hS.out.bel).below hb) (by omega) hsr)
   have PO:Hid (prOf a b D=if byC D a≠0∧byC D b≠0 then some (byC D a,byC D b) else none):=rfl
   obtain⟨x,hx⟩:∃ x,byC D a=x:=⟨_,rfl⟩
   obtain⟨y,hy⟩:∃ y,byC D b=y:=⟨_,rfl⟩
   rw[hx]at KA PO
   rw[hy]at KB PO
   clear hD0 q0 hmem hsr h0 hs9 hx hy hDD hP
   go_wp2_with fail
   (with_reducible refine KA.out.mono ?_)
   rintro e W5 ⟨rfl,b5⟩
   have S5:=Zh (hS.out.keep b5)
   have K5:=Zh (KB.out W5 b5)
   clear b5 KA KB hS q1
   go_wp2_with fail
   (with_reducible refine K5.out.mono ?_)
   rintro e W6 ⟨rfl,b6⟩
   have S6:=Zh (S5.out.keep b6)
   clear b6 K5 S5
   obtain⟨W7,hW7⟩:∃ W7,W6.alloc (.cells #[.int .i64 x,.int .i64 y] 74)=W7:=⟨_,rfl⟩
   have b7:Below W6.heap.size W6 W7:=by rw[←hW7];exact Cqbel_one _ _
   have S7:=Zh (S6.out.keep b7)
   have v0:W7.cell? ⟨W6.heap.size,0,none⟩=some (.int .i64 x):=by rw[←hW7,World.cell?_alloc_new];rfl
   have v1:W7.cell? ⟨W6.heap.size,1,none⟩=some (.int .i64 y):=by rw[←hW7,World.cell?_alloc_new];rfl
   clear b7 S6
   by_cases hx0:x=0
   ·have hx1:(x != 0)=false:=by simp[hx0]
    have e0:prOf a b D=none:=by rw[PO.out,if_neg (fun h=>h.1 hx0)]
    have NX:Hid (InP W4 W7 u11 (prs a b ((cases_ C).take (k+1)))):=by
     unfold Hid
     rw[NXT.out,e0]
     simpa using S7.out
    clear S7 e0 NXT PO hx0
    go_wp2_with fail
    go_roundw
    case rel=>exact⟨k+1,by omega,by go_num,NX.out⟩
    case measure=>simp[intOf];omega
   have hx1:(x != 0)=true:=by simp[hx0]
   by_cases hy0:y=0
   ·have hy1:(y != 0)=false:=by simp[hy0]
    have e0:prOf a b D=none:=by rw[PO.out,if_neg (fun h=>h.2 hy0)]
    have NX:Hid (InP W4 W7 u11 (prs a b ((cases_ C).take (k+1)))):=by
     unfold Hid
     rw[NXT.out,e0]
     simpa using S7.out
    clear S7 e0 NXT PO hx0 hy0
    go_wp2_with fail
    go_roundw
    case rel=>exact⟨k+1,by omega,by go_num,NX.out⟩
    case measure=>simp[intOf];omega
   have hy1:(y != 0)=true:=by simp[hy0]
   have e0:prOf a b D=some (x,y):=by rw[PO.out,if_pos ⟨hx0,hy0⟩]
   have NXT2:Hid (prs a b ((cases_ C).take (k+1))=P ++ [(x,y)]):=by unfold Hid;rw[NXT.out,e0];rfl
   clear e0 NXT PO hx0 hy0
   go_wp2_with (at_builtin;refine wpList_append_own_at _ rfl _ _ 37 rfl W4.heap.size 74 i0 (.agg #[.int .i64 0,.int .i64 0]) 2 16 Tryz.underlying37 hi hz0 hz1 hz2 rfl (by decide) _ _ _ rfl (S7.out.own.alloc _) ⟨W7.heap.size,0,none⟩ 1 1 [.int .i64 x,.int .i64 y] rfl rfl (cell_two_new _ _ _ _) (by simp[Value.oneCell']) ?c3 ?c4 ?c5 ?_)
   case c3=>have:=PL.out;unfold maxLen;omega
   case c4=>have:=PL.out;omega
   case c5=>have:=S7.out.bel.size;simp;omega
   intro v' w4 hown' hgrow _ hloc
   have NX:Hid (InP W4 w4 v' (prs a b ((cases_ C).take (k+1)))):=by
    unfold Hid
    rw[NXT2.out]
    exact S7.out.snoc hown' hgrow
   clear hown' hgrow hloc S7 NXT2
   go_wp2
   go_roundw
   case rel=>exact⟨k+1,by omega,by go_num,NX.out⟩
   case measure=>simp[intOf];omega
  ·obtain rfl:k=N:=by omega
   clear hlt
   have e1:(cases_ C).take k=cases_ C:=by rw[←HN.out];exact List.take_length
   have PL:(prs a b (cases_ C)).length≤9223372036854775807:=by
    have:=prs_len a b (cases_ C)
    have:=HN.out
    omega
   rw[e1]at hS
   obtain⟨s,cc,hv,hr⟩:=rdP_own hS.out.own PL
   have R:Hid (CoP l C a b w (.returned (.tuple #[.slice s (prs a b (cases_ C)).length cc,.int .i64 0])) wr):=.inl ⟨RS.out,s,cc,rfl,hr,BW4.out.trans (hS.out.bel.mono BW4.out.size)⟩
   rw[hv]
   clear hS hr hv e1 PL
   go_wp2_with fail
   go_ret2
   exact R.out
end Go.Proofs.YtghgbhmiliiohaaGreatDoor
