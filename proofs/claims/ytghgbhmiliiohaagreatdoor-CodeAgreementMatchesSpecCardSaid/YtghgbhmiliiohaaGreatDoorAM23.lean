/-
  CodeAgreementMatchesSpec: two pairs of ints held against each other.
-/
import Derived.Test.YtghgbhmiliiohaaGreatDoorAMQ
import Derived.Test.YtghgbhmiliiohaaGreatDoorAM22
import Derived.Test.YtghgbhmiliiohaaGreatDoorAM07
import Derived.Test.YtghgbhmiliiohaaGreatDoorAM06
import Derived.ChangeKeysEq
set_option maxRecDepth 100000
namespace Go.Proofs.YtghgbhmiliiohaaGreatDoor
open Go.RowKit Go.WideMaps Go.Maps
def agL(D:List Cg)(x:Int):Nat→Int
 | 0=>0
 | k+1=>if (cg D k).co=x then (cg D k).cd else agL D x k
theorem agL_hit{D:List Cg}{x:Int}{k:Nat}(h:(cg D k).co=x):agL D x (k+1)=(cg D k).cd:=if_pos h
theorem agL_miss{D:List Cg}{x:Int}{k:Nat}(h:(cg D k).co≠x):agL D x (k+1)=agL D x k:=if_neg h
theorem agL_none{D:List Cg}{x:Int}:∀ k,(∀ j,j<k→(cg D j).co≠x)→agL D x k=0
 | 0,_=>rfl
 | k+1,h=>by rw[agL_miss (h k (by omega))];exact agL_none k (fun j hj=>h j (by omega))
theorem agL_at{D:List Cg}(h:Srt D){n:Nat}{x:Int}(e:(cg D n).co=x):∀ k,n<k→k≤D.length→agL D x k=(cg D n).cd
 | k+1,h1,h2=>by
  by_cases hk:n=k
  ·subst hk;exact agL_hit e
  ·have h3:=h.lt (i:=n) (j:=k) (by omega) (by omega)
   rw[agL_miss (by omega)]
   exact agL_at h e k (by omega) (by omega)
theorem agL_all{D:List Cg}(h:Srt D)(x:Int):agL D x D.length=byC D x:=by
 by_cases hx:∃ n,n<D.length∧(cg D n).co=x
 ·obtain⟨n,hn,e⟩:=hx
  rw[agL_at h e _ hn (Nat.le_refl _),byC_at h hn e]
 ·have hx':∀ j,j<D.length→(cg D j).co≠x:=fun j hj e=>hx ⟨j,hj,e⟩
  rw[agL_none _ hx',byC_none hx']
theorem infoQr:(Tryz.prog.info? 46).map (fun i=>(i.zero,i.size,i.bytes))=some (some (.agg #[.int .i64 0,.int .i64 0]),2,16):=by kernel_rfl
structure InRp (W0 wr:World) (v:Value) (P:List (Int×Int)):Prop where
 own:wr.ownsRow W0.heap.size 46 2 v P.length (prow P)
 bel:Below W0.heap.size W0 wr
theorem InRp.keep{W0 wr W:World}{v:Value}{P:List (Int×Int)}(h:InRp W0 wr v P)(hb:Below wr.heap.size wr W):InRp W0 W v P:=
 ⟨Cqown_keep h.own hb,h.bel.trans (hb.mono h.bel.size)⟩
theorem InRp.snoc{W0 W6 w4:World} {v v':Value} {P:List (Int×Int)} {o:Obj} {p:Int×Int} (h:InRp W0 W6 v P)
  (ho:w4.ownsRow W0.heap.size 46 2 v' (P.length+1) (prow P ++ pcells p)) (hg:(W6.alloc o).grownBy w4 v.ownBlock):InRp W0 w4 v' (P ++ [p]):=by
 refine⟨by rw[List.length_append,prow_snoc];exact ho,?_⟩
 have hs:=h.bel.size
 exact (h.bel.alloc hs o).grown hg (by simp;omega) (fun g hg=>(h.own.lt g hg).1)
def RpP(R:List (Int×Int))(w:World)(e:Ending)(w':World):Prop:=∃ s c,e=.returned (.slice s R.length c)∧RdP w' s R∧Below w.heap.size w w'
set_option maxHeartbeats 4000000 in
theorem rcommon_c{lv:Nat→Nat} (a2:Option Addr) (c2:Nat) (C:List Cg) (a b:Int) (w:World) (hC:RdC w a2 C) (hcg:cgsS (hasB lv) C=0) :
  Calls Tryz.prog 14 #[.slice a2 C.length c2,.int .i64 a,.int .i64 b] w (RpP (prs a b (cases_ C)) w):=by
 obtain⟨i0,hi,hz0,hz1,hz2⟩:=info_parts infoQr
 have HCG:=Zh hcg
 have hn:=(cgs_ok hcg).1
 have K:=Zh (rcases_c a2 c2 C w hC hn)
 have HLEN:=Zh (cases_len C)
 have h9:=hC.1
 clear hC hcg
 go_enter Tryz.func14,Tryz.ntmps14
 go_wp2_with fail
 (with_reducible refine K.out.mono ?_)
 rintro e W4 ⟨a5,c5,rfl,hrs,b4⟩
 have BW4:=Zh b4
 have HR:=Zh hrs
 clear b4 hrs K
 obtain⟨N,hN⟩:∃ N,(cases_ C).length=N:=⟨_,rfl⟩
 have HN:=Zh hN
 rw[hN]at HLEN ⊢
 have hN9:N≤20000:=by have:=HLEN.out;omega
 clear hN
 go_wp2_with fail
 go_loopw [7,17] (fun v i wr=>∃ k:Nat,k≤N∧i=.int .i64 k∧Hid (InRp W4 wr v (prs a b ((cases_ C).take k)))) (fun _ i _=>N-(intOf i).toNat)
 case atStart=>exact⟨0,Nat.zero_le _,rfl,World.ownsRow_nil _ _ _ _,Below.refl _ _⟩
 case round=>
  obtain⟨k,hk,rfl,hS⟩:=hrel
  by_cases hlt:k<N
  ·have hlt':(k:Int)<(N:Int):=by omega
   obtain⟨g,a',c',rfl,_,q0,hD0⟩:=HR.out k (by rw[HN.out];exact hlt)
   have q1:wr.cell? ⟨g,k,none⟩=some (.slice a' (rn (cases_ C) k).length c'):=(hS.out.bel.cell (p:=⟨g,k,none⟩) (by assumption)).trans q0
   have hmem:=rn_in (R:=cases_ C) (j:=k) (by rw[HN.out];exact hlt)
   have hsr:=case_srt HCG.out hmem
   obtain⟨h0,s9,hs9,_⟩:=cases_all hmem
   have NXT:=Zh (prs_next a b (R:=cases_ C) (j:=k) (by rw[HN.out];exact hlt))
   have PA:=Zh (fun h=>byC_code HCG.out hmem (x:=a) h)
   have PB:=Zh (fun h=>byC_code HCG.out hmem (x:=b) h)
   obtain⟨D,hDD⟩:∃ D,rn (cases_ C) k=D:=⟨_,rfl⟩
   rw[hDD]at hD0 h0 hs9 q1 hsr NXT PA PB
   obtain⟨P,hP⟩:∃ P,prs a b ((cases_ C).take k)=P:=⟨_,rfl⟩
   rw[hP]at hS NXT
   have PL:Hid (P.length≤k):=by
    have:=prs_len a b ((cases_ C).take k)
    rw[hP,List.length_take]at this
    unfold Hid;omega
   have PO:Hid (prOf a b D=if byC D a≠0∧byC D b≠0 then some (byC D a,byC D b) else none):=rfl
   have LA:=Zh (agL_all hsr a)
   have LB:=Zh (agL_all hsr b)
   have HDD:=Zh (hD0.below hS.out.bel)
   have hDL:D.length≤20000:=by omega
   clear hD0 q0 hmem hsr h0 hs9 hDD hP
   go_wp2_with fail
   obtain⟨WR,hWR⟩:∃ x:World,x=wr:=⟨wr,rfl⟩
   rw[←hWR]at hS HDD q1 ⊢
   clear hWR
   go_loopw [10,11,23] (fun x y i wr=>∃ j:Nat,j≤D.length∧i=.int .i64 j∧x=.int .i64 (agL D a j)∧y=.int .i64 (agL D b j)∧Hid (Below WR.heap.size WR wr)) (fun _ _ i _=>D.length-(intOf i).toNat)
   case atStart=>exact⟨0,Nat.zero_le _,rfl,rfl,rfl,Below.refl _ _⟩
   case round=>
    obtain⟨j,hj,rfl,rfl,rfl,hB⟩:=hrel
    by_cases hjl:j<D.length
    ·have hjl':(j:Int)<(D.length:Int):=by omega
     obtain⟨b',off,rfl,u0,u1,u2⟩:=(HDD.out.below hB.out).at_ hjl
     obtain⟨W1,hW1⟩:∃ W1,wr.alloc (.cells #[.int .i64 (cg D j).ca,.int .i64 (cg D j).co,.int .i64 (cg D j).cd] 69)=W1:=⟨_,rfl⟩
     have B1:Hid (Below WR.heap.size WR W1):=by unfold Hid;rw[←hW1];exact hB.out.trans ((Cqbel_one _ _).mono hB.out.size)
     have v1:W1.cell? ⟨wr.heap.size,1,none⟩=some (.int .i64 (cg D j).co):=by rw[←hW1,World.cell?_alloc_new];rfl
     have v2:W1.cell? ⟨wr.heap.size,2,none⟩=some (.int .i64 (cg D j).cd):=by rw[←hW1,World.cell?_alloc_new];rfl
     clear hB
     by_cases ha:(cg D j).co=a
     ·have na:agL D a (j+1)=(cg D j).cd:=agL_hit ha
      have ea:((cg D j).co == a)=true:=by rw[beq_iff_eq];exact ha
      by_cases hb:(cg D j).co=b
      ·have nb:agL D b (j+1)=(cg D j).cd:=agL_hit hb
       have eb:((cg D j).co == b)=true:=by rw[beq_iff_eq];exact hb
       have NA:=Zh na
       have NB:=Zh nb
       clear na nb ha hb
       go_wp2_with fail
       go_roundw
       case rel=>exact⟨j+1,by omega,by go_num,by rw[NA.out],by rw[NB.out],B1.out⟩
       case measure=>simp[intOf];omega
      ·have nb:agL D b (j+1)=agL D b j:=agL_miss hb
       have eb:((cg D j).co == b)=false:=by rw[beq_eq_false_iff_ne];exact hb
       have NA:=Zh na
       have NB:=Zh nb
       clear na nb ha hb
       go_wp2_with fail
       go_roundw
       case rel=>exact⟨j+1,by omega,by go_num,by rw[NA.out],by rw[NB.out],B1.out⟩
       case measure=>simp[intOf];omega
     ·have na:agL D a (j+1)=agL D a j:=agL_miss ha
      have ea:((cg D j).co == a)=false:=by rw[beq_eq_false_iff_ne];exact ha
      by_cases hb:(cg D j).co=b
      ·have nb:agL D b (j+1)=(cg D j).cd:=agL_hit hb
       have eb:((cg D j).co == b)=true:=by rw[beq_iff_eq];exact hb
       have NA:=Zh na
       have NB:=Zh nb
       clear na nb ha hb
       go_wp2_with fail
       go_roundw
       case rel=>exact⟨j+1,by omega,by go_num,by rw[NA.out],by rw[NB.out],B1.out⟩
       case measure=>simp[intOf];omega
      ·have nb:agL D b (j+1)=agL D b j:=agL_miss hb
       have eb:((cg D j).co == b)=false:=by rw[beq_eq_false_iff_ne];exact hb
       have NA:=Zh na
       have NB:=Zh nb
       clear na nb ha hb
       go_wp2_with fail
       go_roundw
       case rel=>exact⟨j+1,by omega,by go_num,by rw[NA.out],by rw[NB.out],B1.out⟩
       case measure=>simp[intOf];omega
    ·obtain rfl:j=D.length:=by omega
     rw[LA.out,LB.out]
     obtain⟨x,hx⟩:∃ x,byC D a=x:=⟨_,rfl⟩
     obtain⟨y,hy⟩:∃ y,byC D b=y:=⟨_,rfl⟩
     rw[hx]at PO PA ⊢
     rw[hy]at PO PB ⊢
     have S7:=Zh (hS.out.keep hB.out)
     clear hjl hB hS hx hy LA LB
     by_cases hx0:x=0
     ·have hx1:decide (0<x)=false:=by simp[hx0]
      have e0:prOf a b D=none:=by rw[PO.out,if_neg (fun h=>h.1 hx0)]
      have NX:Hid (InRp W4 wr u7 (prs a b ((cases_ C).take (k+1)))):=by
       unfold Hid
       rw[NXT.out,e0]
       simpa using S7.out
      clear S7 e0 NXT PO
      subst hx0
      go_wp2_with fail
      go_roundw
      case rel=>exact⟨k+1,by omega,by go_num,NX.out⟩
      case measure=>simp[intOf];omega
     have hxp:0<x:=(PA.out hx0).1
     by_cases hy0:y=0
     ·have e0:prOf a b D=none:=by rw[PO.out,if_neg (fun h=>h.2 hy0)]
      have NX:Hid (InRp W4 wr u7 (prs a b ((cases_ C).take (k+1)))):=by
       unfold Hid
       rw[NXT.out,e0]
       simpa using S7.out
      clear S7 e0 NXT PO
      subst hy0
      go_wp2_with fail
      go_roundw
      case rel=>exact⟨k+1,by omega,by go_num,NX.out⟩
      case measure=>simp[intOf];omega
     have hyp:0<y:=(PB.out hy0).1
     have e0:prOf a b D=some (x,y):=by rw[PO.out,if_pos ⟨hx0,hy0⟩]
     have NXT2:Hid (prs a b ((cases_ C).take (k+1))=P ++ [(x,y)]):=by unfold Hid;rw[NXT.out,e0];rfl
     clear e0 NXT PO hx0 hy0 PA PB
     go_wp2_with (at_builtin;refine wpList_append_own_at _ rfl _ _ 42 rfl W4.heap.size 46 i0 (.agg #[.int .i64 0,.int .i64 0]) 2 16 Tryz.underlying42 hi hz0 hz1 hz2 rfl (by decide) _ _ _ rfl (S7.out.own.alloc _) ⟨wr.heap.size,0,none⟩ 1 1 [.int .i64 x,.int .i64 y] rfl rfl (cell_two_new _ _ _ _) (by simp[Value.oneCell']) ?c3 ?c4 ?c5 ?_)
     case c3=>have:=PL.out;unfold maxLen;omega
     case c4=>have:=PL.out;omega
     case c5=>have:=S7.out.bel.size;simp;omega
     intro v' w4 hown' hgrow _ hloc
     have NX:Hid (InRp W4 w4 v' (prs a b ((cases_ C).take (k+1)))):=by
      unfold Hid
      rw[NXT2.out]
      exact S7.out.snoc hown' hgrow
     clear hown' hgrow hloc S7 NXT2
     go_wp2
     go_roundw
     case rel=>exact⟨k+1,by omega,by go_num,NX.out⟩
     case measure=>simp[intOf];omega
  ·obtain rfl:k=N:=by omega
   clear hlt
   have e1:(cases_ C).take k=cases_ C:=by rw[←HN.out];exact List.take_length
   have PL:(prs a b (cases_ C)).length≤9223372036854775807:=by
    have:=prs_len a b (cases_ C)
    have:=HN.out
    omega
   rw[e1]at hS
   obtain⟨s,cc,hv,hr⟩:=rdP_own hS.out.own PL
   have R:Hid (RpP (prs a b (cases_ C)) w (.returned (.slice s (prs a b (cases_ C)).length cc)) wr):=⟨s,cc,rfl,hr,BW4.out.trans (hS.out.bel.mono BW4.out.size)⟩
   rw[hv]
   clear hS hr hv e1 PL
   go_wp2_with fail
   go_ret
   exact R.out
set_option maxHeartbeats 2000000 in
theorem rcheckPair_c(sa:Option Addr) (c:Nat) (l:List Nd) (a2:Option Addr) (c2:Nat) (C:List Cg) (a b:Int) (w:World) (hl:RdN w sa l) (hf:Fits l) (hC:RdC w a2 C) :
  Calls Tryz.prog 13 #[.slice sa l.length c,.slice a2 C.length c2,.int .i64 a,.int .i64 b] w (IntP (coS l C a b) w):=by
 have HC:=Zh (rCheckCodings_c sa c l a2 c2 C w hl hf hC)
 clear hl hf hC
 by_cases hz:forS l C≠0
 ·have RS:Hid (coS l C a b=forS l C):=by unfold Hid coS;rw[if_pos hz]
  obtain⟨f,hfl⟩:∃ f,forS l C=f:=⟨_,rfl⟩
  rw[hfl]at HC hz RS
  have f2:(f != 0)=true:=by rw[bne,beq_eq_false_iff_ne.2 hz];rfl
  clear hfl hz
  go_enter Tryz.func13,Tryz.ntmps13
  go_wp2_with fail
  (with_reducible refine HC.out.mono ?_)
  rintro e W2 ⟨rfl,b2⟩
  have R:Hid (IntP (coS l C a b) w (.returned (.int .i64 f)) W2):=⟨by rw[RS.out],b2⟩
  clear b2
  go_wp2_with fail
  go_ret
  exact R.out
 have hz:forS l C=0:=by omega
 rw[hz]at HC
 have RS:Hid (coS l C a b=if isCo a=true∧isCo b=true then 0 else 1):=by unfold Hid coS;rw[if_neg (by omega)]
 have IA:=Zh (fun W=>rwithin_c a 1 50 W)
 have IB:=Zh (fun W=>rwithin_c b 1 50 W)
 have EA:Hid (decide (1≤a∧a≤50)=isCo a):=rfl
 have EB:Hid (decide (1≤b∧b≤50)=isCo b):=rfl
 rw[EA.out]at IA
 rw[EB.out]at IB
 clear hz EA EB
 obtain⟨x,hx⟩:∃ x,isCo a=x:=⟨_,rfl⟩
 obtain⟨y,hy⟩:∃ y,isCo b=y:=⟨_,rfl⟩
 rw[hx]at IA RS
 rw[hy]at IB RS
 clear hx hy
 cases x
 ·have RS2:Hid (coS l C a b=1):=by unfold Hid;rw[RS.out];simp
  clear RS
  go_enter Tryz.func13,Tryz.ntmps13
  go_wp2_with fail
  (with_reducible refine HC.out.mono ?_)
  rintro e W2 ⟨rfl,b2⟩
  have R:Hid (IntP (coS l C a b) w (.returned (.int .i64 1)) W2):=⟨by rw[RS2.out],b2⟩
  clear b2
  have IA2:=Zh (IA.out W2)
  go_wp2_with fail
  (with_reducible refine IA2.out.mono ?_)
  rintro e W3 ⟨rfl,rfl⟩
  go_wp2_with fail
  go_ret
  exact R.out
 cases y
 ·have RS2:Hid (coS l C a b=1):=by unfold Hid;rw[RS.out];simp
  clear RS
  go_enter Tryz.func13,Tryz.ntmps13
  go_wp2_with fail
  (with_reducible refine HC.out.mono ?_)
  rintro e W2 ⟨rfl,b2⟩
  have R:Hid (IntP (coS l C a b) w (.returned (.int .i64 1)) W2):=⟨by rw[RS2.out],b2⟩
  clear b2
  have IA2:=Zh (IA.out W2)
  have IB2:=Zh (IB.out W2)
  go_wp2_with fail
  (with_reducible refine IA2.out.mono ?_)
  rintro e W3 ⟨rfl,rfl⟩
  go_wp2_with fail
  (with_reducible refine IB2.out.mono ?_)
  rintro e W3 ⟨rfl,rfl⟩
  go_wp2_with fail
  go_ret
  exact R.out
 have RS2:Hid (coS l C a b=0):=by unfold Hid;rw[RS.out];simp
 clear RS
 go_enter Tryz.func13,Tryz.ntmps13
 go_wp2_with fail
 (with_reducible refine HC.out.mono ?_)
 rintro e W2 ⟨rfl,b2⟩
 have R:Hid (IntP (coS l C a b) w (.returned (.int .i64 0)) W2):=⟨by rw[RS2.out],b2⟩
 clear b2
 have IA2:=Zh (IA.out W2)
 have IB2:=Zh (IB.out W2)
 go_wp2_with fail
 (with_reducible refine IA2.out.mono ?_)
 rintro e W3 ⟨rfl,rfl⟩
 go_wp2_with fail
 (with_reducible refine IB2.out.mono ?_)
 rintro e W3 ⟨rfl,rfl⟩
 go_wp2_with fail
 go_ret
 exact R.out
def exN(l:List Nd)(P:List (Int×Int)):Nat→Nat
 | 0=>0
 | k+1=>exN l P k+nF P (nd l k).cd*nS P (nd l k).cd
def inK(l:List Nd)(k s:Nat):Bool:=(List.range k).any fun j=>(nd l j).cd == (s:Int)
theorem inK_next(l:List Nd)(k s:Nat):inK l (k+1) s=(inK l k s || ((nd l k).cd == (s:Int))):=by
 unfold inK
 rw[List.range_succ,List.any_append]
 simp
theorem inK_iff{l:List Nd}{k s:Nat}:inK l k s=true↔∃ j,j<k∧(nd l j).cd=(s:Int):=by
 unfold inK
 rw[List.any_eq_true]
 simp only[List.mem_range,beq_iff_eq]
theorem exN_sum{l:List Nd}(h:Ord l)(P:List (Int×Int)):∀ k,k≤l.length→exN l P k=sumN (fun s=>if inK l k s=true then nF P s*nS P s else 0) 1000
 | 0,_=>(sumN_zero fun j _=>by rw[if_neg (by simp[inK])]).symm
 | k+1,hk=>by
  have hr:=h.rng k (by omega)
  obtain⟨c,hc⟩:∃ c:Nat,(nd l k).cd=c:=⟨(nd l k).cd.toNat,by omega⟩
  have no:inK l k c=false:=by
   rw[Bool.eq_false_iff]
   intro e
   obtain⟨j,hj,e2⟩:=inK_iff.1 e
   have:=h.lt (i:=j) (j:=k) hj (by omega)
   omega
  have e:=sumN_at (f:=fun s=>if inK l k s=true then nF P s*nS P s else 0) (g:=fun s=>if inK l (k+1) s=true then nF P s*nS P s else 0) (i:=c) (d:=nF P c*nS P c) (k:=1000) (by omega)
   (fun j hj=>by
    have e1:((nd l k).cd == (j:Int))=false:=by rw[hc,beq_eq_false_iff_ne];omega
    show (if inK l (k+1) j=true then _ else _)=(if inK l k j=true then _ else _)
    rw[inK_next,e1,Bool.or_false])
   (by
    show (if inK l (k+1) c=true then _ else _)=(if inK l k c=true then _ else _)+_
    rw[inK_next,no,hc]
    simp)
  rw[e,←exN_sum h P k (by omega)]
  show exN l P k+nF P (nd l k).cd*nS P (nd l k).cd=_
  rw[hc]
def InF2(l:List Nd)(P:List (Int×Int)):Prop:=∀ p∈P,∃ c:Nat,p.1=c∧Has l c
theorem exN_all{l:List Nd}(h:Ord l){P:List (Int×Int)}(hP:InF2 l P):exN l P l.length=chN P:=by
 rw[exN_sum h P _ (Nat.le_refl _)]
 unfold chN
 refine sumN_congr fun s _=>?_
 by_cases hs:inK l l.length s=true
 ·rw[if_pos hs]
 ·rw[if_neg hs]
  have:nF P s=0:=by
   unfold nF
   rw[List.countP_eq_zero]
   intro p hp e
   obtain⟨c,e1,k,hk,e2⟩:=hP p hp
   rw[beq_iff_eq]at e
   exact hs (inK_iff.2 ⟨k,hk,by omega⟩)
  rw[this,Nat.zero_mul]
theorem exN_mono(l:List Nd)(P:List (Int×Int)){i:Nat}:∀ {j:Nat},i≤j→exN l P i≤exN l P j
 | 0,h=>by rw[Nat.le_zero.1 h];exact Nat.le_refl _
 | j+1,h=>by
  by_cases e:i=j+1
  ·rw[e];exact Nat.le_refl _
  ·exact Nat.le_trans (exN_mono l P (j:=j) (by omega)) (Nat.le_add_right _ _)
theorem exN_le{l:List Nd}(h:Ord l){P:List (Int×Int)}(hP:InF2 l P){k:Nat}(hk:k≤l.length):exN l P k≤P.length*P.length:=by
 have h1:=exN_mono l P hk
 rw[exN_all h hP]at h1
 exact Nat.le_trans h1 (chN_le P)
theorem prs_inF{l:List Nd}{C:List Cg}(e:forS l C=0)(a b:Int):InF2 l (prs a b (cases_ C)):=by
 obtain⟨_,e1,_,hcs⟩:=for_ok e
 intro p hp
 obtain⟨D,hD,h⟩:=List.mem_filterMap.1 hp
 unfold prOf at h
 split at h
 ·rename_i h2
  injection h with h
  rw[←h]
  obtain⟨j,hj,e3⟩:=byC_mem h2.1
  obtain⟨s,hs,e2,_⟩:=cases_run hD
  have e4:cg D j=cg C (s+j):=by rw[e2,seg_at hj]
  obtain⟨c,hc,hh⟩:=hcs (s+j) (by omega)
  exact⟨c,by show byC D a=_;rw[←e3,e4,hc],hh⟩
 ·cases h
theorem eq_two(a b x y:Int)(W:World):(Op.equalIn 10000 46 (.agg #[.int .i64 a,.int .i64 b]) (.agg #[.int .i64 x,.int .i64 y])).run Tryz.prog W=.ok ((a == x) && (b == y)) W:=by
 have hi0:(Tryz.prog.info? 3).isSome=true:=by kernel_rfl
 obtain⟨i,hi⟩:=Option.isSome_iff_exists.1 hi0
 have hu:Tryz.prog.underlying 46=some (.array 2 3):=by kernel_rfl
 have hk:Tryz.prog.underlying 3=some (.int .i64):=by kernel_rfl
 have hc:Tryz.prog.cellsOf 3=1:=by kernel_rfl
 refine (run_equalIn_array W 9999 _ _ hu hi).trans ?_
 rw[hc]
 show (Op.eqItems 9999 3 1 _ _ [0,1]).run _ W=_
 simp only[Op.eqItems,Sem.run_bind]
 go_simp
 by_cases h1:a=x<;>by_cases h2:b=y<;>simp[h1,h2]
end Go.Proofs.YtghgbhmiliiohaaGreatDoor
