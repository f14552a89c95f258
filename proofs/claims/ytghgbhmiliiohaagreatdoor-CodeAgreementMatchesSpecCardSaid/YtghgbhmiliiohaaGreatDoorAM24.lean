/-
  CodeAgreementMatchesSpec: confusions are put in order.
-/
import Derived.Test.YtghgbhmiliiohaaGreatDoorAMQ
import Derived.Test.YtghgbhmiliiohaaGreatDoorAM23
import Derived.Deep.Onto
import Derived.Test.YtghgbhmiliiohaaGreatDoorAM01
import Derived.Lib.OwnBridge
import Derived.Deep.RegionHeld3
set_option maxRecDepth 100000
namespace Go.Proofs.YtghgbhmiliiohaaGreatDoor
open Go.RowKit Go.WideMaps Go.Maps
def nB(P:List (Int×Int))(x y:Int):Nat:=P.countP fun p=>p.1 == x && p.2 == y
theorem nB_le(P:List (Int×Int))(x y:Int):nB P x y≤P.length:=List.countP_le_length
theorem nB_next{P:List (Int×Int)}{j:Nat}(h:j<P.length)(x y:Int):nB (P.take (j+1)) x y=nB (P.take j) x y+if ((pn P j).1 == x && (pn P j).2 == y)=true then 1 else 0:=by
 unfold nB
 rw[take_pn h,List.countP_append]
 simp[List.countP_cons]
def cfR(l:List Nd)(P:List (Int×Int))(x:Int):Nat→List (Int×Int×Nat)
 | 0=>[]
 | k+1=>cfR l P x k ++ if 0<nB P x (nd l k).cd then [(x,(nd l k).cd,nB P x (nd l k).cd)] else []
def cfA(l:List Nd)(P:List (Int×Int)):Nat→List (Int×Int×Nat)
 | 0=>[]
 | k+1=>cfA l P k ++ cfR l P (nd l k).cd l.length
theorem cfR_len(l:List Nd)(P:List (Int×Int))(x:Int):∀ k,(cfR l P x k).length≤k
 | 0=>Nat.le_refl _
 | k+1=>by
  have:=cfR_len l P x k
  unfold cfR
  rw[List.length_append]
  split<;>simp<;>omega
theorem cfA_len(l:List Nd)(P:List (Int×Int)):∀ k,(cfA l P k).length≤k*l.length
 | 0=>by simp[cfA]
 | k+1=>by
  have h1:=cfA_len l P k
  have h2:=cfR_len l P (nd l k).cd l.length
  unfold cfA
  rw[List.length_append,Nat.succ_mul]
  omega
def tcells(t:Int×Int×Nat):List Value:=[.int .i64 t.1,.int .i64 t.2.1,.int .i64 (t.2.2:Nat)]
def trow(L:List (Int×Int×Nat)):List Value:=L.flatMap tcells
theorem trow_snoc(L:List (Int×Int×Nat))(t:Int×Int×Nat):trow (L ++ [t])=trow L ++ tcells t:=by unfold trow;rw[List.flatMap_append];simp
theorem infoCn:(Tryz.prog.info? 30).map (fun i=>(i.zero,i.size,i.bytes))=some (some (.agg #[.int .i64 0,.int .i64 0,.int .i64 0]),3,24):=by kernel_rfl
structure InT (W0 wr:World) (v:Value) (L:List (Int×Int×Nat)):Prop where
 own:wr.ownsRow W0.heap.size 30 3 v L.length (trow L)
 bel:Below W0.heap.size W0 wr
theorem InT.keep{W0 wr W:World}{v:Value}{L:List (Int×Int×Nat)}(h:InT W0 wr v L)(hb:Below wr.heap.size wr W):InT W0 W v L:=
 ⟨Cqown_keep h.own hb,h.bel.trans (hb.mono h.bel.size)⟩
theorem InT.snoc{W0 W6 w4:World} {v v':Value} {L:List (Int×Int×Nat)} {o:Obj} {t:Int×Int×Nat} (h:InT W0 W6 v L)
  (ho:w4.ownsRow W0.heap.size 30 3 v' (L.length+1) (trow L ++ tcells t)) (hg:(W6.alloc o).grownBy w4 v.ownBlock):InT W0 w4 v' (L ++ [t]):=by
 refine⟨by rw[List.length_append,trow_snoc];exact ho,?_⟩
 have hs:=h.bel.size
 exact (h.bel.alloc hs o).grown hg (by simp;omega) (fun g hg=>(h.own.lt g hg).1)
def CfP(l:List Nd)(C:List Cg)(a b:Int)(w:World)(e:Ending)(w':World):Prop:=
 (coS l C a b=0∧∃ v,e=.returned (.tuple #[v,.int .i64 0])∧w'.ownsRow w.heap.size 30 3 v (cfA l (prs a b (cases_ C)) l.length).length (trow (cfA l (prs a b (cases_ C)) l.length))∧Below w.heap.size w w') ∨
 (coS l C a b≠0∧e=.returned (.tuple #[.slice none 0 0,.int .i64 (coS l C a b)])∧Below w.heap.size w w')
set_option maxHeartbeats 8000000 in
theorem rConfusions_c(sa:Option Addr) (c:Nat) (l:List Nd) (a2:Option Addr) (c2:Nat) (C:List Cg) (a b:Int) (w:World) (hl:RdN w sa l) (hf:Fits l) (hC:RdC w a2 C) :
  Calls Tryz.prog 5 #[.slice sa l.length c,.slice a2 C.length c2,.int .i64 a,.int .i64 b] w (CfP l C a b w):=by
 obtain⟨i0,hi,hz0,hz1,hz2⟩:=info_parts infoCn
 have HC:=Zh (rcheckPair_c sa c l a2 c2 C a b w hl hf hC)
 have HL:=Zh hl
 have HCC:=Zh hC
 have h9:=hC.1
 have h8:=hl.1
 clear hl hf hC
 by_cases hz:coS l C a b≠0
 ·have HZ:=Zh hz
  obtain⟨f,hfl⟩:∃ f,coS l C a b=f:=⟨_,rfl⟩
  have HP:=Zh hfl
  rw[hfl]at HC hz
  have f2:(f != 0)=true:=by rw[bne,beq_eq_false_iff_ne.2 hz];rfl
  clear hfl hz HL HCC
  go_enter Tryz.func5,Tryz.ntmps5
  go_wp2_with fail
  (with_reducible refine HC.out.mono ?_)
  rintro e W2 ⟨rfl,b2⟩
  have R:Hid (CfP l C a b w (.returned (.tuple #[.slice none 0 0,.int .i64 f])) W2):=.inr ⟨HZ.out,by rw[HP.out],b2⟩
  clear b2
  go_wp2_with fail
  go_ret2
  exact R.out
 have hz:coS l C a b=0:=by omega
 have HZ:=Zh hz
 have hz2:forS l C=0:=by
  unfold coS at hz
  by_cases h:forS l C≠0
  ·rw[if_pos h]at hz;exact absurd hz h
  ·omega
 obtain⟨F,hcg,hCn,_⟩:=for_ok hz2
 have hl6:=F.le
 have HK:=Zh (fun W (h:Below w.heap.size w W)=>rcommon_c a2 c2 C a b W (HCC.out.below h) hcg)
 have PLN:Hid ((prs a b (cases_ C)).length≤20000):=Nat.le_trans (Nat.le_trans (prs_len a b (cases_ C)) (cases_len C)) hCn
 have PQ:Hid (∃ P,prs a b (cases_ C)=P):=⟨_,rfl⟩
 rw[hz]at HC
 obtain⟨P,hPP⟩:=PQ.out
 have HPP:=Zh hPP
 rw[hPP]at HK PLN
 clear hz hz2 F hcg hCn hPP PQ
 go_enter Tryz.func5,Tryz.ntmps5
 go_wp2_with fail
 (with_reducible refine HC.out.mono ?_)
 rintro e W2 ⟨rfl,b2⟩
 have K2:=Zh (HK.out W2 b2)
 have B2x:=Zh b2
 clear b2 HC HK
 go_wp2_with fail
 (with_reducible refine K2.out.mono ?_)
 rintro e W3 ⟨s,cs,rfl,hP,b3⟩
 have BW3:=Zh (B2x.out.trans (b3.mono B2x.out.size))
 have HP:=Zh hP
 have HL3:=Zh (HL.out.below BW3.out)
 have hP9:=hP.1
 have hPn:=PLN.out
 clear b3 hP K2 B2x HL HCC
 go_wp2_with fail
 go_loopw [12,34] (fun v i wr=>∃ k:Nat,k≤l.length∧i=.int .i64 k∧Hid (InT W3 wr v (cfA l P k))) (fun _ i _=>l.length-(intOf i).toNat)
 case atStart=>exact⟨0,Nat.zero_le _,rfl,World.ownsRow_nil _ _ _ _,Below.refl _ _⟩
 case round=>
  obtain⟨k,hk,rfl,hS⟩:=hrel
  by_cases hkl:k<l.length
  ·have hkl':(k:Int)<(l.length:Int):=by omega
   obtain⟨b',off,rfl,u0,u1,u2⟩:=(HL3.out.below hS.out.bel).at_ hkl
   obtain⟨x,hx⟩:∃ x,(nd l k).cd=x:=⟨_,rfl⟩
   have NXA:Hid (cfA l P (k+1)=cfA l P k ++ cfR l P x l.length):=by rw[←hx];rfl
   have LA:Hid ((cfA l P k).length≤360000):=Nat.le_trans (cfA_len l P k) (Nat.mul_le_mul (Nat.le_trans hk hl6) hl6:k*l.length≤600*600)
   obtain⟨L,hL⟩:∃ L,cfA l P k=L:=⟨_,rfl⟩
   rw[hL]at hS NXA LA
   clear hL
   obtain⟨W5,hW5⟩:∃ W5,wr.alloc (.cells #[.int .i64 x,.int .i64 (nd l k).pr,.string (nd l k).ti] 45)=W5:=⟨_,rfl⟩
   have b5:Below wr.heap.size wr W5:=by rw[←hW5];exact bel_one _ _
   have S5:=Zh (hS.out.keep b5)
   have v0:W5.cell? ⟨wr.heap.size,0,none⟩=some (.int .i64 x):=by rw[←hW5,World.cell?_alloc_new];rfl
   have z0:Hid (wr.heap.size<W5.heap.size):=by unfold Hid;rw[←hW5];simp
   have VZ0:Hid (u12.ownBlock≠some wr.heap.size):=fun e=>by have:=(hS.out.own.lt _ e).2;omega
   clear hS b5
   go_wp2_with fail
   clear hx u0 u1 u2 hW5
   obtain⟨zz,hzz⟩:∃ zz,wr.heap.size=zz:=⟨_,rfl⟩
   rw[hzz]at v0 z0 VZ0 ⊢
   clear hzz
   go_loopw [12,40] (fun v i wr=>∃ k2:Nat,k2≤l.length∧i=.int .i64 k2∧Hid (InT W3 wr v (L ++ cfR l P x k2)∧wr.cell? ⟨zz,0,none⟩=some (.int .i64 x)∧zz<wr.heap.size∧v.ownBlock≠some zz)) (fun _ i _=>l.length-(intOf i).toNat)
   case atStart=>exact⟨0,Nat.zero_le _,rfl,by rw[show cfR l P x 0=[] from rfl,List.append_nil];exact S5.out,v0,z0.out,VZ0.out⟩
   case round=>
    clear S5 v0 z0 VZ0
    obtain⟨k2,hk2,rfl,hS⟩:=hrel
    by_cases hkl2:k2<l.length
    ·have hkl2':(k2:Int)<(l.length:Int):=by omega
     obtain⟨b2,off2,e2,w0,w1,w2⟩:=(HL3.out.below hS.out.1.bel).at_ hkl2
     injection e2 with e2
     injection e2 with e2 e3
     subst e2
     subst e3
     obtain⟨y,hy⟩:∃ y,(nd l k2).cd=y:=⟨_,rfl⟩
     have NX1:Hid (cfR l P x (k2+1)=cfR l P x k2 ++ if 0<nB P x y then [(x,y,nB P x y)] else []):=by rw[←hy];rfl
     have LL:Hid ((L ++ cfR l P x k2).length≤370000):=by
      have h1:=LA.out
      have h2:=cfR_len l P x k2
      unfold Hid
      rw[List.length_append]
      omega
     obtain⟨Q,hQ⟩:∃ Q,L ++ cfR l P x k2=Q:=⟨_,rfl⟩
     have NX2:Hid (L ++ cfR l P x (k2+1)=Q ++ if 0<nB P x y then [(x,y,nB P x y)] else []):=by unfold Hid;rw[NX1.out,←List.append_assoc,hQ]
     rw[hQ]at hS LL
     clear hQ NX1
     obtain⟨W6,hW6⟩:∃ W6,wr.alloc (.cells #[.int .i64 y,.int .i64 (nd l k2).pr,.string (nd l k2).ti] 45)=W6:=⟨_,rfl⟩
     have b6:Below wr.heap.size wr W6:=by rw[←hW6];exact bel_one _ _
     have S6:=Zh (hS.out.1.keep b6)
     have VZ:=Zh hS.out.2.2.2
     have vy:W6.cell? ⟨wr.heap.size,0,none⟩=some (.int .i64 y):=by rw[←hW6,World.cell?_alloc_new];rfl
     have zy:Hid (wr.heap.size<W6.heap.size):=by unfold Hid;rw[←hW6];simp
     have v0:=(b6.cell (p:=⟨zz,0,none⟩) hS.out.2.2.1).trans hS.out.2.1
     have zx:Hid (zz<W6.heap.size):=Nat.lt_of_lt_of_le hS.out.2.2.1 b6.size
     clear hS b6
     go_wp2_with fail
     clear hy w0 w1 w2 hW6
     obtain⟨zw,hzw⟩:∃ zw,wr.heap.size=zw:=⟨_,rfl⟩
     rw[hzw]at vy zy ⊢
     clear hzw
     have vx6:=v0
     go_loopw [17,46] (fun v i wr=>∃ j:Nat,j≤P.length∧i=.int .i64 j∧v=.int .i64 (nB (P.take j) x y:Nat)∧Hid (Below W6.heap.size W6 wr)) (fun _ i _=>P.length-(intOf i).toNat)
     case atStart=>exact⟨0,Nat.zero_le _,rfl,by simp[nB],Below.refl _ _⟩
     case round=>
      obtain⟨j,hj,rfl,rfl,hB⟩:=hrel
      by_cases hjl:j<P.length
      ·have hjl':(j:Int)<(P.length:Int):=by omega
       obtain⟨b4,off4,rfl,p0,p1⟩:=(HP.out.below (S6.out.bel.trans (hB.out.mono S6.out.bel.size))).at_ hjl
       have NB1:=Zh (nB_next hjl x y)
       have ln:nB (P.take j) x y≤20000:=by have:=nB_le (P.take j) x y;rw[List.length_take]at this;omega
       obtain⟨W7,hW7⟩:∃ W7,wr.alloc (.cells #[.int .i64 (pn P j).1,.int .i64 (pn P j).2] 46)=W7:=⟨_,rfl⟩
       have B7:Hid (Below W6.heap.size W6 W7):=by unfold Hid;rw[←hW7];exact hB.out.trans ((bel_one _ _).mono hB.out.size)
       have q0:W7.cell? ⟨wr.heap.size,0,none⟩=some (.int .i64 (pn P j).1):=by rw[←hW7,World.cell?_alloc_new];rfl
       have q1:W7.cell? ⟨wr.heap.size,1,none⟩=some (.int .i64 (pn P j).2):=by rw[←hW7,World.cell?_alloc_new];rfl
       have hs1:=vx6
       have hs2:=vy
       have r0:=(B7.out.cell (p:=⟨zz,0,none⟩) zx.out).trans vx6
       have r1:=(B7.out.cell (p:=⟨zw,0,none⟩) zy.out).trans vy
       have EQ:=eq_two (pn P j).1 (pn P j).2 x y W7
       clear hB
       cases ex:((pn P j).1 == x)
       ·cases ey:((pn P j).2 == y)
        ·have NB2:Hid (nB (P.take (j+1)) x y=nB (P.take j) x y):=by unfold Hid;rw[NB1.out,ex,ey];rfl
         rw[ex,ey]at EQ
         simp only[Bool.and_true,Bool.and_false,Bool.true_and,Bool.false_and,Bool.and_self]at EQ
         clear NB1 v0 vy hs1 hs2
         go_wp2_with fail
         go_roundw
         case rel=>exact⟨j+1,by omega,by go_num,by rw[NB2.out],B7.out⟩
         case measure=>simp[intOf];omega
        ·have NB2:Hid (nB (P.take (j+1)) x y=nB (P.take j) x y):=by unfold Hid;rw[NB1.out,ex,ey];rfl
         rw[ex,ey]at EQ
         simp only[Bool.and_true,Bool.and_false,Bool.true_and,Bool.false_and,Bool.and_self]at EQ
         clear NB1 v0 vy hs1 hs2
         go_wp2_with fail
         go_roundw
         case rel=>exact⟨j+1,by omega,by go_num,by rw[NB2.out],B7.out⟩
         case measure=>simp[intOf];omega
       ·cases ey:((pn P j).2 == y)
        ·have NB2:Hid (nB (P.take (j+1)) x y=nB (P.take j) x y):=by unfold Hid;rw[NB1.out,ex,ey];rfl
         rw[ex,ey]at EQ
         simp only[Bool.and_true,Bool.and_false,Bool.true_and,Bool.false_and,Bool.and_self]at EQ
         clear NB1 v0 vy hs1 hs2
         go_wp2_with fail
         go_roundw
         case rel=>exact⟨j+1,by omega,by go_num,by rw[NB2.out],B7.out⟩
         case measure=>simp[intOf];omega
        ·have NB2:Hid (nB (P.take (j+1)) x y=nB (P.take j) x y+1):=by unfold Hid;rw[NB1.out,ex,ey];rfl
         rw[ex,ey]at EQ
         simp only[Bool.and_true,Bool.and_false,Bool.true_and,Bool.false_and,Bool.and_self]at EQ
         clear NB1 v0 vy hs1 hs2
         go_wp2_with fail
         go_roundw
         case rel=>exact⟨j+1,by omega,by go_num,by rw[NB2.out];go_num,B7.out⟩
         case measure=>simp[intOf];omega
      ·obtain rfl:j=P.length:=by omega
       rw[List.take_length]
       have S8:=Zh (S6.out.keep hB.out)
       have ZX:=Zh (Nat.lt_of_lt_of_le zx.out hB.out.size)
       have R0:=Zh ((hB.out.cell (p:=⟨zz,0,none⟩) zx.out).trans vx6)
       have r0:=(hB.out.cell (p:=⟨zz,0,none⟩) zx.out).trans vx6
       have r1:=(hB.out.cell (p:=⟨zw,0,none⟩) zy.out).trans vy
       have lm:=nB_le P x y
       obtain⟨m,hm⟩:∃ m,nB P x y=m:=⟨_,rfl⟩
       rw[hm]at NX2 lm ⊢
       clear hjl hB hm v0 vy vx6
       by_cases hm0:0<m
       ·have NX3:Hid (L ++ cfR l P x (k2+1)=Q ++ [(x,y,m)]):=by unfold Hid;rw[NX2.out,if_pos hm0]
        have hm0':(0:Int)<(m:Int):=by omega
        clear NX2 hm0
        go_wp2_with (at_builtin;refine wpList_append_own_at _ rfl _ _ 24 rfl W3.heap.size 30 i0 (.agg #[.int .i64 0,.int .i64 0,.int .i64 0]) 3 24 Tryz.underlying24 hi hz0 hz1 hz2 rfl (by decide) _ _ _ rfl (S8.out.own.alloc _) ⟨wr.heap.size,0,none⟩ 1 1 [.int .i64 x,.int .i64 y,.int .i64 (m:Nat)] rfl rfl (cell_three_new _ _ _ _ _) (by simp[Value.oneCell']) ?c3 ?c4 ?c5 ?_)
        case c3=>have:=LL.out;unfold maxLen;omega
        case c4=>have:=LL.out;omega
        case c5=>have:=S8.out.bel.size;simp;omega
        intro v' w4 hown' hgrow _ hloc
        have NX:Hid (InT W3 w4 v' (L ++ cfR l P x (k2+1))∧w4.cell? ⟨zz,0,none⟩=some (.int .i64 x)∧zz<w4.heap.size∧v'.ownBlock≠some zz):=by
         unfold Hid
         rw[NX3.out]
         exact⟨S8.out.snoc hown' hgrow,hgrow.cell (((bel_one wr _).cell (p:=⟨zz,0,none⟩) ZX.out).trans R0.out) (fun e=>VZ.out e.symm),Nat.lt_of_lt_of_le ZX.out (Nat.le_trans (bel_one wr _).size hgrow.size),fun e=>by
          have h1:=ZX.out
          rcases hloc with h|h
          ·rw[h]at e;exact VZ.out e
          ·rw[h]at e;injection e with e;first | omega | (simp at e;omega)⟩
        clear hown' hgrow hloc S8 NX3
        go_wp2
        go_roundw
        case rel=>exact⟨k2+1,by omega,by go_num,NX.out⟩
        case measure=>simp[intOf];omega
       ·have NX3:Hid (L ++ cfR l P x (k2+1)=Q):=by unfold Hid;rw[NX2.out,if_neg hm0,List.append_nil]
        obtain rfl:m=0:=by omega
        have NX:Hid (InT W3 wr u12 (L ++ cfR l P x (k2+1))∧wr.cell? ⟨zz,0,none⟩=some (.int .i64 x)∧zz<wr.heap.size∧u12.ownBlock≠some zz):=by
         unfold Hid
         rw[NX3.out]
         exact⟨S8.out,R0.out,ZX.out,VZ.out⟩
        clear NX2 NX3 hm0 S8 ZX R0 VZ
        go_wp2_with fail
        go_roundw
        case rel=>exact⟨k2+1,by omega,by go_num,NX.out⟩
        case measure=>simp[intOf];omega
    ·obtain rfl:k2=l.length:=by omega
     have NX:=Zh hS.out.1
     rw[←NXA.out]at NX
     clear hS hkl2
     go_wp2_with fail
     go_roundw
     case rel=>exact⟨k+1,by omega,by go_num,NX.out⟩
     case measure=>simp[intOf];omega
  ·obtain rfl:k=l.length:=by omega
   clear hkl
   have BE:=hS.out.bel
   have R:Hid (CfP l C a b w (.returned (.tuple #[u12,.int .i64 0])) wr):=.inl ⟨HZ.out,_,rfl,by rw[HPP.out];exact World.ownsRow.mono hS.out.own BW3.out.size,BW3.out.trans (BE.mono BW3.out.size)⟩
   clear hS BE
   go_wp2_with fail
   go_ret2
   exact R.out
def cfLt(s t:Int×Int×Nat):Prop:=s.1<t.1∨(s.1=t.1∧s.2.1<t.2.1)
theorem cfR_mem{l:List Nd}{P:List (Int×Int)}{x:Int}{t:Int×Int×Nat}:∀ {k:Nat},t∈cfR l P x k↔∃ j,j<k∧t=(x,(nd l j).cd,nB P x (nd l j).cd)∧0<nB P x (nd l j).cd
 | 0=>by simp[cfR]
 | k+1=>by
  unfold cfR
  rw[List.mem_append,cfR_mem (k:=k)]
  constructor
  ·rintro (⟨j,hj,h⟩|h)
   ·exact⟨j,by omega,h⟩
   ·by_cases e:0<nB P x (nd l k).cd
    ·rw[if_pos e]at h
     exact⟨k,by omega,by simpa using h,e⟩
    ·rw[if_neg e]at h
     simp at h
  ·rintro⟨j,hj,e1,e2⟩
   by_cases e:j=k
   ·subst e
    right
    rw[if_pos e2,e1]
    simp
   ·exact .inl ⟨j,by omega,e1,e2⟩
theorem cfA_mem{l:List Nd}{P:List (Int×Int)}{t:Int×Int×Nat}:∀ {k:Nat},t∈cfA l P k↔∃ i j,i<k∧j<l.length∧t=((nd l i).cd,(nd l j).cd,nB P (nd l i).cd (nd l j).cd)∧0<nB P (nd l i).cd (nd l j).cd
 | 0=>by simp[cfA]
 | k+1=>by
  unfold cfA
  rw[List.mem_append,cfA_mem (k:=k),cfR_mem]
  constructor
  ·rintro (⟨i,j,hi,h⟩|⟨j,hj,h⟩)
   ·exact⟨i,j,by omega,h⟩
   ·exact⟨k,j,by omega,hj,h⟩
  ·rintro⟨i,j,hi,hj,h⟩
   by_cases e:i=k
   ·subst e;exact .inr ⟨j,hj,h⟩
   ·exact .inl ⟨i,j,by omega,hj,h⟩
theorem cfR_up{l:List Nd}(h:Ord l)(P:List (Int×Int))(x:Int):∀ k,k≤l.length→(cfR l P x k).Pairwise cfLt
 | 0,_=>List.Pairwise.nil
 | k+1,hk=>by
  unfold cfR
  rw[List.pairwise_append]
  refine⟨cfR_up h P x k (by omega),?_,?_⟩
  ·split<;>simp
  ·intro s hs t ht
   obtain⟨j,hj,rfl,_⟩:=cfR_mem.1 hs
   by_cases e:0<nB P x (nd l k).cd
   ·rw[if_pos e]at ht
    obtain rfl:t=_:=by simpa using ht
    exact .inr ⟨rfl,h.lt hj (by omega)⟩
   ·rw[if_neg e]at ht
    simp at ht
theorem cfA_up{l:List Nd}(h:Ord l)(P:List (Int×Int)):∀ k,k≤l.length→(cfA l P k).Pairwise cfLt
 | 0,_=>List.Pairwise.nil
 | k+1,hk=>by
  unfold cfA
  rw[List.pairwise_append]
  refine⟨cfA_up h P k (by omega),cfR_up h P _ _ (Nat.le_refl _),?_⟩
  intro s hs t ht
  obtain⟨i,j,hi,_,rfl,_⟩:=cfA_mem.1 hs
  obtain⟨j2,_,rfl,_⟩:=cfR_mem.1 ht
  exact .inl (h.lt hi (by omega))
theorem cf_one:∀ {A B:List (Int×Int×Nat)},A.Pairwise cfLt→B.Pairwise cfLt→(∀ t,t∈A↔t∈B)→A=B
 | [],[],_,_,_=>rfl
 | [],b::B,_,_,h=>by have:=(h b).2 (by simp);simp at this
 | a::A,[],_,_,h=>by have:=(h a).1 (by simp);simp at this
 | a::A,b::B,hA,hB,h=>by
  rw[List.pairwise_cons]at hA hB
  have ir:∀ {s:Int×Int×Nat},¬ cfLt s s:=fun {s} e=>by rcases e with e | e<;>omega
  have asy:∀ {s t:Int×Int×Nat},cfLt s t→¬ cfLt t s:=fun {s t} e f=>by
   rcases e with e|e<;>rcases f with f|f<;>omega
  have e:a=b:=by
   have h1:=(h a).1 (by simp)
   have h2:=(h b).2 (by simp)
   rw[List.mem_cons]at h1 h2
   rcases h1 with h1|h1
   ·exact h1
   ·rcases h2 with h2|h2
    ·exact h2.symm
    ·exact absurd (hA.1 _ h2) (asy (hB.1 _ h1))
  subst e
  rw[cf_one hA.2 hB.2 fun t=>?_]
  constructor
  ·intro ht
   rcases List.mem_cons.1 ((h t).1 (List.mem_cons_of_mem _ ht)) with e|e
   ·subst e;exact absurd (hA.1 _ ht) ir
   ·exact e
  ·intro ht
   rcases List.mem_cons.1 ((h t).2 (List.mem_cons_of_mem _ ht)) with e|e
   ·subst e;exact absurd (hB.1 _ ht) ir
   ·exact e
theorem in_inw{x:Int}(h:0<x∧x<1000):inw x:=by unfold inw;omega
theorem nB_mem{P:List (Int×Int)}{x y:Int}(h:0<nB P x y):(x,y)∈P:=by
 obtain⟨p,hp,e⟩:=List.countP_pos_iff.1 h
 simp only[Bool.and_eq_true,beq_iff_eq]at e
 obtain⟨p1,p2⟩:=p
 simp only at e
 obtain⟨rfl,rfl⟩:=e
 exact hp
theorem mem_nB{P:List (Int×Int)}{p:Int×Int}(h:p∈P):0<nB P p.1 p.2:=List.countP_pos_iff.2 ⟨p,h,by simp⟩
theorem nodup_le:∀ (K P:List (Int×Int)),K.Nodup→(∀ p,p∈K→p∈P)→K.length≤P.length
 | [],_,_,_=>Nat.zero_le _
 | p::K,P,hn,h=>by
  rw[List.nodup_cons]at hn
  have hp:=h p (List.mem_cons_self ..)
  have:=nodup_le K (P.erase p) hn.2 fun q hq=>(List.mem_erase_of_ne (fun e=>hn.1 (by rw[←e];exact hq))).2 (h q (List.mem_cons_of_mem _ hq))
  rw[List.length_erase_of_mem hp]at this
  have:=List.length_pos_of_mem hp
  simp only[List.length_cons]
  omega
structure Met (P K:List (Int×Int)) (left:Lit→Bool):Prop where
 mem:∀ p,p∈K→p∈P∧left (kp p.1 p.2)=false
 all:∀ p,p∈P→left (kp p.1 p.2)=false→p∈K
 nod:K.Nodup
theorem Met.len{P K:List (Int×Int)}{left:Lit→Bool}(h:Met P K left):K.length≤P.length:=nodup_le K P h.nod fun p hp=>(h.mem p hp).1
theorem Met.step{P K:List (Int×Int)}{left:Lit→Bool}(h:Met P K left)(hs:SmP P){x y:Int}(hp:(x,y)∈P)(hl:left (kp x y)=true):Met P (K ++ [(x,y)]) fun z=>left z && !z.sameKey (kp x y):=by
 have sm:=hs _ hp
 have sk:∀ p:Int×Int,p∈P→(kp p.1 p.2).sameKey (kp x y)=decide (p.1=x∧p.2=y):=fun p hp=>kp_same (in_inw (hs p hp).1) (in_inw (hs p hp).2) (in_inw sm.1) (in_inw sm.2)
 refine⟨fun p hpk=>?_,fun p hpp hl2=>?_,?_⟩
 ·rcases List.mem_append.1 hpk with h1|h1
  ·obtain⟨h2,h3⟩:=h.mem p h1
   exact⟨h2,by rw[h3];rfl⟩
  ·obtain rfl:p=(x,y):=by simpa using h1
   exact⟨hp,by rw[sk _ hp];simp⟩
 ·rw[sk p hpp]at hl2
  by_cases e:p.1=x∧p.2=y
  ·obtain⟨p1,p2⟩:=p
   obtain⟨rfl,rfl⟩:=e
   exact List.mem_append_right _ (by simp)
  ·rw[decide_eq_false e]at hl2
   exact List.mem_append_left _ (h.all p hpp (by simpa using hl2))
 ·rw[List.nodup_append]
  refine⟨h.nod,by simp,fun a ha b hb=>?_⟩
  obtain rfl:b=(x,y):=by simpa using hb
  rintro rfl
  have:=(h.mem _ ha).2
  rw[hl]at this
  cases this
def trip(P:List (Int×Int))(p:Int×Int):Int×Int×Nat:=(p.1,p.2,nB P p.1 p.2)
structure InCf (w W2 wr:World) (mp n:Nat) (D:DataW Value) (P K:List (Int×Int)) (v:Value) (left:Lit→Bool) (cnt:Nat):Prop where
 rg:wr.ranges Tryz.prog 74 asIt mp W2.heap.size n D left cnt
 own:wr.ownsRow (W2.heap.size+1) 30 3 v K.length (trow (K.map (trip P)))
 bel:Below w.heap.size w wr
 lo:w.heap.size≤mp
 hi:mp<W2.heap.size
 lf:∀ z,left z=true→Maps.has D z=true
 met:Met P K left
theorem trow_trip(P K:List (Int×Int))(p:Int×Int):trow ((K ++ [p]).map (trip P))=trow (K.map (trip P)) ++ [.int .i64 p.1,.int .i64 p.2,.int .i64 (nB P p.1 p.2:Nat)]:=by
 rw[List.map_append,List.map_cons,List.map_nil,trow_snoc];rfl
open Go.Lib Go.Sort
set_option maxHeartbeats 2000000 in
theorem or_c(g:Nat) (x y z:Int) (hz:(if x≠0 then x else y)=z) (W:World) (h0:W.cell? ⟨g,0,none⟩=some (.int .i64 x)) (h1:W.cell? ⟨g,1,none⟩=some (.int .i64 y)) :
  Calls Tryz.prog 37 #[.slice (some ⟨g,0,none⟩) 2 2] W fun e w'=>e=.returned (.int .i64 z)∧w'=W:=by
 have HZ:=Zh hz
 clear hz
 go_enter Tryz.func37,Tryz.ntmps37
 go_wp2
 go_loop [8] (fun iv=>∃ k:Nat,k≤2∧iv=.int .i64 k∧Hid ((1≤k→x=0)∧(2≤k→y=0))) (fun iv=>2-(intOf iv).toNat)
 case atStart=>exact⟨0,by omega,rfl,⟨fun h=>by omega,fun h=>by omega⟩⟩
 case round=>
  obtain⟨k,hk,rfl,hS⟩:=hrel
  by_cases e0:k=0
  ·subst e0
   by_cases hx:x=0
   ·have hn:(x != 0)=false:=by rw[bne,beq_iff_eq.2 hx];rfl
    have NX:Hid ((1≤1→x=0)∧(2≤1→y=0)):=⟨fun _=>hx,fun h=>by omega⟩
    clear hx hS
    go_wp2
    go_round
    case rel=>exact⟨1,by omega,by go_num,NX.out⟩
    case measure=>simp[intOf]
   ·have hn:(x != 0)=true:=by rw[bne,beq_eq_false_iff_ne.2 hx];rfl
    have R:Hid (z=x):=by unfold Hid;rw[←HZ.out,if_pos hx]
    clear hx hS
    go_wp2
    go_ret
    exact⟨by rw[R.out];rfl,rfl⟩
  ·by_cases e1:k=1
   ·subst e1
    have hx:=hS.out.1 (by omega)
    by_cases hy:y=0
    ·have hn:(y != 0)=false:=by rw[bne,beq_iff_eq.2 hy];rfl
     have NX:Hid ((1≤2→x=0)∧(2≤2→y=0)):=⟨fun _=>hx,fun _=>hy⟩
     clear hx hS hy
     go_wp2
     go_round
     case rel=>exact⟨2,by omega,by go_num,NX.out⟩
     case measure=>simp[intOf]
    ·have hn:(y != 0)=true:=by rw[bne,beq_eq_false_iff_ne.2 hy];rfl
     have R:Hid (z=y):=by unfold Hid;rw[←HZ.out,if_neg (by simpa using hx)]
     clear hx hS hy
     go_wp2
     go_ret
     exact⟨by rw[R.out];rfl,rfl⟩
   ·obtain rfl:k=2:=by omega
    have hx:=hS.out.1 (by omega)
    have hy:=hS.out.2 (by omega)
    have R:Hid (z=0):=by unfold Hid;rw[←HZ.out,if_neg (by simpa using hx)];exact hy
    clear hx hy hS
    go_wp2
    go_ret
    exact⟨by rw[R.out];rfl,rfl⟩
def cfC(p q:Int×Int):Int:=if Lib.compareInt p.1 q.1≠0 then Lib.compareInt p.1 q.1 else Lib.compareInt p.2 q.2
theorem ccz(a b:Int):Lib.compareInt a b≠0↔a≠b:=by
 unfold Lib.compareInt
 by_cases h1:a<b
 ·simp[h1];omega
 ·by_cases h2:b<a
  ·simp[h1,h2];omega
  ·simp[h1,h2];omega
theorem ccn(a b:Int):Lib.compareInt a b<0↔a<b:=by
 unfold Lib.compareInt
 by_cases h1:a<b
 ·simp[h1]
 ·by_cases h2:b<a
  ·simp[h1,h2]
  ·simp[h1,h2]
theorem cfC_lt(p q:Int×Int):ltOf cfC p q=decide (p.1<q.1∨(p.1=q.1∧p.2<q.2)):=by
 unfold ltOf cfC
 rw[decide_eq_decide]
 by_cases h:p.1=q.1
 ·rw[if_neg (by rw[ccz];simpa using h),ccn];omega
 ·rw[if_pos ((ccz _ _).2 h),ccn];omega
theorem cfC_swo:SWO (ltOf cfC) where
 irrefl x:=by rw[cfC_lt];simp
 trans x y z h1 h2:=by rw[cfC_lt]at *;simp at *;omega
 ntrans x y z h1 h2:=by rw[cfC_lt]at *;simp at *;omega
theorem cfC_tot(x y:Int×Int)(h1:ltOf cfC x y=false)(h2:ltOf cfC y x=false):x=y:=by
 rw[cfC_lt]at h1 h2
 simp at h1 h2
 obtain⟨a,b⟩:=x
 obtain⟨c,d⟩:=y
 simp only at h1 h2
 have e1:a=c:=by omega
 have e2:b=d:=by omega
 rw[e1,e2]
def encC(P:List (Int×Int))(p:Int×Int):List Value:=tcells (trip P p)
def S6c(g h:Nat)(x:Int×Int)(y:Int×Int)(W:World):Prop:=W.cell? ⟨g,0,none⟩=some (.int .i64 x.1)∧W.cell? ⟨g,1,none⟩=some (.int .i64 x.2)∧W.cell? ⟨h,0,none⟩=some (.int .i64 y.1)∧W.cell? ⟨h,1,none⟩=some (.int .i64 y.2)
set_option maxHeartbeats 4000000 in
theorem cmpC_c(x y:Int×Int) (n m:Int) (W:World) :
  Calls Tryz.prog 36 #[.agg #[.int .i64 x.1,.int .i64 x.2,.int .i64 n],.agg #[.int .i64 y.1,.int .i64 y.2,.int .i64 m]] W fun e w'=>e=.returned (.int .i64 (cfC x y))∧∃ q os',w'=grow (W.drewN q) os':=by
 obtain⟨x1,x2⟩:=x
 obtain⟨y1,y2⟩:=y
 have C1:=Zh (fun V=>Tryz.cmp_Compare_int x1 y1 V)
 have C2:=Zh (fun V=>Tryz.cmp_Compare_int x2 y2 V)
 have CC:Hid (cfC (x1,x2) (y1,y2)=if Lib.compareInt x1 y1≠0 then Lib.compareInt x1 y1 else Lib.compareInt x2 y2):=rfl
 obtain⟨c1,hc1⟩:∃ c,Lib.compareInt x1 y1=c:=⟨_,rfl⟩
 obtain⟨c2,hc2⟩:∃ c,Lib.compareInt x2 y2=c:=⟨_,rfl⟩
 rw[hc1]at C1 CC
 rw[hc2]at C2 CC
 clear hc1 hc2
 dsimp only
 obtain⟨W2,hW2⟩:∃ W2,(W.alloc (.cells #[.int .i64 x1,.int .i64 x2,.int .i64 n] 30)).alloc (.cells #[.int .i64 y1,.int .i64 y2,.int .i64 m] 30)=W2:=⟨_,rfl⟩
 have s0:S6c W.heap.size (W.heap.size+1) (x1,x2) (y1,y2) W2:=by
  rw[←hW2]
  have hs:(W.alloc (.cells #[.int .i64 x1,.int .i64 x2,.int .i64 n] 30)).heap.size=W.heap.size+1:=by simp
  have b2:=(Below.refl _ _).alloc (Nat.le_refl (W.alloc (.cells #[.int .i64 x1,.int .i64 x2,.int .i64 n] 30)).heap.size) (.cells #[.int .i64 y1,.int .i64 y2,.int .i64 m] 30)
  refine⟨(b2.cell (p:=⟨W.heap.size,0,none⟩) (by simp)).trans (by rw[World.cell?_alloc_new];rfl),(b2.cell (p:=⟨W.heap.size,1,none⟩) (by simp)).trans (by rw[World.cell?_alloc_new];rfl),?_,?_⟩
  ·rw[←hs,World.cell?_alloc_new];rfl
  ·rw[←hs,World.cell?_alloc_new];rfl
 have BW:Hid (∃ os,W2=grow W os):=⟨#[_] ++ #[_],by rw[←hW2,alloc_eq_grow,alloc_eq_grow,grow_grow]⟩
 have S0:=Zh s0
 have ZL0:Hid (W.heap.size+1<W2.heap.size):=by unfold Hid;rw[←hW2];simp
 clear s0
 go_enter Tryz.func36,Tryz.ntmps36
 go_wp2_with fail
 clear hW2
 refine wp_region_noPanic ?_
 refine wp_region_held_drew (S:=S6c W.heap.size (W.heap.size+1) (x1,x2) (y1,y2)) (by kernel_rfl) ⟨S0.out.1,S0.out.2.1,S0.out.2.2.1,S0.out.2.2.2⟩ (fun hS=>?_)
 have HD:Hid (∃ q os,W2.drew=grow (W.drewN q) os):=by
  obtain⟨os,e⟩:=BW.out
  exact⟨1,os,by rw[e];rfl⟩
 have ZL:Hid (W.heap.size+1<W2.drew.heap.size):=ZL0.out
 obtain⟨WD,hWD⟩:∃ V,W2.drew=V:=⟨_,rfl⟩
 rw[hWD]at hS HD ZL ⊢
 clear hWD S0 BW ZL0
 refine Zt (i:=0) (v:=?v0c) rfl (Or.inl ⟨by rfl,?hy0c⟩) ?rest0c
 case hy0c=>
  intro w hSw
  dsimp only[S6c]at hSw
  go_simp
  try with_reducible rfl
 simp only[Act.put,Zd,Ze,Zf,Za,Zb,Zc]
 refine Zt (i:=1) (v:=?v1c) rfl (Or.inl ⟨by rfl,?hy1c⟩) ?rest1c
 case hy1c=>
  intro w hSw
  dsimp only[S6c]at hSw
  go_simp
  try with_reducible rfl
 simp only[Act.put,Zd,Ze,Zf,Za,Zb,Zc]
 refine Zt (i:=2) (v:=?v2c) rfl (Or.inl ⟨by rfl,?hy2c⟩) ?rest2c
 case hy2c=>
  intro w hSw
  dsimp only[S6c]at hSw
  go_simp
  try with_reducible rfl
 simp only[Act.put,Zd,Ze,Zf,Za,Zb,Zc]
 refine Zt (i:=3) (v:=?v3c) rfl (Or.inl ⟨by rfl,?hy3c⟩) ?rest3c
 case hy3c=>
  intro w hSw
  dsimp only[S6c]at hSw
  go_simp
  try with_reducible rfl
 simp only[Act.put,Zd,Ze,Zf,Za,Zb,Zc]
 refine Zt (i:=5) (v:=?v5c) rfl (Or.inl ⟨by rfl,?hy5c⟩) ?rest5c
 case hy5c=>
  intro w hSw
  dsimp only[S6c]at hSw
  go_simp
  try with_reducible rfl
 simp only[Act.put,Zd,Ze,Zf,Za,Zb,Zc]
 refine Zt (i:=6) (v:=?v6c) rfl (Or.inl ⟨by rfl,?hy6c⟩) ?rest6c
 case hy6c=>
  intro w hSw
  dsimp only[S6c]at hSw
  go_simp
  try with_reducible rfl
 simp only[Act.put,Zd,Ze,Zf,Za,Zb,Zc]
 refine Zt (i:=7) (v:=?v7c) rfl (Or.inl ⟨by rfl,?hy7c⟩) ?rest7c
 case hy7c=>
  intro w hSw
  dsimp only[S6c]at hSw
  go_simp
  try with_reducible rfl
 simp only[Act.put,Zd,Ze,Zf,Za,Zb,Zc]
 refine Zt (i:=8) (v:=?v8c) rfl (Or.inl ⟨by rfl,?hy8c⟩) ?rest8c
 case hy8c=>
  intro w hSw
  dsimp only[S6c]at hSw
  go_simp
  try with_reducible rfl
 simp only[Act.put,Zd,Ze,Zf,Za,Zb,Zc]
 refine wpAnyH_ready (rs:=[4]) (by kernel_rfl) (by simp) ?_
 refine AllReadyH.cons rfl (fun K hK=>?_) AllReadyH.nil
 go_simp
 (with_reducible refine (C1.out WD).mono ?_)
 rintro e V ⟨rfl,rfl⟩
 try go_simp
 refine hK.out _ _ hS (fun _=>?_)
 clear hK K
 try simp only[Act.put,Zd,Ze,Zf,Za,Zb,Zc]
 refine wpAnyH_ready (rs:=[9]) (by kernel_rfl) (by simp) ?_
 refine AllReadyH.cons rfl (fun K hK=>?_) AllReadyH.nil
 go_simp
 (with_reducible refine (C2.out V).mono ?_)
 rintro e V' ⟨rfl,rfl⟩
 try go_simp
 refine hK.out _ _ hS (fun _=>?_)
 clear hK K
 try simp only[Act.put,Zd,Ze,Zf,Za,Zb,Zc]
 refine wpAnyH_ready (rs:=[10]) (by kernel_rfl) (by simp) ?_
 refine AllReadyH.cons rfl (fun K hK=>?_) AllReadyH.nil
 go_simp
 have bn:=bel_one V' (.cells #[.int .i64 c1,.int .i64 c2] 3)
 have hT:S6c W.heap.size (W.heap.size+1) (x1,x2) (y1,y2) (V'.alloc (.cells #[.int .i64 c1,.int .i64 c2] 3)):=by
  have z:=ZL.out
  exact⟨(bn.cell (p:=⟨W.heap.size,0,none⟩) (by show W.heap.size<_;omega)).trans hS.1,(bn.cell (p:=⟨W.heap.size,1,none⟩) (by show W.heap.size<_;omega)).trans hS.2.1,(bn.cell (p:=⟨W.heap.size+1,0,none⟩) z).trans hS.2.2.1,(bn.cell (p:=⟨W.heap.size+1,1,none⟩) z).trans hS.2.2.2⟩
 have HO:=Zh (or_c V'.heap.size c1 c2 (cfC (x1,x2) (y1,y2)) CC.out.symm (V'.alloc (.cells #[.int .i64 c1,.int .i64 c2] 3)) (by rw[World.cell?_alloc_new];rfl) (by rw[World.cell?_alloc_new];rfl))
 have PP:Hid (∃ q os',V'.alloc (.cells #[.int .i64 c1,.int .i64 c2] 3)=grow (W.drewN q) os'):=by
  obtain⟨q,os,e⟩:=HD.out
  exact⟨q,_,by rw[e,alloc_eq_grow,grow_grow]⟩
 refine hK.out _ _ hT (fun _=>?_)
 clear hK K hS bn
 have hS:=hT
 clear hT
 try simp only[Act.put,Zd,Ze,Zf,Za,Zb,Zc]
 refine wpAnyH_ready (rs:=[11]) (by kernel_rfl) (by simp) ?_
 refine AllReadyH.cons rfl (fun K hK=>?_) AllReadyH.nil
 go_simp
 (with_reducible refine HO.out.mono ?_)
 rintro e V9 ⟨rfl,he9⟩
 subst he9
 try go_simp
 refine hK.out _ _ hS (fun _=>?_)
 clear hK K
 try simp only[Act.put,Zd,Ze,Zf,Za,Zb,Zc]
 refine Zt (i:=12) (v:=?v12c) rfl (Or.inl ⟨by rfl,?hy12c⟩) ?rest12c
 case hy12c=>
  intro w hSw
  dsimp only[S6c]at hSw
  go_simp
  try with_reducible rfl
 simp only[Act.put,Zd,Ze,Zf,Za,Zb,Zc]
 refine wpAnyH_done (by kernel_rfl) ?_ _
 refine NoPanic.normal ?_
 clear hS
 go_wp2_with fail
 go_ret
 exact⟨rfl,PP.out⟩
end Go.Proofs.YtghgbhmiliiohaaGreatDoor
