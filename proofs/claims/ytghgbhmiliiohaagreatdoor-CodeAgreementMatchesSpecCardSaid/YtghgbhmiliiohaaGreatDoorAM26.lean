/-
  CodeAgreementMatchesSpec: how far two codes differ, in the reference.
-/
import Derived.Test.YtghgbhmiliiohaaGreatDoorAM22
import Derived.Test.YtghgbhmiliiohaaGreatDoorAM25
import Derived.Test.YtghgbhmiliiohaaGreatDoorAMQ
import Derived.Test.YtghgbhmiliiohaaGreatDoorAM24
set_option maxRecDepth 100000
namespace Go.Proofs.YtghgbhmiliiohaaGreatDoor
open Go.RowKit Go.WideMaps Go.Maps
theorem least_of{P:Nat→Prop}:∀ {n:Nat},(∃ k,k<n∧P k)→∃ k,k<n∧P k∧∀ j,j<k→¬ P j
 | 0,⟨k,h,_⟩=>by omega
 | n+1,⟨k,h,hp⟩=>by
  by_cases q:∃ k,k<n∧P k
  ·obtain⟨k',h1,h2,h3⟩:=least_of q
   exact⟨k',by omega,h2,h3⟩
  ·have e:k=n:=by
    by_cases e:k=n
    ·exact e
    ·exact absurd ⟨k,by omega,hp⟩ q
   subst e
   exact⟨k,by omega,hp,fun j hj hP=>q ⟨j,hj,hP⟩⟩
theorem index_c(a:Option Addr) (c:Nat) (Y:List Int) (x:Int) (w:World) (h:Rd w a Y) (h0:0<Y.length) :
  Calls Tryz.prog 86 #[.slice a Y.length c,.int .i64 x] w fun e w'=>w'=w∧∃ r:Int,e=.returned (.int .i64 r)∧((r<0∧∀ j,j<Y.length→fn Y j≠x)∨∃ k,k<Y.length∧r=(k:Int)∧fn Y k=x):=by
 obtain⟨b,off,rfl,_,hc⟩:=h.2 h0
 refine (Tryz.slices_Index_int b off Y.length c Y x w (Nat.le_refl _) h.1 hc).mono ?_
 rintro e w' ⟨rfl,rfl⟩
 refine⟨rfl,_,rfl,?_⟩
 by_cases q:∃ k,k<Y.length∧fn Y k=x
 ·obtain⟨k,h1,h2,h3⟩:=least_of q
  exact .inr ⟨k,h1,Lib.idxOf_hit Y Y.length k x h1 (Nat.le_refl _) h2 h3,h2⟩
 ·have hn:∀ j,j<Y.length→fn Y j≠x:=fun j hj e=>q ⟨j,hj,e⟩
  exact .inl ⟨by rw[Lib.idxOf_miss Y Y.length x hn];omega,hn⟩
theorem pth_zero{p lv:Nat→Nat}{H:Nat→Prop}(T:Tree p lv H){c:Nat}(hc:In H c):pth p c (lv c) ++ [0]=pth p c (lv c+1):=by
 rw[pth_succ]
 have h1:=T.lvIt (k:=lv c) hc
 have h2:=(T.lv0 (T.inIt (k:=lv c) hc)).1 (by omega)
 rw[h2]
 rfl
theorem meet_at{p lv:Nat→Nat}{H:Nat→Prop}(T:Tree p lv H){a b i k:Nat}(ha:In H a)(hb:In H b)(hi:i≤lv a)(hk:k≤lv b)(e:it p k b=it p i a)(hno:∀ j,j<i→∀ q,q≤lv b→it p q b≠it p j a):MeetIs p lv a b (it p i a) (i+k):=by
 have h1:=T.lvIt (k:=i) ha
 have h2:=T.lvIt (k:=k) hb
 rw[e]at h2
 refine⟨⟨i,hi,rfl⟩,⟨k,hk,e⟩,by omega,?_⟩
 rintro x ⟨j,hj,rfl⟩ ⟨q,hq,e2⟩
 rw[T.lvIt ha]
 by_cases hji:j<i
 ·exact absurd e2 (hno j hji q hq)
 ·omega
def RmP(l:List Nd)(a b:Nat)(w:World)(e:Ending)(w':World):Prop:=∃ m d:Nat,e=.returned (.tuple #[.int .i64 (m:Nat),.int .i64 (d:Nat)])∧MeetIs (par l) (lev l) a b m d∧Below w.heap.size w w'
set_option maxHeartbeats 4000000 in
theorem rmeeting_c(sa:Option Addr) (c:Nat) (l:List Nd) (a b:Nat) (w:World) (hl:RdN w sa l) (F:Fr l) (ha:Has l a) (hb:Has l b) :
  Calls Tryz.prog 57 #[.slice sa l.length c,.int .i64 (a:Nat),.int .i64 (b:Nat)] w (RmP l a b w):=by
 obtain⟨i0,hi,hz0,hz1,hz2⟩:=info_parts infoI
 have K1:=Zh (rlineage_c sa c l a w hl F ha)
 have K2:=Zh (fun W (hB:Below w.heap.size w W)=>rlineage_c sa c l b W (hl.below hB) F hb)
 have T:=F.tree
 have HX:=Zh (pth_zero T (c:=a) (.inr ha))
 have HY:=Zh (pth_zero T (c:=b) (.inr hb))
 have HT:Hid (Tree (par l) (lev l) (Has l)∧Has l a∧Has l b):=⟨T,ha,hb⟩
 have la8:lev l a≤8:=(F.lev ha).2.2.1
 have lb8:lev l b≤8:=(F.lev hb).2.2.1
 clear hl F ha hb T
 obtain⟨la,hla⟩:∃ n,lev l a=n:=⟨_,rfl⟩
 obtain⟨lb,hlb⟩:∃ n,lev l b=n:=⟨_,rfl⟩
 have HA:=Zh (And.intro hla hlb)
 rw[hla]at HX la8
 rw[hlb]at HY lb8
 go_enter Tryz.func57,Tryz.ntmps57
 go_wp2_with fail
 (with_reducible refine K1.out.mono ?_)
 rintro e W1 ⟨av,cv,rfl,_,b1,hown1⟩
 rw[hla]at hown1
 rw[hla]
 have B1:=Zh b1
 have O1:=Zh hown1
 clear b1 hown1 K1
 go_wp2_with (at_builtin;refine wpList_append_own _ rfl _ _ 48 rfl w.heap.size 3 i0 (.int .i64 0) 1 8 Tryz.underlying48 hi hz0 hz1 hz2 rfl (by decide) _ _ _ rfl (O1.out.alloc _) ⟨W1.heap.size,0,none⟩ 1 1 [.int .i64 0] rfl rfl (cell_one_new _ _ _) (ints_oneCell .i64 [(0:Int)]) ?c3 ?c4 ?c5 ?_)
 case c3=>unfold maxLen;omega
 case c4=>omega
 case c5=>have:=B1.out.size;simp;omega
 intro vx W2 hown2 hg2 _
 have CqB2:Hid (Below w.heap.size w W2):=by
  have hs:=B1.out.size
  exact (B1.out.alloc hs _).grown hg2 (by simp;omega) (fun g hg=>(O1.out.lt g hg).1)
 have O2:Hid (W2.ownsRow w.heap.size 3 1 vx (la+1) ((pth (par l) a (la+1)).map (Value.int .i64))):=by
  rw[←HX.out,List.map_append];exact hown2
 clear hown2 hg2 O1 B1
 go_wp2_with fail
 (with_reducible refine (K2.out W2 CqB2.out).mono ?_)
 rintro e W3 ⟨bv,dv,rfl,_,b3,hown3⟩
 rw[hlb]at hown3
 rw[hlb]
 have b3:=Zh b3
 have O3:=Zh hown3
 have O2x:=Zh (Cqown_keep O2.out b3.out)
 have LX:Hid (∀ g,vx.ownBlock=some g→g<W2.heap.size):=fun g e=>(O2.out.lt g e).2
 clear hown3 K2 O2
 go_wp2_with (at_builtin;refine wpList_append_own _ rfl _ _ 48 rfl W2.heap.size 3 i0 (.int .i64 0) 1 8 Tryz.underlying48 hi hz0 hz1 hz2 rfl (by decide) _ _ _ rfl (O3.out.alloc _) ⟨W3.heap.size,0,none⟩ 1 1 [.int .i64 0] rfl rfl (cell_one_new _ _ _) (ints_oneCell .i64 [(0:Int)]) ?c6 ?c7 ?c8 ?_)
 case c6=>unfold maxLen;omega
 case c7=>omega
 case c8=>have:=b3.out.size;simp;omega
 intro vy W4 hown4 hg4 _
 have B4:Hid (Below W2.heap.size W2 W4):=by
  have hs:=b3.out.size
  exact (b3.out.alloc hs _).grown hg4 (by simp;omega) (fun g hg=>(O3.out.lt g hg).1)
 have O4:Hid (W4.ownsRow W2.heap.size 3 1 vy (lb+1) ((pth (par l) b (lb+1)).map (Value.int .i64))):=by
  rw[←HY.out,List.map_append];exact hown4
 have NE:Hid (vx.ownBlock=none∨vx.ownBlock≠(Value.slice bv lb dv).ownBlock):=by
  unfold Hid
  cases e:vx.ownBlock with
  | none=>exact .inl rfl
  | some g=>
   refine .inr fun e2=>?_
   have h1:=LX.out g e
   have h2:=(O3.out.lt g e2.symm).1
   omega
 have O4x:Hid (W4.ownsRow w.heap.size 3 1 vx (la+1) ((pth (par l) a (la+1)).map (Value.int .i64))):=(O2x.out.alloc _).kept hg4 NE.out
 have BW4:=Zh (CqB2.out.trans (B4.out.mono CqB2.out.size))
 clear hown4 hg4 O3 O2x LX b3 B4 NE
 obtain⟨ax,cx,rfl,hrx⟩:=rd_own O4x.out (pth_len _ _ _) (by omega)
 obtain⟨ay,cy,rfl,hry⟩:=rd_own O4.out (pth_len _ _ _) (by omega)
 have HRX:=Zh hrx
 have HRY:=Zh hry
 clear hrx hry O4 O4x
 go_wp2_with fail
 go_loopw [25] (fun i wr=>∃ k:Nat,k≤la+1∧i=.int .i64 k∧wr=W4∧Hid (∀ j,j<k→∀ q,q≤lb→it (par l) q b≠it (par l) j a)) (fun i _=>la+1-(intOf i).toNat)
 case atStart=>exact⟨0,Nat.zero_le _,rfl,rfl,fun j h=>by omega⟩
 case round=>
  obtain⟨k,hk,rfl,rfl,hS⟩:=hrel
  by_cases hlt:k<la+1
  ·obtain⟨b',off,rfl,u0⟩:=HRX.out.at_ (k:=k) (by rw[pth_len];exact hlt)
   rw[pth_at hlt]at u0
   have hlt':(k:Int)<(la:Int)+1:=by omega
   obtain⟨x,hx⟩:∃ x,it (par l) k a=x:=⟨_,rfl⟩
   rw[hx]at u0
   have HXX:=Zh hx
   have KI:=Zh (index_c ay cy (pth (par l) b (lb+1)) (x:Nat) wr HRY.out (by rw[pth_len];omega))
   rw[pth_len]at KI
   clear hx
   go_wp2_with fail
   (with_reducible refine KI.out.mono ?_)
   rintro e w5 ⟨rfl,r,rfl,hr⟩
   rcases hr with ⟨hr0,hno⟩|⟨q,hq,rfl,e⟩
   ·have NX:Hid (∀ j,j<k+1→∀ q,q≤lb→it (par l) q b≠it (par l) j a):=fun j hj q hq=>by
     by_cases ejk:j=k
     ·subst ejk
      rw[HXX.out]
      have:=hno q (by omega)
      rw[pth_at (by omega)]at this
      intro e;exact this (by rw[e])
     ·exact hS.out j (by omega) q hq
    have hr1:¬ 0≤r:=by omega
    clear hno hS KI
    go_wp2
    go_roundw
    case rel=>exact⟨k+1,by omega,by go_num,trivial,NX.out⟩
    case measure=>simp[intOf];omega
   ·rw[pth_at hq]at e
    have RR:Hid (RmP l a b w (.returned (.tuple #[.int .i64 (x:Nat),.int .i64 ((k+q:Nat):Int)])) w5):=by
     refine⟨x,k+q,rfl,?_,BW4.out⟩
     rw[←HXX.out]
     exact meet_at HT.out.1 (.inr HT.out.2.1) (.inr HT.out.2.2) (by rw[HA.out.1];omega) (by rw[HA.out.2];omega) (by rw[HXX.out];omega) (by rw[HA.out.2];exact hS.out)
    have hq0:(0:Int)≤(q:Int):=by omega
    have hk9:(k:Int)≤8:=by omega
    have hq9:(q:Int)≤8:=by omega
    clear hS KI e
    go_wp2
    go_ret2
    exact RR.out
  ·obtain rfl:k=la+1:=by omega
   have:=hS.out la (by omega) lb (Nat.le_refl _)
   have h1:=HT.out.1.lvIt (k:=la) (c:=a) (.inr HT.out.2.1)
   have h2:=HT.out.1.lvIt (k:=lb) (c:=b) (.inr HT.out.2.2)
   have e1:=(HT.out.1.lv0 (HT.out.1.inIt (k:=la) (.inr HT.out.2.1))).1 (by rw[h1,HA.out.1];omega)
   have e2:=(HT.out.1.lv0 (HT.out.1.inIt (k:=lb) (.inr HT.out.2.2))).1 (by rw[h2,HA.out.2];omega)
   exact absurd (e2.trans e1.symm) this
def farD(t:Bool)(a b d:Nat):Nat:=if a=b then 0 else if t=true then d*d else 1
set_option maxHeartbeats 2000000 in
theorem rfar_c(sa:Option Addr) (c:Nat) (l:List Nd) (t:Bool) (a b D:Nat) (w:World) (hl:RdN w sa l) (F:Fr l) (ha:Has l a) (hb:Has l b) (hD:∀ m d,MeetIs (par l) (lev l) a b m d→d=D) (hD9:D≤100) :
  Calls Tryz.prog 29 #[.slice sa l.length c,.bool t,.int .i64 (a:Nat),.int .i64 (b:Nat)] w fun e w'=>e=.returned (.int .i64 (farD t a b D:Nat))∧Below w.heap.size w w':=by
 have HM:=Zh (rmeeting_c sa c l a b w hl F ha hb)
 have HD:=Zh hD
 have a9:=(has_pos F.ord ha).2
 have b9:=(has_pos F.ord hb).2
 clear hl F ha hb hD
 by_cases hab:a=b
 ·have e:((a:Int) == (b:Int))=true:=by rw[beq_iff_eq];omega
  have FD:Hid (farD t a b D=0):=by unfold Hid farD;rw[if_pos hab]
  clear hab
  go_enter Tryz.func29,Tryz.ntmps29
  go_wp2_with fail
  go_ret
  exact⟨by rw[FD.out];rfl,Below.refl _ _⟩
 have e:((a:Int) == (b:Int))=false:=by rw[beq_eq_false_iff_ne];omega
 cases t
 ·have FD:Hid (farD false a b D=1):=by unfold Hid farD;rw[if_neg hab];rfl
  clear hab
  go_enter Tryz.func29,Tryz.ntmps29
  go_wp2_with fail
  go_ret
  exact⟨by rw[FD.out];rfl,Below.refl _ _⟩
 have FD:Hid (farD true a b D=D*D):=by unfold Hid farD;rw[if_neg hab,if_pos rfl]
 clear hab
 go_enter Tryz.func29,Tryz.ntmps29
 go_wp2_with fail
 (with_reducible refine HM.out.mono ?_)
 rintro e W2 ⟨m,d,rfl,hm,b2⟩
 obtain rfl:=HD.out m d hm
 have B2:=Zh b2
 obtain⟨s,hs⟩:∃ s,d*d=s:=⟨_,rfl⟩
 have hmul:(d:Int)*(d:Int)=(s:Int):=by rw[←hs];simp
 have hs9:s≤10000:=by rw[←hs];exact Nat.mul_le_mul hD9 hD9
 rw[hs]at FD
 clear hm b2 HM hs
 go_wp2_with fail
 go_ret
 exact⟨by rw[FD.out];rfl,B2.out⟩
end Go.Proofs.YtghgbhmiliiohaaGreatDoor
