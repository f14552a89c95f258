/-
  CodeAgreementMatchesSpec: what holds in the loops of the reference's Alpha.
-/
import Derived.Test.YtghgbhmiliiohaaGreatDoorAMQ
import Derived.Test.YtghgbhmiliiohaaGreatDoorAM34
import Derived.Test.YtghgbhmiliiohaaGreatDoorAM38
import Derived.Test.YtghgbhmiliiohaaGreatDoorAM30
set_option maxRecDepth 100000
namespace Go.Proofs.YtghgbhmiliiohaaGreatDoor
open Go.RowKit
def Lc(B:Nat)(a:Option Addr):Prop:=∀ b off,a=some ⟨b,off,none⟩→B≤b
theorem Lc.none_(B:Nat):Lc B none:=fun _ _ e=>by cases e
theorem Lc.some_{B g off:Nat}(h:B≤g):Lc B (some ⟨g,off,none⟩):=fun _ _ e=>by injection e with e;injection e with e;omega
theorem Lc.mono{B B':Nat}{a:Option Addr}(h:Lc B a)(hb:B'≤B):Lc B' a:=fun b off e=>Nat.le_trans hb (h b off e)
def ShF(n d:Nat)(w:World)(e:Ending)(w':World):Prop:=∃ a k c,e=.returned (.tuple #[.slice a k c,.int .i64 ((n % d:Nat):Int)])∧Nt w' a k c (n / d)∧Below w.heap.size w w'∧Lc w.heap.size a
def DvF(q r:Nat)(w:World)(e:Ending)(w':World):Prop:=∃ qa qk qc ra rk rc,e=.returned (.tuple #[.slice qa qk qc,.slice ra rk rc])∧Nt w' qa qk qc q∧Nt w' ra rk rc r∧Below w.heap.size w w'∧Lc w.heap.size qa
def FqF(B:Nat)(b:Bool)(n d:Nat)(w:World)(e:Ending)(w':World):Prop:=
 ∃ a k c a' k' c',e=.returned (.agg #[.bool b,.slice a k c,.slice a' k' c'])∧Nt w' a k c n∧Nt w' a' k' c' d∧Below w.heap.size w w'∧Lc B a∧Lc B a'
def FvF(B:Nat)(cb:Bool)(x:Int)(y:Nat)(w:World)(e:Ending)(w':World):Prop:=
 ∃ b n d,FqF B b n d w e w'∧0<d∧sg b n*(y:Int)=x*(d:Int)∧((n<tp 12∧d<tp 12)∨Nat.gcd n d=1)∧(cb=false→b=false)
set_option maxHeartbeats 4000000 in
theorem ntimes_f(a1 a2:Option Addr) (k1 k2 c1 c2 n1 n2:Nat) (w:World) (h1:Nt w a1 k1 c1 n1) (h2:Nt w a2 k2 c2 n2) (hk:k1+k2≤99990) :
  Calls Tryz.prog 45 #[.slice a1 k1 c1,.slice a2 k2 c2] w (NtF (n1*n2) w):=by
 obtain⟨f1,r1,_,_,_,s1,_⟩:=h1
 obtain⟨f2,r2,_,_,_,s2,_⟩:=h2
 obtain⟨K,hKe⟩:∃ K,k1+k2+1=K:=⟨_,rfl⟩
 have eK:(k1:Int)+(k2:Int)+1=(K:Int):=by omega
 have hK9:K≤100000:=by omega
 have hmk:=fun w=>mk_digits K hK9 w
 have R1:=Zh r1
 have R2:=Zh r2
 have S1:=Zh s1
 have S2:=Zh s2
 clear r1 r2 s1 s2
 go_enter Tryz.func45,Tryz.ntmps45
 go_wp2_with fail
 have B0:=Zh (Bt.made w K 3)
 have BL:Hid (Below w.heap.size w (w.alloc (.cells (madeCells #[.int .i64 0] K) 3))):=bel_one _ _
 generalize hW1:w.alloc (.cells (madeCells #[.int .i64 0] K) 3)=W1 at *
 clear hW1 hmk eK
 go_loopw [19] (fun i wr=>∃ (j:Nat) (F:Nat→Nat),j≤k1∧i=.int .i64 j∧Hid (Tm w K f1 n2 k2 j F wr)) (fun i _=>k1-(intOf i).toNat)
 case atStart=>exact⟨0,fun _=>0,Nat.zero_le _,rfl,B0.out,BL.out,fun _ _=>rfl,by rw[Tn_zero,Nat.zero_mul];exact Tn_zeros fun _ _=>rfl⟩
 case round=>
  obtain⟨j,F,hj,rfl,hR⟩:=hrel
  by_cases hlt:j<k1
  ·have t1:(j:Int)<(k1:Int):=by omega
   obtain⟨x,hx⟩:∃ x,f1 j=x:=⟨_,rfl⟩
   have HX:=Zh hx
   have hx9:x<1000000000:=by rw[←hx];exact R1.out.2.1 j hlt
   clear hx
   have HI:Hid (Ti w K f2 k2 j x 0 0 F F wr):=⟨hR.out.1,hR.out.2.1,fun _ _=>rfl,by simp[Tn_zero]⟩
   go_wp2_with fail
   go_loopw [7,8] (fun c k wi=>∃ (p y:Nat) (F':Nat→Nat),p≤k2+1∧y<1000000000∧(p=k2+1→y=0)∧c=.int .i64 y∧k=.int .i64 p∧Hid (Ti w K f2 k2 j x p y F F' wi)) (fun _ k _=>k2+1-(intOf k).toNat)
   case atStart=>exact⟨0,0,F,by omega,by omega,by omega,rfl,rfl,HI.out⟩
   case round=>
    obtain⟨p,y,F',hp,hy,hpy,rfl,rfl,hI⟩:=hrel
    by_cases hgo:p<k2∨0<y
    ·have hB:=hI.out.1.2.2 (j+p) (by omega)
     have hb:=hB.1
     have hf:=hB.2
     rw[hI.out.2.2.1 (j+p) (.inr (Nat.le_refl _))]at hb
     by_cases l2:p<k2
     ·have t2:(p:Int)<(k2:Int):=by omega
      obtain⟨b1,o1,rfl,_,g1⟩:=(R1.out.below hI.out.2.1).at_ hlt
      obtain⟨b2,o2,rfl,_,g2⟩:=(R2.out.below hI.out.2.1).at_ l2
      have d2:=R2.out.2.1 p l2
      have dz:=hR.out.1.2.1 (j+p) (by omega)
      rw[HX.out]at g1
      have EX:Hid (xt f2 k2 p=f2 p):=ext_lt l2
      obtain⟨z,hz⟩:∃ z,F (j+p)=z:=⟨_,rfl⟩
      rw[hz]at hb dz
      have HZ:=Zh hz
      clear hz hB
      generalize f2 p=x2 at g2 d2 EX
      obtain⟨m,hm⟩:∃ m,x*x2=m:=⟨_,rfl⟩
      have em:(x:Int)*(x2:Int)=(m:Int):=by rw[←hm];exact (Int.natCast_mul _ _).symm
      have hm9:m≤999999998000000001:=by rw[←hm];exact Nat.mul_le_mul (show x≤999999999 by omega) (show x2≤999999999 by omega)
      obtain⟨N,hN⟩:∃ N,z+y+m=N:=⟨_,rfl⟩
      have e0:(z:Int)+(y:Int)+(m:Int)=(N:Int):=by omega
      obtain⟨q,hq⟩:∃ q,N / 1000000000=q:=⟨_,rfl⟩
      obtain⟨r,hr⟩:∃ r,N % 1000000000=r:=⟨_,rfl⟩
      have e1:(N:Int).tdiv 1000000000=(q:Int):=by rw[Int.tdiv_eq_ediv_of_nonneg (by omega)];omega
      have e2:(N:Int).tmod 1000000000=(r:Int):=by rw[Int.tmod_eq_emod_of_nonneg (by omega)];omega
      have hq9:q<1000000000:=by omega
      have hr9:r<1000000000:=by omega
      have hN9:N<1000000000000000000:=by omega
      have HS:Hid (xt f2 k2 p*x+y+F (j+p)=r+q*1000000000):=by unfold Hid;rw[EX.out,HZ.out,Nat.mul_comm,hm];omega
      clear hN hq hr hm EX HZ
      go_wp2_with fail
      go_quiet (fail)
      have NX:Hid (Ti w K f2 k2 j x (p+1) q F (put F' (j+p) r) ((wr.drewN nq).setCell ⟨w.heap.size,j+p,none⟩ (.int .i64 r))):=Ti.step hI.out (by omega) HS.out hr9 nq
      go_wp2
      go_roundw
      case rel=>exact⟨p+1,q,put F' (j+p) r,by omega,hq9,by omega,by go_num,by go_num,NX.out⟩
      case measure=>simp[intOf];omega
     ·obtain rfl:p=k2:=by omega
      have t2:¬ (p:Int)<(p:Int):=by omega
      have hyp:(0:Int)<(y:Int):=by omega
      have HZ:Hid (F (j+p)=0):=hR.out.2.2.1 _ (Nat.le_refl _)
      rw[HZ.out]at hb
      have hb0:wr.cell? ⟨w.heap.size,j+p,none⟩=some (.int .i64 0):=hb
      have e1:(y:Int).tdiv 1000000000=0:=by rw[Int.tdiv_eq_ediv_of_nonneg (by omega)];omega
      have e2:(y:Int).tmod 1000000000=(y:Int):=by rw[Int.tmod_eq_emod_of_nonneg (by omega)];omega
      have NX:Hid (Ti w K f2 p j x (p+1) 0 F (put F' (j+p) y) ((wr.drewN 0).setCell ⟨w.heap.size,j+p,none⟩ (.int .i64 y))):=Ti.step hI.out (by omega) (by rw[ext_ge (Nat.le_refl _),HZ.out];omega) hy 0
      clear hb hB
      go_wp2_with fail
      go_roundw
      case rel=>exact⟨p+1,0,put F' (j+p) y,by omega,by omega,by omega,by go_num,by go_num,NX.out⟩
      case measure=>simp[intOf]
    ·obtain rfl:y=0:=by omega
     have t2:¬ (p:Int)<(k2:Int):=by omega
     have NX:Hid (Tm w K f1 n2 k2 (j+1) F' wr):=by
      have hs:=hI.out.2.2.2
      rw[Nat.zero_mul,Nat.add_zero]at hs
      have t:=times_step hR.out.2.2.1 hI.out.2.2.1 hs (by omega) S2.out HX.out hR.out.2.2.2
      exact⟨hI.out.1,hI.out.2.1,t.2,t.1⟩
     go_wp2_with fail
     go_roundw
     case rel=>exact⟨j+1,F',by omega,by go_num,NX.out⟩
     case measure=>simp[intOf];omega
  ·obtain rfl:j=k1:=by omega
   have E:Hid (Tn F K=n1*n2):=by
    have h:=hR.out.2.2.2
    rw[S1.out]at h
    unfold Hid
    rw[←hKe,Tn_succ,h,hR.out.2.2.1 _ (Nat.le_refl _)]
    omega
   have HT:=Zh (ntrim_c (some ⟨w.heap.size,0,none⟩) K K F wr (hR.out.1.rj hK9) (Nat.le_refl _) (by omega) (Pl.some_ _ _))
   have BE:=Zh hR.out.2.1
   go_wp2_with fail
   refine HT.out.mono ?_
   rintro e w4 ⟨m,rfl,hN,rfl⟩
   rw[E.out]at hN
   have RR:Hid (NtF (n1*n2) w (.returned (.slice (some ⟨w.heap.size,0,none⟩) m K)) wr):=⟨_,m,K,rfl,hN,BE.out,Lc.some_ (Nat.le_refl _)⟩
   clear hN HT
   go_wp2
   go_ret
   exact RR.out
set_option maxHeartbeats 4000000 in
theorem short_f(a:Option Addr) (k c n d:Nat) (w:World) (h:Nt w a k c n) (hd0:0<d) (hd:d<1000000000) :
  Calls Tryz.prog 102 #[.slice a k c,.int .i64 (d:Nat)] w (ShF n d w):=by
 obtain⟨f,r1,_,_,_,s1,_⟩:=h
 have hk9:=r1.1
 have hmk:=fun w=>mk_digits k hk9 w
 have R1:=Zh r1
 have S1:=Zh s1
 clear r1 s1
 go_enter Tryz.func102,Tryz.ntmps102
 go_wp2_with fail
 have B0:=Zh (Bt.made w k 3)
 have BL:Hid (Below w.heap.size w (w.alloc (.cells (madeCells #[.int .i64 0] k) 3))):=bel_one _ _
 generalize hW1:w.alloc (.cells (madeCells #[.int .i64 0] k) 3)=W1 at *
 clear hW1 hmk
 go_loopw [7,8] (fun v i wr=>∃ (m y:Nat) (g:Nat→Nat),m≤k∧i=.int .i64 ((m:Int)-1)∧v=.int .i64 y∧y<d∧Hid (Bt wr w.heap.size k g∧Below w.heap.size w wr∧Tn (from_ g m) (k-m)*d+y=Tn (from_ f m) (k-m))) (fun _ i _=>(intOf i+1).toNat)
 case atStart=>exact⟨k,0,fun _=>0,Nat.le_refl _,rfl,rfl,hd0,B0.out,BL.out,by rw[Nat.sub_self,Tn_zero,Tn_zero];omega⟩
 case round=>
  clear B0 BL
  obtain⟨m,y,g,hm,rfl,rfl,hy,hR⟩:=hrel
  rcases Nat.eq_zero_or_pos m with e|e
  ·subst e
   have E:Hid (Tn g k=n / d∧y=n % d):=by
    have h:=hR.out.2.2
    have e1:from_ g 0=g:=by funext j;unfold from_;rw[Nat.zero_add]
    have e2:from_ f 0=f:=by funext j;unfold from_;rw[Nat.zero_add]
    rw[e1,e2,Nat.sub_zero,S1.out]at h
    have hd1:(y+Tn g k*d) / d=Tn g k:=by rw[Nat.add_mul_div_right _ _ hd0,Nat.div_eq_of_lt hy,Nat.zero_add]
    have hd2:(y+Tn g k*d) % d=y:=by rw[Nat.add_mul_mod_self_right,Nat.mod_eq_of_lt hy]
    rw[Nat.add_comm,h]at hd1 hd2
    exact⟨hd1.symm,hd2.symm⟩
   have HT:=Zh (ntrim_c (some ⟨w.heap.size,0,none⟩) k k g wr (hR.out.1.rj hk9) (Nat.le_refl _) (by omega) (Pl.some_ _ _))
   have BL2:=Zh hR.out.2.1
   clear hR
   go_wp2_with fail
   refine HT.out.mono ?_
   rintro e w5 ⟨k',rfl,hN,rfl⟩
   rw[E.out.1]at hN
   have R:Hid (ShF n d w (.returned (.tuple #[.slice (some ⟨w.heap.size,0,none⟩) k' k,.int .i64 (y:Int)])) wr):=⟨_,k',k,by rw[E.out.2],hN,BL2.out,Lc.some_ (Nat.le_refl _)⟩
   clear hN HT
   go_wp2
   go_ret2
   exact R.out
  ·obtain⟨p,rfl⟩:∃ p,m=p+1:=⟨m-1,by omega⟩
   obtain⟨b,off,rfl,hb,g1⟩:=(R1.out.below hR.out.2.1).at_ (show p<k by omega)
   have d1:=R1.out.2.1 p (by omega)
   have hpk:(p:Int)<(k:Int):=by omega
   have ei:((p+1:Nat):Int)-1=(p:Int):=by omega
   rw[ei]
   obtain⟨z,hz⟩:∃ z,f p=z:=⟨_,rfl⟩
   rw[hz]at g1 d1
   obtain⟨m,hm'⟩:∃ m,y*1000000000+z=m:=⟨_,rfl⟩
   obtain⟨y9,hy9⟩:∃ y9,y*1000000000=y9:=⟨_,rfl⟩
   have ey:(y:Int)*1000000000=(y9:Int):=by omega
   have em:(y9:Int)+(z:Int)=(m:Int):=by omega
   have hy18:y9≤999999998000000000:=by omega
   have hm9:m≤1000000000000000000:=by omega
   obtain⟨q,hq⟩:∃ q,m / d=q:=⟨_,rfl⟩
   obtain⟨r,hr⟩:∃ r,m % d=r:=⟨_,rfl⟩
   have e1:(m:Int).tdiv (d:Int)=(q:Int):=by rw[Int.tdiv_eq_ediv_of_nonneg (by omega),←hq];exact (Int.natCast_ediv m d).symm
   have e2:(m:Int).tmod (d:Int)=(r:Int):=by rw[Int.tmod_eq_emod_of_nonneg (by omega),←hr];exact (Int.natCast_emod m d).symm
   have hr2:r<d:=by rw[←hr];exact Nat.mod_lt _ hd0
   have HQR:Hid (m=q*d+r):=by unfold Hid;rw[←hq,←hr];exact (Nat.div_add_mod' _ _).symm
   have hq2:q<1000000000:=by
    rw[←hq]
    refine Nat.div_lt_of_lt_mul ?_
    have:(y+1)*1000000000≤d*1000000000:=Nat.mul_le_mul_right _ hy
    omega
   have hdi:(d:Int)≠0:=by omega
   have hBp:=hR.out.1.2.2 p (by omega)
   have hc2:=hBp.1
   have hf2:=hBp.2
   have NX:Hid (Bt (wr.setCell ⟨w.heap.size,p,none⟩ (.int .i64 q)) w.heap.size k (put g p q)∧Below w.heap.size w (wr.setCell ⟨w.heap.size,p,none⟩ (.int .i64 q))∧Tn (from_ (put g p q) p) (k-p)*d+r=Tn (from_ f p) (k-p)):=by
    refine⟨hR.out.1.put (by omega) hq2,hR.out.2.1.setCell (p:=⟨w.heap.size,p,none⟩) (Nat.le_refl _) _,?_⟩
    have hqr:=HQR.out
    have h:=hR.out.2.2
    rw[show k-p=(k-(p+1))+1 by omega,Tn_consX,Tn_consX,from_put_lo,put_same,hz,←h,Nat.add_mul,Nat.mul_add,←hm']at *
    rw[←Nat.mul_assoc]
    omega
   clear hBp hR hq hr hz hm' hy9
   go_wp2_with fail
   go_roundw
   case rel=>exact⟨p,r,put g p q,by omega,by go_num,by go_num,hr2,NX.out⟩
   case measure=>simp[intOf]
set_option maxHeartbeats 4000000 in
theorem divide_smallF(a1 a2:Option Addr) (k1 c1 c2 n1 n2:Nat) (w:World) (h1:Nt w a1 k1 c1 n1) (h2:Nt w a2 1 c2 n2) (hle:n2≤n1) :
  Calls Tryz.prog 70 #[.slice a1 k1 c1,.slice a2 1 c2] w (DvF (n1 / n2) (n1 % n2) w):=by
 have HO:=Zh (norder_c a1 a2 k1 1 c1 c2 n1 n2 w h1 h2)
 obtain⟨f2,r2,_,_,t2,s2,_⟩:=h2
 obtain⟨b2,o2,rfl,_,g2⟩:=r2.at_ (show 0<1 by omega)
 have d2:=r2.2.1 0 (by omega)
 have e2:f2 0=n2:=by rw[←s2,Tn_one]
 rw[e2,Nat.add_zero]at g2
 rw[e2]at d2
 have hn2:0<n2:=by
  rcases t2 with e|e
  ·omega
  ·simp at e;omega
 have hsg:¬ sgn n1 n2<0:=by unfold sgn;split<;>(try split)<;>omega
 obtain⟨sv,hsv⟩:∃ sv,sgn n1 n2=sv:=⟨_,rfl⟩
 rw[hsv]at HO hsg
 have HS:=Zh (fun W (hb:Below w.heap.size w W)=>short_f a1 k1 c1 n1 n2 W (h1.below hb) hn2 d2)
 have hmod:n1 % n2<1000000000:=Nat.lt_trans (Nat.mod_lt _ hn2) d2
 have HN:=Zh (fun W=>nsmall_c (n1 % n2) W (by omega))
 clear h1 r2 t2 s2 hsv hle
 go_enter Tryz.func70,Tryz.ntmps70
 go_wp2_with fail
 refine HO.out.mono ?_
 rintro e w1 ⟨rfl,q1,rfl⟩
 have B1:Hid (Below w.heap.size w (w.drewN q1)):=bel_drewN w q1
 go_wp2_with fail
 refine (HS.out _ B1.out).mono ?_
 rintro e w2 ⟨qa,qk,qc,rfl,hQ,b2,lq⟩
 have LQ:=Zh (lq.mono B1.out.size)
 have HQ:=Zh hQ
 have B2:=Zh (B1.out.trans (b2.mono B1.out.size))
 clear hQ b2 lq
 go_wp2_with fail
 refine (HN.out w2).mono ?_
 rintro e w3 ⟨ra,rk,rc,rfl,hR,b3⟩
 have R:Hid (DvF (n1 / n2) (n1 % n2) w (.returned (.tuple #[.slice qa qk qc,.slice ra rk rc])) w3):=⟨_,_,_,_,_,_,rfl,HQ.out.below b3,hR,B2.out.trans (b3.mono B2.out.size),LQ.out⟩
 clear hR b3
 go_wp2
 go_ret2
 exact R.out
set_option maxHeartbeats 4000000 in
theorem divide_lessF(a1 a2:Option Addr) (k1 k2 c1 c2 n1 n2:Nat) (w:World) (h1:Nt w a1 k1 c1 n1) (h2:Nt w a2 k2 c2 n2) (hlt:n1<n2) :
  Calls Tryz.prog 70 #[.slice a1 k1 c1,.slice a2 k2 c2] w (DvF (n1 / n2) (n1 % n2) w):=by
 have HO:=Zh (norder_c a1 a2 k1 k2 c1 c2 n1 n2 w h1 h2)
 have hsg:sgn n1 n2<0:=by unfold sgn;split<;>(try split)<;>omega
 obtain⟨sv,hsv⟩:∃ sv,sgn n1 n2=sv:=⟨_,rfl⟩
 rw[hsv]at HO hsg
 rw[Nat.div_eq_of_lt hlt,Nat.mod_eq_of_lt hlt]
 have H1:=Zh h1
 clear h1 h2 hsv hlt
 go_enter Tryz.func70,Tryz.ntmps70
 go_wp2_with fail
 refine HO.out.mono ?_
 rintro e w1 ⟨rfl,q1,rfl⟩
 have R:Hid (DvF 0 n1 w (.returned (.tuple #[.slice none 0 0,.slice a1 k1 c1])) (w.drewN q1)):=⟨_,_,_,_,_,_,rfl,Nt.zero _ _ _ (by omega) Pl.none_,H1.out.below (bel_drewN w q1),bel_drewN w q1,Lc.none_ _⟩
 go_wp2
 go_ret2
 exact R.out
set_option maxHeartbeats 4000000 in
theorem divide_longF(a1 a2:Option Addr) (k1 m c1 c2 n1 n2:Nat) (w:World) (h1:Nt w a1 k1 c1 n1) (h2:Nt w a2 (m+2) c2 n2) (hle:n2≤n1) (hk9:k1≤90000) :
  Calls Tryz.prog 70 #[.slice a1 k1 c1,.slice a2 (m+2) c2] w (DvF (n1 / n2) (n1 % n2) w):=by
 obtain⟨i0,hi,hz0,hz1,hz2⟩:=info_int
 have HO:=Zh (norder_c a1 a2 k1 (m+2) c1 c2 n1 n2 w h1 h2)
 have hmk1:m+2≤k1:=by
  have e1:=h2.pos (show 0<m+2 by omega)
  have e2:=h1.lt
  have:=tp_lt (Nat.lt_of_le_of_lt (Nat.le_trans e1 hle) e2)
  omega
 have N1B:Hid (n1<tp k1∧tp (k1-1)≤n1):=⟨h1.lt,h1.pos (by omega)⟩
 have N2B:Hid (n2<tp (m+2)∧tp (m+1)≤n2):=⟨h2.lt,h2.pos (by omega)⟩
 have H1:=Zh h1
 have H2:=Zh h2
 obtain⟨f2,r2,_,_,t2,s2,_⟩:=h2
 obtain⟨b2,o2,rfl,_,g2⟩:=r2.at_ (show m+1<m+2 by omega)
 have d2:=r2.2.1 (m+1) (by omega)
 have htop:0<f2 (m+1):=by
  rcases t2 with e|e
  ·omega
  ·simp at e;omega
 obtain⟨fc,hfc⟩:∃ x,x=1000000000 / (f2 (m+1)+1):=⟨_,rfl⟩
 have FC:Hid (0<fc∧fc≤500000000∧n2*fc<tp (m+1+1)∧tp (m+1)≤n2*fc):=by
  have e:Tn f2 (m+1)+f2 (m+1)*tp (m+1)=n2:=by rw[←s2];exact (Tn_succ f2 (m+1)).symm
  have l:=Tn_lt (f:=f2) (k:=m+1) (fun j hj=>r2.2.1 j (by omega))
  exact factor_ok htop (by omega) (by rw[Nat.add_mul,Nat.one_mul];omega) hfc d2
 obtain⟨top,htp⟩:∃ t,f2 (m+1)=t:=⟨_,rfl⟩
 rw[htp]at g2 d2 hfc
 obtain⟨m1,hm1⟩:∃ m1,m+1=m1:=⟨_,rfl⟩
 rw[hm1]at g2
 have em1:(m:Int)+2-1=(m1:Int):=by omega
 have lm1:(m1:Int)<(m:Int)+2:=by omega
 have et:(top:Int)+1=((top+1:Nat):Int):=by omega
 obtain⟨top1,htp1⟩:∃ t,top+1=t:=⟨_,rfl⟩
 rw[htp1]at et hfc
 have e1:(1000000000:Int).tdiv (top1:Int)=(fc:Int):=tdiv_lit hfc
 have ht1:(top1:Int)≠0:=by omega
 have ht19:top1≤1000000000:=by omega
 have hsg:¬ sgn n1 n2<0:=by unfold sgn;split<;>(try split)<;>omega
 obtain⟨sv,hsv⟩:∃ sv,sgn n1 n2=sv:=⟨_,rfl⟩
 rw[hsv]at HO hsg
 have hfc9:fc≤1000000000:=by have:=FC.out.2.1;omega
 have HX:=Zh (fun W (hb:Below w.heap.size w W)=>scaled_c a1 k1 c1 n1 fc W (H1.out.below hb) hfc9 (by omega))
 have HY:=Zh (fun W (hb:Below w.heap.size w W)=>scaled_c (some ⟨b2,o2,none⟩) (m+2) c2 n2 fc W (H2.out.below hb) hfc9 (by omega))
 have hk1:((m:Int)+2 == 1)=false:=by rw[beq_eq_false_iff_ne];omega
 have hfw:=(wrap_lo (Nat.le_trans hfc9 (by decide))).1
 have hfw2:=(wrap_lo (Nat.le_trans hfc9 (by decide))).2
 clear h1 r2 t2 s2 hsv htop hfc htp htp1 hm1 H1 H2
 go_enter Tryz.func70,Tryz.ntmps70
 go_wp2_with fail
 refine HO.out.mono ?_
 rintro e w1 ⟨rfl,q1,rfl⟩
 have B1:Hid (Below w.heap.size w (w.drewN q1)):=bel_drewN w q1
 go_wp2_with fail
 refine (HX.out _ B1.out).mono ?_
 rintro e w2 ⟨xa,xk,xc,gx,rfl,dx,lx,tx,sx,hxk⟩
 have b2':=dx.bel
 have DX:=Zh dx
 have LX:=Zh lx
 have SX:=Zh sx
 have TX:=Zh tx
 have B2:=Zh (B1.out.trans (b2'.mono B1.out.size))
 clear dx lx sx tx b2' HX
 go_wp2_with fail
 refine (HY.out _ B2.out).mono ?_
 rintro e w3 ⟨ya,yk,yc,gy,rfl,dy,ly,ty,sy,hyk⟩
 obtain⟨ya',yc',e,hry,_,_,_⟩:=dy.reads (by omega) ly
 injection e with e9 _ e10
 subst e9 e10
 have hymk:yk=m+2:=by
  have h1:=tod_len (K:=m+1+1) ty (by rw[sy];exact FC.out.2.2.1)
  have h2:=tp_lt (Nat.lt_of_le_of_lt FC.out.2.2.2 (by rw[←sy];exact Tn_lt ly))
  omega
 subst hymk
 have b3':=dy.bel
 have YF:=Zh dy.fresh
 have RY:=Zh hry
 have LY:=Zh ly
 have SY:=Zh sy
 have TY:Hid (0<gy (m+1)):=by
  rcases ty with e|e
  ·omega
  ·simp at e;unfold Hid;omega
 have B3:=Zh (B2.out.trans (b3'.mono B2.out.size))
 have B3S:=Zh b3'.size
 have DX2:=Zh DX.out
 have DX3:Hid (Dg (w.drewN q1).heap.size (w.drewN q1) gx xk (.slice xa xk xc) w3):=⟨own_keepJ DX.out.row b3',DX.out.bel.trans (b3'.mono DX.out.size),Nat.le_trans DX.out.size b3'.size⟩
 clear dy hry ly sy ty b3' DX HY
 have XK:Hid (k1≤xk∧xk≤k1+1):=by
  have e1:n1*fc<tp (k1+1):=by
   rw[tp_succ]
   exact Nat.lt_of_lt_of_le (Nat.mul_lt_mul_of_pos_right N1B.out.1 FC.out.1) (Nat.mul_le_mul_left _ hfc9)
  have e2:tp (k1-1)≤n1*fc:=Nat.le_trans N1B.out.2 (Nat.le_mul_of_pos_right _ FC.out.1)
  have h1:=tod_len (K:=k1+1) TX.out (by rw[SX.out];exact e1)
  have h2:=tp_lt (Nat.lt_of_le_of_lt e2 (by rw[←SX.out];exact Tn_lt LX.out))
  constructor<;>omega
 obtain⟨D,hD⟩:∃ D,n2*fc=D:=⟨_,rfl⟩
 obtain⟨X,hX⟩:∃ X,n1*fc=X:=⟨_,rfl⟩
 have HD:=Zh hD
 have HX:=Zh hX
 have FC9:Hid (fc≤500000000):=FC.out.2.1
 have DB:Hid (D<tp (m+2)∧tp (m+1)≤D∧Tn gy (m+2)=D∧X<D*tp (k1-(m+1))∧0<fc):=by
  have h:=FC.out
  rw[hD]at h
  refine⟨h.2.2.1,h.2.2.2,by rw[←hD];exact SY.out,?_,h.1⟩
  rw[←hD,←hX]
  have e1:tp k1=tp (m+1)*tp (k1-(m+1)):=by rw[←tp_add];congr 1;omega
  have e2:n1<n2*tp (k1-(m+1)):=by
   have h1:=N1B.out.1
   rw[e1]at h1
   exact Nat.lt_of_lt_of_le h1 (Nat.mul_le_mul_right _ N2B.out.2)
  rw[Nat.mul_right_comm]
  exact Nat.mul_lt_mul_of_pos_right e2 h.1
 have YB:Hid (Rj w3 ya (m+2) gy∧w2.heap.size≤w3.heap.size):=⟨RY.out,B3S.out⟩
 have Z0:Hid (S9z w (w.drewN q1).heap.size (w.drewN q1) ya (m+2) gy X xk gx (.slice xa xk xc) w3):=by
  refine⟨DX3.out,LX.out,by rw[←hX];exact SX.out,RY.out,fun q hq h0 b off e=>?_,B3.out⟩
  have h1:=(DX2.out.row.lt q hq).2
  have h2:=YF.out b off e
  omega
 have XK':=XK.out
 have hwB:w.heap.size≤(w.drewN q1).heap.size:=B1.out.size
 generalize (w.drewN q1).heap.size=B0 at Z0 hwB
 generalize w.drewN q1=w00 at Z0
 clear DX3 DX2 LX SX SY TX FC XK hD hX hfc9 e1 ht1 ht19 hfw hfw2 hsg hk1 HO et lm1 em1 g2 YB YF RY B3S B3 B2 B1
 go_wp2_with fail
 go_loopw [9] (fun v wr=>∃ (j:Nat) (g:Nat→Nat),k1≤j∧j≤k1+1∧Hid (S9z w B0 w00 ya (m+2) gy X j g v wr)) (fun v _=>k1+1-(match v with | .slice _ n _=>n | _=>0))
 case atStart=>exact⟨xk,gx,XK'.1,XK'.2,Z0.out⟩
 case round=>
  clear Z0 XK'
  obtain⟨j,g,hj1,hj2,hR⟩:=hrel
  obtain⟨va,vc,hv,hrj,_,_,_⟩:=hR.out.dg.reads (by omega) hR.out.ld
  subst hv
  by_cases hlt:j≤k1
  ·obtain rfl:j=k1:=by omega
   clear hrj
   go_wp2_with (at_builtin;refine wpList_append_own_at _ rfl _ _ 49 rfl B0 3 i0 (.int .i64 0) 1 8 Tryz.underlying49 hi hz0 hz1 hz2 rfl (by decide) _ _ _ rfl (hR.out.dg.row.alloc _) ⟨wr.heap.size,0,none⟩ 1 1 [.int .i64 0] rfl rfl ?c1A ?c2A ?c3A ?c4A ?c5A ?_)
   try
    case c1A=>
     intro i u hu
     match i,hu with
     | 0,hu=>simp at hu;subst hu;simp[Addr.add]
   try (case c2A=>first | (intro u hu;simp at hu;subst hu;rfl) | rfl)
   try (case c3A=>unfold maxLen;omega)
   try (case c4A=>omega)
   try (case c5A=>have:=hR.out.dg.size;simp;omega)
   intro v' w1 hown' hgrow _ hloc
   have NX:Hid (S9z w B0 w00 ya (m+2) gy X (j+1) (put g j 0) v' w1):=hR.out.step hwB _ hown' hgrow (by simpa using hloc)
   obtain⟨va',vc',hv',_⟩:=NX.out.dg.reads (by omega) NX.out.ld
   subst hv'
   clear hown' hgrow hloc hR
   go_wp2
   go_roundw
   case rel=>exact⟨j+1,put g j 0,by omega,by omega,NX.out⟩
   case measure=>first | (simp;done) | (simp;omega)
  ·obtain rfl:j=k1+1:=by omega
   have hlt':¬ ((k1:Int)+1)≤(k1:Int):=by omega
   obtain⟨gx,cap,hv,hgB,hcap,hcap9,hBt⟩:=hR.out.dg.block hR.out.ld (by omega)
   injection hv with hv1 _ hv2
   subst hv1 hv2
   have AP:Hid (Apart ya (m+2) gx):=hR.out.ap gx rfl
   obtain⟨L,hL⟩:∃ L,k1-(m+1)=L:=⟨_,rfl⟩
   have hLk:L+(m+1)=k1:=by omega
   have eL:(k1:Int)+1-((m:Int)+2)=(L:Int):=by omega
   have hL9:L≤100000:=by omega
   have hLp:0<L:=by omega
   have hmk:=fun w=>mk_digits L hL9 w
   have BTX:=Zh hBt
   have RYR:=Zh hR.out.ry
   have BLR:=Zh hR.out.bel
   have SMX:=Zh hR.out.sm
   have GXB:Hid (w.heap.size≤gx∧gx<wr.heap.size):=⟨by omega,hBt.1⟩
   rw[hL]at DB
   have hdb:=DB.out.2.2.1
   clear hBt hrj hR hlt
   go_wp2_with fail
   obtain⟨wB,hwB'⟩:∃ x:World,x=wr:=⟨_,rfl⟩
   subst hwB'
   have B4:Hid (Below wB.heap.size wB (wB.alloc (.cells (madeCells #[.int .i64 0] L) 3))):=bel_one _ _
   have BM:=Zh (Bt.made wB L 3)
   have BX4:=Zh (BTX.out.belowX B4.out)
   obtain⟨go,hgo⟩:∃ go,wB.heap.size=go:=⟨_,rfl⟩
   have GOW:Hid (w.heap.size≤go):=by have:=GXB.out;unfold Hid;omega
   have GO:Hid (wB.heap.size≤go∧gx≠go):=by have:=GXB.out.2;unfold Hid;omega
   rw[hgo]at BM
   generalize hW4:wB.alloc (.cells (madeCells #[.int .i64 0] L) 3)=w4 at *
   rw[hgo]
   have HA:Hid (Lt wB gx go (k1+1) L D X L g (fun _=>0) w4):=by
    refine⟨BX4.out,BM.out,grows_below B4.out,?_,?_⟩
    ·rw[Nat.sub_self,Tn_zero,Nat.mul_zero,Nat.mul_zero,Nat.add_zero];exact SMX.out
    ·have h:=Tn_at g L (k1+1-L)
     rw[show L+(k1+1-L)=k1+1 by omega,SMX.out]at h
     have h2:=DB.out.2.2.2.1
     have h3:tp L*Tn (from_ g L) (k1+1-L)<tp L*D:=by rw[Nat.mul_comm (tp L) D];omega
     exact Nat.lt_of_mul_lt_mul_left h3
   clear hW4 hmk B4 BM BX4 hgo BTX
   have TY':=TY.out
   go_loopw [13] (fun i wx=>∃ (j:Nat) (F G:Nat→Nat),j≤L∧i=.int .i64 ((j:Int)-1)∧Hid (Lt wB gx go (k1+1) L D X j F G wx)) (fun i _=>(intOf i+1).toNat)
   case atStart=>exact⟨L,g,fun _=>0,Nat.le_refl _,rfl,HA.out⟩
   case round=>
    clear HA
    obtain⟨j,F,G,hj,rfl,hR⟩:=hrel
    rcases Nat.eq_zero_or_pos j with e|e
    ·subst e
     have E:Hid (Tn G L=n1 / n2∧Tn F (k1+1) / fc=n1 % n2):=by
      have hs1:=hR.out.sum
      have hs2:=hR.out.low
      rw[from_zeroT,Nat.sub_zero,tp_zero,Nat.one_mul]at hs1
      rw[from_zeroT,Nat.sub_zero]at hs2
      refine unscale DB.out.2.2.2.2 ?_ (by rw[HD.out];exact hs2)
      rw[HD.out,HX.out]
      exact hs1
     have RR:=Zh hR.out
     clear hR
     have BW:Hid (Below w.heap.size w wr):=BLR.out.grown RR.out.grw BLR.out.size (fun q hq=>by cases hq;exact GXB.out.1)
     have HT:=Zh (ntrim_c (some ⟨gx,0,none⟩) (k1+1) vc F wr (RR.out.rest.rj (by omega)) hcap (by omega) (Pl.some_ _ _))
     go_wp2_with fail
     refine HT.out.mono ?_
     rintro e w5 ⟨mr,rfl,hN,rfl⟩
     have HSH:=Zh (short_c (some ⟨gx,0,none⟩) mr vc (Tn F (k1+1)) fc wr hN DB.out.2.2.2.2 (by have:=FC9.out;omega))
     clear hN HT
     go_wp2_with fail
     refine HSH.out.mono ?_
     rintro e w6 ⟨ra,rk,rc,rfl,hN,b6⟩
     rw[E.out.2]at hN
     have RN:=Zh hN
     have B6:=Zh b6
     have HQ:=Zh (ntrim_c (some ⟨go,0,none⟩) L L G w6 ((RR.out.quo.belowX b6).rj hL9) (Nat.le_refl _) (by omega) (Pl.some_ _ _))
     clear hN b6 HSH
     go_wp2_with fail
     refine HQ.out.mono ?_
     rintro e w7 ⟨mq,rfl,hN,rfl⟩
     rw[E.out.1]at hN
     have R:Hid (DvF (n1 / n2) (n1 % n2) w (.returned (.tuple #[.slice (some ⟨go,0,none⟩) mq L,.slice ra rk rc])) w6):=⟨_,_,_,_,_,_,rfl,hN,RN.out,BW.out.trans (B6.out.mono BW.out.size),Lc.some_ GOW.out⟩
     clear hN HQ
     go_wp2
     go_ret2
     exact R.out
    ·obtain⟨p,rfl⟩:∃ p,j=p+1:=⟨j-1,by omega⟩
     have ei:((p+1:Nat):Int)-1=(p:Int):=by omega
     rw[ei]
     have hpL:p<L:=by omega
     have hpL':(p:Int)<(L:Int):=by omega
     have RYP:=Zh (RYR.out.grown hR.out.grw AP.out)
     have hpK:p+(m+2+1)≤k1+1:=by omega
     have hFp:=hR.out.rest.2.1 p (by omega)
     have WIN:Hid (Tn (from_ F p) (m+2+1)<1000000000*D):=tlong_win hpK DB.out.1 hFp hR.out.low
     obtain⟨rw0,hrw,hW3⟩:=top3 (f:=F) (p:=p) (m:=m) (fun i hi=>hR.out.rest.2.1 _ (by omega))
     obtain⟨rd0,hrd,hD3⟩:=top2 (f:=gy) (m:=m) (fun i hi=>LY.out i (by omega))
     rw[hdb]at hD3
     have hyd:=LY.out m (by omega)
     have GS:=Zh (guess_c (k1+1) vc p m yc (some ⟨gx,0,none⟩) ya F gy wr (hR.out.rest.rj (by omega)) RYP.out (by omega) TY' (top_ok hW3 hD3 hrd hyd WIN.out))
     have GD:Hid (∀ q,Gu (F (p+m+2)*1000000000+F (p+m+1)) (F (p+m)) (gy (m+1)) (gy m) q→q<1000000000∧q*D<Tn (from_ F p) (m+2+1)+D∧Tn (from_ F p) (m+2+1)<(q+1)*D):=fun q hg=>⟨hg.lt,gu_digit hg (tp_pos m) hW3 hrw hD3 hrd TY' WIN.out⟩
     clear hFp hrw hW3 hrd hD3 hyd
     go_wp2_with fail
     refine GS.out.mono ?_
     rintro e w1 ⟨q0,rfl,hgu,nk,rfl⟩
     have GQ:=Zh (GD.out q0 hgu)
     have hq0:=GQ.out.1
     have LW:=Zh (hR.out.keep (bel_drewN wr nk))
     clear hgu GS GD hR RYP WIN
     generalize wr.drewN nk=W1 at *
     have hBj:=LW.out.quo.2.2 p hpL
     have c1:=hBj.1
     have f1:=hBj.2
     obtain⟨W2,hW2⟩:∃ W2,W1.setCell ⟨go,p,none⟩ (.int .i64 (q0:Int))=W2:=⟨_,rfl⟩
     have gr2:wB.grownBy W2 (some gx):=by rw[←hW2];exact grows_set LW.out.grw GO.out.1
     have rest2:Bt W2 gx (k1+1) F:=by rw[←hW2];exact LW.out.rest.other (grown_put (World.grownBy.refl W1 (some go))) GO.out.2
     have quo2:Bt W2 go L (put G p q0):=by rw[←hW2];exact LW.out.quo.put hpL hq0
     have c2:W2.cell? ⟨go,p,none⟩=some (.int .i64 (q0:Int)):=by have:=(quo2.2.2 p hpL).1;rw[put_same]at this;exact this
     have TK:=Zh (take_c gx (k1+1) vc p (m+2) yc q0 ya F gy W2 rest2 (RYR.out.grown gr2 AP.out) AP.out hpK (by omega) hq0)
     have GR2:=Zh gr2
     have QU2:=Zh quo2
     clear hBj gr2 rest2 quo2
     go_wp2_with fail
     clear hW2 c1 f1 c2
     refine TK.out.mono ?_
     rintro e W3 ⟨F1,b,rfl,hWt,hs1⟩
     rw[hdb]at hs1
     have WT:=Zh hWt
     have HS1:=Zh hs1
     have GR3:=Zh (GR2.out.trans hWt.grw)
     have QU3:=Zh (QU2.out.other hWt.grw (fun e=>GO.out.2 e.symm))
     have LT1:Hid (Tn (from_ F1 p) (m+2+1)<tp (m+2+1)):=Tn_lt fun i hi=>hWt.bf.2.1 _ (by omega)
     have DLT:Hid (D<tp (m+2+1)):=Nat.lt_of_lt_of_le DB.out.1 (tp_mono (Nat.le_succ _))
     have hq3:=(QU3.out.2.2 p hpL)
     rw[put_same]at hq3
     have c3:=hq3.1
     have f3:=hq3.2
     clear hWt hs1 TK GR2 QU2 hq3
     by_cases hb:0<b
     ·obtain⟨q',rfl⟩:∃ q',q0=q'+1:=⟨q0-1,by
       rcases Nat.eq_zero_or_pos q0 with e|e
       ·subst e
        have h1:=HS1.out
        have h2:=LT1.out
        have h3:=Nat.mul_le_mul_right (tp (m+2+1)) (show 1≤b from hb)
        rw[Nat.zero_mul]at h1
        omega
       ·omega⟩
      have hd1:decide (0<b)=true:=decide_eq_true hb
      rw[hd1]
      have eq':((q'+1:Nat):Int)-1=(q':Int):=by omega
      obtain⟨qq,hqq⟩:∃ qq:Int,((q'+1:Nat):Int)=qq:=⟨_,rfl⟩
      have hqqb:1≤qq∧qq≤1000000000:=by omega
      rw[hqq]at eq' c3
      clear hqq hd1
      obtain⟨W4,hW4⟩:∃ W4,W3.setCell ⟨go,p,none⟩ (.int .i64 (q':Int))=W4:=⟨_,rfl⟩
      have gr4:wB.grownBy W4 (some gx):=by rw[←hW4];exact grows_set GR3.out GO.out.1
      have rest4:Bt W4 gx (k1+1) F1:=by rw[←hW4];exact WT.out.bf.other (grown_put (World.grownBy.refl W3 (some go))) GO.out.2
      have quo4:Bt W4 go L (put G p q'):=by
       have:=QU3.out.put hpL (show q' < 1000000000 by omega)
       rw[put_put,hW4]at this
       exact this
      have GV:=Zh (give_c gx (k1+1) vc p (m+2) yc ya F1 gy W4 rest4 (RYR.out.grown gr4 AP.out) AP.out hpK (by omega))
      have GR4:=Zh gr4
      have QU4:=Zh quo4
      have HBT:=Zh hb
      clear gr4 rest4 quo4 hb
      go_wp2_with fail
      clear hW4 c3 f3
      refine GV.out.mono ?_
      rintro e W5 ⟨F2,y,hy1,rfl,hWt2,hs2⟩
      rw[hdb]at hs2
      have NX:Hid (Lt wB gx go (k1+1) L D X p F2 (put G p q') W5):=by
       have hF2:Tn (from_ F2 p) (m+2+1)<tp (m+2+1):=Tn_lt fun i hi=>hWt2.bf.2.1 _ (by omega)
       have hb:0<b:=HBT.out
       have ty:=take_yes HS1.out hs2 hF2 DLT.out LT1.out hb GQ.out.2.1
       rw[Nat.add_sub_cancel]at ty
       have hlt:Tn (from_ F2 p) (m+2+1)<D:=by
        have h1:=HS1.out
        have h3:=GQ.out.2.1
        have h4:=ty.2
        have h5:=GQ.out.2.2
        have h6:=LT1.out
        have hbB:tp (m+2+1)≤b*tp (m+2+1):=Nat.le_mul_of_pos_left _ hb
        rw[Nat.add_mul,Nat.one_mul]at h1 h3
        omega
       have tn:=tlong_next hpK hpL DB.out.1 LW.out.sum LW.out.low (fun i hi=>(hWt2.out i hi).trans (WT.out.out i hi)) ty.2 hlt
       exact⟨hWt2.bf,QU4.out.other hWt2.grw (fun e=>GO.out.2 e.symm),GR4.out.trans hWt2.grw,tn.1,tn.2⟩
      clear hWt2 hs2 GV
      go_wp2
      go_roundw
      case rel=>exact⟨p,F2,put G p q',by omega,by go_num,NX.out⟩
      case measure=>first | (simp[intOf];done) | (simp[intOf];omega)
     ·have hd1:decide (0<b)=false:=decide_eq_false hb
      rw[hd1]
      have NX:Hid (Lt wB gx go (k1+1) L D X p F1 (put G p q0) W3):=by
       have tk:=take_no HS1.out LT1.out hb
       have hlt:Tn (from_ F1 p) (m+2+1)<D:=by
        have h2:=GQ.out.2.2
        rw[Nat.add_mul,Nat.one_mul]at h2
        omega
       have tn:=tlong_next hpK hpL DB.out.1 LW.out.sum LW.out.low WT.out.out tk hlt
       exact⟨WT.out.bf,QU3.out,GR3.out,tn.1,tn.2⟩
      clear hd1 hb c3 f3
      go_wp2
      go_roundw
      case rel=>exact⟨p,F1,put G p q0,by omega,by go_num,NX.out⟩
      case measure=>first | (simp[intOf];done) | (simp[intOf];omega)
theorem rdivide_f(a1 a2:Option Addr) (k1 k2 c1 c2 n1 n2:Nat) (w:World) (h1:Nt w a1 k1 c1 n1) (h2:Nt w a2 k2 c2 n2) (hd:0<n2) (hk9:k1≤90000) :
  Calls Tryz.prog 70 #[.slice a1 k1 c1,.slice a2 k2 c2] w (DvF (n1 / n2) (n1 % n2) w):=by
 have hk:=h2.one hd
 rcases Nat.lt_or_ge n1 n2 with l|l
 ·exact divide_lessF a1 a2 k1 k2 c1 c2 n1 n2 w h1 h2 l
 ·rcases Nat.lt_or_ge k2 2 with e|e
  ·obtain rfl:k2=1:=by omega
   exact divide_smallF a1 a2 k1 c1 c2 n1 n2 w h1 h2 l
  ·obtain⟨m,rfl⟩:∃ m,k2=m+2:=⟨k2-2,by omega⟩
   exact divide_longF a1 a2 k1 m c1 c2 n1 n2 w h1 h2 l hk9
set_option maxHeartbeats 4000000 in
theorem lowest_f(b:Bool) (a1 a2:Option Addr) (c1 c2 k1 k2 n d:Nat) (w:World) (h1:Nt w a1 k1 c1 n) (h2:Nt w a2 k2 c2 d) (hd:0<d) (hn9:n<tp 90000) (hd9:d<tp 90000) :
  Calls Tryz.prog 42 #[.agg #[.bool b,.slice a1 k1 c1,.slice a2 k2 c2]] w (FqF w.heap.size (b && decide (0<n)) (n / Nat.gcd n d) (d / Nat.gcd n d) w):=by
 have HG:Hid (0<Nat.gcd n d):=Nat.gcd_pos_of_pos_right _ hd
 have HN:Hid (decide (0<n)=decide (0<n / Nat.gcd n d)):=by
  apply decide_eq_decide.2
  constructor
  ·intro h;exact Nat.div_pos (Nat.le_of_dvd h (Nat.gcd_dvd_left _ _)) HG.out
  ·intro h
   rcases Nat.eq_zero_or_pos n with e|e
   ·subst e;rw[Nat.zero_div]at h;omega
   ·exact e
 obtain⟨sb,hsb0⟩:∃ sb,(b && decide (0<n))=sb:=⟨_,rfl⟩
 rw[hsb0]
 have HSB:Hid ((b && decide (0<n / Nat.gcd n d))=sb):=by unfold Hid;rw[←HN.out,hsb0]
 clear hsb0
 obtain⟨W0,hW0⟩:∃ W0,(w.alloc (.cells #[.bool b,.slice a1 k1 c1,.slice a2 k2 c2] 51)).alloc (.cells #[.bool false,.slice none 0 0,.slice none 0 0] 51)=W0:=⟨_,rfl⟩
 have J0:Hid (Lo w b a1 k1 c1 a2 k2 c2 W0):=by rw[←hW0];exact Lo.made _ _ _ _ _ _ _ _ _ _
 have L1:=Zh (h1.below J0.out.bel)
 have L2:=Zh (h2.below J0.out.bel)
 have KN:Hid (k1≤90000∧k2≤90000):=⟨h1.len hn9,h2.len hd9⟩
 have DV:=Zh (divisor_c a2 a1 c2 c1 k2 k1 d n W0 L2.out L1.out hd9 hn9)
 have x0:=J0.out.x.c0
 have x1:=J0.out.x.c1
 have x2:=J0.out.x.c2
 clear h1 h2 hd hn9 hd9 HN
 go_enter Tryz.func42,Tryz.ntmps42
 go_wp2_with fail
 clear hW0 x0 x1 x2
 refine DV.out.mono ?_
 rintro e w2 ⟨ga,gk,gc,rfl,lg,b2⟩
 rw[Nat.gcd_comm d n]at lg
 have J2:=Zh (J0.out.keep b2)
 have LG:=Zh lg
 have L12:=Zh (L1.out.below b2)
 have L22:=Zh (L2.out.below b2)
 clear lg b2 J0 L1 L2 DV
 generalize Nat.gcd n d=gg at *
 have x0:=J2.out.x.c0
 have x1:=J2.out.x.c1
 have x2:=J2.out.x.c2
 go_wp2_with fail
 clear x0 x1 x2
 refine (rdivide_f a1 ga k1 gk c1 gc n gg w2 L12.out LG.out HG.out KN.out.1).mono ?_
 rintro e w4 ⟨qa,qk,qc,ra,rk,rc,rfl,l4,_,b4,lc4⟩
 have LC4:=Zh (lc4.mono J2.out.bel.size)
 clear lc4
 have J4:=Zh (J2.out.keep b4)
 have L4:=Zh l4
 have LG4:=Zh (LG.out.below b4)
 have L24:=Zh (L22.out.below b4)
 clear LG L12 L22 J2 l4 b4
 have x0:=J4.out.x.c0
 have x1:=J4.out.x.c1
 have x2:=J4.out.x.c2
 go_wp2_with fail
 clear x0 x1 x2
 refine (rdivide_f a2 ga k2 gk c2 gc d gg w4 L24.out LG4.out HG.out KN.out.2).mono ?_
 rintro e w6 ⟨pa,pk,pc,sa,sk,sc,rfl,l6,_,b6,lc6⟩
 have LC6:=Zh (lc6.mono J4.out.bel.size)
 clear lc6
 have J6:=Zh (J4.out.keep b6)
 have L6:=Zh l6
 have L46:=Zh (L4.out.below b6)
 clear LG4 L24 J4 l6 b6 L4
 have hqk:decide (0<n / gg)=decide (0<qk):=by
  apply decide_eq_decide.2
  constructor
  ·intro h;exact L46.out.one h
  ·intro h
   rcases Nat.eq_zero_or_pos (n / gg) with e|e
   ·have h2:=L46.out
    rw[e]at h2
    have:=h2.nul
    omega
   ·exact e
 have hsb:(b && decide (0<qk))=sb:=by rw[←hqk];exact HSB.out
 obtain⟨WX,hWX⟩:∃ WX,trio w6 (w.heap.size+1) (.bool sb) (.slice qa qk qc) (.slice pa pk pc)=WX:=⟨_,rfl⟩
 have RX:Q3 WX (w.heap.size+1) (.bool sb) (.slice qa qk qc) (.slice pa pk pc):=by rw[←hWX];exact J6.out.r.set _ _ _
 have PP:Hid (FqF w.heap.size sb (n / gg) (d / gg) w (.returned (.agg #[.bool sb,.slice qa qk qc,.slice pa pk pc])) WX):=by
  rw[←hWX]
  exact⟨_,_,_,_,_,_,rfl,L46.out.trio J6.out.r (NI.b _) (NI.s _ _ _) (NI.s _ _ _) _ _ _,L6.out.trio J6.out.r (NI.b _) (NI.s _ _ _) (NI.s _ _ _) _ _ _,below_trio J6.out.bel (Nat.le_succ _) _ _ _,LC4.out,LC6.out⟩
 have x0:=J6.out.x.c0
 obtain⟨r0,r1,r2,rf,_⟩:=J6.out.r
 have rf0:=rf 0
 have rf1:=rf 1
 have rf2:=rf 2
 obtain⟨t0,t1,t2,_,_⟩:=id RX
 clear RX rf hqk
 unfold trio at hWX
 cases b
 ·obtain rfl:sb=false:=by rw[←hsb];rfl
  clear hsb
  go_wp2_with fail
  exact bodyPost_ret (v:=.agg #[.bool false,.slice qa qk qc,.slice pa pk pc]) (by simp[results,Tryz.results42,go_sem,t0,t1,t2]) rfl PP.out
 ·obtain rfl:sb=decide (0<qk):=by rw[←hsb];rfl
  clear hsb
  go_wp2_with fail
  exact bodyPost_ret (v:=.agg #[.bool (decide (0<qk)),.slice qa qk qc,.slice pa pk pc]) (by simp[results,Tryz.results42,go_sem,t0,t1,t2]) rfl PP.out
theorem low_f(b:Bool) (a1 a2:Option Addr) (c1 c2 k1 k2 n d:Nat) (w:World) (h1:Nt w a1 k1 c1 n) (h2:Nt w a2 k2 c2 d) (hd:0<d) (hn9:n<tp 90000) (hd9:d<tp 90000) :
  Calls Tryz.prog 42 #[.agg #[.bool b,.slice a1 k1 c1,.slice a2 k2 c2]] w (FvF w.heap.size b (sg b n) d w):=
 (lowest_f b a1 a2 c1 c2 k1 k2 n d w h1 h2 hd hn9 hd9).mono fun e w' h=>⟨_,_,_,h,(sg_low b hd).2.1,(sg_low b hd).1,.inr (sg_low b hd).2.2,fun h=>by rw[h];rfl⟩
set_option maxHeartbeats 4000000 in
theorem reduced_f(B:Nat) (b:Bool) (a1 a2:Option Addr) (c1 c2 k1 k2 n d:Nat) (w:World) (h1:Nt w a1 k1 c1 n) (h2:Nt w a2 k2 c2 d) (hd:0<d) (hn9:n<tp 90000) (hd9:d<tp 90000) (hB:B≤w.heap.size) (m1:Lc B a1) (m2:Lc B a2) :
  Calls Tryz.prog 46 #[.agg #[.bool b,.slice a1 k1 c1,.slice a2 k2 c2]] w (FvF B b (sg b n) d w):=by
 obtain⟨W0,hW0⟩:∃ W0,(w.alloc (.cells #[.bool b,.slice a1 k1 c1,.slice a2 k2 c2] 51)).alloc (.cells #[.bool false,.slice none 0 0,.slice none 0 0] 51)=W0:=⟨_,rfl⟩
 have J0:Hid (Lo w b a1 k1 c1 a2 k2 c2 W0):=by rw[←hW0];exact Lo.made _ _ _ _ _ _ _ _ _ _
 have L1:=Zh (h1.below J0.out.bel)
 have L2:=Zh (h2.below J0.out.bel)
 have KB:k1≤90000∧k2≤90000:=⟨h1.len hn9,h2.len hd9⟩
 have HL:=Zh (low_f b a1 a2 c1 c2 k1 k2 n d W0 L1.out L2.out hd hn9 hd9)
 have x0:=J0.out.x.c0
 have x1:=J0.out.x.c1
 have x2:=J0.out.x.c2
 have M12:Hid (Lc B a1∧Lc B a2):=⟨m1,m2⟩
 have HB:Hid (B≤W0.heap.size):=Nat.le_trans hB J0.out.bel.size
 clear m1 m2 hB
 by_cases hk:k1+k2<12
 ·have hkI:(k1:Int)+(k2:Int)<12:=by omega
  have SZ:Hid (n<tp 12∧d<tp 12):=⟨Nat.lt_of_lt_of_le h1.lt (tp_mono (by omega)),Nat.lt_of_lt_of_le h2.lt (tp_mono (by omega))⟩
  obtain⟨WX,hWX⟩:∃ WX,trio W0 (w.heap.size+1) (.bool b) (.slice a1 k1 c1) (.slice a2 k2 c2)=WX:=⟨_,rfl⟩
  have RX:Q3 WX (w.heap.size+1) (.bool b) (.slice a1 k1 c1) (.slice a2 k2 c2):=by rw[←hWX];exact J0.out.r.set _ _ _
  have PP:Hid (FvF B b (sg b n) d w (.returned (.agg #[.bool b,.slice a1 k1 c1,.slice a2 k2 c2])) WX):=by
   rw[←hWX]
   exact⟨b,n,d,⟨_,_,_,_,_,_,rfl,L1.out.trio J0.out.r (NI.b _) (NI.s _ _ _) (NI.s _ _ _) _ _ _,L2.out.trio J0.out.r (NI.b _) (NI.s _ _ _) (NI.s _ _ _) _ _ _,below_trio J0.out.bel (Nat.le_succ _) _ _ _,M12.out.1,M12.out.2⟩,hd,rfl,.inl SZ.out,fun h=>h⟩
  obtain⟨r0,r1,r2,rf,_⟩:=J0.out.r
  have rf0:=rf 0
  have rf1:=rf 1
  have rf2:=rf 2
  obtain⟨t0,t1,t2,_,_⟩:=id RX
  clear RX rf h1 h2 hd hn9 hd9 HL hk
  unfold trio at hWX
  go_enter Tryz.func46,Tryz.ntmps46
  go_wp2_with fail
  exact bodyPost_ret (v:=.agg #[.bool b,.slice a1 k1 c1,.slice a2 k2 c2]) (by simp[results,Tryz.results46,go_sem,t0,t1,t2]) rfl PP.out
 ·have hkI:¬ (k1:Int)+(k2:Int)<12:=by omega
  clear h1 h2 hd hn9 hd9 L1 L2
  go_enter Tryz.func46,Tryz.ntmps46
  go_wp2_with fail
  clear hW0 x0 x1 x2
  refine HL.out.mono ?_
  rintro e w2 ⟨sb,n',d',⟨qa,qk,qc,pa,pk,pc,rfl,l1,l2,b2,lc1,lc2⟩,hd',hv,hsz,hsg⟩
  have J2:=J0.out.keep b2
  obtain⟨WX,hWX⟩:∃ WX,trio w2 (w.heap.size+1) (.bool sb) (.slice qa qk qc) (.slice pa pk pc)=WX:=⟨_,rfl⟩
  have RX:Q3 WX (w.heap.size+1) (.bool sb) (.slice qa qk qc) (.slice pa pk pc):=by rw[←hWX];exact J2.r.set _ _ _
  have PP:Hid (FvF B b (sg b n) d w (.returned (.agg #[.bool sb,.slice qa qk qc,.slice pa pk pc])) WX):=by
   rw[←hWX]
   exact⟨sb,n',d',⟨_,_,_,_,_,_,rfl,l1.trio J2.r (NI.b _) (NI.s _ _ _) (NI.s _ _ _) _ _ _,l2.trio J2.r (NI.b _) (NI.s _ _ _) (NI.s _ _ _) _ _ _,below_trio J2.bel (Nat.le_succ _) _ _ _,lc1.mono HB.out,lc2.mono HB.out⟩,hd',hv,hsz,hsg⟩
  obtain⟨r0,r1,r2,rf,_⟩:=J2.r
  have rf0:=rf 0
  have rf1:=rf 1
  have rf2:=rf 2
  obtain⟨t0,t1,t2,_,_⟩:=id RX
  clear lc1 lc2 RX rf J2 l1 l2 b2 hd' hv hsz hsg HL J0
  unfold trio at hWX
  go_wp2_with fail
  exact bodyPost_ret (v:=.agg #[.bool sb,.slice qa qk qc,.slice pa pk pc]) (by simp[results,Tryz.results46,go_sem,t0,t1,t2]) rfl PP.out
set_option maxHeartbeats 4000000 in
theorem plus_f(f q:Fa) (n1 d1 n2 d2:Nat) (w:World) (h1:Fn w f n1 d1) (h2:Fn w q n2 d2) (hb:f.b=q.b) :
  Calls Tryz.prog 30 #[.agg #[.bool f.b,.slice f.a f.k f.c,.slice f.a' f.k' f.c'],.agg #[.bool q.b,.slice q.a q.k q.c,.slice q.a' q.k' q.c']] w (FvF w.heap.size f.b (sg f.b (n1*d2)+sg q.b (n2*d1)) (d1*d2) w):=by
 have HB0:=Zh hb
 clear hb
 obtain⟨W0,hW0⟩:∃ W0,((w.alloc (.cells #[.bool f.b,.slice f.a f.k f.c,.slice f.a' f.k' f.c'] 51)).alloc (.cells #[.bool q.b,.slice q.a q.k q.c,.slice q.a' q.k' q.c'] 51)).alloc (.cells #[.bool false,.slice none 0 0,.slice none 0 0] 51)=W0:=⟨_,rfl⟩
 have J0:Hid (Ar w f q W0):=by rw[←hW0];exact Ar.made _ _ _ _ _ _
 have L1:=Zh (h1.below J0.out.bel)
 have L2:=Zh (h2.below J0.out.bel)
 have lp:Hid (n1*d2<tp 80000):=tp_prod h1.ln h2.ld
 have lq:Hid (n2*d1<tp 80000):=tp_prod h2.ln h1.ld
 have ld:Hid (d1*d2<tp 80000∧0<d1*d2):=⟨tp_prod h1.ld h2.ld,Nat.mul_pos h1.pos h2.pos⟩
 clear h1 h2
 go_enter Tryz.func30,Tryz.ntmps30
 go_wp2_with fail
 clear hW0
 refine wp_region_noPanic ?_
 refine wp_region_held_drew (S:=S6f w.heap.size f q) (by kernel_rfl) (J0.out.keep (Below.refl _ _).drew).s6 (fun hS=>?_)
 have J1:=Zh (J0.out.keep (Below.refl _ _).drew)
 have M1:=Zh (L1.out.below (Below.refl _ _).drew)
 have M2:=Zh (L2.out.below (Below.refl _ _).drew)
 clear J0 L1 L2
 refine Zt (i:=0) (v:=?v0z29) rfl (Or.inl ⟨by rfl,?hy0z29⟩) ?rest0z29
 case hy0z29=>
  intro w hSw
  dsimp only[S6f]at hSw
  go_simp
  try with_reducible rfl
 simp only[Act.put,Zd,Ze,Zf,Za,Zb,Zc]
 refine Zt (i:=1) (v:=?v1z30) rfl (Or.inl ⟨by rfl,?hy1z30⟩) ?rest1z30
 case hy1z30=>
  intro w hSw
  dsimp only[S6f]at hSw
  go_simp
  try with_reducible rfl
 simp only[Act.put,Zd,Ze,Zf,Za,Zb,Zc]
 refine Zt (i:=2) (v:=?v2z31) rfl (Or.inl ⟨by rfl,?hy2z31⟩) ?rest2z31
 case hy2z31=>
  intro w hSw
  dsimp only[S6f]at hSw
  go_simp
  try with_reducible rfl
 simp only[Act.put,Zd,Ze,Zf,Za,Zb,Zc]
 refine Zt (i:=3) (v:=?v3z32) rfl (Or.inl ⟨by rfl,?hy3z32⟩) ?rest3z32
 case hy3z32=>
  intro w hSw
  dsimp only[S6f]at hSw
  go_simp
  try with_reducible rfl
 simp only[Act.put,Zd,Ze,Zf,Za,Zb,Zc]
 refine Zt (i:=5) (v:=?v5z33) rfl (Or.inl ⟨by rfl,?hy5z33⟩) ?rest5z33
 case hy5z33=>
  intro w hSw
  dsimp only[S6f]at hSw
  go_simp
  try with_reducible rfl
 simp only[Act.put,Zd,Ze,Zf,Za,Zb,Zc]
 refine Zt (i:=6) (v:=?v6z34) rfl (Or.inl ⟨by rfl,?hy6z34⟩) ?rest6z34
 case hy6z34=>
  intro w hSw
  dsimp only[S6f]at hSw
  go_simp
  try with_reducible rfl
 simp only[Act.put,Zd,Ze,Zf,Za,Zb,Zc]
 refine Zt (i:=7) (v:=?v7z35) rfl (Or.inl ⟨by rfl,?hy7z35⟩) ?rest7z35
 case hy7z35=>
  intro w hSw
  dsimp only[S6f]at hSw
  go_simp
  try with_reducible rfl
 simp only[Act.put,Zd,Ze,Zf,Za,Zb,Zc]
 refine Zt (i:=8) (v:=?v8z36) rfl (Or.inl ⟨by rfl,?hy8z36⟩) ?rest8z36
 case hy8z36=>
  intro w hSw
  dsimp only[S6f]at hSw
  go_simp
  try with_reducible rfl
 simp only[Act.put,Zd,Ze,Zf,Za,Zb,Zc]
 refine wpAnyH_ready (rs:=[4]) (by kernel_rfl) (by simp) ?_
 refine AllReadyH.cons rfl (fun K hK=>?_) AllReadyH.nil
 go_simp
 (refine (ntimes_c f.a q.a' f.k q.k' f.c q.c' _ _ _ M1.out.n M2.out.d (by have:=M1.out.kn;have:=M2.out.kd;omega)).mono ?_)
 rintro e V4J2 ⟨pa,pk,pc,rfl,hp,bc⟩
 try go_simp
 have J2:=Zh (J1.out.keep bc)
 have A1:=Zh (M1.out.below bc)
 have A2:=Zh (M2.out.below bc)
 have P2:=Zh hp
 have hT:=J2.out.s6
 refine hK.out _ _ hT (fun _=>?_)
 clear hK K hS bc J1 M1 M2 hp
 have hS:=hT
 clear hT
 try simp only[Act.put,Za,Zb,Zc]
 refine wpAnyH_ready (rs:=[9]) (by kernel_rfl) (by simp) ?_
 refine AllReadyH.cons rfl (fun K hK=>?_) AllReadyH.nil
 go_simp
 (refine (ntimes_c q.a f.a' q.k f.k' q.c f.c' _ _ _ A2.out.n A1.out.d (by have:=A2.out.kn;have:=A1.out.kd;omega)).mono ?_)
 rintro e V9J3 ⟨qa,qk,qc,rfl,hq,bc⟩
 try go_simp
 have J3:=Zh (J2.out.keep bc)
 have E1:=Zh (A1.out.below bc)
 have E2:=Zh (A2.out.below bc)
 have P3:=Zh (P2.out.below bc)
 have Q3_:=Zh hq
 have hT:=J3.out.s6
 refine hK.out _ _ hT (fun _=>?_)
 clear hK K hS bc J2 A1 A2 P2 hq
 have hS:=hT
 clear hT
 try simp only[Act.put,Za,Zb,Zc]
 refine Zt (i:=10) (v:=?v10z37) rfl (Or.inl ⟨by rfl,?hy10z37⟩) ?rest10z37
 case hy10z37=>
  intro w hSw
  dsimp only[S6f]at hSw
  go_simp
  try with_reducible rfl
 simp only[Act.put,Zd,Ze,Zf,Za,Zb,Zc]
 refine Zt (i:=11) (v:=?v11z38) rfl (Or.inl ⟨by rfl,?hy11z38⟩) ?rest11z38
 case hy11z38=>
  intro w hSw
  dsimp only[S6f]at hSw
  go_simp
  try with_reducible rfl
 simp only[Act.put,Zd,Ze,Zf,Za,Zb,Zc]
 refine wpAnyH_done (by kernel_rfl) ?_ _
 refine NoPanic.normal ?_
 clear hS
 have HD:=Zh (ntimes_f f.a' q.a' f.k' q.k' f.c' q.c' _ _ _ E1.out.d E2.out.d (by have:=E1.out.kd;have:=E2.out.kd;omega))
 have x2:=J3.out.x.c2
 have y2:=J3.out.y.c2
 go_wp2_with fail
 clear x2 y2
 (with_reducible refine HD.out.mono ?_)
 rintro e w6 ⟨da,dk,dc,rfl,hd,b6,lcd⟩
 have LCD:Hid (Lc w.heap.size da):=Lc.mono lcd J3.out.bel.size
 clear lcd
 have J6:=Zh (J3.out.keep b6)
 have P6:=Zh (P3.out.below b6)
 have Q6:=Zh (Q3_.out.below b6)
 have D6:=Zh hd
 clear hd b6 HD J3 P3 Q3_ E1 E2
 have c0:=J6.out.x.c0
 have d0:=J6.out.y.c0
 have hb:=HB0.out
 ·have hbq:(f.b == q.b)=true:=by rw[hb];simp
  have HB:=Zh hb
  clear hb
  go_wp2_with fail
  clear hbq c0 d0
  refine wp_region_noPanic ?_
  refine wp_region_held_drew (S:=S6f w.heap.size f q) (by kernel_rfl) (J6.out.keep (Below.refl _ _).drew).s6 (fun hS=>?_)
  have J_0:=Zh (J6.out.keep (Below.refl _ _).drew)
  have D_0:=Zh (D6.out.below (Below.refl _ _).drew)
  have P_0:=Zh (P6.out.below (Below.refl _ _).drew)
  have Q_0:=Zh (Q6.out.below (Below.refl _ _).drew)
  clear J6 D6 P6 Q6
  refine Zt (i:=0) (v:=?v0z39) rfl (Or.inl ⟨by rfl,?hy0z39⟩) ?rest0z39
  case hy0z39=>
   intro w hSw
   dsimp only[S6f]at hSw
   go_simp
   try with_reducible rfl
  simp only[Act.put,Zd,Ze,Zf,Za,Zb,Zc]
  refine Zt (i:=1) (v:=?v1z40) rfl (Or.inl ⟨by rfl,?hy1z40⟩) ?rest1z40
  case hy1z40=>
   intro w hSw
   dsimp only[S6f]at hSw
   go_simp
   try with_reducible rfl
  simp only[Act.put,Zd,Ze,Zf,Za,Zb,Zc]
  refine Zt (i:=2) (v:=?v2z41) rfl (Or.inl ⟨by rfl,?hy2z41⟩) ?rest2z41
  case hy2z41=>
   intro w hSw
   dsimp only[S6f]at hSw
   go_simp
   try with_reducible rfl
  simp only[Act.put,Zd,Ze,Zf,Za,Zb,Zc]
  refine Zt (i:=3) (v:=?v3z42) rfl (Or.inl ⟨by rfl,?hy3z42⟩) ?rest3z42
  case hy3z42=>
   intro w hSw
   dsimp only[S6f]at hSw
   go_simp
   try with_reducible rfl
  simp only[Act.put,Zd,Ze,Zf,Za,Zb,Zc]
  refine Zt (i:=5) (v:=?v5z43) rfl (Or.inl ⟨by rfl,?hy5z43⟩) ?rest5z43
  case hy5z43=>
   intro w hSw
   dsimp only[S6f]at hSw
   go_simp
   try with_reducible rfl
  simp only[Act.put,Zd,Ze,Zf,Za,Zb,Zc]
  refine wpAnyH_ready (rs:=[4]) (by kernel_rfl) (by simp) ?_
  refine AllReadyH.cons rfl (fun K hK=>?_) AllReadyH.nil
  go_simp
  (refine (nplus_f pa qa pk qk pc qc _ _ _ P_0.out Q_0.out (by have:=P_0.out.len lp.out;omega) (by have:=Q_0.out.len lq.out;omega)).mono ?_)
  rintro e V4J_1 ⟨na,nk,nc,rfl,hn,bc,lcn⟩
  have LCN:Hid (Lc w.heap.size na):=Lc.mono lcn J_0.out.bel.size
  clear lcn
  try go_simp
  have J_1:=Zh (J_0.out.keep bc)
  have D_1:=Zh (D_0.out.below bc)
  have N_1:=Zh hn
  have hT:=J_1.out.s6
  refine hK.out _ _ hT (fun _=>?_)
  clear hK K hS bc J_0 D_0 hn
  have hS:=hT
  clear hT
  try simp only[Act.put,Za,Zb,Zc]
  clear P_0 Q_0
  refine Zt (i:=6) (v:=?v6z44) rfl (Or.inl ⟨by rfl,?hy6z44⟩) ?rest6z44
  case hy6z44=>
   intro w hSw
   dsimp only[S6f]at hSw
   go_simp
   try with_reducible rfl
  simp only[Act.put,Zd,Ze,Zf,Za,Zb,Zc]
  have HR:=fun W (hW:w.heap.size≤W.heap.size) (x1:Nt W na nk nc (n1*d2+n2*d1)) (x2:Nt W da dk dc (d1*d2))=>reduced_f w.heap.size f.b na da nc dc nk dk (n1*d2+n2*d1) (d1*d2) W x1 x2 ld.out.2 (Nat.lt_of_lt_of_le (tp_sumX lp.out lq.out) (tp_mono (by omega))) (Nat.lt_of_lt_of_le ld.out.1 (tp_mono (by omega))) hW LCN.out LCD.out
  have ev:sg f.b (n1*d2+n2*d1)=sg f.b (n1*d2)+sg q.b (n2*d1):=by rw[sg_same,HB.out]
  rw[ev]at HR
  have HR:=Zh HR
  clear ev
  refine wpAnyH_ready (rs:=[7]) (by kernel_rfl) (by simp) ?_
  refine AllReadyH.cons rfl (fun K hK=>?_) AllReadyH.nil
  go_simp
  (refine (HR.out _ J_1.out.bel.size N_1.out D_1.out).mono ?_)
  rintro e V7J_2 ⟨sb,n',d',⟨qa,qk,qc,pa,pk,pc,rfl,rn,rd,bc,lc1,lc2⟩,hd',hv,hsz,hsg⟩
  have RL:=Zh (And.intro lc1 lc2)
  clear lc1 lc2
  try go_simp
  have J_2:=Zh (J_1.out.keep bc)
  have RN:=Zh rn
  have RD:=Zh rd
  have RV:=Zh (And.intro hd' (And.intro hv (And.intro hsz hsg)))
  have hT:=J_2.out.s6
  refine hK.out _ _ hT (fun _=>?_)
  clear hK K hS bc J_1  rn rd
  have hS:=hT
  clear hT
  try simp only[Act.put,Za,Zb,Zc]
  clear N_1 D_1 HR
  refine wpAnyH_ready (rs:=[8]) (by kernel_rfl) (by simp) ?_
  refine AllReadyH.cons rfl (fun K hK=>?_) AllReadyH.nil
  have q0:=J_2.out.r.c0
  have q1:=J_2.out.r.c1
  have q2:=J_2.out.r.c2
  have g0:=J_2.out.r.fr 0
  have g1:=J_2.out.r.fr 1
  have g2:=J_2.out.r.fr 2
  go_simp
  clear q0 q1 q2 g0 g1 g2
  have hT:=J_2.out.done (.bool sb) (.slice qa qk qc) (.slice pa pk pc)
  have R9:=J_2.out.r.set (.bool sb) (.slice qa qk qc) (.slice pa pk pc)
  have PP:Hid (FvF w.heap.size f.b (sg f.b (n1*d2)+sg q.b (n2*d1)) (d1*d2) w (.returned (.agg #[.bool sb,.slice qa qk qc,.slice pa pk pc])) (trio _ (w.heap.size+1+1) (.bool sb) (.slice qa qk qc) (.slice pa pk pc))):=
   ⟨sb,n',d',⟨_,_,_,_,_,_,rfl,RN.out.trio J_2.out.r (NI.b _) (NI.s _ _ _) (NI.s _ _ _) _ _ _,RD.out.trio J_2.out.r (NI.b _) (NI.s _ _ _) (NI.s _ _ _) _ _ _,below_trio J_2.out.bel (by omega) _ _ _,RL.out.1,RL.out.2⟩,RV.out.1,RV.out.2.1,RV.out.2.2.1,RV.out.2.2.2⟩
  clear RN RD RV
  unfold trio at hT R9 PP
  refine hK.out _ _ hT (fun _=>?_)
  clear hK K hS
  try simp only[Act.put,Za,Zb,Zc]
  refine wpAnyH_done (by kernel_rfl) ?_ _
  refine NoPanic.normal ?_
  obtain⟨r0,r1,r2,_,_⟩:=id R9
  clear hT R9
  go_wp2_with fail
  exact bodyPost_ret (v:=.agg #[.bool sb,.slice qa qk qc,.slice pa pk pc]) (by simp[results,Tryz.results30,go_sem,r0,r1,r2]) rfl PP.out
open Go.WideMaps Go.Maps
theorem tp_big{n:Nat}(h:n<1000000000000000000000000000000000000):n<tp 12:=by
 have e:tp 4=1000000000000000000000000000000000000:=by rw[show (4:Nat)=2+2 from rfl,tp_add,tp_two]
 exact Nat.lt_of_lt_of_le (show n<tp 4 by rw[e];exact h) (tp_mono (by decide))
def irow(X:List Int):List Value:=X.map (Value.int .i64)
theorem irow_snoc(X:List Int)(x:Int):irow (X ++ [x])=irow X ++ [.int .i64 x]:=by unfold irow;rw[List.map_append];rfl
def Far(k:Nat)(a:Option Addr)(g:Option Nat):Prop:=0<k→∀ b off,a=some ⟨b,off,none⟩→g≠some b
theorem Nt.kept{W W':World}{a:Option Addr}{k c n:Nat}{row:Option Nat}(h:Nt W a k c n)(hg:W.grownBy W' row)(hf:Far k a row):Nt W' a k c n:=by
 obtain⟨f,⟨r1,r2,r3⟩,h2⟩:=h
 refine⟨f,⟨r1,r2,fun h0=>?_⟩,h2⟩
 obtain⟨b,off,e,hl,hc⟩:=r3 h0
 exact⟨b,off,e,Nat.lt_of_lt_of_le hl hg.size,fun j hj=>hg.cell (hc j hj) (fun e2=>hf h0 b off e e2.symm)⟩
theorem Nt.blk{W:World}{a:Option Addr}{k c n:Nat}(h:Nt W a k c n)(h0:0<k){b off:Nat}(e:a=some ⟨b,off,none⟩):b<W.heap.size:=by
 obtain⟨f,⟨_,_,r3⟩,_⟩:=h
 obtain⟨b',off',e',hl,_⟩:=r3 h0
 rw[e]at e'
 injection e' with e'
 injection e' with e1
 omega
structure See (wr:World) (sb:Nat) (g:Option Nat) (N:Nat) (f:Fa) (n d:Nat):Prop where
 box:Q3 wr sb (.bool false) (.slice f.a f.k f.c) (.slice f.a' f.k' f.c')
 fb:f.b=false
 nn:Nt wr f.a f.k f.c n
 dd:Nt wr f.a' f.k' f.c' d
 pos:0<d
 val:(n:Int)*(LM:Int)=(N:Int)*(d:Int)
 low:(n<tp 12∧d<tp 12)∨Nat.gcd n d=1
 fn:Far f.k f.a g
 fd:Far f.k' f.a' g
theorem See.small{wr:World}{sb:Nat}{g:Option Nat}{N:Nat}{f:Fa}{n d:Nat}(h:See wr sb g N f n d)(hN:N≤256000000*LM):n<tp 12∧d<tp 12:=by
 have e:sg false n*((LM:Nat):Int)=(N:Int)*(d:Int):=h.val
 refine fv_tp (by decide) (by decide) ?_ (tp_big (by decide)) e h.low
 rw[Int.natAbs_natCast]
 exact tp_big (Nat.lt_of_le_of_lt hN (by decide))
theorem See.keep{wr W:World}{sb:Nat}{g:Option Nat}{N:Nat}{f:Fa}{n d:Nat}(h:See wr sb g N f n d)(hb:Below wr.heap.size wr W):See W sb g N f n d:=
 { h with box:=h.box.keep hb,nn:=h.nn.below hb,dd:=h.dd.below hb }
theorem See.grow{wr w4:World} {sb:Nat} {v v':Value} {N:Nat} {f:Fa} {n d:Nat} {o:Obj} (h:See wr sb v.ownBlock N f n d) (hg:(wr.alloc o).grownBy w4 v.ownBlock)
  (hloc:v'.ownBlock=v.ownBlock∨v'.ownBlock=some (wr.heap.size+1)) (hne:v.ownBlock≠some sb):See w4 sb v'.ownBlock N f n d:=by
 have h1:=h.keep (bel_one wr o)
 have far:∀ {k:Nat} {a:Option Addr} {c m:Nat},Nt wr a k c m→Far k a v.ownBlock→Far k a v'.ownBlock:=fun hn hf h0 b off e e2=>by
  rcases hloc with q|q
  ·exact hf h0 b off e (q.symm.trans e2)
  ·rw[q]at e2
   injection e2 with e2
   have:=hn.blk h0 e
   omega
 refine⟨⟨hg.cell h1.box.c0 (fun e=>hne e.symm),hg.cell h1.box.c1 (fun e=>hne e.symm),hg.cell h1.box.c2 (fun e=>hne e.symm),fun o2=>(hg.frozen_far ⟨sb,o2,none⟩ h1.box.lt (fun e=>hne e.symm)).trans (h1.box.fr o2),Nat.lt_of_lt_of_le h1.box.lt hg.size⟩,h.fb,h1.nn.kept hg h1.fn,h1.dd.kept hg h1.fd,h.pos,h.val,h.low,far h.nn h.fn,far h.dd h.fd⟩
structure InRa (w W5 wr:World) (v:Value) (sb:Nat) (X:List Int) (N:Nat):Prop where
 own:wr.ownsRow W5.heap.size 3 1 v X.length (irow X)
 see:∃ f n d,See wr sb v.ownBlock N f n d
 res:B2 wr w.heap.size noS noS
 bel:Below w.heap.size w wr
 grw:W5.grownBy wr (some sb)
theorem trio_grown(V:World)(g:Nat)(x y z:Value):V.grownBy (trio V g x y z) (some g):=by unfold trio;exact grown_set (grown_set (grown_setA V g 0 x))
theorem InRa.keep{w W5 wr W:World}{v:Value}{sb:Nat}{X:List Int}{N:Nat}(h:InRa w W5 wr v sb X N)(hb:Below wr.heap.size wr W):InRa w W5 W v sb X N:=by
 obtain⟨f,n,d,hs⟩:=h.see
 exact⟨Cqown_keep h.own hb,⟨f,n,d,hs.keep hb⟩,h.res.keep hb,h.bel.trans (hb.mono h.bel.size),h.grw.andThen (below_grow hb) (fun j e=>by cases e)⟩
theorem InRa.out{w W5 wr:World}{v:Value}{sb:Nat}{X:List Int}{N:Nat}(h:InRa w W5 wr v sb X N){j:Nat}(hj:j<W5.heap.size):v.ownBlock≠some j:=fun e=>by
 have:=(h.own.lt j e).1
 omega
theorem InRa.app{w W5 wr w4:World} {v v':Value} {sb:Nat} {X:List Int} {N:Nat} {o:Obj} {x:Int} (h:InRa w W5 wr v sb X N) (hw:w.heap.size<W5.heap.size) (hsb:sb<W5.heap.size)
  (hown:w4.ownsRow W5.heap.size 3 1 v' (X.length+1) (irow X ++ [.int .i64 x])) (hg:(wr.alloc o).grownBy w4 v.ownBlock) (hloc:v'.ownBlock=v.ownBlock∨v'.ownBlock=some (wr.heap.size+1)):InRa w W5 w4 v' sb (X ++ [x]) N:=by
 obtain⟨f,n,d,hs⟩:=h.see
 have h1:=h.res.keep (bel_one wr o)
 have ne:=h.out hw
 have hsz:=h.bel.size
 refine⟨by rw[List.length_append,irow_snoc];exact hown,⟨f,n,d,hs.grow hg hloc (h.out hsb)⟩,⟨hg.cell h1.c0 (fun e=>ne e.symm),hg.cell h1.c1 (fun e=>ne e.symm),fun o2=>(hg.frozen_far ⟨w.heap.size,o2,none⟩ h1.lt (fun e=>ne e.symm)).trans (h1.fr o2),Nat.lt_of_lt_of_le h1.lt hg.size⟩,
  (h.bel.alloc hsz o).grown hg (by simp;omega) (fun g hg=>by have:=(h.own.lt g hg).1;omega),h.grw.andThen ((World.grownBy_alloc wr o _).trans hg) (fun j e=>.inl (h.own.lt j e).1)⟩
theorem InRa.put{w W5 wr V:World} {v:Value} {sb:Nat} {X:List Int} {N N':Nat} {f:Fa} {n d:Nat} (h:InRa w W5 wr v sb X N) (hb:Below wr.heap.size wr V) (hw:w.heap.size<sb) (hsb:sb<W5.heap.size)
  (hf:f.b=false) (hn:Nt V f.a f.k f.c n) (hd:Nt V f.a' f.k' f.c' d) (pos:0<d) (val:(n:Int)*(LM:Int)=(N':Int)*(d:Int)) (low:(n<tp 12∧d<tp 12)∨Nat.gcd n d=1) (l1:Lc wr.heap.size f.a) (l2:Lc wr.heap.size f.a') :
  InRa w W5 (trio V sb (.bool false) (.slice f.a f.k f.c) (.slice f.a' f.k' f.c')) v sb X N':=by
 obtain⟨_,_,_,hs⟩:=h.see
 have hk:=h.keep hb
 have hg:=trio_grown V sb (.bool false) (.slice f.a f.k f.c) (.slice f.a' f.k' f.c')
 have bx:=hs.box.keep hb
 have far:∀ {k:Nat} {a:Option Addr},Lc wr.heap.size a→Far k a v.ownBlock:=fun hl _ b off e e2=>by
  have h1:=hl b off e
  have h2:=(h.own.lt b e2).2
  omega
 refine⟨hk.own.kept hg (.inr fun e=>h.out hsb e),⟨f,n,d,bx.set _ _ _,hf,hn.trio bx (NI.b _) (NI.s _ _ _) (NI.s _ _ _) _ _ _,hd.trio bx (NI.b _) (NI.s _ _ _) (NI.s _ _ _) _ _ _,pos,val,low,far l1,far l2⟩,hk.res.grown hg (by omega),below_trio hk.bel (by omega) _ _ _,hk.grw.trans hg⟩
theorem see_next{n d s N sum n' d':Nat} {b:Bool} (hs:2≤s) (hs2:s≤50) (hd:0<d) (h1:(n:Int)*(LM:Int)=(N:Int)*(d:Int)) (hb:b=false)
  (h2:sg b n'*((d*(s-1):Nat):Int)=(sg false (n*(s-1))+sg false (sum*d))*(d':Int)):(n':Int)*(LM:Int)=((N+sum*wgt s:Nat):Int)*(d':Int):=by
 subst hb
 have e:=wgt_mul hs hs2
 have hp:((d*(s-1):Nat):Int)≠0:=by
  have:=Nat.mul_pos hd (show 0<s-1 by omega)
  omega
 have z1:∀ m:Nat,sg false m=(m:Int):=fun m=>rfl
 rw[z1,z1,z1]at h2
 apply Int.eq_of_mul_eq_mul_right hp
 rw[←e]at h1 ⊢
 generalize wgt s=g at *
 generalize s-1=r at *
 simp only[Int.natCast_mul,Int.natCast_add]at *
 grind
theorem flt_next{R:List (List Cg)}{k:Nat}(h:k<R.length):flt (R.take (k+1))=if 2≤(rn R k).length then flt (R.take k) ++ [rn R k] else flt (R.take k):=by
 rw[take_rn h]
 unfold flt
 rw[List.filter_append]
 by_cases e:2≤(rn R k).length
 ·rw[if_pos e]
  congr 1
  rw[List.filter_cons,if_pos (by simp;omega),List.filter_nil]
 ·rw[if_neg e,List.filter_cons,if_neg (by simp;omega),List.filter_nil,List.append_nil]
theorem obS_snoc(dl:Int→Int→Nat)(R:List (List Cg))(D:List Cg):obS dl (R ++ [D])=obS dl R+dfS dl (nC (cdsD D))*wgt D.length:=by unfold obS;rw[sumR_snoc]
theorem rfarS_c(sa:Option Addr) (c:Nat) (l:List Nd) (t:Bool) (a b:Nat) (w:World) (hl:RdN w sa l) (F:Fr l) (ha:Has l a) (hb:Has l b) :
  Calls Tryz.prog 29 #[.slice sa l.length c,.bool t,.int .i64 (a:Nat),.int .i64 (b:Nat)] w (IntP (dlS l t a b:Nat) w):=by
 have h:=rfar_c sa c l t a b (mtS l a b).2 w hl F ha hb (fun m d h=>(F.tree.meetOne (Or.inr ha) h (mtS_is F ha hb)).2) (Nat.le_trans (mtS_le F ha hb) (by decide))
 rw[←dlS_is F t ha hb]at h
 exact h
theorem al_val{all ex ob n d x2 y2 x3 y3:Nat} {b2 b3:Bool} (hx:0<ex) (hd:0<d) (hy2:0<y2) (hy3:0<y3) (ha:1≤all) (h1:(n:Int)*(LM:Int)=(ob:Int)*(d:Int))
  (e2:sg b2 x2*((d*ex:Nat):Int)=sg false (n*(all-1))*(y2:Int)) (e3:sg b3 x3*((1*y2:Nat):Int)=(sg false (1*y2)-sg b2 (x2*1))*(y3:Int)):raR (zv b3 x3) y3=alR all ex ob:=by
 unfold alR
 rw[if_neg (by omega)]
 have lm:(LM:Int)≠0:=by decide
 refine raR_eq (by omega) (by rw[Int.natCast_mul];exact Int.mul_ne_zero (by omega) lm) ?_
 show sg b3 x3*_=_
 have z1:∀ m:Nat,sg false m=(m:Int):=fun m=>rfl
 have z2:sg b2 (x2*1)=sg b2 x2:=by rw[Nat.mul_one]
 have ha1:((all-1:Nat):Int)=(all:Int)-1:=by omega
 rw[z1]at e2
 rw[z1,z2]at e3
 generalize sg b2 x2=P at *
 generalize sg b3 x3=Q at *
 simp only[Int.natCast_mul,ha1,Int.one_mul,Int.natCast_one]at *
 have hdy:(d:Int)*(y2:Int)*ex≠0:=Int.mul_ne_zero (Int.mul_ne_zero (by omega) (by omega)) (by omega)
 apply Int.eq_of_mul_eq_mul_left hdy
 generalize (LM:Int)=M at *
 grind
end Go.Proofs.YtghgbhmiliiohaaGreatDoor
