/-
  The reference's exact fractions: the arithmetic of its long division.
-/
import Derived.Test.YtghgbhmiliiohaaGreatDoorAMQ
import Derived.Test.YtghgbhmiliiohaaGreatDoorAM32
set_option maxRecDepth 100000
namespace Go.Proofs.YtghgbhmiliiohaaGreatDoor
open Go.RowKit
structure Sq (w:World) (P:Nat) (j y:Nat) (g:Nat→Nat) (v:Value) (wr:World):Prop where
 dg:Dg w.heap.size w g j v wr
 ld:Ld g j
 sm:Tn g j+y*tp j=P
theorem Sq.step{w:World} {P P' j y y':Nat} {g:Nat→Nat} {v v':Value} {wr wr':World} {s:Nat} (h:Sq w P j y g v wr)
  (hs9:s<1000000000) (hP:Tn g j+s*tp j+y'*(tp j*1000000000)=P') (o:Obj)
  (hown:wr'.ownsRow w.heap.size 3 1 v' (j+1) (dvals g j ++ [.int .i64 (s:Int)])) (hg:(wr.alloc o).grownBy wr' v.ownBlock) :
  Sq w P' (j+1) y' (put g j s) v' wr':=by
 refine⟨h.dg.more s hown o hg,ld_more h.ld hs9,?_⟩
 rw[Tn_put,tp_succ]
 exact hP
def NtO(n:Nat)(w:World)(e:Ending)(w':World):Prop:=∃ a k c g,e=.returned (.slice a k c)∧Dg w.heap.size w g k (.slice a k c) w'∧Ld g k∧Tod g k∧Tn g k=n∧k≤100000
theorem rj_same{W:World}{a:Option Addr}{k k':Nat}{f g:Nat→Nat}(h:Rj W a k f)(h':Rj W a k' g):∀ j,j<k→j<k'→f j=g j:=by
 intro j hj hj'
 obtain⟨b,o,e,_,c1⟩:=h.at_ hj
 obtain⟨b',o',e',_,c2⟩:=h'.at_ hj'
 rw[e]at e'
 injection e' with e'
 injection e' with e1 e2
 subst e1 e2
 rw[c1]at c2
 injection c2 with c2
 injection c2 with _ c2
 omega
theorem Dg.low{B:Nat}{w0 w:World}{f:Nat→Nat}{j m c:Nat}{a:Option Addr}(h:Dg B w0 f j (.slice a j c) w)(hm:m≤j):Dg B w0 f m (.slice a m c) w:=by
 refine⟨?_,h.bel,h.size⟩
 have e:dvals f m=(dvals f j).take m:=by
  unfold dvals
  rw[←List.map_take,List.take_range,Nat.min_eq_left hm]
 rcases h.row with ⟨h1,⟨h2,h3⟩|⟨g,cap,cur,h2,h3,h4,h5,h6,h7,h8⟩⟩
 ·injection h2 with e1 e2 e3
  obtain rfl:m=0:=by omega
  rw[e1,e3]
  exact World.ownsRow_nil _ _ _ _
 ·injection h2 with e1 e2 e3
  refine⟨by simp[dvals],.inr ⟨g,cap,cur,by rw[e1,e3],h3,h4,by omega,h6,h7,?_⟩⟩
  rw[e,←h8,List.take_take]
  congr 1
  omega
set_option maxHeartbeats 4000000 in
theorem scaled_c(a:Option Addr) (k c n x:Nat) (w:World) (h:Nt w a k c n) (hx:x≤1000000000) (hk:k≤99990) :
  Calls Tryz.prog 103 #[.slice a k c,.int .i64 (x:Nat)] w (NtO (n*x) w):=by
 obtain⟨i0,hi,hz0,hz1,hz2⟩:=info_int
 obtain⟨f,r1,_,_,_,s1,_⟩:=h
 have R1:=Zh r1
 have S1:=Zh s1
 clear r1 s1
 go_enter Tryz.func103,Tryz.ntmps103
 go_wp2_with fail
 go_loopw [5,6,11] (fun v c i wr=>∃ (j y:Nat) (g:Nat→Nat),j≤k∧y≤1000000000∧c=.int .i64 y∧i=.int .i64 j∧Hid (Sq w (Tn f j*x) j y g v wr)) (fun _ _ i _=>k-(intOf i).toNat)
 case atStart=>exact⟨0,0,fun _=>0,Nat.zero_le _,by omega,rfl,rfl,Dg.nil w _,fun j hj=>by omega,by simp[Tn_zero]⟩
 case round=>
  obtain⟨j,y,g,hj,hy,rfl,rfl,hR⟩:=hrel
  by_cases hlt:j<k
  ·have hlt':(j:Int)<(k:Int):=by omega
   obtain⟨b1,o1,rfl,_,g1⟩:=(R1.out.below hR.out.dg.bel).at_ hlt
   have d1:=R1.out.2.1 j hlt
   obtain⟨z,hz⟩:∃ z,f j=z:=⟨_,rfl⟩
   rw[hz]at g1 d1
   obtain⟨m,hm⟩:∃ m,z*x=m:=⟨_,rfl⟩
   have em:(z:Int)*(x:Int)=(m:Int):=by rw[←hm];exact (Int.natCast_mul _ _).symm
   have hm9:m≤999999999000000000:=by rw[←hm];exact Nat.mul_le_mul (show z≤999999999 by omega) hx
   obtain⟨p,hp⟩:∃ p,m+y=p:=⟨_,rfl⟩
   have e0:(m:Int)+(y:Int)=(p:Int):=by omega
   obtain⟨q,hq⟩:∃ q,p / 1000000000=q:=⟨_,rfl⟩
   obtain⟨r,hr⟩:∃ r,p % 1000000000=r:=⟨_,rfl⟩
   have e1:(p:Int).tdiv 1000000000=(q:Int):=by rw[Int.tdiv_eq_ediv_of_nonneg (by omega)];omega
   have e2:(p:Int).tmod 1000000000=(r:Int):=by rw[Int.tmod_eq_emod_of_nonneg (by omega)];omega
   have hq9:q≤1000000000:=by omega
   have hr9:r<1000000000:=by omega
   have HS:Hid (Tn g j+r*tp j+q*(tp j*1000000000)=Tn f (j+1)*x):=by
    have h1:m+y=r+q*1000000000:=by omega
    have h2:=hR.out.sm
    unfold Hid
    rw[Tn_succ,hz,Nat.add_mul,←h2,Nat.mul_right_comm z,hm]
    have h3:(m+y)*tp j=(r+q*1000000000)*tp j:=by rw[h1]
    rw[Nat.add_mul,Nat.add_mul,Nat.mul_right_comm q]at h3
    rw[←Nat.mul_assoc q]
    omega
   have hp9:p≤1000000000000000000:=by omega
   clear hp hq hr hm hz
   go_wp2_with (at_builtin;refine wpList_append_own _ rfl _ _ 49 rfl w.heap.size 3 i0 (.int .i64 0) 1 8 Tryz.underlying49 hi hz0 hz1 hz2 rfl (by decide) _ _ _ rfl (hR.out.dg.row.alloc _) ⟨wr.heap.size,0,none⟩ 1 1 [.int .i64 (r:Int)] rfl rfl ?c1A ?c2A ?c3A ?c4A ?c5A ?_)
   try
    case c1A=>
     intro i u hu
     match i,hu with
     | 0,hu=>simp at hu;subst hu;simp[Addr.add]
   try (case c2A=>first | (intro u hu;simp at hu;subst hu;rfl) | rfl)
   try (case c3A=>unfold maxLen;omega)
   try (case c4A=>omega)
   try (case c5A=>have:=hR.out.dg.size;simp;omega)
   intro v' w1 hown' hgrow _
   have NX:=Zh (hR.out.step hr9 HS.out _ hown' hgrow)
   clear hown' hgrow hR
   go_wp2
   go_roundw
   case rel=>exact⟨j+1,q,put g j r,by omega,hq9,by go_num,by go_num,NX.out⟩
   case measure=>simp[intOf];omega
  ·obtain rfl:j=k:=by omega
   have S2:Hid (Sq w (n*x) j y g u5 wr):=by have:=hR.out;rw[S1.out]at this;exact this
   clear hlt hR
   go_wp2
   obtain⟨wA,hwA⟩:∃ A:World,A=wr:=⟨_,rfl⟩
   subst hwA
   go_loopw [5,6] (fun v c wr=>∃ (m y:Nat) (g:Nat→Nat),j≤m∧m≤j+2∧y≤1000000000∧(m=j+1→y≤1)∧(m=j+2→y=0)∧c=.int .i64 y∧Hid (Sq w (n*x) m y g v wr)) (fun _ c _=>(intOf c).toNat)
   case atStart=>exact⟨j,y,g,Nat.le_refl _,by omega,hy,by omega,by omega,rfl,S2.out⟩
   case round=>
    clear S2
    obtain⟨m,y,g,hm,hm2,hy,hy1,hy2,rfl,hR⟩:=hrel
    rcases Nat.eq_zero_or_pos y with e|e
    ·subst e
     obtain⟨a',c',rfl,hrj,hkc,hcc,hpl⟩:=hR.out.dg.reads (by omega) hR.out.ld
     have DD:=Zh hR.out.dg
     have LD:=Zh hR.out.ld
     have HRJ:=Zh hrj
     have E:Hid (Tn g m=n*x):=by have:=hR.out.sm;unfold Hid;omega
     have HT:=Zh (ntrim_c a' m c' g wr hrj hkc hcc hpl)
     clear hR hrj hpl
     go_wp2_with fail
     refine HT.out.mono ?_
     rintro e w4 ⟨m',rfl,hN,rfl⟩
     rw[E.out]at hN
     have R:Hid (NtO (n*x) w (.returned (.slice a' m' c')) wr):=by
      have hmm:m'≤m:=hN.len (by rw[←E.out];exact Tn_lt LD.out)
      obtain⟨f',r',_,_,t',s',_⟩:=hN
      have hs:=rj_same r' HRJ.out
      refine⟨_,_,_,g,rfl,DD.out.low hmm,fun j hj=>LD.out j (by omega),?_,?_,r'.1⟩
      ·rcases t' with e|e
       ·exact .inl e
       ·rcases Nat.eq_zero_or_pos m' with e0|e0
        ·exact .inl e0
        ·exact .inr (by rw[←hs (m' - 1) (by omega) (by omega)];exact e)
      ·rw[←s'];exact Tn_congr fun j hj=>(hs j hj (by omega)).symm
     clear hN HT
     go_wp2
     go_ret
     exact R.out
    ·have hy0:(0:Int)<(y:Int):=by omega
     obtain⟨q,hq⟩:∃ q,y / 1000000000=q:=⟨_,rfl⟩
     obtain⟨r,hr⟩:∃ r,y % 1000000000=r:=⟨_,rfl⟩
     have e1:(y:Int).tdiv 1000000000=(q:Int):=by rw[Int.tdiv_eq_ediv_of_nonneg (by omega)];omega
     have e2:(y:Int).tmod 1000000000=(r:Int):=by rw[Int.tmod_eq_emod_of_nonneg (by omega)];omega
     have hq9:q≤1:=by omega
     have hr9:r<1000000000:=by omega
     have hqm:m=j+1→q=0:=by omega
     have hqy:q<y:=by omega
     have HS:Hid (Tn g m+r*tp m+q*(tp m*1000000000)=n*x):=by
      have h1:y=r+q*1000000000:=by omega
      have h2:=hR.out.sm
      unfold Hid
      rw[←h2,←Nat.mul_assoc q]
      have h3:y*tp m=(r+q*1000000000)*tp m:=by rw[←h1]
      rw[Nat.add_mul,Nat.mul_right_comm q]at h3
      omega
     clear hq hr
     go_wp2_with (at_builtin;refine wpList_append_own _ rfl _ _ 49 rfl w.heap.size 3 i0 (.int .i64 0) 1 8 Tryz.underlying49 hi hz0 hz1 hz2 rfl (by decide) _ _ _ rfl (hR.out.dg.row.alloc _) ⟨wr.heap.size,0,none⟩ 1 1 [.int .i64 (r:Int)] rfl rfl ?c1A ?c2A ?c3A ?c4A ?c5A ?_)
     try
      case c1A=>
       intro i u hu
       match i,hu with
       | 0,hu=>simp at hu;subst hu;simp[Addr.add]
     try (case c2A=>first | (intro u hu;simp at hu;subst hu;rfl) | rfl)
     try (case c3A=>unfold maxLen;omega)
     try (case c4A=>omega)
     try (case c5A=>have:=hR.out.dg.size;simp;omega)
     intro v' w1 hown' hgrow _
     have NX:=Zh (hR.out.step hr9 HS.out _ hown' hgrow)
     clear hown' hgrow hR
     go_wp2
     go_roundw
     case rel=>exact⟨m+1,q,put g m r,by omega,by omega,by omega,by omega,by omega,by go_num,NX.out⟩
     case measure=>simp[intOf];omega
def ShP(n d:Nat)(w:World)(e:Ending)(w':World):Prop:=∃ a k c,e=.returned (.tuple #[.slice a k c,.int .i64 ((n % d:Nat):Int)])∧Nt w' a k c (n / d)∧Below w.heap.size w w'
theorem Tn_consX(f:Nat→Nat)(p m:Nat):Tn (from_ f p) (m+1)=f p+1000000000*Tn (from_ f (p+1)) m:=by
 rw[Tn_front]
 have e:(fun j=>from_ f p (j+1))=from_ f (p+1):=by funext j;unfold from_;rw[show p+(j+1)=p+1+j by omega]
 rw[e]
 rfl
theorem from_put_lo(f:Nat→Nat)(p x:Nat):from_ (put f p x) (p+1)=from_ f (p+1):=by
 funext j;unfold from_;exact put_ne (by omega)
set_option maxHeartbeats 4000000 in
theorem short_c(a:Option Addr) (k c n d:Nat) (w:World) (h:Nt w a k c n) (hd0:0<d) (hd:d<1000000000) :
  Calls Tryz.prog 102 #[.slice a k c,.int .i64 (d:Nat)] w (ShP n d w):=by
 obtain⟨f,r1,_,_,_,s1,_⟩:=h
 have hk9:=r1.1
 have hmk:=fun w=>mk_digits k hk9 w
 have R1:=Zh r1
 have S1:=Zh s1
 clear r1 s1
 go_enter Tryz.func102,Tryz.ntmps102
 go_wp2_with fail
 have B0:=Zh (Bt.made w k 3)
 have BL:Hid (Below w.heap.size w (w.alloc (.cells (madeCells #[.int .i64 0] k) 3))):=bel_one _ _
 generalize hW1:w.alloc (.cells (madeCells #[.int .i64 0] k) 3)=W1 at *
 clear hW1 hmk
 go_loopw [7,8] (fun v i wr=>∃ (m y:Nat) (g:Nat→Nat),m≤k∧i=.int .i64 ((m:Int)-1)∧v=.int .i64 y∧y<d∧Hid (Bt wr w.heap.size k g∧Below w.heap.size w wr∧Tn (from_ g m) (k-m)*d+y=Tn (from_ f m) (k-m))) (fun _ i _=>(intOf i+1).toNat)
 case atStart=>exact⟨k,0,fun _=>0,Nat.le_refl _,rfl,rfl,hd0,B0.out,BL.out,by rw[Nat.sub_self,Tn_zero,Tn_zero];omega⟩
 case round=>
  clear B0 BL
  obtain⟨m,y,g,hm,rfl,rfl,hy,hR⟩:=hrel
  rcases Nat.eq_zero_or_pos m with e|e
  ·subst e
   have E:Hid (Tn g k=n / d∧y=n % d):=by
    have h:=hR.out.2.2
    have e1:from_ g 0=g:=by funext j;unfold from_;rw[Nat.zero_add]
    have e2:from_ f 0=f:=by funext j;unfold from_;rw[Nat.zero_add]
    rw[e1,e2,Nat.sub_zero,S1.out]at h
    have hd1:(y+Tn g k*d) / d=Tn g k:=by rw[Nat.add_mul_div_right _ _ hd0,Nat.div_eq_of_lt hy,Nat.zero_add]
    have hd2:(y+Tn g k*d) % d=y:=by rw[Nat.add_mul_mod_self_right,Nat.mod_eq_of_lt hy]
    rw[Nat.add_comm,h]at hd1 hd2
    exact⟨hd1.symm,hd2.symm⟩
   have HT:=Zh (ntrim_c (some ⟨w.heap.size,0,none⟩) k k g wr (hR.out.1.rj hk9) (Nat.le_refl _) (by omega) (Pl.some_ _ _))
   have BL2:=Zh hR.out.2.1
   clear hR
   go_wp2_with fail
   refine HT.out.mono ?_
   rintro e w5 ⟨k',rfl,hN,rfl⟩
   rw[E.out.1]at hN
   have R:Hid (ShP n d w (.returned (.tuple #[.slice (some ⟨w.heap.size,0,none⟩) k' k,.int .i64 (y:Int)])) wr):=⟨_,k',k,by rw[E.out.2],hN,BL2.out⟩
   clear hN HT
   go_wp2
   go_ret2
   exact R.out
  ·obtain⟨p,rfl⟩:∃ p,m=p+1:=⟨m-1,by omega⟩
   obtain⟨b,off,rfl,hb,g1⟩:=(R1.out.below hR.out.2.1).at_ (show p<k by omega)
   have d1:=R1.out.2.1 p (by omega)
   have hpk:(p:Int)<(k:Int):=by omega
   have ei:((p+1:Nat):Int)-1=(p:Int):=by omega
   rw[ei]
   obtain⟨z,hz⟩:∃ z,f p=z:=⟨_,rfl⟩
   rw[hz]at g1 d1
   obtain⟨m,hm'⟩:∃ m,y*1000000000+z=m:=⟨_,rfl⟩
   obtain⟨y9,hy9⟩:∃ y9,y*1000000000=y9:=⟨_,rfl⟩
   have ey:(y:Int)*1000000000=(y9:Int):=by omega
   have em:(y9:Int)+(z:Int)=(m:Int):=by omega
   have hy18:y9≤999999998000000000:=by omega
   have hm9:m≤1000000000000000000:=by omega
   obtain⟨q,hq⟩:∃ q,m / d=q:=⟨_,rfl⟩
   obtain⟨r,hr⟩:∃ r,m % d=r:=⟨_,rfl⟩
   have e1:(m:Int).tdiv (d:Int)=(q:Int):=by rw[Int.tdiv_eq_ediv_of_nonneg (by omega),←hq];exact (Int.natCast_ediv m d).symm
   have e2:(m:Int).tmod (d:Int)=(r:Int):=by rw[Int.tmod_eq_emod_of_nonneg (by omega),←hr];exact (Int.natCast_emod m d).symm
   have hr2:r<d:=by rw[←hr];exact Nat.mod_lt _ hd0
   have HQR:Hid (m=q*d+r):=by unfold Hid;rw[←hq,←hr];exact (Nat.div_add_mod' _ _).symm
   have hq2:q<1000000000:=by
    rw[←hq]
    refine Nat.div_lt_of_lt_mul ?_
    have:(y+1)*1000000000≤d*1000000000:=Nat.mul_le_mul_right _ hy
    omega
   have hdi:(d:Int)≠0:=by omega
   have hBp:=hR.out.1.2.2 p (by omega)
   have hc2:=hBp.1
   have hf2:=hBp.2
   have NX:Hid (Bt (wr.setCell ⟨w.heap.size,p,none⟩ (.int .i64 q)) w.heap.size k (put g p q)∧Below w.heap.size w (wr.setCell ⟨w.heap.size,p,none⟩ (.int .i64 q))∧Tn (from_ (put g p q) p) (k-p)*d+r=Tn (from_ f p) (k-p)):=by
    refine⟨hR.out.1.put (by omega) hq2,hR.out.2.1.setCell (p:=⟨w.heap.size,p,none⟩) (Nat.le_refl _) _,?_⟩
    have hqr:=HQR.out
    have h:=hR.out.2.2
    rw[show k-p=(k-(p+1))+1 by omega,Tn_consX,Tn_consX,from_put_lo,put_same,hz,←h,Nat.add_mul,Nat.mul_add,←hm']at *
    rw[←Nat.mul_assoc]
    omega
   clear hBp hR hq hr hz hm' hy9
   go_wp2_with fail
   go_roundw
   case rel=>exact⟨p,r,put g p q,by omega,by go_num,by go_num,hr2,NX.out⟩
   case measure=>simp[intOf]
theorem Rj.grown{W W':World}{a:Option Addr}{k:Nat}{f:Nat→Nat}{g:Nat}(h:Rj W a k f)(hg:W.grownBy W' (some g))(hne:Apart a k g):Rj W' a k f:=by
 refine⟨h.1,h.2.1,fun h0=>?_⟩
 obtain⟨b,off,e,hl,hc⟩:=h.2.2 h0
 refine⟨b,off,e,Nat.lt_of_lt_of_le hl hg.size,fun j hj=>?_⟩
 rw[World.cell?_of_block (a:=⟨b,off+j,none⟩) (hg.block b hl (fun e2=>hne h0 b off e (by injection e2)))]
 exact hc j hj
theorem grown_put{a w:World}{g i:Nat}{v:Value}(h:a.grownBy w (some g)):a.grownBy (w.setCell ⟨g,i,none⟩ v) (some g):=by
 refine h.trans ⟨rfl,rfl,rfl,by simp,fun k hk hne=>?_⟩
 exact Below.heap_setCell _ _ _ _ (fun e=>hne (by rw[e]))
structure Wt (w:World) (g K o m:Nat) (F F':Nat→Nat) (w':World):Prop where
 bf:Bt w' g K F'
 out:∀ j,j<o∨o+m≤j→F' j=F j
 grw:w.grownBy w' (some g)
theorem Wt.nil{w:World}{g K o:Nat}{F:Nat→Nat}(h:Bt w g K F):Wt w g K o 0 F F w:=⟨h,fun _ _=>rfl,World.grownBy.refl _ _⟩
theorem Wt.put{w wr:World}{g K o p x:Nat}{F F':Nat→Nat}(h:Wt w g K o p F F' wr)(hK:o+p<K)(hx:x<1000000000):Wt w g K o (p+1) F (put F' (o+p) x) (wr.setCell ⟨g,p+o,none⟩ (.int .i64 x)):=by
 rw[Nat.add_comm p o]
 exact⟨h.bf.put hK hx,fun i hi=>by rw[put_ne (by omega)];exact h.out i (by omega),grown_put h.grw⟩
def GvP(w:World)(g K o n:Nat)(F f2:Nat→Nat)(e:Ending)(w':World):Prop:=
 ∃ (F':Nat→Nat) (y:Nat),y≤1∧e=.returned (.tuple #[])∧Wt w g K o (n+1) F F' w'∧Tn (from_ F' o) (n+1)+y*tp (n+1)=Tn (from_ F o) (n+1)+Tn f2 n
set_option maxHeartbeats 4000000 in
theorem give_c(g K cK o n cy:Nat) (ay:Option Addr) (F f2:Nat→Nat) (w:World) (hB:Bt w g K F) (hy:Rj w ay n f2) (hA:Apart ay n g) (hK:o+n+1≤K) (hK9:K≤100000) :
  Calls Tryz.prog 106 #[.slice (some ⟨g,0,none⟩) K cK,.slice ay n cy,.int .i64 (o:Nat)] w (GvP w g K o n F f2):=by
 have HB:=Zh hB
 have HY:=Zh hy
 have HA:=Zh hA
 clear hB hy hA
 go_enter Tryz.func106,Tryz.ntmps106
 go_wp2
 go_loopw [6,7] (fun c i wr=>∃ (p y:Nat) (F':Nat→Nat),p≤n+1∧y≤1∧c=.int .i64 y∧i=.int .i64 p∧Hid (Wt w g K o p F F' wr∧Tn (from_ F' o) p+y*tp p=Tn (from_ F o) p+Tn (xt f2 n) p)) (fun _ i _=>n+1-(intOf i).toNat)
 case atStart=>exact⟨0,0,F,Nat.zero_le _,by omega,rfl,rfl,Wt.nil HB.out,by simp[Tn_zero]⟩
 case round=>
  obtain⟨p,y,F',hp,hy,rfl,rfl,hR⟩:=hrel
  by_cases hlt:p<n+1
  ·have t1:(p:Int)≤(n:Int):=by omega
   have hBp:=hR.out.1.bf.2.2 (o+p) (by omega)
   have dz:=hR.out.1.bf.2.1 (o+p) (by omega)
   rw[hR.out.1.out (o+p) (.inr (Nat.le_refl _))]at hBp dz
   obtain⟨z,hz⟩:∃ z,F (o+p)=z:=⟨_,rfl⟩
   rw[hz,Nat.add_comm o p]at hBp
   rw[hz]at dz
   have hb:=hBp.1
   have hf:=hBp.2
   have HZ:=Zh hz
   have tK:(p:Int)+(o:Int)<(K:Int):=by omega
   clear hz hBp
   by_cases l2:p<n
   ·have t2:(p:Int)<(n:Int):=by omega
    obtain⟨b2,o2,rfl,_,g2⟩:=(HY.out.grown hR.out.1.grw HA.out).at_ l2
    have d2:=HY.out.2.1 p l2
    have EX:Hid (xt f2 n p=f2 p):=ext_lt l2
    generalize f2 p=x2 at g2 d2 EX
    obtain⟨s,hs⟩:∃ s,z+y+x2=s:=⟨_,rfl⟩
    obtain⟨s0,hs0⟩:∃ s0,z+y=s0:=⟨_,rfl⟩
    have e0:(z:Int)+(y:Int)=(s0:Int):=by omega
    have e00:(s0:Int)+(x2:Int)=(s:Int):=by omega
    have hs09:s0<2000000000:=by omega
    obtain⟨q,hq⟩:∃ q,s / 1000000000=q:=⟨_,rfl⟩
    obtain⟨r,hr⟩:∃ r,s % 1000000000=r:=⟨_,rfl⟩
    have e1:(s:Int).tdiv 1000000000=(q:Int):=by rw[Int.tdiv_eq_ediv_of_nonneg (by omega)];omega
    have e2:(s:Int).tmod 1000000000=(r:Int):=by rw[Int.tmod_eq_emod_of_nonneg (by omega)];omega
    have hq9:q≤1:=by omega
    have hr9:r<1000000000:=by omega
    have hs9:s<3000000000:=by omega
    have HS:Hid (F (o+p)+xt f2 n p+y=r+q*1000000000):=by unfold Hid;rw[EX.out,HZ.out];omega
    have NX:Hid (Wt w g K o (p+1) F (put F' (o+p) r) (wr.setCell ⟨g,p+o,none⟩ (.int .i64 r))∧Tn (from_ (put F' (o+p) r) o) (p+1)+q*tp (p+1)=Tn (from_ F o) (p+1)+Tn (xt f2 n) (p+1)):=by
     refine⟨hR.out.1.put (by omega) hr9,?_⟩
     rw[from_putT,Tn_put,tp_succ,Tn_succ,Tn_succ]
     exact dstep_add hR.out.2 HS.out
    clear hs hs0 hq hr hR EX HZ
    go_wp2
    go_roundw
    case rel=>exact⟨p+1,q,put F' (o+p) r,by omega,hq9,by go_num,by go_num,NX.out⟩
    case measure=>first | (simp[intOf];done) | (simp[intOf];omega)
   ·obtain rfl:p=n:=by omega
    have t2:¬ (p:Int)<(p:Int):=by omega
    have EX:Hid (xt f2 p p=0):=ext_ge (Nat.le_refl _)
    obtain⟨s,hs⟩:∃ s,z+y=s:=⟨_,rfl⟩
    have e0:(z:Int)+(y:Int)=(s:Int):=by omega
    obtain⟨q,hq⟩:∃ q,s / 1000000000=q:=⟨_,rfl⟩
    obtain⟨r,hr⟩:∃ r,s % 1000000000=r:=⟨_,rfl⟩
    have e1:(s:Int).tdiv 1000000000=(q:Int):=by rw[Int.tdiv_eq_ediv_of_nonneg (by omega)];omega
    have e2:(s:Int).tmod 1000000000=(r:Int):=by rw[Int.tmod_eq_emod_of_nonneg (by omega)];omega
    have hq9:q≤1:=by omega
    have hr9:r<1000000000:=by omega
    have hs9:s<3000000000:=by omega
    have HS:Hid (F (o+p)+xt f2 p p+y=r+q*1000000000):=by unfold Hid;rw[EX.out,HZ.out];omega
    have NX:Hid (Wt w g K o (p+1) F (put F' (o+p) r) (wr.setCell ⟨g,p+o,none⟩ (.int .i64 r))∧Tn (from_ (put F' (o+p) r) o) (p+1)+q*tp (p+1)=Tn (from_ F o) (p+1)+Tn (xt f2 p) (p+1)):=by
     refine⟨hR.out.1.put (by omega) hr9,?_⟩
     rw[from_putT,Tn_put,tp_succ,Tn_succ,Tn_succ]
     exact dstep_add hR.out.2 HS.out
    clear hs hq hr hR EX HZ
    go_wp2
    go_roundw
    case rel=>exact⟨p+1,q,put F' (o+p) r,by omega,hq9,by go_num,by go_num,NX.out⟩
    case measure=>first | (simp[intOf];done) | (simp[intOf];omega)
  ·obtain rfl:p=n+1:=by omega
   have t1:¬ ((n+1:Nat):Int)≤(n:Int):=by omega
   have R:Hid (GvP w g K o n F f2 (.returned (.tuple #[])) wr):=by
    have h:=hR.out.2
    rw[ext_sum (Nat.le_succ n)]at h
    exact⟨F',y,hy,rfl,hR.out.1,h⟩
   clear hR hlt
   go_wp2
   go_end0
   exact R.out
def TkP(w:World)(g K o n qv:Nat)(F f2:Nat→Nat)(e:Ending)(w':World):Prop:=
 ∃ (F':Nat→Nat) (y:Nat),e=.returned (.bool (decide (0<y)))∧Wt w g K o (n+1) F F' w'∧Tn (from_ F' o) (n+1)+qv*Tn f2 n=Tn (from_ F o) (n+1)+y*tp (n+1)
set_option maxHeartbeats 4000000 in
theorem take_c(g K cK o n cy qv:Nat) (ay:Option Addr) (F f2:Nat→Nat) (w:World) (hB:Bt w g K F) (hy:Rj w ay n f2) (hA:Apart ay n g) (hK:o+n+1≤K) (hK9:K≤100000) (hq:qv<1000000000) :
  Calls Tryz.prog 105 #[.slice (some ⟨g,0,none⟩) K cK,.slice ay n cy,.int .i64 (o:Nat),.int .i64 (qv:Nat)] w (TkP w g K o n qv F f2):=by
 have HB:=Zh hB
 have HY:=Zh hy
 have HA:=Zh hA
 clear hB hy hA
 go_enter Tryz.func105,Tryz.ntmps105
 go_wp2
 go_loopw [9,10] (fun c i wr=>∃ (p y:Nat) (F':Nat→Nat),p≤n+1∧y≤1000000000∧c=.int .i64 y∧i=.int .i64 p∧Hid (Wt w g K o p F F' wr∧Tn (from_ F' o) p+qv*Tn (xt f2 n) p=Tn (from_ F o) p+y*tp p)) (fun _ i _=>n+1-(intOf i).toNat)
 case atStart=>exact⟨0,0,F,Nat.zero_le _,by omega,rfl,rfl,Wt.nil HB.out,by simp[Tn_zero]⟩
 case round=>
  obtain⟨p,y,F',hp,hy,rfl,rfl,hR⟩:=hrel
  by_cases hlt:p<n+1
  ·have t1:(p:Int)≤(n:Int):=by omega
   have hBp:=hR.out.1.bf.2.2 (o+p) (by omega)
   have dz:=hR.out.1.bf.2.1 (o+p) (by omega)
   rw[hR.out.1.out (o+p) (.inr (Nat.le_refl _))]at hBp dz
   obtain⟨z,hz⟩:∃ z,F (o+p)=z:=⟨_,rfl⟩
   rw[hz,Nat.add_comm o p]at hBp
   rw[hz]at dz
   have hb:=hBp.1
   have hf:=hBp.2
   have HZ:=Zh hz
   have tK:(p:Int)+(o:Int)<(K:Int):=by omega
   obtain⟨D1,hD1⟩:∃ D:Int,(z:Int)-(y:Int)=D:=⟨_,rfl⟩
   clear hz hBp
   by_cases l2:p<n
   ·have t2:(p:Int)<(n:Int):=by omega
    obtain⟨b2,o2,rfl,_,g2⟩:=(HY.out.grown hR.out.1.grw HA.out).at_ l2
    have d2:=HY.out.2.1 p l2
    have EX:Hid (xt f2 n p=f2 p):=ext_lt l2
    generalize f2 p=x2 at g2 d2 EX
    obtain⟨m,hm⟩:∃ m,qv*x2=m:=⟨_,rfl⟩
    have em:(qv:Int)*(x2:Int)=(m:Int):=by rw[←hm];exact (Int.natCast_mul _ _).symm
    have hm9:m≤999999998000000001:=by rw[←hm];exact Nat.mul_le_mul (show qv≤999999999 by omega) (show x2≤999999999 by omega)
    obtain⟨D,hD⟩:∃ D:Int,D1-(m:Int)=D:=⟨_,rfl⟩
    have EM:Hid (xt f2 n p*qv=m):=by unfold Hid;rw[EX.out,Nat.mul_comm];exact hm
    clear hm
    have hDD:(z:Int)-(y:Int)-(m:Int)=D:=by omega
    have hDb:-2000000000000000000≤D∧D<1000000000:=by omega
    have hD1b:-1000000000≤D1∧D1<1000000000:=by omega
    by_cases hneg:D<0
    ·obtain⟨N,hN⟩:∃ N:Nat,-D=(N:Int):=⟨(-D).toNat,by omega⟩
     obtain⟨M,hM⟩:∃ M:Nat,N+999999999=M:=⟨_,rfl⟩
     obtain⟨b,hbq⟩:∃ b,M / 1000000000=b:=⟨_,rfl⟩
     obtain⟨c9,hc9⟩:∃ c9,b*1000000000=c9:=⟨_,rfl⟩
     obtain⟨r,hr⟩:∃ r:Nat,D+(c9:Int)=(r:Int):=⟨(D+(c9:Int)).toNat,by omega⟩
     obtain⟨N9,hN9⟩:∃ N9:Nat,N+1000000000=N9:=⟨_,rfl⟩
     have eN:(N:Int)+1000000000=(N9:Int):=by omega
     have eM:(N9:Int)-1=(M:Int):=by omega
     have e1:(M:Int).tdiv 1000000000=(b:Int):=by rw[Int.tdiv_eq_ediv_of_nonneg (by omega)];omega
     have ec:(b:Int)*1000000000=(c9:Int):=by omega
     have hr9:r<1000000000:=by omega
     have hb9:b≤1000000000:=by omega
     have hM9:M≤3000000000000000000:=by omega
     have hN99:N9≤3000000000000000000:=by omega
     have hc99:c9≤4000000000000000000:=by omega
     have hNN:N≤3000000000000000000:=by omega
     have HS:Hid (r+(xt f2 n p*qv+y)=F (o+p)+b*1000000000):=by unfold Hid;rw[EM.out,HZ.out];omega
     have NX:Hid (Wt w g K o (p+1) F (put F' (o+p) r) (wr.setCell ⟨g,p+o,none⟩ (.int .i64 r))∧Tn (from_ (put F' (o+p) r) o) (p+1)+qv*Tn (xt f2 n) (p+1)=Tn (from_ F o) (p+1)+b*tp (p+1)):=by
      refine⟨hR.out.1.put (by omega) hr9,?_⟩
      rw[from_putT,Tn_put,tp_succ,Tn_succ,Tn_succ]
      exact dstep_submul hR.out.2 HS.out
     clear hM hbq hc9 hN9 hR EM HZ hDD
     go_wp2
     go_roundw
     case rel=>exact⟨p+1,b,put F' (o+p) r,by omega,hb9,by go_num,by go_num,NX.out⟩
     case measure=>first | (simp[intOf];done) | (simp[intOf];omega)
    ·obtain⟨r,hr⟩:∃ r:Nat,D=(r:Int):=⟨(D).toNat,by omega⟩
     have hr9:r<1000000000:=by omega
     have HS:Hid (r+(xt f2 n p*qv+y)=F (o+p)+0*1000000000):=by unfold Hid;rw[EM.out,HZ.out];omega
     have NX:Hid (Wt w g K o (p+1) F (put F' (o+p) r) (wr.setCell ⟨g,p+o,none⟩ (.int .i64 r))∧Tn (from_ (put F' (o+p) r) o) (p+1)+qv*Tn (xt f2 n) (p+1)=Tn (from_ F o) (p+1)+0*tp (p+1)):=by
      refine⟨hR.out.1.put (by omega) hr9,?_⟩
      rw[from_putT,Tn_put,tp_succ,Tn_succ,Tn_succ]
      exact dstep_submul hR.out.2 HS.out
     have hr0:¬ (r:Int)<0:=by omega
     clear hR EM HZ hDD
     go_wp2
     go_roundw
     case rel=>exact⟨p+1,0,put F' (o+p) r,by omega,by omega,by go_num,by go_num,NX.out⟩
     case measure=>first | (simp[intOf];done) | (simp[intOf];omega)
   ·obtain rfl:p=n:=by omega
    have t2:¬ (p:Int)<(p:Int):=by omega
    have EM:Hid (xt f2 p p*qv=0):=by unfold Hid;rw[ext_ge (Nat.le_refl _),Nat.zero_mul]
    have hDb:-1000000000≤D1∧D1<1000000000:=by omega
    by_cases hneg:D1<0
    ·obtain⟨N,hN⟩:∃ N:Nat,-D1=(N:Int):=⟨(-D1).toNat,by omega⟩
     obtain⟨M,hM⟩:∃ M:Nat,N+999999999=M:=⟨_,rfl⟩
     obtain⟨b,hbq⟩:∃ b,M / 1000000000=b:=⟨_,rfl⟩
     obtain⟨c9,hc9⟩:∃ c9,b*1000000000=c9:=⟨_,rfl⟩
     obtain⟨r,hr⟩:∃ r:Nat,D1+(c9:Int)=(r:Int):=⟨(D1+(c9:Int)).toNat,by omega⟩
     obtain⟨N9,hN9⟩:∃ N9:Nat,N+1000000000=N9:=⟨_,rfl⟩
     have eN:(N:Int)+1000000000=(N9:Int):=by omega
     have eM:(N9:Int)-1=(M:Int):=by omega
     have e1:(M:Int).tdiv 1000000000=(b:Int):=by rw[Int.tdiv_eq_ediv_of_nonneg (by omega)];omega
     have ec:(b:Int)*1000000000=(c9:Int):=by omega
     have hr9:r<1000000000:=by omega
     have hb9:b≤1000000000:=by omega
     have hM9:M≤3000000000000000000:=by omega
     have hN99:N9≤3000000000000000000:=by omega
     have hc99:c9≤4000000000000000000:=by omega
     have hNN:N≤3000000000000000000:=by omega
     have HS:Hid (r+(xt f2 p p*qv+y)=F (o+p)+b*1000000000):=by unfold Hid;rw[EM.out,HZ.out];omega
     have NX:Hid (Wt w g K o (p+1) F (put F' (o+p) r) (wr.setCell ⟨g,p+o,none⟩ (.int .i64 r))∧Tn (from_ (put F' (o+p) r) o) (p+1)+qv*Tn (xt f2 p) (p+1)=Tn (from_ F o) (p+1)+b*tp (p+1)):=by
      refine⟨hR.out.1.put (by omega) hr9,?_⟩
      rw[from_putT,Tn_put,tp_succ,Tn_succ,Tn_succ]
      exact dstep_submul hR.out.2 HS.out
     clear hM hbq hc9 hN9 hR EM HZ
     go_wp2
     go_roundw
     case rel=>exact⟨p+1,b,put F' (o+p) r,by omega,hb9,by go_num,by go_num,NX.out⟩
     case measure=>first | (simp[intOf];done) | (simp[intOf];omega)
    ·obtain⟨r,hr⟩:∃ r:Nat,D1=(r:Int):=⟨(D1).toNat,by omega⟩
     have hr9:r<1000000000:=by omega
     have HS:Hid (r+(xt f2 p p*qv+y)=F (o+p)+0*1000000000):=by unfold Hid;rw[EM.out,HZ.out];omega
     have NX:Hid (Wt w g K o (p+1) F (put F' (o+p) r) (wr.setCell ⟨g,p+o,none⟩ (.int .i64 r))∧Tn (from_ (put F' (o+p) r) o) (p+1)+qv*Tn (xt f2 p) (p+1)=Tn (from_ F o) (p+1)+0*tp (p+1)):=by
      refine⟨hR.out.1.put (by omega) hr9,?_⟩
      rw[from_putT,Tn_put,tp_succ,Tn_succ,Tn_succ]
      exact dstep_submul hR.out.2 HS.out
     have hr0:¬ (r:Int)<0:=by omega
     clear hR EM HZ
     go_wp2
     go_roundw
     case rel=>exact⟨p+1,0,put F' (o+p) r,by omega,by omega,by go_num,by go_num,NX.out⟩
     case measure=>first | (simp[intOf];done) | (simp[intOf];omega)
  ·obtain rfl:p=n+1:=by omega
   have t1:¬ ((n+1:Nat):Int)≤(n:Int):=by omega
   have e9:decide ((0:Int)<(y:Int))=decide (0<y):=by simp
   have R:Hid (TkP w g K o n qv F f2 (.returned (.bool (decide (0<y)))) wr):=by
    have h:=hR.out.2
    rw[ext_sum (Nat.le_succ n)]at h
    exact⟨F',y,rfl,hR.out.1,h⟩
   clear hR hlt
   go_wp2
   go_ret
   have:=R.out
   simpa using this
structure Gu (top x2 y1 y2 q:Nat):Prop where
 lt:q<1000000000
 le:q*(y1*1000000000+y2)≤top*1000000000+x2
 most:∀ Q,Q<1000000000→Q*(y1*1000000000+y2)≤top*1000000000+x2→Q≤q
structure Gi (top x2 y1 y2 q r:Nat):Prop where
 eq:q*y1+r=top
 most:∀ Q,Q<1000000000→Q*(y1*1000000000+y2)≤top*1000000000+x2→Q≤q
theorem gi_start{top x2 y1 y2:Nat}(h1:0<y1)(hx:x2<1000000000):Gi top x2 y1 y2 (top / y1) (top % y1):=by
 refine⟨Nat.div_add_mod' _ _,fun Q _ h=>(Nat.le_div_iff_mul_le h1).2 ?_⟩
 have h2:Q*y1*1000000000≤top*1000000000+x2:=by
  have:Q*(y1*1000000000+y2)=Q*y1*1000000000+Q*y2:=by rw[Nat.mul_add,Nat.mul_assoc]
  omega
 omega
theorem gi_step{top x2 y1 y2 q r:Nat}(h:Gi top x2 y1 y2 (q+1) r)(hc:1000000000≤q+1∨r*1000000000+x2<(q+1)*y2):Gi top x2 y1 y2 q (r+y1):=by
 refine⟨by have:=h.eq;rw[Nat.add_mul]at this;omega,fun Q hQ hle=>?_⟩
 have h1:=h.most Q hQ hle
 rcases Nat.lt_or_ge Q (q+1) with l|l
 ·omega
 ·obtain rfl:Q=q+1:=by omega
  rcases hc with c|c
  ·omega
  ·have e:=h.eq
   have:(q+1)*(y1*1000000000+y2)=(q+1)*y1*1000000000+(q+1)*y2:=by rw[Nat.mul_add,Nat.mul_assoc]
   omega
theorem gi_end1{top x2 y1 y2 q r:Nat}(h:Gi top x2 y1 y2 q r)(hq:q<1000000000)(hc:q*y2≤r*1000000000+x2):Gu top x2 y1 y2 q:=by
 refine⟨hq,?_,h.most⟩
 have e:=h.eq
 have:q*(y1*1000000000+y2)=q*y1*1000000000+q*y2:=by rw[Nat.mul_add,Nat.mul_assoc]
 omega
theorem gi_end2{top x2 y1 y2 q r:Nat}(h:Gi top x2 y1 y2 q r)(hr:1000000000≤r)(ht:top<(y1+1)*1000000000)(hy2:y2<1000000000):Gu top x2 y1 y2 q:=by
 have e:=h.eq
 have hq:q<1000000000:=by
  rcases Nat.lt_or_ge q 1000000000 with l|l
  ·exact l
  ·have:=Nat.mul_le_mul_right y1 l
   omega
 refine gi_end1 h hq ?_
 have:=Nat.mul_le_mul (show q≤999999999 by omega) (show y2≤999999999 by omega)
 omega
theorem top_q{top y1 q b:Nat}(h1:0<y1)(hq:top / y1=q)(ht:top<(y1+1)*b):q≤2*b:=by
 rw[←hq]
 refine Nat.div_le_of_le_mul ?_
 rw[Nat.add_mul]at ht
 have h2:=Nat.mul_le_mul_right b (show 1≤y1 from h1)
 have h3:y1*(2*b)=y1*b+y1*b:=by rw[Nat.mul_left_comm];omega
 omega
theorem wrap_lo{q:Nat}(h:q≤2000000000):wrap64 (q:Int)=(q:Int)∧IntKind.i64.wrap (q:Int)=(q:Int):=⟨by unfold wrap64;omega,by rw[IntKind.wrap_i64]<;>omega⟩
def GuP(top x2 y1 y2:Nat)(w:World)(e:Ending)(w':World):Prop:=∃ q,e=.returned (.int .i64 (q:Nat))∧Gu top x2 y1 y2 q∧∃ k,w'=w.drewN k
set_option maxHeartbeats 4000000 in
theorem guess_l(K cK o m cy i0 i1 i2 m1 n:Nat) (ax ay:Option Addr) (F f2:Nat→Nat) (w:World) (hi0:o+m+2=i0) (hi1:o+m+1=i1) (hi2:o+m=i2) (hm1:m+1=m1) (hn:m+2=n) (hx:Rj w ax K F) (hy:Rj w ay n f2) (hK:i0<K) (hy1:0<f2 m1)
  (ht:F i0*1000000000+F i1<(f2 m1+1)*1000000000) :
  Calls Tryz.prog 104 #[.slice ax K cK,.slice ay n cy,.int .i64 (o:Nat)] w (GuP (F i0*1000000000+F i1) (F i2) (f2 m1) (f2 m) w):=by
 obtain⟨b1,o1,rfl,_,g0⟩:=hx.at_ (show i0<K by omega)
 obtain⟨b1',o1',e1,_,g1⟩:=hx.at_ (show i1<K by omega)
 injection e1 with e1
 injection e1 with e1 e1'
 subst e1 e1'
 obtain⟨b1',o1',e1,_,g2⟩:=hx.at_ (show i2<K by omega)
 injection e1 with e1
 injection e1 with e1 e1'
 subst e1 e1'
 obtain⟨b2,o2,rfl,_,k1⟩:=hy.at_ (show m1<n by omega)
 obtain⟨b2',o2',e1,_,k2⟩:=hy.at_ (show m<n by omega)
 injection e1 with e1
 injection e1 with e1 e1'
 subst e1 e1'
 have d0:=hx.2.1 i0 (by omega)
 have d1:=hx.2.1 i1 (by omega)
 have d2:=hx.2.1 i2 (by omega)
 have c1:=hy.2.1 m1 (by omega)
 have c2:=hy.2.1 m (by omega)
 have hK9:=hx.1
 have hn9:=hy.1
 clear hx hy
 generalize F i0=x0 at *
 generalize F i1=x1 at *
 generalize F i2=x2 at *
 generalize f2 m1=y1 at *
 generalize f2 m=y2 at *
 have a0:(o:Int)+(n:Int)=(i0:Int):=by omega
 have a1:(i0:Int)-1=(i1:Int):=by omega
 have a2:(i0:Int)-2=(i2:Int):=by omega
 have a3:(n:Int)-1=(m1:Int):=by omega
 have a4:(n:Int)-2=(m:Int):=by omega
 have l0:(i0:Int)<(K:Int):=by omega
 have l1:(i1:Int)<(K:Int):=by omega
 have l2:(i2:Int)<(K:Int):=by omega
 have l3:(m1:Int)<(n:Int):=by omega
 have l4:(m:Int)<(n:Int):=by omega
 have wi1:IntKind.i64.wrap (i1:Int)=(i1:Int):=by rw[IntKind.wrap_i64]<;>omega
 have wi2:IntKind.i64.wrap (i2:Int)=(i2:Int):=by rw[IntKind.wrap_i64]<;>omega
 have wm1:IntKind.i64.wrap (m1:Int)=(m1:Int):=by rw[IntKind.wrap_i64]<;>omega
 have wm:IntKind.i64.wrap (m:Int)=(m:Int):=by rw[IntKind.wrap_i64]<;>omega
 clear hi0 hi1 hi2 hm1 hn hK
 obtain⟨t0,ht0⟩:∃ t,x0*1000000000=t:=⟨_,rfl⟩
 obtain⟨top,htop⟩:∃ t,t0+x1=t:=⟨_,rfl⟩
 rw[ht0,htop]at ht ⊢
 have f0:(x0:Int)*1000000000=(t0:Int):=by omega
 have f1:(t0:Int)+(x1:Int)=(top:Int):=by omega
 have htop9:top<1000000000000000000:=by omega
 have ht09:t0<1000000000000000000:=by omega
 have HT:=Zh ht
 obtain⟨q,hq⟩:∃ q,top / y1=q:=⟨_,rfl⟩
 obtain⟨r,hr⟩:∃ r,top % y1=r:=⟨_,rfl⟩
 have G0:Hid (Gi top x2 y1 y2 q r∧r<1000000000∧q≤2000000000):=by
  have h:=gi_start (top:=top) (y2:=y2) hy1 d2
  rw[hq,hr]at h
  refine⟨h,by rw[←hr];have:=Nat.mod_lt top hy1;omega,?_⟩
  exact top_q hy1 hq HT.out
 have e1:(top:Int).tdiv (y1:Int)=(q:Int):=by rw[Int.tdiv_eq_ediv_of_nonneg (by omega),←hq];exact (Int.natCast_ediv top y1).symm
 have e2:(top:Int).tmod (y1:Int)=(r:Int):=by rw[Int.tmod_eq_emod_of_nonneg (by omega),←hr];exact (Int.natCast_emod top y1).symm
 have hy0:(y1:Int)≠0:=by omega
 have hqw:=(wrap_lo G0.out.2.2).1
 have hqw2:=(wrap_lo G0.out.2.2).2
 clear hq hr ht0 htop ht
 go_enter Tryz.func104,Tryz.ntmps104
 go_wp2_with fail
 go_quiet (fail)
 go_wp2_with fail
 clear e1 e2
 go_loopw [9,10] (fun qv rv wr=>∃ q r:Nat,qv=.int .i64 q∧rv=.int .i64 r∧(∃ k,wr=w.drewN k)∧Hid (Gi top x2 y1 y2 q r∧r<1000000000∧q≤2000000000)) (fun qv _ _=>(intOf qv).toNat)
 case atStart=>exact⟨q,r,rfl,rfl,⟨_,rfl⟩,G0.out⟩
 case round=>
  clear G0
  obtain⟨q,r,rfl,rfl,⟨kd,rfl⟩,hG⟩:=hrel
  have hr9:=hG.out.2.1
  have hq9:=hG.out.2.2
  obtain⟨p,hp⟩:∃ p,q*y2=p:=⟨_,rfl⟩
  have ep:(q:Int)*(y2:Int)=(p:Int):=by rw[←hp];exact (Int.natCast_mul _ _).symm
  have hp9:p≤2000000000*999999999:=by rw[←hp];exact Nat.mul_le_mul hq9 (show y2≤999999999 by omega)
  obtain⟨s0,hs0⟩:∃ s,r*1000000000=s:=⟨_,rfl⟩
  obtain⟨s,hs⟩:∃ s,s0+x2=s:=⟨_,rfl⟩
  have es0:(r:Int)*1000000000=(s0:Int):=by omega
  have es:(s0:Int)+(x2:Int)=(s:Int):=by omega
  have hs09:s0<1000000000000000000:=by omega
  have hs9:s<1000000000000000000:=by omega
  have hp99:p<2000000000000000000:=by omega
  by_cases hc:1000000000≤q∨s<p
  ·obtain⟨q',rfl⟩:∃ q',q=q'+1:=⟨q-1,by
    rcases Nat.eq_zero_or_pos q with e|e
    ·subst e;rw[Nat.zero_mul]at hp;omega
    ·omega⟩
   have eq':((q'+1:Nat):Int)-1=(q':Int):=by omega
   obtain⟨r',hr'⟩:∃ r',r+y1=r':=⟨_,rfl⟩
   have er:(r:Int)+(y1:Int)=(r':Int):=by omega
   have hr99:r' < 2000000000:=by omega
   have NG:Hid (Gi top x2 y1 y2 q' r'):=by
    have:=gi_step hG.out.1 (by rcases hc with c | c;exact .inl c;exact .inr (by omega))
    rw[hr']at this
    exact this
   have EN:Hid (1000000000≤r'→Gu top x2 y1 y2 q'):=fun h=>gi_end2 NG.out h HT.out c2
   clear hp hs0 hs hr' hG
   obtain⟨qq,hqq⟩:∃ qq:Int,((q'+1:Nat):Int)=qq:=⟨_,rfl⟩
   rw[hqq]at eq' ep
   rw[hqq]
   have hqqb:1≤qq∧qq≤2000000000:=by omega
   have HQQ:=Zh hqq
   clear hqq
   by_cases c0:1000000000≤q'+1
   ·have c0':(1000000000:Int)≤qq:=by have:=HQQ.out;omega
    have c0b:decide ((1000000000:Int)≤qq)=true:=by rw[decide_eq_true_iff];exact c0'
    clear hc
    by_cases c1:1000000000≤r'
    ·have c1b:decide ((1000000000:Int)≤(r':Int))=true:=by rw[decide_eq_true_iff];omega
     have E:=Zh (EN.out c1)
     clear c0' c1 EN
     go_wp2_with fail
     go_quiet (fail)
     go_wp2
     go_ret
     exact⟨q',rfl,E.out,_,rfl⟩
    ·have c1b:decide ((1000000000:Int)≤(r':Int))=false:=by rw[decide_eq_false_iff_not];omega
     have c1l:r' < 1000000000:=by omega
     clear c0' c1 EN
     go_wp2_with fail
     go_quiet (fail)
     go_wp2
     go_roundw
     case rel=>exact⟨q',r',by go_num,by go_num,⟨_,rfl⟩,NG.out,by omega,by omega⟩
     case measure=>have:=HQQ.out;simp[intOf];omega
   ·have c0':¬ (1000000000:Int)≤qq:=by have:=HQQ.out;omega
    have c2':(s:Int)<(p:Int):=by omega
    have c0b:decide ((1000000000:Int)≤qq)=false:=by rw[decide_eq_false_iff_not];exact c0'
    have c2b:decide ((s:Int)<(p:Int))=true:=by rw[decide_eq_true_iff];exact c2'
    clear hc
    by_cases c1:1000000000≤r'
    ·have c1b:decide ((1000000000:Int)≤(r':Int))=true:=by rw[decide_eq_true_iff];omega
     have E:=Zh (EN.out c1)
     clear c0' c1 EN
     go_wp2_with fail
     go_quiet (fail)
     go_wp2
     go_ret
     exact⟨q',rfl,E.out,_,rfl⟩
    ·have c1b:decide ((1000000000:Int)≤(r':Int))=false:=by rw[decide_eq_false_iff_not];omega
     have c1l:r' < 1000000000:=by omega
     clear c0' c1 EN
     go_wp2_with fail
     go_quiet (fail)
     go_wp2
     go_roundw
     case rel=>exact⟨q',r',by go_num,by go_num,⟨_,rfl⟩,NG.out,by omega,by omega⟩
     case measure=>have:=HQQ.out;simp[intOf];omega
  ·have c0':¬ (1000000000:Int)≤(q:Int):=by omega
   have c2':¬ (s:Int)<(p:Int):=by omega
   have c0b:decide ((1000000000:Int)≤(q:Int))=false:=by rw[decide_eq_false_iff_not];exact c0'
   have c2b:decide ((s:Int)<(p:Int))=false:=by rw[decide_eq_false_iff_not];exact c2'
   have E:Hid (Gu top x2 y1 y2 q):=gi_end1 hG.out.1 (by omega) (by omega)
   have c2f:((s:Int)<(p:Int))=False:=eq_false c2'
   clear hp hs0 hs hG hc c0' c2'
   go_wp2_with fail
   go_quiet (fail)
   go_wp2
   go_ret
   exact⟨q,rfl,E.out,_,drewN_drewN _ _ _⟩
theorem guess_c(K cK o m cy:Nat) (ax ay:Option Addr) (F f2:Nat→Nat) (w:World) (hx:Rj w ax K F) (hy:Rj w ay (m+2) f2) (hK:o+m+2<K) (hy1:0<f2 (m+1))
  (ht:F (o+m+2)*1000000000+F (o+m+1)<(f2 (m+1)+1)*1000000000) :
  Calls Tryz.prog 104 #[.slice ax K cK,.slice ay (m+2) cy,.int .i64 (o:Nat)] w (GuP (F (o+m+2)*1000000000+F (o+m+1)) (F (o+m)) (f2 (m+1)) (f2 m) w):=
 guess_l K cK o m cy _ _ _ _ _ ax ay F f2 w rfl rfl rfl rfl rfl hx hy hK hy1 ht
theorem Tn_at(f:Nat→Nat)(k m:Nat):Tn f (k+m)=Tn f k+tp k*Tn (from_ f k) m:=Tn_split f k m
theorem Tn_window{f g:Nat→Nat}{i m K:Nat}(h:i+m≤K)(he:∀ j,j<K→(j<i∨i+m≤j)→g j=f j):Tn g K+tp i*Tn (from_ f i) m=Tn f K+tp i*Tn (from_ g i) m:=by
 obtain⟨d,rfl⟩:=Nat.exists_eq_add_of_le h
 rw[Tn_at f (i+m) d,Tn_at g (i+m) d,Tn_at f i m,Tn_at g i m]
 have e1:Tn g i=Tn f i:=Tn_congr (fun j hj=>he j (by omega) (.inl hj))
 have e2:Tn (from_ g (i+m)) d=Tn (from_ f (i+m)) d:=Tn_congr (fun j hj=>he _ (by omega) (.inr (by omega)))
 rw[e1,e2]
 omega
theorem Tn_high{f:Nat→Nat}{n m:Nat}(h:Tn f (n+m)<tp n):Tn (from_ f n) m=0∧Tn f (n+m)=Tn f n:=by
 rw[Tn_at]at h
 have hz:Tn (from_ f n) m=0:=by
  rcases Nat.eq_zero_or_pos (Tn (from_ f n) m) with e|e
  ·exact e
  ·have:tp n*1≤tp n*Tn (from_ f n) m:=Nat.mul_le_mul_left _ e
   omega
 refine⟨hz,?_⟩
 rw[Tn_at,hz]
 omega
theorem tlong_step{A SR SR' d q P OS W W':Nat} (h:SR+d*(P*1000000000*OS)=A) (hw:SR'+P*W=SR+P*W') (hq:W'+q*d=W) :
  SR'+d*(P*(q+1000000000*OS))=A:=by
 have:P*W=P*W'+P*(q*d):=by rw[←hq,Nat.mul_add]
 grind
theorem twin_lt{r x d:Nat}(hr:r<1000000000)(hx:x<d):r+1000000000*x<1000000000*d:=by
 have:1000000000*(x+1)≤1000000000*d:=Nat.mul_le_mul_left _ hx
 omega
theorem tlong_zero{F:Nat→Nat} {p k K d:Nat} (hK:p+(k+1)≤K) (hd:d<tp k) (h2:Tn (from_ F (p+1)) (K-(p+1))<d) :
  Tn (from_ F (p+(k+1))) (K-(p+(k+1)))=0∧Tn (from_ F (p+1)) k<d:=by
 obtain⟨r,hr⟩:∃ r,K-(p+1)=k+r:=⟨K-(p+1)-k,by omega⟩
 rw[hr]at h2
 have h:=Tn_high (f:=from_ F (p+1)) (n:=k) (m:=r) (by omega)
 rw[from_from]at h
 refine⟨?_,by rw[←h.2];exact h2⟩
 rw[show p+(k+1)=p+1+k by omega,show K-(p+1+k)=r by omega]
 exact h.1
theorem tlong_win{F:Nat→Nat} {p k K d:Nat} (hK:p+(k+1)≤K) (hd:d<tp k) (hF:F p<1000000000) (h2:Tn (from_ F (p+1)) (K-(p+1))<d) :
  Tn (from_ F p) (k+1)<1000000000*d:=by
 rw[Tn_consX]
 exact twin_lt hF (tlong_zero hK hd h2).2
theorem tlong_next{F F2 G:Nat→Nat} {p k K L d A q:Nat} (hK:p+(k+1)≤K) (hL:p<L) (hd:d<tp k)
  (h1:Tn F K+d*(tp (p+1)*Tn (from_ G (p+1)) (L-(p+1)))=A) (h2:Tn (from_ F (p+1)) (K-(p+1))<d)
  (hout:∀ j,j<p∨p+(k+1)≤j→F2 j=F j) (hq:Tn (from_ F2 p) (k+1)+q*d=Tn (from_ F p) (k+1)) (hlt:Tn (from_ F2 p) (k+1)<d) :
  Tn F2 K+d*(tp p*Tn (from_ (put G p q) p) (L-p))=A∧Tn (from_ F2 p) (K-p)<d:=by
 constructor
 ·have hw:=Tn_window (f:=F) (g:=F2) hK (fun j _ hj=>hout j hj)
  rw[tp_succ]at h1
  have e1:Tn (from_ (put G p q) p) (L-p)=q+1000000000*Tn (from_ G (p+1)) (L-(p+1)):=by
   rw[show L-p=(L-(p+1))+1 by omega,Tn_consX,put_same]
   congr 2
   exact Tn_congr (fun j _=>put_ne (by omega))
  rw[e1]
  exact tlong_step h1 hw hq
 ·obtain⟨r,hr⟩:∃ r,K-p=(k+1)+r:=⟨K-p-(k+1),by omega⟩
  have hz:=(tlong_zero hK hd h2).1
  rw[show K-(p+(k+1))=r by omega]at hz
  rw[hr,Tn_at,from_from]
  have e:Tn (from_ F2 (p+(k+1))) r=Tn (from_ F (p+(k+1))) r:=Tn_congr (fun j _=>hout _ (.inr (by omega)))
  rw[e,hz,Nat.mul_zero]
  exact hlt
theorem top3{f:Nat→Nat}{p m:Nat}(hF:Ld (from_ f p) m):∃ r,r<tp m∧Tn (from_ f p) (m+2+1)=((f (p+m+2)*1000000000+f (p+m+1))*1000000000+f (p+m))*tp m+r:=by
 refine⟨Tn (from_ f p) m,Tn_lt hF,?_⟩
 rw[show m+2+1=m+1+1+1 by omega,Tn_succ,Tn_succ,Tn_succ,tp_succ (m+1),tp_succ m]
 have e0:from_ f p m=f (p+m):=rfl
 have e1:from_ f p (m+1)=f (p+m+1):=rfl
 have e2:from_ f p (m+1+1)=f (p+m+2):=rfl
 rw[e0,e1,e2]
 grind
theorem top2{f:Nat→Nat}{m:Nat}(hF:Ld f m):∃ r,r<tp m∧Tn f (m+2)=(f (m+1)*1000000000+f m)*tp m+r:=by
 refine⟨Tn f m,Tn_lt hF,?_⟩
 rw[show m+2=m+1+1 by omega,Tn_succ,Tn_succ,tp_succ]
 grind
theorem lt_of_scaled{a b P r:Nat}(h:a*P<b*P+r)(hr:r≤P):a<b+1:=by
 have:a*P<(b+1)*P:=by rw[Nat.add_mul,Nat.one_mul];omega
 exact Nat.lt_of_mul_lt_mul_right this
theorem gu_digit{top x2 y1 y2 q W d P rw rd:Nat} (hg:Gu top x2 y1 y2 q) (hP:0<P) (hW:W=(top*1000000000+x2)*P+rw) (hrw:rw<P) (hd:d=(y1*1000000000+y2)*P+rd) (hrd:rd<P)
  (h1:0<y1) (hlt:W<1000000000*d):q*d<W+d∧W<(q+1)*d:=by
 have hq:=hg.lt
 have hle:=hg.le
 obtain⟨Y,hY⟩:∃ Y,y1*1000000000+y2=Y:=⟨_,rfl⟩
 obtain⟨X,hX⟩:∃ X,top*1000000000+x2=X:=⟨_,rfl⟩
 have most:=hg.most
 rw[hY]at hle hd most
 rw[hX]at hle hW most
 have hYb:1000000000≤Y:=by omega
 have hdP:1000000000*P≤d:=by rw[hd];have:=Nat.mul_le_mul_right P hYb;omega
 constructor
 ·have e1:q*Y*P≤X*P:=Nat.mul_le_mul_right P hle
  have e2:q*rd≤999999999*P:=Nat.mul_le_mul (by omega) (by omega)
  have e3:q*d=q*Y*P+q*rd:=by rw[hd,Nat.mul_add,Nat.mul_assoc]
  omega
 ·have hd0:0<d:=by omega
  have h2:W / d<1000000000:=Nat.div_lt_of_lt_mul (by rw[Nat.mul_comm];exact hlt)
  have h3:W / d*Y≤X:=by
   have e1:W / d*d≤W:=Nat.div_mul_le_self W d
   have e2:W / d*Y*P≤W / d*d:=by rw[Nat.mul_assoc];exact Nat.mul_le_mul_left _ (by omega)
   have:=lt_of_scaled (a:=W / d*Y) (b:=X) (P:=P) (r:=rw+1) (by omega) (by omega)
   omega
  have h4:=most _ h2 h3
  have h5:=Nat.lt_div_mul_add (a:=W) hd0
  have h6:(W / d+1)*d≤(q+1)*d:=Nat.mul_le_mul_right _ (by omega)
  rw[Nat.add_mul,Nat.one_mul]at h6
  omega
theorem take_no{W W' q d b B:Nat}(h:W'+q*d=W+b*B)(hB:W' < B)(hb:¬ 0<b):W'+q*d=W:=by
 obtain rfl:b=0:=by omega
 omega
theorem take_yes{W W' W2 q d b y B:Nat}(h:W'+q*d=W+b*B)(h2:W2+y*B=W'+d)(hB:W2<B)(hd:d<B)(hW:W' < B)(hb:0<b)(hlt:q*d<W+d):0<q∧W2+(q-1)*d=W:=by
 have hbB:B≤b*B:=Nat.le_mul_of_pos_left _ hb
 have hq:0<q:=by
  rcases Nat.eq_zero_or_pos q with e|e
  ·subst e;omega
  ·exact e
 refine⟨hq,?_⟩
 obtain⟨p,rfl⟩:∃ p,q=p+1:=⟨q-1,by omega⟩
 rw[Nat.add_sub_cancel]
 rw[Nat.add_mul,Nat.one_mul]at h hlt
 -- W2+y B+p d=W+b B,W2<B,p d≤W .. so y=b
 have e:W2+y*B+p*d=W+b*B:=by omega
 have hyb:y=b:=by
  rcases Nat.lt_trichotomy y b with l|l|l
  ·have:=Nat.mul_le_mul_right B (show y+1≤b from l)
   rw[Nat.add_mul,Nat.one_mul]at this
   omega
  ·exact l
  ·have:=Nat.mul_le_mul_right B (show b+1≤y from l)
   rw[Nat.add_mul,Nat.one_mul]at this
   omega
 subst hyb
 omega
theorem unscale{n1 n2 f Q R:Nat}(hf:0<f)(h:R+n2*f*Q=n1*f)(hR:R<n2*f):Q=n1 / n2∧R / f=n1 % n2:=by
 have hn:0<n2:=by
  rcases Nat.eq_zero_or_pos n2 with e|e
  ·subst e;omega
  ·exact e
 have hdv:f ∣ R:=by
  have h1:f ∣ n2*f*Q:=Nat.dvd_trans (Nat.dvd_mul_left f n2) (Nat.dvd_mul_right _ _)
  have h2:f ∣ R+n2*f*Q:=by rw[h];exact Nat.dvd_mul_left _ _
  exact (Nat.dvd_add_left h1).1 h2
 obtain⟨r,rfl⟩:=hdv
 have e:r+n2*Q=n1:=by
  have:f*(r+n2*Q)=f*n1:=by rw[Nat.mul_add,←Nat.mul_assoc f n2,Nat.mul_comm f n2,h,Nat.mul_comm]
  exact Nat.eq_of_mul_eq_mul_left hf this
 have hr:r<n2:=by
  rw[Nat.mul_comm n2]at hR
  exact Nat.lt_of_mul_lt_mul_left hR
 rw[Nat.mul_div_cancel_left r hf,←e]
 exact⟨by rw[Nat.add_mul_div_left _ _ hn,Nat.div_eq_of_lt hr,Nat.zero_add],by rw[Nat.add_mul_mod_self_left,Nat.mod_eq_of_lt hr]⟩
end Go.Proofs.YtghgbhmiliiohaaGreatDoor
