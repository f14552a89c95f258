/-
  Numbers of the reference: times.
-/
import Derived.Test.YtghgbhmiliiohaaGreatDoorAMQ
import Derived.Test.YtghgbhmiliiohaaGreatDoorAM31
import Derived.Test.YtghgbhmiliiohaaGreatDoorAM12
set_option maxRecDepth 100000
namespace Go.Proofs.YtghgbhmiliiohaaGreatDoor
open Go.RowKit
def NtTrim(a:Option Addr)(c n:Nat)(w:World)(e:Ending)(w':World):Prop:=∃ m,e=.returned (.slice a m c)∧Nt w' a m c n∧w=w'
set_option maxHeartbeats 1000000 in
theorem ntrim_c(a:Option Addr) (k c:Nat) (f:Nat→Nat) (w:World) (h:Rj w a k f) (hk:k≤c) (hc:c≤9223372036854775807) (ha:Pl a c) :
  Calls Tryz.prog 75 #[.slice a k c] w (NtTrim a c (Tn f k) w):=by
 have H:=Zh h
 have hk2:=h.1
 clear h
 go_enter Tryz.func75,Tryz.ntmps75
 go_wp2
 go_loop [3] (fun i=>∃ m:Nat,m≤k∧i=.int .i64 m∧Hid (Tn f m=Tn f k)) (fun i=>(intOf i).toNat)
 case atStart=>exact⟨k,Nat.le_refl _,rfl,rfl⟩
 case round=>
  obtain⟨m,hm,rfl,hS⟩:=hrel
  rcases Nat.eq_zero_or_pos m with e|e
  ·subst e
   go_wp2
   go_ret
   exact⟨0,rfl,by rw[←hS.out];exact Nt.zero _ _ _ hc ha,rfl⟩
  ·obtain⟨p,rfl⟩:∃ p,m=p+1:=⟨m-1,by omega⟩
   obtain⟨b,off,rfl,hb,hcell⟩:=H.out.at_ (show p<k by omega)
   have e1:((p+1:Nat):Int)-1=(p:Int):=by omega
   have hpk:(p:Int)<(k:Int):=by omega
   have HS:=Zh (Tn_succ f p)
   by_cases h0:f p=0
   ·rw[h0]at hcell HS
    have HS2:Hid (Tn f p=Tn f k):=by unfold Hid;rw[←hS.out,HS.out];omega
    go_wp2
    go_round
    case rel=>exact⟨p,by omega,by go_num,HS2⟩
    case measure=>simp[intOf];try omega
   ·have HT:Hid (Tod f (p+1)):=.inr (by simpa using h0)
    have d:((f p:Int) == 0)=false:=by rw[beq_eq_false_iff_ne];omega
    have d':(f p == 0)=false:=by rw[beq_eq_false_iff_ne];exact h0
    generalize f p=x at *
    go_wp2
    go_ret
    exact⟨p+1,rfl,⟨f,H.out.low hm,by omega,hc,HT.out,hS.out,ha⟩,rfl⟩
set_option maxHeartbeats 2000000 in
theorem norder_c(a1 a2:Option Addr) (k1 k2 c1 c2 n1 n2:Nat) (w:World) (h1:Nt w a1 k1 c1 n1) (h2:Nt w a2 k2 c2 n2) :
  Calls Tryz.prog 59 #[.slice a1 k1 c1,.slice a2 k2 c2] w fun e w'=>e=.returned (.int .i64 (sgn n1 n2))∧∃ q,w'=w.drewN q:=by
 obtain⟨f,r1,_,_,t1,s1,_⟩:=h1
 obtain⟨g,r2,_,_,t2,s2,_⟩:=h2
 have hk1:=r1.1
 have hk2:=r2.1
 by_cases hk:k1=k2
 ·subst hk
  have H1:=Zh r1
  have H2:=Zh r2
  have S1:=Zh s1
  have S2:=Zh s2
  clear r1 r2 t1 t2 s1 s2
  go_enter Tryz.func59,Tryz.ntmps59
  go_wp2
  go_loopw [5] (fun i wr=>∃ m:Nat,m≤k1∧i=.int .i64 ((m:Int)-1)∧Hid ((∀ j,m≤j→j<k1→f j=g j)∧∃ q,wr=w.drewN q)) (fun i _=>(intOf i+1).toNat)
  case atStart=>exact⟨k1,Nat.le_refl _,rfl,fun j h1 h2=>by omega,0,rfl⟩
  case round=>
   obtain⟨m,hm,rfl,hR⟩:=hrel
   rcases Nat.eq_zero_or_pos m with e|e
   ·subst e
    have E:Hid (n1=n2):=by unfold Hid;rw[←S1.out,←S2.out];exact Tn_congr (fun j hj=>hR.out.1 j (Nat.zero_le _) hj)
    go_wp2
    go_ret
    exact⟨ret_int (by rw[E.out,sgn_eq]),hR.out.2⟩
   ·obtain⟨p,rfl⟩:∃ p,m=p+1:=⟨m-1,by omega⟩
    obtain⟨q,hq⟩:=hR.out.2
    have HB:Hid (Below w.heap.size w wr):=by unfold Hid;rw[hq];exact bel_drewN _ _
    obtain⟨b1,o1,rfl,_,g1⟩:=(H1.out.below HB.out).at_ (show p<k1 by omega)
    obtain⟨b2,o2,rfl,_,g2⟩:=(H2.out.below HB.out).at_ (show p<k1 by omega)
    have hp:(p:Int)<(k1:Int):=by omega
    have ei:((p+1:Nat):Int)-1=(p:Int):=by omega
    rw[ei]
    have HQ:=Zh hq
    clear hq
    by_cases hE:f p=g p
    ·have NE:Hid (∀ j,p≤j→j<k1→f j=g j):=fun j h1 h2=>by
      by_cases e:j=p
      ·rw[e,hE]
      ·exact hR.out.1 j (by omega) h2
     rw[←hE]at g2
     generalize f p=x at *
     go_wp2_with fail
     go_quiet (fail)
     have NX:Hid ((∀ j,p≤j→j<k1→f j=g j)∧∃ q,wr.drewN nq=w.drewN q):=⟨NE.out,q+nq,by rw[HQ.out,drewN_drewN]⟩
     clear g1 g2
     go_wp2
     go_roundw
     case rel=>exact⟨p,by omega,by go_num,NX.out⟩
     case measure=>simp[intOf]
    ·have E:Hid (sgn n1 n2=sgn (f p) (g p)):=by
      unfold Hid
      rw[←S1.out,←S2.out]
      rcases Nat.lt_trichotomy (f p) (g p) with l|l|l
      ·rw[sgn_lt l,sgn_lt (dcmp_lt H1.out.2.1 (by omega) l (fun j h1 h2=>hR.out.1 j (by omega) h2))]
      ·exact absurd l hE
      ·rw[sgn_gt l,sgn_gt (dcmp_lt H2.out.2.1 (by omega) l (fun j h1 h2=>(hR.out.1 j (by omega) h2).symm))]
     have hb:((f p:Int) == (g p:Int))=false:=by rw[beq_eq_false_iff_ne];omega
     have hb':(f p == g p)=false:=by rw[beq_eq_false_iff_ne];exact hE
     generalize f p=x at *
     generalize g p=y at *
     rcases Nat.lt_or_ge x y with l|l
     ·have l2:(x:Int)<(y:Int):=by omega
      have F:Hid (sgn n1 n2=-1):=by rw[E.out,sgn_lt l];rfl
      clear hE l E
      go_wp2_with fail
      go_quiet (fail)
      go_wp2_with fail
      generalize hw1:wr.drewN _=w1
      have g1':w1.cell? ⟨b1,o1+p,none⟩=some (.int .i64 x):=by rw[←hw1];exact g1
      have g2':w1.cell? ⟨b2,o2+p,none⟩=some (.int .i64 y):=by rw[←hw1];exact g2
      have HW:=Zh hw1
      clear hw1 g1 g2
      go_quiet (fail)
      go_wp2
      go_ret
      exact⟨ret_int F.out.symm,by rw[←HW.out,HQ.out];exact⟨_,by rw[drewN_drewN,drewN_drewN]⟩⟩
     ·have l2:¬ (x:Int)<(y:Int):=by omega
      have F:Hid (sgn n1 n2=1):=by rw[E.out,sgn_gt (by omega)];rfl
      clear hE l E
      go_wp2_with fail
      go_quiet (fail)
      go_wp2_with fail
      generalize hw1:wr.drewN _=w1
      have g1':w1.cell? ⟨b1,o1+p,none⟩=some (.int .i64 x):=by rw[←hw1];exact g1
      have g2':w1.cell? ⟨b2,o2+p,none⟩=some (.int .i64 y):=by rw[←hw1];exact g2
      have HW:=Zh hw1
      clear hw1 g1 g2
      go_quiet (fail)
      go_wp2
      go_ret
      exact⟨ret_int F.out.symm,by rw[←HW.out,HQ.out];exact⟨_,by rw[drewN_drewN,drewN_drewN]⟩⟩
 ·have hne:((k1:Int) == (k2:Int))=false:=by rw[beq_eq_false_iff_ne];omega
  have hne':(k1 == k2)=false:=by rw[beq_eq_false_iff_ne];exact hk
  rcases Nat.lt_or_ge k1 k2 with l|l
  ·have E:Hid (sgn n1 n2=-1):=by unfold Hid;rw[←s1,←s2];exact sgn_lt (dlen_lt r1.2.1 t2 l)
   have l2:(k1:Int)<(k2:Int):=by omega
   clear r1 r2 t1 t2 s1 s2 hk
   go_enter Tryz.func59,Tryz.ntmps59
   go_wp2
   go_ret
   exact⟨ret_int E.out.symm,0,rfl⟩
  ·have E:Hid (sgn n1 n2=1):=by unfold Hid;rw[←s1,←s2];exact sgn_gt (dlen_lt r2.2.1 t1 (by omega))
   have l2:¬ (k1:Int)<(k2:Int):=by omega
   clear r1 r2 t1 t2 s1 s2 hk
   go_enter Tryz.func59,Tryz.ntmps59
   go_wp2
   go_ret
   exact⟨ret_int E.out.symm,0,rfl⟩
def xt(f:Nat→Nat)(k i:Nat):Nat:=if i<k then f i else 0
theorem ext_lt{f:Nat→Nat}{k i:Nat}(h:i<k):xt f k i=f i:=by unfold xt;rw[if_pos h]
theorem ext_ge{f:Nat→Nat}{k i:Nat}(h:k≤i):xt f k i=0:=by unfold xt;rw[if_neg (by omega)]
theorem ext_sum{f:Nat→Nat}{k:Nat}:∀ {j},k≤j→Tn (xt f k) j=Tn f k
 | 0,h=>by
  obtain rfl:k=0:=by omega
  rfl
 | j+1,h=>by
  rcases Nat.lt_or_ge j k with l|l
  ·obtain rfl:k=j+1:=by omega
   exact Tn_congr fun i hi=>ext_lt hi
  ·rw[Tn_succ,ext_ge l,ext_sum l];omega
theorem ld_more{g:Nat→Nat}{j s:Nat}(h:Ld g j)(hs:s<1000000000):Ld (put g j s) (j+1):=fun i hi=>by
 by_cases e:i=j
 ·rw[e,put_same];exact hs
 ·rw[put_ne e];exact h i (by omega)
def Pq(w:World)(f1:Nat→Nat)(k1:Nat)(f2:Nat→Nat)(k2:Nat)(j y:Nat)(g:Nat→Nat)(v:Value)(wr:World):Prop:=
 Dg w.heap.size w g j v wr∧Ld g j∧Tn g j+y*tp j=Tn (xt f1 k1) j+Tn (xt f2 k2) j
theorem Pq.step{w:World} {f1:Nat→Nat} {k1:Nat} {f2:Nat→Nat} {k2:Nat} {j y:Nat} {g:Nat→Nat} {v v':Value} {wr wr':World} {s y':Nat} (h:Pq w f1 k1 f2 k2 j y g v wr)
  (hs:xt f1 k1 j+xt f2 k2 j+y=s+y'*1000000000) (hs9:s<1000000000) (o:Obj)
  (hown:wr'.ownsRow w.heap.size 3 1 v' (j+1) (dvals g j ++ [.int .i64 (s:Int)])) (hg:(wr.alloc o).grownBy wr' v.ownBlock) :
  Pq w f1 k1 f2 k2 (j+1) y' (put g j s) v' wr':=by
 refine⟨h.1.more s hown o hg,ld_more h.2.1 hs9,?_⟩
 rw[Tn_put,tp_succ,Tn_succ,Tn_succ]
 exact dstep_add h.2.2 hs
set_option maxHeartbeats 4000000 in
theorem nplus_f(a1 a2:Option Addr) (k1 k2 c1 c2 n1 n2:Nat) (w:World) (h1:Nt w a1 k1 c1 n1) (h2:Nt w a2 k2 c2 n2) (hk1:k1≤99990) (hk2:k2≤99990) :
  Calls Tryz.prog 58 #[.slice a1 k1 c1,.slice a2 k2 c2] w (NtF (n1+n2) w):=by
 obtain⟨i0,hi,hz0,hz1,hz2⟩:=info_int
 obtain⟨f1,r1,_,_,_,s1,_⟩:=h1
 obtain⟨f2,r2,_,_,_,s2,_⟩:=h2
 obtain⟨K,hx,hK1,hK2,hK⟩:∃ K:Nat,max (k1:Int) (k2:Int)=(K:Int)∧k1≤K∧k2≤K∧K≤99990:=by
  rcases Nat.le_total k1 k2 with l|l
  ·exact⟨k2,by rw[Int.max_eq_right (by omega)],l,Nat.le_refl _,hk2⟩
  ·exact⟨k1,by rw[Int.max_eq_left (by omega)],Nat.le_refl _,l,hk1⟩
 have R1:=Zh r1
 have R2:=Zh r2
 have S1:=Zh s1
 have S2:=Zh s2
 clear r1 r2 s1 s2
 go_enter Tryz.func58,Tryz.ntmps58
 go_wp2_with fail
 go_loopw [5,6,7] (fun v c i wr=>∃ (j y:Nat) (g:Nat→Nat),j≤K+1∧y≤1∧(K<j→y=0)∧c=.int .i64 y∧i=.int .i64 j∧Hid (Pq w f1 k1 f2 k2 j y g v wr)) (fun _ _ i _=>K+1-(intOf i).toNat)
 case atStart=>exact⟨0,0,fun _=>0,by omega,by omega,by omega,rfl,rfl,Dg.nil w _,fun j hj=>by omega,by simp[Tn_zero]⟩
 case round=>
  obtain⟨j,y,g,hj,hy,hyK,rfl,rfl,hR⟩:=hrel
  by_cases hgo:j<K∨0<y
  ·by_cases l1:j<k1
   ·by_cases l2:j<k2
    ·obtain⟨b1,o1,rfl,_,g1⟩:=(R1.out.below hR.out.1.bel).at_ l1
     obtain⟨b2,o2,rfl,_,g2⟩:=(R2.out.below hR.out.1.bel).at_ l2
     have t1:(j:Int)<(k1:Int):=by omega
     have t2:(j:Int)<(k2:Int):=by omega
     have tK:(j:Int)<(K:Int):=by omega
     have d1:=R1.out.2.1 j l1
     have d2:=R2.out.2.1 j l2
     have EX:Hid (xt f1 k1 j+xt f2 k2 j=f1 j+f2 j):=by unfold Hid;rw[ext_lt l1,ext_lt l2]
     generalize f1 j=x1 at g1 d1 EX
     generalize f2 j=x2 at g2 d2 EX
     obtain⟨p,hp⟩:∃ p,y+x1+x2=p:=⟨_,rfl⟩
     have e0:(y:Int)+(x1:Int)+(x2:Int)=(p:Int):=by omega
     obtain⟨q,hq⟩:∃ q,p / 1000000000=q:=⟨_,rfl⟩
     obtain⟨r,hr⟩:∃ r,p % 1000000000=r:=⟨_,rfl⟩
     have e1:(p:Int).tdiv 1000000000=(q:Int):=by rw[Int.tdiv_eq_ediv_of_nonneg (by omega)];omega
     have e2:(p:Int).tmod 1000000000=(r:Int):=by rw[Int.tmod_eq_emod_of_nonneg (by omega)];omega
     have hq1:q≤1:=by omega
     have hr9:r<1000000000:=by omega
     have HS:Hid (xt f1 k1 j+xt f2 k2 j+y=r+q*1000000000):=by unfold Hid;rw[EX.out];omega
     have hp9:p<3000000000:=by omega
     clear hp hq hr EX
     go_wp2_with (at_builtin;refine wpList_append_own _ rfl _ _ 49 rfl w.heap.size 3 i0 (.int .i64 0) 1 8 Tryz.underlying49 hi hz0 hz1 hz2 rfl (by decide) _ _ _ rfl (hR.out.1.row.alloc _) ⟨wr.heap.size,0,none⟩ 1 1 [.int .i64 (r:Int)] rfl rfl ?c1A ?c2A ?c3A ?c4A ?c5A ?_)
     try
      case c1A=>
       intro i u hu
       match i,hu with
       | 0,hu=>simp at hu;subst hu;simp[Addr.add]
     try (case c2A=>first | (intro u hu;simp at hu;subst hu;rfl) | rfl)
     try (case c3A=>unfold maxLen;omega)
     try (case c4A=>omega)
     try (case c5A=>have:=hR.out.1.size;simp;omega)
     intro v' w1 hown' hgrow _
     have NX:Hid (Pq w f1 k1 f2 k2 (j+1) q (put g j r) v' w1):=Pq.step hR.out HS.out hr9 _ hown' hgrow
     clear hown' hgrow hR
     go_wp2
     go_roundw
     case rel=>exact⟨j+1,q,put g j r,by omega,hq1,by omega,by go_num,by go_num,NX.out⟩
     case measure=>simp[intOf];omega
    ·obtain⟨b1,o1,rfl,_,g1⟩:=(R1.out.below hR.out.1.bel).at_ l1
     have t1:(j:Int)<(k1:Int):=by omega
     have t2:¬ (j:Int)<(k2:Int):=by omega
     have tK:(j:Int)<(K:Int):=by omega
     have d1:=R1.out.2.1 j l1
     have EX:Hid (xt f1 k1 j+xt f2 k2 j=f1 j+0):=by unfold Hid;rw[ext_lt l1,ext_ge (by omega)]
     generalize f1 j=x1 at g1 d1 EX
     obtain⟨p,hp⟩:∃ p,y+x1=p:=⟨_,rfl⟩
     have e0:(y:Int)+(x1:Int)=(p:Int):=by omega
     obtain⟨q,hq⟩:∃ q,p / 1000000000=q:=⟨_,rfl⟩
     obtain⟨r,hr⟩:∃ r,p % 1000000000=r:=⟨_,rfl⟩
     have e1:(p:Int).tdiv 1000000000=(q:Int):=by rw[Int.tdiv_eq_ediv_of_nonneg (by omega)];omega
     have e2:(p:Int).tmod 1000000000=(r:Int):=by rw[Int.tmod_eq_emod_of_nonneg (by omega)];omega
     have hq1:q≤1:=by omega
     have hr9:r<1000000000:=by omega
     have HS:Hid (xt f1 k1 j+xt f2 k2 j+y=r+q*1000000000):=by unfold Hid;rw[EX.out];omega
     have hp9:p<3000000000:=by omega
     clear hp hq hr EX
     go_wp2_with (at_builtin;refine wpList_append_own _ rfl _ _ 49 rfl w.heap.size 3 i0 (.int .i64 0) 1 8 Tryz.underlying49 hi hz0 hz1 hz2 rfl (by decide) _ _ _ rfl (hR.out.1.row.alloc _) ⟨wr.heap.size,0,none⟩ 1 1 [.int .i64 (r:Int)] rfl rfl ?c1B ?c2B ?c3B ?c4B ?c5B ?_)
     try
      case c1B=>
       intro i u hu
       match i,hu with
       | 0,hu=>simp at hu;subst hu;simp[Addr.add]
     try (case c2B=>first | (intro u hu;simp at hu;subst hu;rfl) | rfl)
     try (case c3B=>unfold maxLen;omega)
     try (case c4B=>omega)
     try (case c5B=>have:=hR.out.1.size;simp;omega)
     intro v' w1 hown' hgrow _
     have NX:Hid (Pq w f1 k1 f2 k2 (j+1) q (put g j r) v' w1):=Pq.step hR.out HS.out hr9 _ hown' hgrow
     clear hown' hgrow hR
     go_wp2
     go_roundw
     case rel=>exact⟨j+1,q,put g j r,by omega,hq1,by omega,by go_num,by go_num,NX.out⟩
     case measure=>simp[intOf];omega
   ·by_cases l2:j<k2
    ·obtain⟨b2,o2,rfl,_,g2⟩:=(R2.out.below hR.out.1.bel).at_ l2
     have t1:¬ (j:Int)<(k1:Int):=by omega
     have t2:(j:Int)<(k2:Int):=by omega
     have tK:(j:Int)<(K:Int):=by omega
     have d2:=R2.out.2.1 j l2
     have EX:Hid (xt f1 k1 j+xt f2 k2 j=0+f2 j):=by unfold Hid;rw[ext_ge (by omega),ext_lt l2]
     generalize f2 j=x2 at g2 d2 EX
     obtain⟨p,hp⟩:∃ p,y+x2=p:=⟨_,rfl⟩
     have e0:(y:Int)+(x2:Int)=(p:Int):=by omega
     obtain⟨q,hq⟩:∃ q,p / 1000000000=q:=⟨_,rfl⟩
     obtain⟨r,hr⟩:∃ r,p % 1000000000=r:=⟨_,rfl⟩
     have e1:(p:Int).tdiv 1000000000=(q:Int):=by rw[Int.tdiv_eq_ediv_of_nonneg (by omega)];omega
     have e2:(p:Int).tmod 1000000000=(r:Int):=by rw[Int.tmod_eq_emod_of_nonneg (by omega)];omega
     have hq1:q≤1:=by omega
     have hr9:r<1000000000:=by omega
     have HS:Hid (xt f1 k1 j+xt f2 k2 j+y=r+q*1000000000):=by unfold Hid;rw[EX.out];omega
     have hp9:p<3000000000:=by omega
     clear hp hq hr EX
     go_wp2_with (at_builtin;refine wpList_append_own _ rfl _ _ 49 rfl w.heap.size 3 i0 (.int .i64 0) 1 8 Tryz.underlying49 hi hz0 hz1 hz2 rfl (by decide) _ _ _ rfl (hR.out.1.row.alloc _) ⟨wr.heap.size,0,none⟩ 1 1 [.int .i64 (r:Int)] rfl rfl ?c1C ?c2C ?c3C ?c4C ?c5C ?_)
     try
      case c1C=>
       intro i u hu
       match i,hu with
       | 0,hu=>simp at hu;subst hu;simp[Addr.add]
     try (case c2C=>first | (intro u hu;simp at hu;subst hu;rfl) | rfl)
     try (case c3C=>unfold maxLen;omega)
     try (case c4C=>omega)
     try (case c5C=>have:=hR.out.1.size;simp;omega)
     intro v' w1 hown' hgrow _
     have NX:Hid (Pq w f1 k1 f2 k2 (j+1) q (put g j r) v' w1):=Pq.step hR.out HS.out hr9 _ hown' hgrow
     clear hown' hgrow hR
     go_wp2
     go_roundw
     case rel=>exact⟨j+1,q,put g j r,by omega,hq1,by omega,by go_num,by go_num,NX.out⟩
     case measure=>simp[intOf];omega
    ·have t1:¬ (j:Int)<(k1:Int):=by omega
     have t2:¬ (j:Int)<(k2:Int):=by omega
     obtain rfl:y=1:=by omega
     have tK:¬ (j:Int)<(K:Int):=by omega
     have HS:Hid (xt f1 k1 j+xt f2 k2 j+1=1+0*1000000000):=by unfold Hid;rw[ext_ge (by omega),ext_ge (by omega)]
     go_wp2_with (at_builtin;refine wpList_append_own _ rfl _ _ 49 rfl w.heap.size 3 i0 (.int .i64 0) 1 8 Tryz.underlying49 hi hz0 hz1 hz2 rfl (by decide) _ _ _ rfl (hR.out.1.row.alloc _) ⟨wr.heap.size,0,none⟩ 1 1 [.int .i64 1] rfl rfl ?c1D ?c2D ?c3D ?c4D ?c5D ?_)
     try
      case c1D=>
       intro i u hu
       match i,hu with
       | 0,hu=>simp at hu;subst hu;simp[Addr.add]
     try (case c2D=>first | (intro u hu;simp at hu;subst hu;rfl) | rfl)
     try (case c3D=>unfold maxLen;omega)
     try (case c4D=>omega)
     try (case c5D=>have:=hR.out.1.size;simp;omega)
     intro v' w1 hown' hgrow _
     have NX:Hid (Pq w f1 k1 f2 k2 (j+1) 0 (put g j 1) v' w1):=Pq.step (s:=1) hR.out HS.out (by decide) _ hown' hgrow
     clear hown' hgrow hR
     go_wp2
     go_roundw
     case rel=>exact⟨j+1,0,put g j 1,by omega,by omega,by omega,by go_num,by go_num,NX.out⟩
     case measure=>simp[intOf];omega
  ·obtain rfl:y=0:=by omega
   have tK:¬ (j:Int)<(K:Int):=by omega
   have E:Hid (Tn g j=n1+n2):=by
    have h:=hR.out.2.2
    rw[ext_sum (by omega),ext_sum (by omega),S1.out,S2.out]at h
    unfold Hid
    omega
   obtain⟨a,c,rfl,h1,h2,h3,h4⟩:=hR.out.1.reads (by omega) hR.out.2.1
   have BE:=Zh hR.out.1.bel
   have FE:=Zh hR.out.1.fresh
   have HT:=Zh (ntrim_c a j c g wr h1 h2 h3 h4)
   clear h1 h4 hR
   go_wp2_with fail
   refine HT.out.mono ?_
   rintro e w4 ⟨m,rfl,hN,rfl⟩
   rw[E.out]at hN
   have RR:Hid (NtF (n1+n2) w (.returned (.slice a m c)) wr):=⟨a,m,c,rfl,hN,BE.out,FE.out⟩
   clear hN HT
   go_wp2
   go_ret
   exact RR.out
theorem nplus_c(a1 a2:Option Addr) (k1 k2 c1 c2 n1 n2:Nat) (w:World) (h1:Nt w a1 k1 c1 n1) (h2:Nt w a2 k2 c2 n2) (hk1:k1≤99990) (hk2:k2≤99990) :
  Calls Tryz.prog 58 #[.slice a1 k1 c1,.slice a2 k2 c2] w (NtPost (n1+n2) w):=(nplus_f a1 a2 k1 k2 c1 c2 n1 n2 w h1 h2 hk1 hk2).mono fun _ _ h=>h.weak
def Mq(w:World)(f1:Nat→Nat)(f2:Nat→Nat)(k2:Nat)(j y:Nat)(g:Nat→Nat)(v:Value)(wr:World):Prop:=
 Dg w.heap.size w g j v wr∧Ld g j∧Tn g j+Tn (xt f2 k2) j=Tn f1 j+y*tp j
theorem Mq.step{w:World} {f1:Nat→Nat} {f2:Nat→Nat} {k2:Nat} {j y:Nat} {g:Nat→Nat} {v v':Value} {wr wr':World} {s y':Nat} (h:Mq w f1 f2 k2 j y g v wr)
  (hs:s+(xt f2 k2 j+y)=f1 j+y'*1000000000) (hs9:s<1000000000) (o:Obj)
  (hown:wr'.ownsRow w.heap.size 3 1 v' (j+1) (dvals g j ++ [.int .i64 (s:Int)])) (hg:(wr.alloc o).grownBy wr' v.ownBlock) :
  Mq w f1 f2 k2 (j+1) y' (put g j s) v' wr':=by
 refine⟨h.1.more s hown o hg,ld_more h.2.1 hs9,?_⟩
 rw[Tn_put,tp_succ,Tn_succ,Tn_succ]
 exact dstep_sub h.2.2 hs
set_option maxHeartbeats 4000000 in
theorem nminus_f(a1 a2:Option Addr) (k1 k2 c1 c2 n1 n2:Nat) (w:World) (h1:Nt w a1 k1 c1 n1) (h2:Nt w a2 k2 c2 n2) (hle:n2≤n1) (hk1:k1≤99990) :
  Calls Tryz.prog 60 #[.slice a1 k1 c1,.slice a2 k2 c2] w (NtG k1 (n1-n2) w):=by
 obtain⟨i0,hi,hz0,hz1,hz2⟩:=info_int
 have hk21:k2≤k1:=h2.len (Nat.lt_of_le_of_lt hle h1.lt)
 obtain⟨f1,r1,_,_,_,s1,_⟩:=h1
 obtain⟨f2,r2,_,_,_,s2,_⟩:=h2
 have R1:=Zh r1
 have R2:=Zh r2
 have S1:=Zh s1
 have S2:=Zh s2
 have HLE:=Zh hle
 clear r1 r2 s1 s2 hle
 go_enter Tryz.func60,Tryz.ntmps60
 go_wp2_with fail
 go_loopw [5,6,11] (fun v c i wr=>∃ (j y:Nat) (g:Nat→Nat),j≤k1∧y≤1∧c=.int .i64 y∧i=.int .i64 j∧Hid (Mq w f1 f2 k2 j y g v wr)) (fun _ _ i _=>k1-(intOf i).toNat)
 case atStart=>exact⟨0,0,fun _=>0,by omega,by omega,rfl,rfl,Dg.nil w _,fun j hj=>by omega,by simp[Tn_zero]⟩
 case round=>
  obtain⟨j,y,g,hj,hy,rfl,rfl,hR⟩:=hrel
  by_cases l1:j<k1
  ·by_cases l2:j<k2
   ·obtain⟨b1,o1,rfl,_,g1⟩:=(R1.out.below hR.out.1.bel).at_ l1
    obtain⟨b2,o2,rfl,_,g2⟩:=(R2.out.below hR.out.1.bel).at_ l2
    have t1:(j:Int)<(k1:Int):=by omega
    have t2:(j:Int)<(k2:Int):=by omega
    have d1:=R1.out.2.1 j l1
    have d2:=R2.out.2.1 j l2
    have EX:Hid (xt f2 k2 j=f2 j):=ext_lt l2
    obtain⟨x1,hx1⟩:∃ x,f1 j=x:=⟨_,rfl⟩
    rw[hx1]at g1 d1
    have HX:=Zh hx1
    clear hx1
    generalize f2 j=x2 at g2 d2 EX
    by_cases hb:x2+y≤x1
    ·obtain⟨s,hs⟩:∃ s,x1-(x2+y)=s:=⟨_,rfl⟩
     have e0:(x1:Int)-(y:Int)-(x2:Int)=(s:Int):=by omega
     have hs9:s<1000000000:=by omega
     have HS:Hid (s+(xt f2 k2 j+y)=f1 j+0*1000000000):=by unfold Hid;rw[EX.out,HX.out];omega
     clear hs EX hb
     go_wp2_with (at_builtin;refine wpList_append_own _ rfl _ _ 49 rfl w.heap.size 3 i0 (.int .i64 0) 1 8 Tryz.underlying49 hi hz0 hz1 hz2 rfl (by decide) _ _ _ rfl (hR.out.1.row.alloc _) ⟨wr.heap.size,0,none⟩ 1 1 [.int .i64 (s:Int)] rfl rfl ?c1Ap ?c2Ap ?c3Ap ?c4Ap ?c5Ap ?_)
     try
      case c1Ap=>
       intro i u hu
       match i,hu with
       | 0,hu=>simp at hu;subst hu;simp[Addr.add]
     try (case c2Ap=>first | (intro u hu;simp at hu;subst hu;rfl) | rfl)
     try (case c3Ap=>unfold maxLen;omega)
     try (case c4Ap=>omega)
     try (case c5Ap=>have:=hR.out.1.size;simp;omega)
     intro v' w1 hown' hgrow _
     have NX:Hid (Mq w f1 f2 k2 (j+1) 0 (put g j s) v' w1):=Mq.step hR.out HS.out hs9 _ hown' hgrow
     clear hown' hgrow hR
     go_wp2
     go_roundw
     case rel=>exact⟨j+1,0,put g j s,by omega,by omega,by go_num,by go_num,NX.out⟩
     case measure=>simp[intOf];omega
    ·obtain⟨s,hs⟩:∃ s,x1+1000000000-(x2+y)=s:=⟨_,rfl⟩
     obtain⟨z,e0⟩:∃ z:Int,(x1:Int)-(y:Int)-(x2:Int)=z:=⟨_,rfl⟩
     have hzn:z<0:=by omega
     have hzb:-3000000000<z:=by omega
     have e1:z+1000000000=(s:Int):=by omega
     have hs9:s<1000000000:=by omega
     have HS:Hid (s+(xt f2 k2 j+y)=f1 j+1*1000000000):=by unfold Hid;rw[EX.out,HX.out];omega
     clear hs EX hb
     go_wp2_with (at_builtin;refine wpList_append_own _ rfl _ _ 49 rfl w.heap.size 3 i0 (.int .i64 0) 1 8 Tryz.underlying49 hi hz0 hz1 hz2 rfl (by decide) _ _ _ rfl (hR.out.1.row.alloc _) ⟨wr.heap.size,0,none⟩ 1 1 [.int .i64 (s:Int)] rfl rfl ?c1Am ?c2Am ?c3Am ?c4Am ?c5Am ?_)
     try
      case c1Am=>
       intro i u hu
       match i,hu with
       | 0,hu=>simp at hu;subst hu;simp[Addr.add]
     try (case c2Am=>first | (intro u hu;simp at hu;subst hu;rfl) | rfl)
     try (case c3Am=>unfold maxLen;omega)
     try (case c4Am=>omega)
     try (case c5Am=>have:=hR.out.1.size;simp;omega)
     intro v' w1 hown' hgrow _
     have NX:Hid (Mq w f1 f2 k2 (j+1) 1 (put g j s) v' w1):=Mq.step hR.out HS.out hs9 _ hown' hgrow
     clear hown' hgrow hR
     go_wp2
     go_roundw
     case rel=>exact⟨j+1,1,put g j s,by omega,by omega,by go_num,by go_num,NX.out⟩
     case measure=>simp[intOf];omega
   ·obtain⟨b1,o1,rfl,_,g1⟩:=(R1.out.below hR.out.1.bel).at_ l1
    have t1:(j:Int)<(k1:Int):=by omega
    have t2:¬ (j:Int)<(k2:Int):=by omega
    have d1:=R1.out.2.1 j l1
    have EX:Hid (xt f2 k2 j=0):=ext_ge (by omega)
    obtain⟨x1,hx1⟩:∃ x,f1 j=x:=⟨_,rfl⟩
    rw[hx1]at g1 d1
    have HX:=Zh hx1
    clear hx1
    by_cases hb:y≤x1
    ·obtain⟨s,hs⟩:∃ s,x1-(y)=s:=⟨_,rfl⟩
     have e0:(x1:Int)-(y:Int)=(s:Int):=by omega
     have hs9:s<1000000000:=by omega
     have HS:Hid (s+(xt f2 k2 j+y)=f1 j+0*1000000000):=by unfold Hid;rw[EX.out,HX.out];omega
     clear hs EX hb
     go_wp2_with (at_builtin;refine wpList_append_own _ rfl _ _ 49 rfl w.heap.size 3 i0 (.int .i64 0) 1 8 Tryz.underlying49 hi hz0 hz1 hz2 rfl (by decide) _ _ _ rfl (hR.out.1.row.alloc _) ⟨wr.heap.size,0,none⟩ 1 1 [.int .i64 (s:Int)] rfl rfl ?c1Bp ?c2Bp ?c3Bp ?c4Bp ?c5Bp ?_)
     try
      case c1Bp=>
       intro i u hu
       match i,hu with
       | 0,hu=>simp at hu;subst hu;simp[Addr.add]
     try (case c2Bp=>first | (intro u hu;simp at hu;subst hu;rfl) | rfl)
     try (case c3Bp=>unfold maxLen;omega)
     try (case c4Bp=>omega)
     try (case c5Bp=>have:=hR.out.1.size;simp;omega)
     intro v' w1 hown' hgrow _
     have NX:Hid (Mq w f1 f2 k2 (j+1) 0 (put g j s) v' w1):=Mq.step hR.out HS.out hs9 _ hown' hgrow
     clear hown' hgrow hR
     go_wp2
     go_roundw
     case rel=>exact⟨j+1,0,put g j s,by omega,by omega,by go_num,by go_num,NX.out⟩
     case measure=>simp[intOf];omega
    ·obtain⟨s,hs⟩:∃ s,x1+1000000000-(y)=s:=⟨_,rfl⟩
     obtain⟨z,e0⟩:∃ z:Int,(x1:Int)-(y:Int)=z:=⟨_,rfl⟩
     have hzn:z<0:=by omega
     have hzb:-3000000000<z:=by omega
     have e1:z+1000000000=(s:Int):=by omega
     have hs9:s<1000000000:=by omega
     have HS:Hid (s+(xt f2 k2 j+y)=f1 j+1*1000000000):=by unfold Hid;rw[EX.out,HX.out];omega
     clear hs EX hb
     go_wp2_with (at_builtin;refine wpList_append_own _ rfl _ _ 49 rfl w.heap.size 3 i0 (.int .i64 0) 1 8 Tryz.underlying49 hi hz0 hz1 hz2 rfl (by decide) _ _ _ rfl (hR.out.1.row.alloc _) ⟨wr.heap.size,0,none⟩ 1 1 [.int .i64 (s:Int)] rfl rfl ?c1Bm ?c2Bm ?c3Bm ?c4Bm ?c5Bm ?_)
     try
      case c1Bm=>
       intro i u hu
       match i,hu with
       | 0,hu=>simp at hu;subst hu;simp[Addr.add]
     try (case c2Bm=>first | (intro u hu;simp at hu;subst hu;rfl) | rfl)
     try (case c3Bm=>unfold maxLen;omega)
     try (case c4Bm=>omega)
     try (case c5Bm=>have:=hR.out.1.size;simp;omega)
     intro v' w1 hown' hgrow _
     have NX:Hid (Mq w f1 f2 k2 (j+1) 1 (put g j s) v' w1):=Mq.step hR.out HS.out hs9 _ hown' hgrow
     clear hown' hgrow hR
     go_wp2
     go_roundw
     case rel=>exact⟨j+1,1,put g j s,by omega,by omega,by go_num,by go_num,NX.out⟩
     case measure=>simp[intOf];omega
  ·obtain rfl:j=k1:=by omega
   have E:Hid (Tn g j=n1-n2):=by
    have h:=hR.out.2.2
    rw[ext_sum hk21,S1.out,S2.out]at h
    have t:=Tn_lt hR.out.2.1
    have q:=HLE.out
    unfold Hid
    obtain rfl|rfl:y=0∨y=1:=by omega
    ·omega
    ·omega
   obtain⟨a,c,rfl,h1,h2,h3,h4⟩:=hR.out.1.reads (by omega) hR.out.2.1
   have BE:=Zh hR.out.1.bel
   have FE:=Zh hR.out.1.fresh
   have FS:=Zh hR.out.1.some
   have HT:=Zh (ntrim_c a j c g wr h1 h2 h3 h4)
   clear h1 h4 hR
   go_wp2_with fail
   refine HT.out.mono ?_
   rintro e w4 ⟨m,rfl,hN,rfl⟩
   rw[E.out]at hN
   have RR:Hid (NtG j (n1-n2) w (.returned (.slice a m c)) wr):=⟨a,m,c,rfl,hN,BE.out,FE.out,FS.out⟩
   clear hN HT
   go_wp2
   go_ret
   exact RR.out
theorem nminus_c(a1 a2:Option Addr) (k1 k2 c1 c2 n1 n2:Nat) (w:World) (h1:Nt w a1 k1 c1 n1) (h2:Nt w a2 k2 c2 n2) (hle:n2≤n1) (hk1:k1≤99990) :
  Calls Tryz.prog 60 #[.slice a1 k1 c1,.slice a2 k2 c2] w (NtPost (n1-n2) w):=(nminus_f a1 a2 k1 k2 c1 c2 n1 n2 w h1 h2 hle hk1).mono fun _ _ h=>h.weak
theorem times_step{F F' f1 f2:Nat→Nat} {k2 j p x n2:Nat} (hz:∀ q,j+k2≤q→F q=0) (ho:∀ i,(i<j∨j+p≤i)→F' i=F i) (hs:Tn (from_ F' j) p=Tn (from_ F j) p+x*Tn (xt f2 k2) p)
  (hp:p=k2∨p=k2+1) (h2:Tn f2 k2=n2) (hx:f1 j=x) (hT:Tn F (j+k2)=Tn f1 j*n2):Tn F' (j+1+k2)=Tn f1 (j+1)*n2∧∀ q,j+1+k2≤q→F' q=0:=by
 have A:Tn (from_ F' j) (k2+1)=Tn (from_ F j) (k2+1)+x*n2:=by
  rcases hp with rfl|rfl
  ·have e:from_ F' j p=from_ F j p:=ho _ (.inr (Nat.le_refl _))
   rw[ext_sum (Nat.le_refl _),h2]at hs
   rw[Tn_succ,Tn_succ,hs,e]
   omega
  ·rw[ext_sum (by omega),h2]at hs
   exact hs
 have B:Tn F' (j+(k2+1))=Tn F' j+tp j*Tn (from_ F' j) (k2+1):=Tn_split F' j (k2+1)
 have C:Tn F (j+(k2+1))=Tn F j+tp j*Tn (from_ F j) (k2+1):=Tn_split F j (k2+1)
 have D:Tn F (j+(k2+1))=Tn F (j+k2):=by
  rw[←Nat.add_assoc,Tn_succ,hz _ (Nat.le_refl _)];omega
 have E:Tn F' j=Tn F j:=Tn_congr fun i hi=>ho i (.inl hi)
 have M:tp j*(x*n2)=x*tp j*n2:=by rw[Nat.mul_comm x (tp j),Nat.mul_assoc]
 refine⟨?_,fun q hq=>by rw[ho q (.inr (by rcases hp with rfl | rfl<;>omega))];exact hz q (by omega)⟩
 rw[show j+1+k2=j+(k2+1) by omega,B,E,A,Nat.mul_add,Tn_succ f1 j,hx,Nat.add_mul,←hT,M]
 omega
def Bt(W:World)(g K:Nat)(f:Nat→Nat):Prop:=g<W.heap.size∧Ld f K∧∀ j,j<K→W.cell? ⟨g,j,none⟩=some (.int .i64 (f j))∧W.frozen? ⟨g,j,none⟩=false
theorem Bt.made(W:World)(K:Nat)(e:TypeId):Bt (W.alloc (.cells (madeCells #[.int .i64 0] K) e)) W.heap.size K (fun _=>0):=by
 refine⟨by simp,fun j _=>(by decide:0<1000000000),fun j hj=>⟨?_,by simp⟩⟩
 rw[World.cell?_alloc_new,←Array.getElem?_toList,toList_madeCells_one]
 simp[hj]
theorem Bt.put{W:World}{g K i x:Nat}{f:Nat→Nat}(h:Bt W g K f)(hi:i<K)(hx:x<1000000000):Bt (W.setCell ⟨g,i,none⟩ (.int .i64 x)) g K (put f i x):=by
 refine⟨by simpa using h.1,ld_put h.2.1 hx,fun j hj=>⟨?_,by rw[World.frozen?_setCell];exact (h.2.2 j hj).2⟩⟩
 by_cases e:j=i
 ·subst e
  rw[World.cell?_setCell_same _ _ _ (h.2.2 j hj).1,put_same]
 ·rw[World.cell?_setCell_other _ _ _ _ (by intro e2;injection e2 with _ e3;exact e e3.symm),(h.2.2 j hj).1,put_ne e]
theorem Bt.drew{W:World}{g K:Nat}{f:Nat→Nat}(h:Bt W g K f)(n:Nat):Bt (W.drewN n) g K f:=h
theorem Bt.rj{W:World}{g K:Nat}{f:Nat→Nat}(h:Bt W g K f)(hK:K≤100000):Rj W (some ⟨g,0,none⟩) K f:=
 ⟨hK,h.2.1,fun _=>⟨g,0,rfl,h.1,fun j hj=>by rw[Nat.zero_add];exact (h.2.2 j hj).1⟩⟩
theorem mk_digits(n:Nat)(hn:n≤100000)(w:World):(Instr.makeSlice 49 (.int .i64 n) (.int .i64 n)).run Tryz.prog w=.ok (.slice (some ⟨w.heap.size,0,none⟩) n n) (w.alloc (.cells (madeCells #[.int .i64 0] n) 3)):=by
 have hmk:=run_make_row' (P:=Tryz.prog) 49 3 (.int .i64 0) 8 Tryz.underlying49 infoT rfl .i64 .i64 n (by omega) (by omega)
 simpa using hmk w
def Tm(w:World)(K:Nat)(f1:Nat→Nat)(n2 k2 j:Nat)(F:Nat→Nat)(wr:World):Prop:=
 Bt wr w.heap.size K F∧Below w.heap.size w wr∧(∀ q,j+k2≤q→F q=0)∧Tn F (j+k2)=Tn f1 j*n2
def Ti(w:World)(K:Nat)(f2:Nat→Nat)(k2 j x p y:Nat)(F F':Nat→Nat)(wr:World):Prop:=
 Bt wr w.heap.size K F'∧Below w.heap.size w wr∧(∀ i,(i<j∨j+p≤i)→F' i=F i)∧Tn (from_ F' j) p+y*tp p=Tn (from_ F j) p+x*Tn (xt f2 k2) p
theorem from_putT(f:Nat→Nat)(o p x:Nat):from_ (put f (o+p) x) o=put (from_ f o) p x:=by
 funext i
 unfold from_ put
 by_cases h:i=p
 ·rw[if_pos (by omega),if_pos h]
 ·rw[if_neg (by omega),if_neg h]
theorem Ti.step{w:World} {K:Nat} {f2:Nat→Nat} {k2 j x p y r q:Nat} {F F':Nat→Nat} {wr:World} (h:Ti w K f2 k2 j x p y F F' wr) (hK:j+p<K)
  (hs:xt f2 k2 p*x+y+F (j+p)=r+q*1000000000) (hr:r<1000000000) (n:Nat):Ti w K f2 k2 j x (p+1) q F (put F' (j+p) r) ((wr.drewN n).setCell ⟨w.heap.size,j+p,none⟩ (.int .i64 r)):=by
 refine⟨(h.1.drew n).put hK hr,(drewN_bel h.2.1 n).setCell (p:=⟨w.heap.size,j+p,none⟩) (Nat.le_refl _) _,fun i hi=>by rw[put_ne (by omega)];exact h.2.2.1 i (by omega),?_⟩
 rw[from_putT,Tn_put,tp_succ,Tn_succ,Tn_succ]
 exact dstep_addmul h.2.2.2 hs
set_option maxHeartbeats 4000000 in
theorem ntimes_c(a1 a2:Option Addr) (k1 k2 c1 c2 n1 n2:Nat) (w:World) (h1:Nt w a1 k1 c1 n1) (h2:Nt w a2 k2 c2 n2) (hk:k1+k2≤99990) :
  Calls Tryz.prog 45 #[.slice a1 k1 c1,.slice a2 k2 c2] w (NtPost (n1*n2) w):=by
 obtain⟨f1,r1,_,_,_,s1,_⟩:=h1
 obtain⟨f2,r2,_,_,_,s2,_⟩:=h2
 obtain⟨K,hKe⟩:∃ K,k1+k2+1=K:=⟨_,rfl⟩
 have eK:(k1:Int)+(k2:Int)+1=(K:Int):=by omega
 have hK9:K≤100000:=by omega
 have hmk:=fun w=>mk_digits K hK9 w
 have R1:=Zh r1
 have R2:=Zh r2
 have S1:=Zh s1
 have S2:=Zh s2
 clear r1 r2 s1 s2
 go_enter Tryz.func45,Tryz.ntmps45
 go_wp2_with fail
 have B0:=Zh (Bt.made w K 3)
 have BL:Hid (Below w.heap.size w (w.alloc (.cells (madeCells #[.int .i64 0] K) 3))):=bel_one _ _
 generalize hW1:w.alloc (.cells (madeCells #[.int .i64 0] K) 3)=W1 at *
 clear hW1 hmk eK
 go_loopw [19] (fun i wr=>∃ (j:Nat) (F:Nat→Nat),j≤k1∧i=.int .i64 j∧Hid (Tm w K f1 n2 k2 j F wr)) (fun i _=>k1-(intOf i).toNat)
 case atStart=>exact⟨0,fun _=>0,Nat.zero_le _,rfl,B0.out,BL.out,fun _ _=>rfl,by rw[Tn_zero,Nat.zero_mul];exact Tn_zeros fun _ _=>rfl⟩
 case round=>
  obtain⟨j,F,hj,rfl,hR⟩:=hrel
  by_cases hlt:j<k1
  ·have t1:(j:Int)<(k1:Int):=by omega
   obtain⟨x,hx⟩:∃ x,f1 j=x:=⟨_,rfl⟩
   have HX:=Zh hx
   have hx9:x<1000000000:=by rw[←hx];exact R1.out.2.1 j hlt
   clear hx
   have HI:Hid (Ti w K f2 k2 j x 0 0 F F wr):=⟨hR.out.1,hR.out.2.1,fun _ _=>rfl,by simp[Tn_zero]⟩
   go_wp2_with fail
   go_loopw [7,8] (fun c k wi=>∃ (p y:Nat) (F':Nat→Nat),p≤k2+1∧y<1000000000∧(p=k2+1→y=0)∧c=.int .i64 y∧k=.int .i64 p∧Hid (Ti w K f2 k2 j x p y F F' wi)) (fun _ k _=>k2+1-(intOf k).toNat)
   case atStart=>exact⟨0,0,F,by omega,by omega,by omega,rfl,rfl,HI.out⟩
   case round=>
    obtain⟨p,y,F',hp,hy,hpy,rfl,rfl,hI⟩:=hrel
    by_cases hgo:p<k2∨0<y
    ·have hB:=hI.out.1.2.2 (j+p) (by omega)
     have hb:=hB.1
     have hf:=hB.2
     rw[hI.out.2.2.1 (j+p) (.inr (Nat.le_refl _))]at hb
     by_cases l2:p<k2
     ·have t2:(p:Int)<(k2:Int):=by omega
      obtain⟨b1,o1,rfl,_,g1⟩:=(R1.out.below hI.out.2.1).at_ hlt
      obtain⟨b2,o2,rfl,_,g2⟩:=(R2.out.below hI.out.2.1).at_ l2
      have d2:=R2.out.2.1 p l2
      have dz:=hR.out.1.2.1 (j+p) (by omega)
      rw[HX.out]at g1
      have EX:Hid (xt f2 k2 p=f2 p):=ext_lt l2
      obtain⟨z,hz⟩:∃ z,F (j+p)=z:=⟨_,rfl⟩
      rw[hz]at hb dz
      have HZ:=Zh hz
      clear hz hB
      generalize f2 p=x2 at g2 d2 EX
      obtain⟨m,hm⟩:∃ m,x*x2=m:=⟨_,rfl⟩
      have em:(x:Int)*(x2:Int)=(m:Int):=by rw[←hm];exact (Int.natCast_mul _ _).symm
      have hm9:m≤999999998000000001:=by rw[←hm];exact Nat.mul_le_mul (show x≤999999999 by omega) (show x2≤999999999 by omega)
      obtain⟨N,hN⟩:∃ N,z+y+m=N:=⟨_,rfl⟩
      have e0:(z:Int)+(y:Int)+(m:Int)=(N:Int):=by omega
      obtain⟨q,hq⟩:∃ q,N / 1000000000=q:=⟨_,rfl⟩
      obtain⟨r,hr⟩:∃ r,N % 1000000000=r:=⟨_,rfl⟩
      have e1:(N:Int).tdiv 1000000000=(q:Int):=by rw[Int.tdiv_eq_ediv_of_nonneg (by omega)];omega
      have e2:(N:Int).tmod 1000000000=(r:Int):=by rw[Int.tmod_eq_emod_of_nonneg (by omega)];omega
      have hq9:q<1000000000:=by omega
      have hr9:r<1000000000:=by omega
      have hN9:N<1000000000000000000:=by omega
      have HS:Hid (xt f2 k2 p*x+y+F (j+p)=r+q*1000000000):=by unfold Hid;rw[EX.out,HZ.out,Nat.mul_comm,hm];omega
      clear hN hq hr hm EX HZ
      go_wp2_with fail
      go_quiet (fail)
      have NX:Hid (Ti w K f2 k2 j x (p+1) q F (put F' (j+p) r) ((wr.drewN nq).setCell ⟨w.heap.size,j+p,none⟩ (.int .i64 r))):=Ti.step hI.out (by omega) HS.out hr9 nq
      go_wp2
      go_roundw
      case rel=>exact⟨p+1,q,put F' (j+p) r,by omega,hq9,by omega,by go_num,by go_num,NX.out⟩
      case measure=>simp[intOf];omega
     ·obtain rfl:p=k2:=by omega
      have t2:¬ (p:Int)<(p:Int):=by omega
      have hyp:(0:Int)<(y:Int):=by omega
      have HZ:Hid (F (j+p)=0):=hR.out.2.2.1 _ (Nat.le_refl _)
      rw[HZ.out]at hb
      have hb0:wr.cell? ⟨w.heap.size,j+p,none⟩=some (.int .i64 0):=hb
      have e1:(y:Int).tdiv 1000000000=0:=by rw[Int.tdiv_eq_ediv_of_nonneg (by omega)];omega
      have e2:(y:Int).tmod 1000000000=(y:Int):=by rw[Int.tmod_eq_emod_of_nonneg (by omega)];omega
      have NX:Hid (Ti w K f2 p j x (p+1) 0 F (put F' (j+p) y) ((wr.drewN 0).setCell ⟨w.heap.size,j+p,none⟩ (.int .i64 y))):=Ti.step hI.out (by omega) (by rw[ext_ge (Nat.le_refl _),HZ.out];omega) hy 0
      clear hb hB
      go_wp2_with fail
      go_roundw
      case rel=>exact⟨p+1,0,put F' (j+p) y,by omega,by omega,by omega,by go_num,by go_num,NX.out⟩
      case measure=>simp[intOf]
    ·obtain rfl:y=0:=by omega
     have t2:¬ (p:Int)<(k2:Int):=by omega
     have NX:Hid (Tm w K f1 n2 k2 (j+1) F' wr):=by
      have hs:=hI.out.2.2.2
      rw[Nat.zero_mul,Nat.add_zero]at hs
      have t:=times_step hR.out.2.2.1 hI.out.2.2.1 hs (by omega) S2.out HX.out hR.out.2.2.2
      exact⟨hI.out.1,hI.out.2.1,t.2,t.1⟩
     go_wp2_with fail
     go_roundw
     case rel=>exact⟨j+1,F',by omega,by go_num,NX.out⟩
     case measure=>simp[intOf];omega
  ·obtain rfl:j=k1:=by omega
   have E:Hid (Tn F K=n1*n2):=by
    have h:=hR.out.2.2.2
    rw[S1.out]at h
    unfold Hid
    rw[←hKe,Tn_succ,h,hR.out.2.2.1 _ (Nat.le_refl _)]
    omega
   have HT:=Zh (ntrim_c (some ⟨w.heap.size,0,none⟩) K K F wr (hR.out.1.rj hK9) (Nat.le_refl _) (by omega) (Pl.some_ _ _))
   have BE:=Zh hR.out.2.1
   go_wp2_with fail
   refine HT.out.mono ?_
   rintro e w4 ⟨m,rfl,hN,rfl⟩
   rw[E.out]at hN
   have RR:Hid (NtPost (n1*n2) w (.returned (.slice (some ⟨w.heap.size,0,none⟩) m K)) wr):=⟨_,m,K,rfl,hN,BE.out⟩
   clear hN HT
   go_wp2
   go_ret
   exact RR.out
end Go.Proofs.YtghgbhmiliiohaaGreatDoor
