/-
  Numbers of any size: sums, products and differences.
-/
import Derived.Test.YtghgbhmiliiohaaGreatDoorAMQ
import Derived.Test.YtghgbhmiliiohaaGreatDoorAM11
import Derived.Laws.IdiomCopy
set_option maxRecDepth 100000
namespace Go.Proofs.YtghgbhmiliiohaaGreatDoor
open Go.RowKit
def sgn(x y:Nat):Int:=if x<y then -1 else if y<x then 1 else 0
theorem sgn_lt{x y:Nat}(h:x<y):sgn x y=-1:=by unfold sgn;rw[if_pos h]
theorem sgn_gt{x y:Nat}(h:y<x):sgn x y=1:=by unfold sgn;rw[if_neg (by omega),if_pos h]
theorem sgn_eq(x:Nat):sgn x x=0:=by unfold sgn;rw[if_neg (by omega),if_neg (by omega)]
theorem drewN_drewN(w:World)(a b:Nat):(w.drewN a).drewN b=w.drewN (a+b):=by simp[World.drewN,Nat.add_assoc]
theorem isNaN_c(x:Int)(w:World):Calls Tryz.prog 191 #[.int .u64 x] w fun e w'=>e=.returned (.bool false)∧w=w':=by
 go_enter Tryz.func191,Tryz.ntmps191
 go_wp2
 go_ret
 exact⟨rfl,rfl⟩
theorem cmpU_c(x y:Nat)(w:World):Calls Tryz.prog 174 #[.int .u64 x,.int .u64 y] w fun e w'=>e=.returned (.int .i64 (sgn x y))∧w=w':=by
 rcases Nat.lt_trichotomy x y with h|h|h
 ·have e:=sgn_lt h
  have d:decide (x<y)=true:=by simp;omega
  rw[e]
  clear e
  go_enter Tryz.func174,Tryz.ntmps174
  go_wp2_with (go_at_call 191;refine (isNaN_c _ _).mono ?_;rintro e w' ⟨rfl,rfl⟩)
  go_ret
  exact⟨rfl,rfl⟩
 ·subst h
  rw[sgn_eq]
  go_enter Tryz.func174,Tryz.ntmps174
  go_wp2_with (go_at_call 191;refine (isNaN_c _ _).mono ?_;rintro e w' ⟨rfl,rfl⟩)
  go_ret
  exact⟨rfl,rfl⟩
 ·have e:=sgn_gt h
  have d:decide (x<y)=false:=by simp;omega
  have d2:decide (y<x)=true:=by simp;omega
  rw[e]
  clear e
  go_enter Tryz.func174,Tryz.ntmps174
  go_wp2_with (go_at_call 191;refine (isNaN_c _ _).mono ?_;rintro e w' ⟨rfl,rfl⟩)
  go_ret
  exact⟨rfl,rfl⟩
set_option maxHeartbeats 2000000 in
theorem compare_c(a1 a2:Option Addr) (k1 k2 c1 c2 n1 n2:Nat) (w:World) (h1:Nm w a1 k1 c1 n1) (h2:Nm w a2 k2 c2 n2) :
  Calls Tryz.prog 150 #[.slice a1 k1 c1,.slice a2 k2 c2] w fun e w'=>e=.returned (.int .i64 (sgn n1 n2))∧∃ q,w'=w.drewN q:=by
 obtain⟨f,r1,_,_,t1,s1,_⟩:=h1
 obtain⟨g,r2,_,_,t2,s2,_⟩:=h2
 have hk1:=r1.1
 have hk2:=r2.1
 by_cases hk:k1=k2
 ·subst hk
  have H1:=Zh r1
  have H2:=Zh r2
  have S1:=Zh s1
  have S2:=Zh s2
  clear r1 r2 t1 t2 s1 s2
  go_enter Tryz.func150,Tryz.ntmps150
  go_wp2
  go_loopw [5] (fun i wr=>∃ m:Nat,m≤k1∧i=.int .i64 ((m:Int)-1)∧Hid ((∀ j,m≤j→j<k1→f j=g j)∧∃ q,wr=w.drewN q)) (fun i _=>(intOf i+1).toNat)
  case atStart=>exact⟨k1,Nat.le_refl _,rfl,fun j h1 h2=>by omega,0,rfl⟩
  case round=>
   obtain⟨m,hm,rfl,hR⟩:=hrel
   rcases Nat.eq_zero_or_pos m with e|e
   ·subst e
    have E:Hid (n1=n2):=by unfold Hid;rw[←S1.out,←S2.out];exact S_congr (fun j hj=>hR.out.1 j (Nat.zero_le _) hj)
    go_wp2
    go_ret
    exact⟨ret_int (by rw[E.out,sgn_eq]),hR.out.2⟩
   ·obtain⟨p,rfl⟩:∃ p,m=p+1:=⟨m-1,by omega⟩
    obtain⟨q,hq⟩:=hR.out.2
    have HB:Hid (Below w.heap.size w wr):=by unfold Hid;rw[hq];exact bel_drewN _ _
    obtain⟨b1,o1,rfl,_,g1⟩:=(H1.out.below HB.out).at_ (show p<k1 by omega)
    obtain⟨b2,o2,rfl,_,g2⟩:=(H2.out.below HB.out).at_ (show p<k1 by omega)
    have hp:(p:Int)<(k1:Int):=by omega
    have ei:((p+1:Nat):Int)-1=(p:Int):=by omega
    rw[ei]
    have HQ:=Zh hq
    clear hq
    by_cases hE:f p=g p
    ·have NE:Hid (∀ j,p≤j→j<k1→f j=g j):=fun j h1 h2=>by
      by_cases e:j=p
      ·rw[e,hE]
      ·exact hR.out.1 j (by omega) h2
     rw[←hE]at g2
     generalize f p=x at *
     go_wp2_with fail
     go_quiet (fail)
     have NX:Hid ((∀ j,p≤j→j<k1→f j=g j)∧∃ q,wr.drewN nq=w.drewN q):=⟨NE.out,q+nq,by rw[HQ.out,drewN_drewN]⟩
     clear g1 g2
     go_wp2
     go_roundw
     case rel=>exact⟨p,by omega,by go_num,NX.out⟩
     case measure=>simp[intOf]
    ·have E:Hid (sgn n1 n2=sgn (f p) (g p)):=by
      unfold Hid
      rw[←S1.out,←S2.out]
      rcases Nat.lt_trichotomy (f p) (g p) with l|l|l
      ·rw[sgn_lt l,sgn_lt (cmp_lt H1.out.2.1 (by omega) l (fun j h1 h2=>hR.out.1 j (by omega) h2))]
      ·exact absurd l hE
      ·rw[sgn_gt l,sgn_gt (cmp_lt H2.out.2.1 (by omega) l (fun j h1 h2=>(hR.out.1 j (by omega) h2).symm))]
     have hb:((f p:Int) == (g p:Int))=false:=by rw[beq_eq_false_iff_ne];omega
     have hb':(f p == g p)=false:=by rw[beq_eq_false_iff_ne];exact hE
     have hc:=Zh (fun w=>cmpU_c (f p) (g p) w)
     generalize f p=x at *
     generalize g p=y at *
     clear hE
     go_wp2_with fail
     go_quiet (fail)
     go_wp2_with fail
     generalize hw1:wr.drewN _=w1
     have g1':w1.cell? ⟨b1,o1+p,none⟩=some (.int .u64 x):=by rw[←hw1];exact g1
     have g2':w1.cell? ⟨b2,o2+p,none⟩=some (.int .u64 y):=by rw[←hw1];exact g2
     have HW:=Zh hw1
     clear hw1 g1 g2
     go_quiet ((go_at_call 174;exact Calls.quiet_of_same ((hc.out _).mono fun e w' h=>⟨h.1,h.2.symm⟩)))
     go_wp2
     go_ret
     exact⟨ret_int E.out.symm,by rw[←HW.out,HQ.out];exact⟨_,by rw[drewN_drewN,drewN_drewN]⟩⟩
 ·have hne:((k1:Int) == (k2:Int))=false:=by rw[beq_eq_false_iff_ne];omega
  have hne':(k1 == k2)=false:=by rw[beq_eq_false_iff_ne];exact hk
  have E:Hid (sgn n1 n2=Lib.compareInt (k1:Int) k2):=by
   unfold Hid
   rw[←s1,←s2]
   rcases Nat.lt_or_ge k1 k2 with l|l
   ·rw[sgn_lt (len_lt r1.2.1 t2 l)]
    unfold Lib.compareInt
    simp;omega
   ·rw[sgn_gt (len_lt r2.2.1 t1 (by omega))]
    unfold Lib.compareInt
    simp;omega
  clear r1 r2 t1 t2 s1 s2 hk
  go_enter Tryz.func150,Tryz.ntmps150
  go_wp2_with (go_at_call 38;refine (Tryz.cmp_Compare_int _ _ _).mono ?_;rintro e w' ⟨rfl,rfl⟩)
  go_ret
  exact⟨ret_int E.out.symm,0,rfl⟩
theorem from_put(f:Nat→Nat)(o j x:Nat):from_ (put f (o+j) x) o=put (from_ f o) j x:=by
 funext i
 unfold from_ put
 by_cases h:i=j
 ·rw[if_pos (by omega),if_pos h]
 ·rw[if_neg (by omega),if_neg h]
theorem grown_set{a w:World}{g i:Nat}{v:Value}(h:a.grownBy w (some g)):a.grownBy (w.setCell ⟨g,i,none⟩ v) (some g):=by
 refine h.trans ⟨rfl,rfl,rfl,by simp,fun k hk hne=>?_⟩
 exact Below.heap_setCell _ _ _ _ (fun e=>hne (by rw[e]))
theorem bel_grown{w0 w w':World}{g:Nat}(hB:Below w0.heap.size w0 w)(hg:w0.heap.size≤g)(h:w.grownBy w' (some g)):Below w0.heap.size w0 w':=
 hB.grown h hB.size (fun k hk=>by cases hk;exact hg)
structure Wd (w:World) (g K o m:Nat) (f f':Nat→Nat) (w':World):Prop where
 bf:Bf w' g K f'
 out:∀ j,j<o∨o+m≤j→f' j=f j
 grown:w.grownBy w' (some g)
def AddTPost(w:World)(g K o m:Nat)(f fb:Nat→Nat)(t:Nat)(e:Ending)(w':World):Prop:=
 ∃ (x:Nat) (f':Nat→Nat),e=.returned (.int .u64 (x:Int))∧x<18446744073709551616∧Wd w g K o m f f' w'∧S (from_ f' o) m+x*bp m=S (from_ f o) m+t*S fb m
set_option maxHeartbeats 4000000 in
theorem addTimes_g(g o m c K cb t:Nat) (ab:Option Addr) (f fb:Nat→Nat) (w:World) (hb:Rl w ab m fb) (hA:Apart ab m g) (hf:Bf w g K f) (hK:o+m≤K) (hK2:K≤100000) (ht:t<18446744073709551616) :
  Calls Tryz.prog 185 #[.slice (some ⟨g,o,none⟩) m c,.slice ab m cb,.int .u64 t] w (AddTPost w g K o m f fb t):=by
 have HRB:=Zh hb
 have HF:=Zh hf
 have HAP:=Zh hA
 clear hb hA hf
 go_enter Tryz.func185,Tryz.ntmps185
 go_wp2
 go_loopw [7,15] (fun v i wr=>∃ (j y:Nat) (f':Nat→Nat),j≤m∧i=.int .i64 j∧v=.int .u64 y∧y<18446744073709551616∧Hid (Wd w g K o j f f' wr∧S (from_ f' o) j+y*bp j=S (from_ f o) j+t*S fb j)) (fun _ i _=>m-(intOf i).toNat)
 case atStart=>exact⟨0,0,f,Nat.zero_le _,rfl,rfl,by omega,⟨HF.out,fun _ _=>rfl,World.grownBy.refl _ _⟩,by simp only[S_zero];omega⟩
 case round=>
  obtain⟨j,y,f',hj,rfl,rfl,hy,hR⟩:=hrel
  by_cases hlt:j<m
  ·have hlt':(j:Int)<(m:Int):=by omega
   have hBw:=HRB.out.grown hR.out.1.grown HAP.out
   obtain⟨b,off,rfl,hbl,hc1⟩:=hBw.at_ hlt
   have hx:=HRB.out.2.1 j hlt
   have hBj:=hR.out.1.bf.2.2 (o+j) (by omega)
   have hz:=hR.out.1.bf.2.1 (o+j) (by omega)
   have ez:f' (o+j)=f (o+j):=hR.out.1.out _ (.inr (by omega))
   have hc2:=hBj.1
   have hf2:=hBj.2
   rw[ez]at hc2 hz
   obtain⟨s1,hi,hstep,ha1,ha2,hhi⟩:=steps (fb j) t y hx ht hy
   have HST:=Zh hstep
   obtain⟨s2,d2,hadd2,hb1,hb2,hb3⟩:=adds (f (o+j)) s1 0 rfl rfl (show (0:Int)=((0:Nat):Int) from rfl) hz ha2 (by omega)
   have hbd:hi+d2<18446744073709551616:=by
    have a:fb j*t≤18446744073709551615*18446744073709551615:=Nat.mul_le_mul (by omega) (by omega)
    omega
   have NX:Hid (Wd w g K o (j+1) f (put f' (o+j) s2) (wr.setCell ⟨g,o+j,none⟩ (.int .u64 s2))∧S (from_ (put f' (o+j) s2) o) (j+1)+(hi+d2)*bp (j+1)=S (from_ f o) (j+1)+t*S fb (j+1)):=by
    refine⟨⟨hR.out.1.bf.put (by omega) hb2,fun i hi=>by rw[put_ne (by omega)];exact hR.out.1.out i (by omega),grown_set hR.out.1.grown⟩,?_⟩
    rw[from_put,S_put,bp_succ,S_succ,S_succ]
    have e:from_ f o j=f (o+j):=rfl
    rw[e]
    exact step_addmul hR.out.2 (by omega)
   clear hBj hstep ha1 hb1 ez hBw
   generalize fb j=x at *
   generalize f (o+j)=z at *
   go_wp2_with (first | (go_at_call 199;refine (HST.out _).mono ?_;rintro e w' ⟨rfl,rfl⟩) | (rw[hadd2]))
   go_roundw
   case rel=>exact⟨j+1,hi+d2,put f' (o+j) s2,by omega,by go_num,by go_num,hbd,NX.out⟩
   case measure=>simp[intOf];omega
  ·obtain rfl:j=m:=by omega
   go_wp2
   go_ret
   exact⟨y,f',rfl,hy,hR.out.1,hR.out.2⟩
theorem addTimes_c(w0:World) (g o m c K cb t:Nat) (ab:Option Addr) (f fb:Nat→Nat) (w:World) (hb:Rl w0 ab m fb) (hB:Below w0.heap.size w0 w) (hg:w0.heap.size≤g) (hf:Bf w g K f) (hK:o+m≤K) (hK2:K≤100000) (ht:t<18446744073709551616) :
  Calls Tryz.prog 185 #[.slice (some ⟨g,o,none⟩) m c,.slice ab m cb,.int .u64 t] w (AddTPost w g K o m f fb t):=
 addTimes_g g o m c K cb t ab f fb w (hb.below hB) (apart_of hb hg) hf hK hK2 ht
def SubTPost(w:World)(g K o m:Nat)(f fb:Nat→Nat)(t:Nat)(e:Ending)(w':World):Prop:=
 ∃ (x:Nat) (f':Nat→Nat),x≤1∧e=.returned (.bool (decide (x=1)))∧Wd w g K o (m+1) f f' w'∧S (from_ f' o) (m+1)+t*S fb m=S (from_ f o) (m+1)+x*bp (m+1)
set_option maxHeartbeats 4000000 in
theorem subtractTimes_g(g o m c K cb t:Nat) (ab:Option Addr) (f fb:Nat→Nat) (w:World) (hb:Rl w ab m fb) (hA:Apart ab m g) (hf:Bf w g K f) (hK:o+m+1≤K) (hK2:K≤100000) (ht:t<18446744073709551616) :
  Calls Tryz.prog 206 #[.slice (some ⟨g,o,none⟩) (m+1) c,.slice ab m cb,.int .u64 t] w (SubTPost w g K o m f fb t):=by
 have HRB:=Zh hb
 have HF:=Zh hf
 have HAP:=Zh hA
 clear hb hA hf
 go_enter Tryz.func206,Tryz.ntmps206
 go_wp2
 go_loopw [7,16] (fun v i wr=>∃ (j y:Nat) (f':Nat→Nat),j≤m∧i=.int .i64 j∧v=.int .u64 y∧y<18446744073709551616∧Hid (Wd w g K o j f f' wr∧S (from_ f' o) j+t*S fb j=S (from_ f o) j+y*bp j)) (fun _ i _=>m-(intOf i).toNat)
 case atStart=>exact⟨0,0,f,Nat.zero_le _,rfl,rfl,by omega,⟨HF.out,fun _ _=>rfl,World.grownBy.refl _ _⟩,by simp only[S_zero];omega⟩
 case round=>
  obtain⟨j,y,f',hj,rfl,rfl,hy,hR⟩:=hrel
  have hBj:=hR.out.1.bf.2.2 (o+j) (by omega)
  have hz:=hR.out.1.bf.2.1 (o+j) (by omega)
  have ez:f' (o+j)=f (o+j):=hR.out.1.out _ (.inr (by omega))
  have hc2:=hBj.1
  have hf2:=hBj.2
  rw[ez]at hc2 hz
  by_cases hlt:j<m
  ·have hlt':(j:Int)<(m:Int):=by omega
   have hBw:=HRB.out.grown hR.out.1.grown HAP.out
   obtain⟨b,off,rfl,hbl,hc1⟩:=hBw.at_ hlt
   have hx:=HRB.out.2.1 j hlt
   obtain⟨s1,hi,hstep,ha1,ha2,hhi⟩:=steps (fb j) t y hx ht hy
   have HST:=Zh hstep
   obtain⟨s2,d2,hsub2,hb1,hb2,hb3⟩:=subs (f (o+j)) s1 0 rfl rfl (show (0:Int)=((0:Nat):Int) from rfl) hz ha2 (by omega)
   have hbd:hi+d2<18446744073709551616:=by
    have a:fb j*t≤18446744073709551615*18446744073709551615:=Nat.mul_le_mul (by omega) (by omega)
    omega
   have NX:Hid (Wd w g K o (j+1) f (put f' (o+j) s2) (wr.setCell ⟨g,o+j,none⟩ (.int .u64 s2))∧S (from_ (put f' (o+j) s2) o) (j+1)+t*S fb (j+1)=S (from_ f o) (j+1)+(hi+d2)*bp (j+1)):=by
    refine⟨⟨hR.out.1.bf.put (by omega) hb2,fun i hi=>by rw[put_ne (by omega)];exact hR.out.1.out i (by omega),grown_set hR.out.1.grown⟩,?_⟩
    rw[from_put,S_put,bp_succ,S_succ,S_succ]
    have e:from_ f o j=f (o+j):=rfl
    rw[e]
    exact step_submul hR.out.2 (by omega)
   clear hBj hstep ha1 hb1 ez hBw
   generalize fb j=x at *
   generalize f (o+j)=z at *
   go_wp2_with (first | (go_at_call 199;refine (HST.out _).mono ?_;rintro e w' ⟨rfl,rfl⟩) | (rw[hsub2]))
   go_roundw
   case rel=>exact⟨j+1,hi+d2,put f' (o+j) s2,by omega,by go_num,by go_num,hbd,NX.out⟩
   case measure=>simp[intOf];omega
  ·obtain rfl:j=m:=by omega
   obtain⟨s,d,hsub,hb1,hb2,hb3⟩:=subs (f (o+j)) y 0 rfl rfl (show (0:Int)=((0:Nat):Int) from rfl) hz hy (by omega)
   have NX:Hid (Wd w g K o (j+1) f (put f' (o+j) s) (wr.setCell ⟨g,o+j,none⟩ (.int .u64 s))∧S (from_ (put f' (o+j) s) o) (j+1)+t*S fb j=S (from_ f o) (j+1)+d*bp (j+1)):=by
    refine⟨⟨hR.out.1.bf.put (by omega) hb2,fun i hi=>by rw[put_ne (by omega)];exact hR.out.1.out i (by omega),grown_set hR.out.1.grown⟩,?_⟩
    rw[from_put,S_put,bp_succ,S_succ]
    have e:from_ f o j=f (o+j):=rfl
    rw[e]
    have:=hR.out.2
    generalize S (from_ f' o) j=A at *
    generalize S (from_ f o) j=C at *
    generalize t*S fb j=D at *
    generalize bp j=P at *
    have hb1':s+y=f (o+j)+d*18446744073709551616:=by omega
    generalize f (o+j)=z at *
    grind
   clear hBj ez hb1
   generalize f (o+j)=z at *
   have hd:Hid (decide (0<d)=decide (d=1)):=by unfold Hid;apply decide_eq_decide.2;omega
   go_wp2_with (rw[hsub])
   go_ret
   exact⟨d,put f' (o+j) s,hb3,by rw[←hd.out];rfl,NX.out.1,NX.out.2⟩
def AddToPost(w:World)(g K o m n:Nat)(f fb:Nat→Nat)(e:Ending)(w':World):Prop:=
 ∃ (x:Nat) (f':Nat→Nat),e=.returned (.int .u64 (x:Int))∧x≤1∧Wd w g K o m f f' w'∧S (from_ f' o) m+x*bp m=S (from_ f o) m+S fb n
theorem Wd.more{w w':World}{g K o m m':Nat}{f f':Nat→Nat}(h:Wd w g K o m f f' w')(hm:m≤m'):Wd w g K o m' f f' w':=⟨h.bf,fun j hj=>h.out j (by omega),h.grown⟩
set_option maxHeartbeats 4000000 in
theorem addTo_g(g o m n c K cb:Nat) (ab:Option Addr) (f fb:Nat→Nat) (w:World) (hb:Rl w ab n fb) (hA:Apart ab n g) (hf:Bf w g K f) (hK:o+m≤K) (hK2:K≤100000) (hnm:n≤m) :
  Calls Tryz.prog 186 #[.slice (some ⟨g,o,none⟩) m c,.slice ab n cb] w (AddToPost w g K o m n f fb):=by
 have HRB:=Zh hb
 have HF:=Zh hf
 have HAP:=Zh hA
 clear hb hA hf
 go_enter Tryz.func186,Tryz.ntmps186
 go_wp2
 go_loopw [5,11] (fun v i wr=>∃ (j y:Nat) (f':Nat→Nat),j≤n∧i=.int .i64 j∧v=.int .u64 y∧y≤1∧Hid (Wd w g K o j f f' wr∧S (from_ f' o) j+y*bp j=S (from_ f o) j+S fb j)) (fun _ i _=>n-(intOf i).toNat)
 case atStart=>exact⟨0,0,f,Nat.zero_le _,rfl,rfl,by omega,⟨HF.out,fun _ _=>rfl,World.grownBy.refl _ _⟩,by simp only[S_zero];omega⟩
 case round=>
  obtain⟨j,y,f',hj,rfl,rfl,hy,hR⟩:=hrel
  by_cases hlt:j<n
  ·have hlt':(j:Int)<(n:Int):=by omega
   have hltm:(j:Int)<(m:Int):=by omega
   have hBw:=HRB.out.grown hR.out.1.grown HAP.out
   obtain⟨b,off,rfl,hbl,hc1⟩:=hBw.at_ hlt
   have hx:=HRB.out.2.1 j hlt
   have hBj:=hR.out.1.bf.2.2 (o+j) (by omega)
   have hz:=hR.out.1.bf.2.1 (o+j) (by omega)
   have ez:f' (o+j)=f (o+j):=hR.out.1.out _ (.inr (by omega))
   have hc2:=hBj.1
   have hf2:=hBj.2
   rw[ez]at hc2 hz
   obtain⟨s,d,hadd,ha1,ha2,ha3⟩:=adds (f (o+j)) (fb j) y rfl rfl rfl hz hx hy
   have NX:Hid (Wd w g K o (j+1) f (put f' (o+j) s) (wr.setCell ⟨g,o+j,none⟩ (.int .u64 s))∧S (from_ (put f' (o+j) s) o) (j+1)+d*bp (j+1)=S (from_ f o) (j+1)+S fb (j+1)):=by
    refine⟨⟨hR.out.1.bf.put (by omega) ha2,fun i hi=>by rw[put_ne (by omega)];exact hR.out.1.out i (by omega),grown_set hR.out.1.grown⟩,?_⟩
    rw[from_put,S_put,bp_succ,S_succ,S_succ]
    have e:from_ f o j=f (o+j):=rfl
    rw[e]
    exact step_add hR.out.2 (by omega)
   clear hBj ha1 ez hBw
   generalize fb j=x at *
   generalize f (o+j)=z at *
   go_wp2_with (rw[hadd])
   go_roundw
   case rel=>exact⟨j+1,d,put f' (o+j) s,by omega,by go_num,rfl,ha3,NX.out⟩
   case measure=>simp[intOf];omega
  ·obtain rfl:j=n:=by omega
   clear hlt
   have HJ:Hid (Wd w g K o j f f' wr∧S (from_ f' o) j+y*bp j=S (from_ f o) j+S fb j):=hR.out
   clear hR
   go_wp2
   generalize hwr:wr=wr0 at *
   have HWR:=Zh hwr
   clear hwr
   go_loopw [5,8] (fun v i wx=>∃ (p y:Nat) (f':Nat→Nat),j≤p∧p≤m∧i=.int .i64 p∧v=.int .u64 y∧y≤1∧Hid (Wd w g K o p f f' wx∧S (from_ f' o) p+y*bp p=S (from_ f o) p+S fb j)) (fun _ i _=>m-(intOf i).toNat)
   case atStart=>exact⟨j,y,f',Nat.le_refl _,hnm,rfl,rfl,hy,HJ.out⟩
   case round=>
    clear HJ
    obtain⟨p,y2,f2,hjp,hpm,rfl,rfl,hy2,hP⟩:=hrel
    rcases Nat.eq_zero_or_pos y2 with e|e
    ·subst e
     go_wp2_with fail
     go_ret
     have hE:from_ f2 o=from_ f2 o:=rfl
     refine⟨0,f2,rfl,by omega,hP.out.1.more hpm,?_⟩
     obtain⟨d,rfl⟩:=Nat.exists_eq_add_of_le hpm
     rw[S_at (from_ f2 o) p d,S_at (from_ f o) p d,from_from,from_from]
     have e2:S (from_ f2 (o+p)) d=S (from_ f (o+p)) d:=S_congr (fun i hi=>hP.out.1.out _ (.inr (by omega)))
     rw[e2]
     have:=hP.out.2
     omega
    ·obtain rfl:y2=1:=by omega
     by_cases hlt:p<m
     ·have hltm:(p:Int)<(m:Int):=by omega
      have hBj:=hP.out.1.bf.2.2 (o+p) (by omega)
      have hz:=hP.out.1.bf.2.1 (o+p) (by omega)
      have ez:f2 (o+p)=f (o+p):=hP.out.1.out _ (.inr (by omega))
      have hc2:=hBj.1
      have hf2:=hBj.2
      rw[ez]at hc2 hz
      obtain⟨s,d,hadd,ha1,ha2,ha3⟩:=adds (f (o+p)) 0 1 rfl (show (0:Int)=((0:Nat):Int) from rfl) (show (1:Int)=((1:Nat):Int) from rfl) hz (by omega) (by omega)
      have NX:Hid (Wd w g K o (p+1) f (put f2 (o+p) s) (wr.setCell ⟨g,o+p,none⟩ (.int .u64 s))∧S (from_ (put f2 (o+p) s) o) (p+1)+d*bp (p+1)=S (from_ f o) (p+1)+S fb j):=by
       refine⟨⟨hP.out.1.bf.put (by omega) ha2,fun i hi=>by rw[put_ne (by omega)];exact hP.out.1.out i (by omega),grown_set hP.out.1.grown⟩,?_⟩
       rw[from_put,S_put,bp_succ,S_succ]
       have e:from_ f o p=f (o+p):=rfl
       rw[e]
       have t:=step_add (x:=f (o+p)) (y:=0) (s:=s) (c':=d) hP.out.2 (by omega)
       rw[Nat.zero_mul,Nat.add_zero]at t
       exact t
      clear hBj ha1 ez
      generalize f (o+p)=z at *
      go_wp2_with (rw[hadd])
      go_roundw
      case rel=>exact⟨p+1,d,put f2 (o+p) s,by omega,by omega,by go_num,rfl,ha3,NX.out⟩
      case measure=>simp[intOf];omega
     ·obtain rfl:p=m:=by omega
      go_wp2
      go_ret
      exact⟨1,f2,rfl,by omega,hP.out.1,hP.out.2⟩
theorem addTo_c(w0:World) (g o m n c K cb:Nat) (ab:Option Addr) (f fb:Nat→Nat) (w:World) (hb:Rl w0 ab n fb) (hB:Below w0.heap.size w0 w) (hg:w0.heap.size≤g) (hf:Bf w g K f) (hK:o+m≤K) (hK2:K≤100000) (hnm:n≤m) :
  Calls Tryz.prog 186 #[.slice (some ⟨g,o,none⟩) m c,.slice ab n cb] w (AddToPost w g K o m n f fb):=
 addTo_g g o m n c K cb ab f fb w (hb.below hB) (apart_of hb hg) hf hK hK2 hnm
theorem from_zero(f:Nat→Nat):from_ f 0=f:=by funext j;unfold from_;rw[Nat.zero_add]
def over_(f f0:Nat→Nat)(k:Nat):Nat→Nat:=fun j=>if j<k then f j else f0 j
theorem S_over(f f0:Nat→Nat)(k:Nat):S (over_ f f0 k) k=S f k:=S_congr (fun j hj=>by unfold over_;rw[if_pos hj])
def lcells(f:Nat→Nat)(k:Nat):List Value:=(List.range k).map fun j=>Value.int .u64 (f j:Int)
theorem lcells_at{f:Nat→Nat}{k j:Nat}(h:j<k):(lcells f k)[j]?=some (.int .u64 (f j:Int)):=by unfold lcells;simp[h]
theorem size_set(b:Nat):∀ (vs:List Value) (o:Nat) (w:World),(w.setCells b o vs).heap.size=w.heap.size
 | [],_,_=>rfl
 | v::vs,o,w=>by
  show ((w.setCell ⟨b,o,none⟩ v).setCells b (o+1) vs).heap.size=_
  rw[size_set b vs (o+1)];simp
theorem grown_sets(g:Nat):∀ (vs:List Value) (o:Nat) (w:World),w.grownBy (w.setCells g o vs) (some g)
 | [],_,w=>World.grownBy.refl _ _
 | v::vs,o,w=>(grown_set (World.grownBy.refl w (some g))).trans (grown_sets g vs (o+1) _)
theorem copy_limbs(W:World) (g K k c:Nat) (a:Option Addr) (f f0:Nat→Nat) (ty:TypeId) (hb:Bf W g K f0) (hr:Rl W a k f) (hk:k≤K) :
  ∃ W',(Builtin.copy_ #[105,105] ty #[.slice (some ⟨g,0,none⟩) K K,.slice a k c]).run Tryz.prog W=.ok (goInt k) W'∧Bf W' g K (over_ f f0 k)∧W.grownBy W' (some g):=by
 have hsz:(Tryz.prog.info? 144).map (·.size)=some 1:=by
  have h:=infoL
  cases e:Tryz.prog.info? 144 with
  | none=>rw[e]at h;cases h
  | some i=>rw[e]at h;simp at h;simp[h.2.1]
 rcases Nat.eq_zero_or_pos k with e|e
 ·subst e
  exact⟨W,run_copy_none W _ _ ty 144 _ _ _ _ _ _ Tryz.underlying105 hsz (Nat.zero_min _),hb.congr (fun j _=>by unfold over_;rw[if_neg (by omega)]),World.grownBy.refl _ _⟩
 ·obtain⟨b,off,rfl,hbl,hc⟩:=hr.2.2 e
  have hl:(lcells f k).length=k:=by simp[lcells]
  have hin:∀ j,j<(lcells f k).length→(W.cell? ⟨g,0+j,none⟩).isSome=true:=fun j hj=>by
   rw[Nat.zero_add,(hb.2.2 j (by omega)).1];rfl
  have h:=run_copy_cells (P:=Tryz.prog) W 105 105 ty 144 g 0 K K ⟨b,off,none⟩ k c (lcells f k) Tryz.underlying105 hsz (by rw[hl];exact (Nat.min_eq_left hk).symm) (fun j v hj=>by
    have hjk:j<k:=by
     have:=(List.getElem?_eq_some_iff.1 hj).1;omega
    rw[lcells_at hjk]at hj
    cases hj
    have e2:(Addr.mk b off none).add j=⟨b,off+j,none⟩:=by
     unfold Addr.add
     split
     ·rename_i h;subst h;rfl
     ·rfl
    rw[e2];exact hc j hjk) hin (fun j hj=>by rw[Nat.zero_add];exact (hb.2.2 j (by omega)).2) (fun v hv=>by
    unfold lcells at hv
    obtain⟨j,_,rfl⟩:=List.mem_map.1 hv
    rfl)
  rw[hl]at h
  refine⟨_,h,⟨by rw[size_set];exact hb.1,fun j hj=>?_,fun j hj=>⟨?_,by rw[World.frozen?_setCells];exact (hb.2.2 j hj).2⟩⟩,grown_sets _ _ _ _⟩
  ·unfold over_
   split
   ·next h=>exact hr.2.1 j h
   ·exact hb.2.1 j hj
  ·by_cases hjk:j<k
   ·have t:=World.cell?_setCells_in g (lcells f k) 0 W hin j (by omega)
    rw[Nat.zero_add]at t
    rw[t]
    unfold over_
    rw[if_pos hjk,←List.getElem?_eq_getElem,lcells_at hjk]
   ·rw[World.cell?_setCells_out g (lcells f k) 0 W _ (fun _ _=>.inr (by rw[hl];show 0+k≤j;omega)),(hb.2.2 j hj).1]
    unfold over_
    rw[if_neg hjk]
set_option maxHeartbeats 4000000 in
theorem sum_c(a1 a2:Option Addr) (k1 k2 c1 c2 n1 n2:Nat) (w:World) (h1:Nm w a1 k1 c1 n1) (h2:Nm w a2 k2 c2 n2) (hn1:n1<bp 2000) (hn2:n2<bp 2000) :
  Calls Tryz.prog 168 #[.slice a1 k1 c1,.slice a2 k2 c2] w (NmPost (n1+n2) w):=by
 have hk1:=h1.len hn1
 have hk2:=h2.len hn2
 obtain⟨f1,r1,hkc1,hcc1,t1,s1,p1⟩:=h1
 obtain⟨f2,r2,hkc2,hcc2,t2,s2,p2⟩:=h2
 have H1:=Zh r1
 have H2:=Zh r2
 have S1:=Zh s1
 have S2:=Zh s2
 clear r1 r2 s1 s2 hn1 hn2
 clear t1 t2
 by_cases hlt0:k1<k2
 ·have hmk:=fun w=>mk_limbsI ((k2:Int)+1) (k2+1) (by omega) (by omega) w
  have hlt:(k1:Int)<(k2:Int):=by omega
  go_enter Tryz.func168,Tryz.ntmps168
  go_wp2_with fail
  have B0:=Bf.made w (k2+1) 144
  have BL:Hid (Below w.heap.size w (w.alloc (.cells (madeCells #[.int .u64 0] (k2+1)) 144))):=bel_one _ _
  generalize hW1:w.alloc (.cells (madeCells #[.int .u64 0] (k2+1)) 144)=W1 at *
  obtain⟨W2,hcp,hb2,hg2⟩:=copy_limbs W1 w.heap.size (k2+1) k2 c2 a2 f2 _ 3 B0 (H2.out.below BL.out) (by omega)
  have BB2:=Zh hb2
  have BL2:Hid (Below w.heap.size w W2):=bel_grown BL.out (Nat.le_refl _) hg2
  clear hW1 hmk hb2 hg2 B0
  go_wp2_with (rw[hcp])
  clear hcp
  refine (addTo_c w w.heap.size 0 k2 k1 (k2+1) (k2+1) c1 a1 (over_ f2 (fun _=>0) k2) f1 W2 H1.out BL2.out (Nat.le_refl _) BB2.out (by omega) (by omega) (by omega)).mono ?_
  rintro e W3 ⟨x,f',rfl,hx,hW,hs⟩
  rw[from_zero,from_zero,S_over,S2.out,S1.out]at hs
  have HW:=Zh hW
  have hBj:=hW.bf.2.2 k2 (by omega)
  have hc2:=hBj.1
  have hf2:=hBj.2
  have BL3:=Zh (bel_grown BL2.out (Nat.le_refl _) hW.grown)
  have NB:=Zh (hW.bf.put (i:=k2) (x:=x) (by omega) (by omega))
  have BL4:Hid (Below w.heap.size w (W3.setCell ⟨w.heap.size,k2,none⟩ (.int .u64 x))):=BL3.out.setCell (p:=⟨w.heap.size,k2,none⟩) (Nat.le_refl _) _
  have E:Hid (S (put f' k2 x) (k2+1)=n1+n2):=by unfold Hid;rw[S_put];omega
  clear hBj hW hs
  go_wp2_with fail
  generalize W3.setCell ⟨w.heap.size,k2,none⟩ (.int .u64 x)=W4 at *
  refine (trim_c (some ⟨w.heap.size,0,none⟩) (k2+1) (k2+1) (put f' k2 x) W4 (NB.out.rl0 (Nat.le_refl _) (by omega)) (Nat.le_refl _) (by omega) (Pl.some_ _ _)).mono ?_
  rintro e w5 ⟨a',k',c',rfl,hN,b5⟩
  rw[E.out]at hN
  have R:=Zh (show NmPost (n1+n2) w (.returned (.slice a' k' c')) w5 from ⟨a',k',c',rfl,hN,BL4.out.trans (b5.mono BL4.out.size)⟩)
  clear hN b5
  go_wp2
  go_ret
  exact R.out
 ·have hmk:=fun w=>mk_limbsI ((k1:Int)+1) (k1+1) (by omega) (by omega) w
  have hlt:¬ (k1:Int)<(k2:Int):=by omega
  go_enter Tryz.func168,Tryz.ntmps168
  go_wp2_with fail
  have B0:=Bf.made w (k1+1) 144
  have BL:Hid (Below w.heap.size w (w.alloc (.cells (madeCells #[.int .u64 0] (k1+1)) 144))):=bel_one _ _
  generalize hW1:w.alloc (.cells (madeCells #[.int .u64 0] (k1+1)) 144)=W1 at *
  obtain⟨W2,hcp,hb2,hg2⟩:=copy_limbs W1 w.heap.size (k1+1) k1 c1 a1 f1 _ 3 B0 (H1.out.below BL.out) (by omega)
  have BB2:=Zh hb2
  have BL2:Hid (Below w.heap.size w W2):=bel_grown BL.out (Nat.le_refl _) hg2
  clear hW1 hmk hb2 hg2 B0
  go_wp2_with (rw[hcp])
  clear hcp
  refine (addTo_c w w.heap.size 0 k1 k2 (k1+1) (k1+1) c2 a2 (over_ f1 (fun _=>0) k1) f2 W2 H2.out BL2.out (Nat.le_refl _) BB2.out (by omega) (by omega) (by omega)).mono ?_
  rintro e W3 ⟨x,f',rfl,hx,hW,hs⟩
  rw[from_zero,from_zero,S_over,S1.out,S2.out]at hs
  have HW:=Zh hW
  have hBj:=hW.bf.2.2 k1 (by omega)
  have hc2:=hBj.1
  have hf2:=hBj.2
  have BL3:=Zh (bel_grown BL2.out (Nat.le_refl _) hW.grown)
  have NB:=Zh (hW.bf.put (i:=k1) (x:=x) (by omega) (by omega))
  have BL4:Hid (Below w.heap.size w (W3.setCell ⟨w.heap.size,k1,none⟩ (.int .u64 x))):=BL3.out.setCell (p:=⟨w.heap.size,k1,none⟩) (Nat.le_refl _) _
  have E:Hid (S (put f' k1 x) (k1+1)=n1+n2):=by unfold Hid;rw[S_put];omega
  clear hBj hW hs
  go_wp2_with fail
  generalize W3.setCell ⟨w.heap.size,k1,none⟩ (.int .u64 x)=W4 at *
  refine (trim_c (some ⟨w.heap.size,0,none⟩) (k1+1) (k1+1) (put f' k1 x) W4 (NB.out.rl0 (Nat.le_refl _) (by omega)) (Nat.le_refl _) (by omega) (Pl.some_ _ _)).mono ?_
  rintro e w5 ⟨a',k',c',rfl,hN,b5⟩
  rw[E.out]at hN
  have R:=Zh (show NmPost (n1+n2) w (.returned (.slice a' k' c')) w5 from ⟨a',k',c',rfl,hN,BL4.out.trans (b5.mono BL4.out.size)⟩)
  clear hN b5
  go_wp2
  go_ret
  exact R.out
set_option maxHeartbeats 4000000 in
theorem product_c(a1 a2:Option Addr) (k1 k2 c1 c2 n1 n2:Nat) (w:World) (h1:Nm w a1 k1 c1 n1) (h2:Nm w a2 k2 c2 n2) (hn1:n1<bp 2000) (hn2:n2<bp 2000) :
  Calls Tryz.prog 167 #[.slice a1 k1 c1,.slice a2 k2 c2] w (NmPost (n1*n2) w):=by
 have hk1:=h1.len hn1
 have hk2:=h2.len hn2
 obtain⟨f1,r1,hkc1,hcc1,t1,s1,p1⟩:=h1
 obtain⟨f2,r2,hkc2,hcc2,t2,s2,p2⟩:=h2
 have H1:=Zh r1
 have H2:=Zh r2
 have S1:=Zh s1
 have S2:=Zh s2
 clear r1 r2 s1 s2 hn1 hn2
 clear t1 t2
 by_cases hlt0:k2<k1
 ·have hmk:=fun w=>mk_limbsI ((k2:Int)+k1) (k2+k1) (by omega) (by omega) w
  have hlt:(k2:Int)<(k1:Int):=by omega
  go_enter Tryz.func167,Tryz.ntmps167
  go_wp2_with fail
  have B0:=Zh (Bf.made w (k2+k1) 144)
  have BL:Hid (Below w.heap.size w (w.alloc (.cells (madeCells #[.int .u64 0] (k2+k1)) 144))):=bel_one _ _
  generalize hW1:w.alloc (.cells (madeCells #[.int .u64 0] (k2+k1)) 144)=W1 at *
  clear hW1 hmk hlt
  go_loopw [23] (fun i wr=>∃ (j:Nat) (F:Nat→Nat),j≤k2∧i=.int .i64 j∧Hid (Bf wr w.heap.size (k2+k1) F∧Below w.heap.size w wr∧(∀ i,j+k1≤i→F i=0)∧S F (j+k1)=S f2 j*n1)) (fun i _=>k2-(intOf i).toNat)
  case atStart=>exact⟨0,fun _=>0,Nat.zero_le _,rfl,B0.out,BL.out,fun _ _=>rfl,by rw[S_zero,S_zeros (fun _ _=>rfl)];omega⟩
  case round=>
   clear B0 BL
   obtain⟨j,F,hj,rfl,hR⟩:=hrel
   by_cases hlt:j<k2
   ·have hlt':(j:Int)<(k2:Int):=by omega
    obtain⟨b,off,rfl,hbl,hc1⟩:=(H2.out.below hR.out.2.1).at_ hlt
    have hx:=H2.out.2.1 j hlt
    have HA:=Zh (addTimes_c w w.heap.size j k1 (k2+k1-j) (k2+k1) c1 (f2 j) a1 F f1 wr H1.out hR.out.2.1 (Nat.le_refl _) hR.out.1 (by omega) (by omega) hx)
    have HS:=Zh (S_succ f2 j)
    generalize f2 j=t at *
    have hle:(j:Int)+(k1:Int)≤(k2:Int)+k1:=by omega
    go_wp2_with fail
    refine HA.out.mono ?_
    rintro e W3 ⟨x,F',rfl,hx2,hW,hs⟩
    rw[S1.out]at hs
    have hBj:=hW.bf.2.2 (j+k1) (by omega)
    have hc2:=hBj.1
    have hf2:=hBj.2
    have BL3:=Zh (bel_grown hR.out.2.1 (Nat.le_refl _) hW.grown)
    have NX:Hid (Bf (W3.setCell ⟨w.heap.size,j+k1,none⟩ (.int .u64 x)) w.heap.size (k2+k1) (put F' (j+k1) x)∧Below w.heap.size w (W3.setCell ⟨w.heap.size,j+k1,none⟩ (.int .u64 x))∧(∀ i,j+1+k1≤i→put F' (j+k1) x i=0)∧S (put F' (j+k1) x) (j+1+k1)=S f2 (j+1)*n1):=by
     refine⟨hW.bf.put (by omega) hx2,BL3.out.setCell (p:=⟨w.heap.size,j+k1,none⟩) (Nat.le_refl _) _,fun i hi=>?_,?_⟩
     ·rw[put_ne (by omega),hW.out i (by omega)];exact hR.out.2.2.1 i (by omega)
     ·rw[show j+1+k1=j+k1+1 by omega,S_put,HS.out,S_at F' j k1,bp_add]
      have e1:S F' j=S F j:=S_congr (fun i hi=>hW.out i (.inl hi))
      have e2:=hR.out.2.2.2
      rw[S_at F j k1]at e2
      rw[e1]
      generalize S F j=A at *
      generalize S (from_ F' j) k1=C at *
      generalize S (from_ F j) k1=D at *
      generalize S f2 j=G at *
      generalize bp j=P at *
      generalize bp k1=Q at *
      grind
    clear hBj hW hs HA
    go_wp2_with fail
    go_roundw
    case rel=>exact⟨j+1,put F' (j+k1) x,by omega,by go_num,NX.out⟩
    case measure=>simp[intOf];omega
   ·obtain rfl:j=k2:=by omega
    clear hlt
    have E:Hid (S F (j+k1)=n1*n2):=by unfold Hid;rw[hR.out.2.2.2,S2.out,Nat.mul_comm]
    have BL2:=Zh hR.out.2.1
    have BB:=Zh hR.out.1
    clear hR
    go_wp2_with fail
    refine (trim_c (some ⟨w.heap.size,0,none⟩) (j+k1) (j+k1) F wr (BB.out.rl0 (Nat.le_refl _) (by omega)) (Nat.le_refl _) (by omega) (Pl.some_ _ _)).mono ?_
    rintro e w5 ⟨a',k',c',rfl,hN,b5⟩
    rw[E.out]at hN
    have R:=Zh (show NmPost (n1*n2) w (.returned (.slice a' k' c')) w5 from ⟨a',k',c',rfl,hN,BL2.out.trans (b5.mono BL2.out.size)⟩)
    clear hN b5
    go_wp2
    go_ret
    exact R.out
 ·have hmk:=fun w=>mk_limbsI ((k1:Int)+k2) (k1+k2) (by omega) (by omega) w
  have hlt:¬ (k2:Int)<(k1:Int):=by omega
  go_enter Tryz.func167,Tryz.ntmps167
  go_wp2_with fail
  have B0:=Zh (Bf.made w (k1+k2) 144)
  have BL:Hid (Below w.heap.size w (w.alloc (.cells (madeCells #[.int .u64 0] (k1+k2)) 144))):=bel_one _ _
  generalize hW1:w.alloc (.cells (madeCells #[.int .u64 0] (k1+k2)) 144)=W1 at *
  clear hW1 hmk hlt
  go_loopw [23] (fun i wr=>∃ (j:Nat) (F:Nat→Nat),j≤k1∧i=.int .i64 j∧Hid (Bf wr w.heap.size (k1+k2) F∧Below w.heap.size w wr∧(∀ i,j+k2≤i→F i=0)∧S F (j+k2)=S f1 j*n2)) (fun i _=>k1-(intOf i).toNat)
  case atStart=>exact⟨0,fun _=>0,Nat.zero_le _,rfl,B0.out,BL.out,fun _ _=>rfl,by rw[S_zero,S_zeros (fun _ _=>rfl)];omega⟩
  case round=>
   clear B0 BL
   obtain⟨j,F,hj,rfl,hR⟩:=hrel
   by_cases hlt:j<k1
   ·have hlt':(j:Int)<(k1:Int):=by omega
    obtain⟨b,off,rfl,hbl,hc1⟩:=(H1.out.below hR.out.2.1).at_ hlt
    have hx:=H1.out.2.1 j hlt
    have HA:=Zh (addTimes_c w w.heap.size j k2 (k1+k2-j) (k1+k2) c2 (f1 j) a2 F f2 wr H2.out hR.out.2.1 (Nat.le_refl _) hR.out.1 (by omega) (by omega) hx)
    have HS:=Zh (S_succ f1 j)
    generalize f1 j=t at *
    have hle:(j:Int)+(k2:Int)≤(k1:Int)+k2:=by omega
    go_wp2_with fail
    refine HA.out.mono ?_
    rintro e W3 ⟨x,F',rfl,hx2,hW,hs⟩
    rw[S2.out]at hs
    have hBj:=hW.bf.2.2 (j+k2) (by omega)
    have hc2:=hBj.1
    have hf2:=hBj.2
    have BL3:=Zh (bel_grown hR.out.2.1 (Nat.le_refl _) hW.grown)
    have NX:Hid (Bf (W3.setCell ⟨w.heap.size,j+k2,none⟩ (.int .u64 x)) w.heap.size (k1+k2) (put F' (j+k2) x)∧Below w.heap.size w (W3.setCell ⟨w.heap.size,j+k2,none⟩ (.int .u64 x))∧(∀ i,j+1+k2≤i→put F' (j+k2) x i=0)∧S (put F' (j+k2) x) (j+1+k2)=S f1 (j+1)*n2):=by
     refine⟨hW.bf.put (by omega) hx2,BL3.out.setCell (p:=⟨w.heap.size,j+k2,none⟩) (Nat.le_refl _) _,fun i hi=>?_,?_⟩
     ·rw[put_ne (by omega),hW.out i (by omega)];exact hR.out.2.2.1 i (by omega)
     ·rw[show j+1+k2=j+k2+1 by omega,S_put,HS.out,S_at F' j k2,bp_add]
      have e1:S F' j=S F j:=S_congr (fun i hi=>hW.out i (.inl hi))
      have e2:=hR.out.2.2.2
      rw[S_at F j k2]at e2
      rw[e1]
      generalize S F j=A at *
      generalize S (from_ F' j) k2=C at *
      generalize S (from_ F j) k2=D at *
      generalize S f1 j=G at *
      generalize bp j=P at *
      generalize bp k2=Q at *
      grind
    clear hBj hW hs HA
    go_wp2_with fail
    go_roundw
    case rel=>exact⟨j+1,put F' (j+k2) x,by omega,by go_num,NX.out⟩
    case measure=>simp[intOf];omega
   ·obtain rfl:j=k1:=by omega
    clear hlt
    have E:Hid (S F (j+k2)=n1*n2):=by unfold Hid;rw[hR.out.2.2.2,S1.out]
    have BL2:=Zh hR.out.2.1
    have BB:=Zh hR.out.1
    clear hR
    go_wp2_with fail
    refine (trim_c (some ⟨w.heap.size,0,none⟩) (j+k2) (j+k2) F wr (BB.out.rl0 (Nat.le_refl _) (by omega)) (Nat.le_refl _) (by omega) (Pl.some_ _ _)).mono ?_
    rintro e w5 ⟨a',k',c',rfl,hN,b5⟩
    rw[E.out]at hN
    have R:=Zh (show NmPost (n1*n2) w (.returned (.slice a' k' c')) w5 from ⟨a',k',c',rfl,hN,BL2.out.trans (b5.mono BL2.out.size)⟩)
    clear hN b5
    go_wp2
    go_ret
    exact R.out
end Go.Proofs.YtghgbhmiliiohaaGreatDoor
