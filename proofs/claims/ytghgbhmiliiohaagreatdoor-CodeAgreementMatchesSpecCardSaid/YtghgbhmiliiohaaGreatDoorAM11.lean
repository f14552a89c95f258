/-
  Numbers of any size: a row times a limb.
-/
import Derived.Test.YtghgbhmiliiohaaGreatDoorAMQ
import Derived.Test.YtghgbhmiliiohaaGreatDoorRows
import Derived.Test.YtghgbhmiliiohaaGreatDoorAMShelf
import Derived.WalkKit
import Derived.WalkSpells
import Derived.Deep.QuietTactic
import Derived.BigQuiet
import Derived.RegionTactic
import Derived.OneCell
import Derived.Deep.OwnRows
import Derived.Lib.Hide
import Derived.IntWalk
import Derived.Below
import Derived.WalkSmall
import Derived.Shelf.Spec.BitsCarry
set_option maxRecDepth 100000
namespace Go.Proofs.YtghgbhmiliiohaaGreatDoor
@[irreducible] def bp (j:Nat):Nat:=18446744073709551616 ^ j
theorem bp_zero:bp 0=1:=by unfold bp;rfl
theorem bp_succ(j:Nat):bp (j+1)=bp j*18446744073709551616:=by unfold bp;exact Nat.pow_succ ..
theorem bp_one:bp 1=18446744073709551616:=by rw[bp_succ,bp_zero]
theorem bp_pos(j:Nat):0<bp j:=by unfold bp;exact Nat.pow_pos (by decide)
theorem bp_add(i j:Nat):bp (i+j)=bp i*bp j:=by unfold bp;exact Nat.pow_add _ _ _
theorem bp_mono{i j:Nat}(h:i≤j):bp i≤bp j:=by
 obtain⟨d,rfl⟩:=Nat.exists_eq_add_of_le h
 rw[bp_add]
 exact Nat.le_mul_of_pos_right _ (bp_pos d)
theorem bp_lt{i j:Nat}(h:bp i<bp j):i<j:=by
 rcases Nat.lt_or_ge i j with l|l
 ·exact l
 ·have:=bp_mono l;omega
theorem bp_pow(j:Nat):bp j=18446744073709551616 ^ j:=by unfold bp;rfl
def S(f:Nat→Nat):Nat→Nat
 | 0=>0
 | k+1=>S f k+f k*bp k
theorem S_zero(f:Nat→Nat):S f 0=0:=rfl
theorem S_succ(f:Nat→Nat)(k:Nat):S f (k+1)=S f k+f k*bp k:=rfl
theorem S_one(f:Nat→Nat):S f 1=f 0:=by rw[S_succ,S_zero,bp_zero];omega
theorem S_congr{f g:Nat→Nat}:∀ {k},(∀ j,j<k→f j=g j)→S f k=S g k
 | 0,_=>rfl
 | k+1,h=>by rw[S_succ,S_succ,S_congr (fun j hj=>h j (by omega)),h k (by omega)]
def Lb(f:Nat→Nat)(k:Nat):Prop:=∀ j,j<k→f j<18446744073709551616
theorem S_lt{f:Nat→Nat}:∀ {k},Lb f k→S f k<bp k
 | 0,_=>by rw[bp_zero];exact Nat.zero_lt_one
 | k+1,h=>by
  have t:=S_lt (f:=f) (k:=k) (fun j hj=>h j (by omega))
  have u:=h k (by omega)
  rw[S_succ,bp_succ]
  have q:f k*bp k≤18446744073709551615*bp k:=Nat.mul_le_mul_right _ (by omega)
  omega
theorem S_zeros{f:Nat→Nat}:∀ {k},(∀ j,j<k→f j=0)→S f k=0
 | 0,_=>rfl
 | k+1,h=>by rw[S_succ,S_zeros (fun j hj=>h j (by omega)),h k (by omega)];omega
theorem S_split(f:Nat→Nat)(k:Nat):∀ m,S f (k+m)=S f k+bp k*S (fun j=>f (k+j)) m
 | 0=>by simp[S]
 | m+1=>by
  rw[←Nat.add_assoc,S_succ,S_split f k m,S_succ,bp_add,Nat.mul_add,Nat.mul_left_comm (bp k)]
  omega
theorem S_front(f:Nat→Nat)(m:Nat):S f (m+1)=f 0+18446744073709551616*S (fun j=>f (j+1)) m:=by
 have h:=S_split f 1 m
 rw[S_one,bp_one,Nat.add_comm 1 m]at h
 rw[h]
 have e:S (fun j=>f (1+j)) m=S (fun j=>f (j+1)) m:=S_congr (fun j _=>by rw[Nat.add_comm])
 rw[e]
theorem S_ge{f:Nat→Nat}{k:Nat}(h:f k≠0):bp k≤S f (k+1):=by
 rw[S_succ]
 have:1*bp k≤f k*bp k:=Nat.mul_le_mul_right _ (by omega)
 omega
def Top(f:Nat→Nat)(k:Nat):Prop:=k=0∨f (k-1)≠0
theorem top_ge{f:Nat→Nat}{k:Nat}(h:Top f k)(hk:0<k):bp (k-1)≤S f k:=by
 obtain⟨m,rfl⟩:∃ m,k=m+1:=⟨k-1,by omega⟩
 rcases h with h|h
 ·omega
 ·exact S_ge (by simpa using h)
theorem top_len{f:Nat→Nat}{k K:Nat}(h:Top f k)(hn:S f k<bp K):k≤K:=by
 rcases Nat.eq_zero_or_pos k with e|e
 ·omega
 ·have:=bp_lt (Nat.lt_of_le_of_lt (top_ge h e) hn)
  omega
theorem top_zero{f:Nat→Nat}{k:Nat}(h:Top f k)(hn:S f k=0):k=0:=by
 rcases Nat.eq_zero_or_pos k with e|e
 ·exact e
 ·have:=top_ge h e;have:=bp_pos (k-1);omega
theorem len_lt{f g:Nat→Nat}{k m:Nat}(hf:Lb f k)(hg:Top g m)(h:k<m):S f k<S g m:=by
 have a:=S_lt hf
 have b:=top_ge hg (by omega)
 have c:=bp_mono (show k≤m-1 by omega)
 omega
theorem cmp_lt{f g:Nat→Nat}{k i:Nat}(hf:Lb f k)(hi:i<k)(hlt:f i<g i)(he:∀ j,i<j→j<k→f j=g j):S f k<S g k:=by
 obtain⟨m,rfl⟩:=Nat.exists_eq_add_of_lt hi
 rw[show i+m+1=(i+1)+m by omega,S_split f (i+1) m,S_split g (i+1) m]
 have e:S (fun j=>f (i+1+j)) m=S (fun j=>g (i+1+j)) m:=S_congr (fun j hj=>he _ (by omega) (by omega))
 rw[e,S_succ,S_succ]
 have a:=S_lt (f:=f) (k:=i) (fun j hj=>hf j (by omega))
 have b:(f i+1)*bp i≤g i*bp i:=Nat.mul_le_mul_right _ (by omega)
 rw[Nat.add_mul,Nat.one_mul]at b
 omega
theorem S_inj{f g:Nat→Nat}:∀ {k},Lb f k→Lb g k→S f k=S g k→∀ j,j<k→f j=g j
 | 0,_,_,_=>fun j hj=>by omega
 | k+1,hf,hg,h=>by
  have a:=S_lt (f:=f) (k:=k) (fun j hj=>hf j (by omega))
  have b:=S_lt (f:=g) (k:=k) (fun j hj=>hg j (by omega))
  rw[S_succ,S_succ]at h
  have e:f k=g k:=by
   rcases Nat.lt_trichotomy (f k) (g k) with l|l|l
   ·have:(f k+1)*bp k≤g k*bp k:=Nat.mul_le_mul_right _ (by omega)
    rw[Nat.add_mul,Nat.one_mul]at this
    omega
   ·exact l
   ·have:(g k+1)*bp k≤f k*bp k:=Nat.mul_le_mul_right _ (by omega)
    rw[Nat.add_mul,Nat.one_mul]at this
    omega
  rw[e]at h
  intro j hj
  by_cases ej:j=k
  ·rw[ej,e]
  ·exact S_inj (f:=f) (g:=g) (k:=k) (fun j hj=>hf j (by omega)) (fun j hj=>hg j (by omega)) (by omega) j (by omega)
theorem step_add{P G X Y c x y s c':Nat} (h:G+c*P=X+Y) (h2:x+y+c=s+c'*18446744073709551616) :
  (G+s*P)+c'*(P*18446744073709551616)=(X+x*P)+(Y+y*P):=by grind
theorem step_mul{P G X c x f s c':Nat} {m0:Nat} (h:G+c*P=f*X+m0) (h2:x*f+c=s+c'*18446744073709551616) :
  (G+s*P)+c'*(P*18446744073709551616)=f*(X+x*P)+m0:=by grind
theorem step_addmul{P G X Y c x y f s c':Nat} (h:G+c*P=Y+f*X) (h2:x*f+c+y=s+c'*18446744073709551616) :
  (G+s*P)+c'*(P*18446744073709551616)=(Y+y*P)+f*(X+x*P):=by grind
theorem step_submul{P G X Y c x y f s c':Nat} (h:G+f*X=Y+c*P) (h2:s+(x*f+c)=y+c'*18446744073709551616) :
  (G+s*P)+f*(X+x*P)=(Y+y*P)+c'*(P*18446744073709551616):=by grind
theorem step_sub{P G X Y c x y s c':Nat} (h:G+X=Y+c*P) (h2:s+(x+c)=y+c'*18446744073709551616) :
  (G+s*P)+(X+x*P)=(Y+y*P)+c'*(P*18446744073709551616):=by grind
def put(f:Nat→Nat)(i x:Nat):Nat→Nat:=fun j=>if j=i then x else f j
theorem put_same(f:Nat→Nat)(i x:Nat):put f i x i=x:=by unfold put;rw[if_pos rfl]
theorem put_ne{f:Nat→Nat}{i x j:Nat}(h:j≠i):put f i x j=f j:=by unfold put;rw[if_neg h]
theorem S_put{f:Nat→Nat}{i x:Nat}:S (put f i x) (i+1)=S f i+x*bp i:=by
 rw[S_succ,put_same,S_congr (fun j hj=>put_ne (by omega))]
theorem lb_put{f:Nat→Nat}{i x k:Nat}(h:Lb f k)(hx:x<18446744073709551616):Lb (put f i x) k:=fun j hj=>by
 unfold put
 split
 ·exact hx
 ·exact h j hj
/-! ### Dividing by two halves -/
theorem half_step{q y u yn0 yn1 rhat un32 un1:Nat} (hy:y=yn1*4294967296+yn0) (hu:u=un32*4294967296+un1) (h1:un1<4294967296) (h32:un32<y) (hq:q*yn1+rhat=un32)
  (ht:4294967296≤q∨4294967296*rhat+un1<q*yn0):u<q*y:=by
 rcases ht with h|h
 ·have a:4294967296*y≤q*y:=Nat.mul_le_mul_right _ h
  omega
 ·have e:q*y=q*yn1*4294967296+q*yn0:=by rw[hy,Nat.mul_add,Nat.mul_assoc]
  rw[e,hu]
  omega
theorem half_done{q y u yn0 yn1 rhat un32 un1:Nat} (hy:y=yn1*4294967296+yn0) (hu:u=un32*4294967296+un1) (hq:q*yn1+rhat=un32)
  (ht:q*yn0≤4294967296*rhat+un1):q*y≤u:=by
 have e:q*y=q*yn1*4294967296+q*yn0:=by rw[hy,Nat.mul_add,Nat.mul_assoc]
 rw[e,hu]
 omega
theorem half_break{q y yn0 yn1 rhat un32 un1:Nat} (hy:y=yn1*4294967296+yn0) (h0:yn0<4294967296) (h32:un32<y) (hq:q*yn1+rhat=un32) (hr:4294967296≤rhat) :
  q*yn0≤4294967296*rhat+un1:=by
 have a:q<4294967296:=by
  rcases Nat.lt_or_ge q 4294967296 with l|l
  ·exact l
  ·have:4294967296*yn1≤q*yn1:=Nat.mul_le_mul_right _ l
   omega
 have b:q*yn0≤4294967296*yn0:=Nat.mul_le_mul_right _ (by omega)
 omega
theorem half_init{y u yn0 yn1 un32 un1:Nat}(hy:y=yn1*4294967296+yn0)(hu:u=un32*4294967296+un1)(h1:un1<4294967296)(hp:0<yn1):u<(un32 / yn1+1)*y:=by
 have a:=Nat.lt_mul_div_succ un32 hp
 rw[Nat.mul_comm]at a
 have e:(un32 / yn1+1)*y=(un32 / yn1+1)*yn1*4294967296+(un32 / yn1+1)*yn0:=by rw[hy,Nat.mul_add,Nat.mul_assoc]
 rw[e,hu]
 omega
/-! ### A guess of a limb -/
theorem guess_ok{W d high low rest top d' P Qn:Nat} (hW:W=(high*18446744073709551616+low)*P+rest) (hr:rest<P) (hd:d=top*P+d') (hlt:W<18446744073709551616*d)
  (hg:(top≤high∧Qn=18446744073709551616)∨high*18446744073709551616+low<Qn*top):W<Qn*d:=by
 rcases hg with ⟨_,h⟩|h
 ·rw[h];exact hlt
 ·have a:(high*18446744073709551616+low+1)*P≤Qn*top*P:=Nat.mul_le_mul_right _ h
  rw[Nat.add_mul,Nat.one_mul]at a
  have e:Qn*d=Qn*top*P+Qn*d':=by rw[hd,Nat.mul_add,Nat.mul_assoc]
  rw[e,hW]
  omega
/-! ### Steps of Euclid's algorithm at once -/
def Cmb(odd:Bool)(a0 b0 a1 b1 a b a' b':Nat):Prop:=
 if odd then b0*b=a0*a+a'∧a1*a=b1*b+b' else a0*a=b0*b+a'∧b1*b=a1*a+b'
theorem cmb_step{odd:Bool}{a0 b0 a1 b1 A B hA hB:Nat}(h:Cmb odd a0 b0 a1 b1 A B hA hB):Cmb (!odd) a1 b1 (a0+hA / hB*a1) (b0+hA / hB*b1) A B hB (hA % hB):=by
 have hd:=Nat.div_add_mod hA hB
 generalize hA / hB=q at *
 generalize hA % hB=r at *
 cases odd
 ·simp only[Cmb,Bool.false_eq_true,if_false,Bool.not_false,if_true]at h ⊢
  obtain⟨h1,h2⟩:=h
  exact⟨h2,by grind⟩
 ·simp only[Cmb,if_true,Bool.not_true,Bool.false_eq_true,if_false]at h ⊢
  obtain⟨h1,h2⟩:=h
  exact⟨h2,by grind⟩
def Bak(a0 b0 a1 b1 a b a' b':Nat):Prop:=a=b1*a'+b0*b'∧b=a1*a'+a0*b'
theorem bak_step{a0 b0 a1 b1 A B hA hB:Nat}(h:Bak a0 b0 a1 b1 A B hA hB):Bak a1 b1 (a0+hA / hB*a1) (b0+hA / hB*b1) A B hB (hA % hB):=by
 have hd:=Nat.div_add_mod hA hB
 obtain⟨h1,h2⟩:=h
 generalize hA / hB=q at *
 generalize hA % hB=r at *
 exact⟨by grind,by grind⟩
def Det(odd:Bool)(a0 b0 a1 b1:Nat):Prop:=if odd then b0*a1=a0*b1+1 else a0*b1=b0*a1+1
theorem det_step{odd:Bool}{a0 b0 a1 b1:Nat}(q:Nat)(h:Det odd a0 b0 a1 b1):Det (!odd) a1 b1 (a0+q*a1) (b0+q*b1):=by
 cases odd
 ·simp only[Det,Bool.false_eq_true,if_false,Bool.not_false,if_true]at h ⊢
  grind
 ·simp only[Det,if_true,Bool.not_true,Bool.false_eq_true,if_false]at h ⊢
  grind
theorem bak_of{odd:Bool}{a0 b0 a1 b1 a b a' b':Nat}(hd:Det odd a0 b0 a1 b1)(h:Cmb odd a0 b0 a1 b1 a b a' b'):Bak a0 b0 a1 b1 a b a' b':=by
 cases odd
 ·simp only[Cmb,Det,Bool.false_eq_true,if_false]at h hd
  obtain⟨h1,h2⟩:=h
  exact⟨by grind,by grind⟩
 ·simp only[Cmb,Det,if_true]at h hd
  obtain⟨h1,h2⟩:=h
  exact⟨by grind,by grind⟩
theorem gcd_of{odd:Bool}{a0 b0 a1 b1 a b a' b':Nat}(hd:Det odd a0 b0 a1 b1)(h:Cmb odd a0 b0 a1 b1 a b a' b'):Nat.gcd a' b'=Nat.gcd a b:=by
 obtain⟨e1,e2⟩:=bak_of hd h
 refine Nat.dvd_antisymm (Nat.dvd_gcd ?_ ?_) (Nat.dvd_gcd ?_ ?_)
 ·rw[e1];exact Nat.dvd_add (Nat.dvd_mul_left_of_dvd (Nat.gcd_dvd_left _ _) _) (Nat.dvd_mul_left_of_dvd (Nat.gcd_dvd_right _ _) _)
 ·rw[e2];exact Nat.dvd_add (Nat.dvd_mul_left_of_dvd (Nat.gcd_dvd_left _ _) _) (Nat.dvd_mul_left_of_dvd (Nat.gcd_dvd_right _ _) _)
 ·have da:=Nat.gcd_dvd_left a b
  have db:=Nat.gcd_dvd_right a b
  cases odd
  ·simp only[Cmb,Bool.false_eq_true,if_false]at h
   have t:Nat.gcd a b ∣ b0*b+a':=by rw[←h.1];exact Nat.dvd_mul_left_of_dvd da _
   exact (Nat.dvd_add_right (Nat.dvd_mul_left_of_dvd db _)).1 t
  ·simp only[Cmb,if_true]at h
   have t:Nat.gcd a b ∣ a0*a+a':=by rw[←h.1];exact Nat.dvd_mul_left_of_dvd db _
   exact (Nat.dvd_add_right (Nat.dvd_mul_left_of_dvd da _)).1 t
 ·have da:=Nat.gcd_dvd_left a b
  have db:=Nat.gcd_dvd_right a b
  cases odd
  ·simp only[Cmb,Bool.false_eq_true,if_false]at h
   have t:Nat.gcd a b ∣ a1*a+b':=by rw[←h.2];exact Nat.dvd_mul_left_of_dvd db _
   exact (Nat.dvd_add_right (Nat.dvd_mul_left_of_dvd da _)).1 t
  ·simp only[Cmb,if_true]at h
   have t:Nat.gcd a b ∣ b1*b+b':=by rw[←h.2];exact Nat.dvd_mul_left_of_dvd da _
   exact (Nat.dvd_add_right (Nat.dvd_mul_left_of_dvd db _)).1 t
theorem cmb_all{odd:Bool} {a0 b0 a1 b1 HA HB hA hB P la lb:Nat} (h:Cmb odd a0 b0 a1 b1 HA HB hA hB) (hla:la<P) (hlb:lb<P) (h0:a0≤b0) (h1:a1≤b1) (c1:b1≤hB) (c2:b0+b1+hB≤hA) :
  ∃ a' b',Cmb odd a0 b0 a1 b1 (HA*P+la) (HB*P+lb) a' b'∧b'≤a':=by
 have m1:b0*lb≤b0*P:=Nat.mul_le_mul_left _ (by omega)
 have m2:b1*lb≤b1*P:=Nat.mul_le_mul_left _ (by omega)
 have m3:a0*la≤a0*P:=Nat.mul_le_mul_left _ (by omega)
 have m4:a1*la≤a1*P:=Nat.mul_le_mul_left _ (by omega)
 have m5:a0*P≤b0*P:=Nat.mul_le_mul_right _ h0
 have m6:a1*P≤b1*P:=Nat.mul_le_mul_right _ h1
 have m7:b1*P≤hB*P:=Nat.mul_le_mul_right _ c1
 have m8:(b0+b1+hB)*P≤hA*P:=Nat.mul_le_mul_right _ c2
 rw[Nat.add_mul,Nat.add_mul]at m8
 cases odd
 ·simp only[Cmb,Bool.false_eq_true,if_false]at h ⊢
  obtain⟨e1,e2⟩:=h
  have f1:a0*(HA*P+la)=b0*(HB*P)+hA*P+a0*la:=by grind
  have f2:b1*(HB*P+lb)=a1*(HA*P)+hB*P+b1*lb:=by grind
  refine⟨hA*P+a0*la-b0*lb,hB*P+b1*lb-a1*la,⟨?_,?_⟩,?_⟩
  ·rw[f1,Nat.mul_add];omega
  ·rw[f2,Nat.mul_add];omega
  ·omega
 ·simp only[Cmb,if_true]at h ⊢
  obtain⟨e1,e2⟩:=h
  have f1:b0*(HB*P+lb)=a0*(HA*P)+hA*P+b0*lb:=by grind
  have f2:a1*(HA*P+la)=b1*(HB*P)+hB*P+a1*la:=by grind
  refine⟨hA*P+b0*lb-a0*la,hB*P+a1*la-b1*lb,⟨?_,?_⟩,?_⟩
  ·rw[f1,Nat.mul_add];omega
  ·rw[f2,Nat.mul_add];omega
  ·omega
def from_(f:Nat→Nat)(i:Nat):Nat→Nat:=fun j=>f (i+j)
theorem S_at(f:Nat→Nat)(k m:Nat):S f (k+m)=S f k+bp k*S (from_ f k) m:=S_split f k m
theorem S_window{f g:Nat→Nat}{i m K:Nat}(h:i+m≤K)(he:∀ j,j<K→(j<i∨i+m≤j)→g j=f j):S g K+bp i*S (from_ f i) m=S f K+bp i*S (from_ g i) m:=by
 obtain⟨d,rfl⟩:=Nat.exists_eq_add_of_le h
 rw[S_at f (i+m) d,S_at g (i+m) d,S_at f i m,S_at g i m]
 have e1:S g i=S f i:=S_congr (fun j hj=>he j (by omega) (.inl hj))
 have e2:S (from_ g (i+m)) d=S (from_ f (i+m)) d:=S_congr (fun j hj=>he _ (by omega) (.inr (by omega)))
 rw[e1,e2]
 omega
theorem from_from(f:Nat→Nat)(i m:Nat):from_ (from_ f i) m=from_ f (i+m):=by
 funext j;unfold from_;rw[Nat.add_assoc]
theorem S_cons(f:Nat→Nat)(i m:Nat):S (from_ f i) (m+1)=f i+18446744073709551616*S (from_ f (i+1)) m:=by
 rw[S_front]
 have e:S (fun j=>from_ f i (j+1)) m=S (from_ f (i+1)) m:=S_congr (fun j _=>by unfold from_;rw[show i+(j+1)=i+1+j by omega])
 rw[e]
 rfl
theorem S_high{f:Nat→Nat}{n m:Nat}(h:S f (n+m)<bp n):S (from_ f n) m=0∧S f (n+m)=S f n:=by
 rw[S_at]at h
 have hz:S (from_ f n) m=0:=by
  rcases Nat.eq_zero_or_pos (S (from_ f n) m) with e|e
  ·exact e
  ·have:bp n*1≤bp n*S (from_ f n) m:=Nat.mul_le_mul_left _ e
   omega
 refine⟨hz,?_⟩
 rw[S_at,hz]
 omega
/-! ### Shifts -/
theorem shl_step{s f g G X P:Nat}(h:G+g*P=2 ^ s*X):(G+(g+f*2 ^ s % 18446744073709551616)*P)+(f*2 ^ s / 18446744073709551616)*(P*18446744073709551616)=2 ^ s*(X+f*P):=by
 have hm:=Nat.div_add_mod (f*2 ^ s) 18446744073709551616
 generalize f*2 ^ s % 18446744073709551616=r at *
 generalize f*2 ^ s / 18446744073709551616=q at *
 generalize 2 ^ s=t at *
 grind
theorem pow_split{s:Nat}(h:s<64):2 ^ (64-s)*2 ^ s=18446744073709551616:=by
 rw[←Nat.pow_add,show 64-s+s=64 by omega]
theorem shl_room{s f g:Nat}(hs:s<64)(hg:g<2 ^ s):g+f*2 ^ s % 18446744073709551616<18446744073709551616:=by
 have e:=pow_split hs
 rw[←e,Nat.mul_comm,Nat.mul_comm (2 ^ (64-s)),Nat.mul_mod_mul_left]
 have hp:0<2 ^ (64-s):=Nat.pow_pos (by decide)
 have hr:f % 2 ^ (64-s)<2 ^ (64-s):=Nat.mod_lt _ hp
 have t:2 ^ s*(f % 2 ^ (64-s)+1)≤2 ^ s*2 ^ (64-s):=Nat.mul_le_mul_left _ hr
 rw[Nat.mul_add]at t
 omega
theorem shl_high{s f:Nat}(hf:f<18446744073709551616):f*2 ^ s / 18446744073709551616<2 ^ s:=by
 refine Nat.div_lt_of_lt_mul ?_
 exact Nat.mul_lt_mul_of_pos_right hf (Nat.pow_pos (by decide))
theorem shr_is{s f:Nat}(hs:s<64):f*2 ^ s / 18446744073709551616=f / 2 ^ (64-s):=by
 rw[←pow_split hs,Nat.mul_div_mul_right _ _ (Nat.pow_pos (by decide))]
theorem shd_low{s f:Nat}(hs:s<64):f*2 ^ (64-s) % 18446744073709551616=f % 2 ^ s*2 ^ (64-s):=by
 rw[←pow_split hs,Nat.mul_comm f,Nat.mul_mod_mul_left,Nat.mul_comm]
theorem shd_step{s f G X P c:Nat} (hs:s<64) (h:2 ^ s*G+c=X) :
  2 ^ s*(G+f % 2 ^ s*2 ^ (64-s)*P+f / 2 ^ s*(P*18446744073709551616))+c=X+f*(P*18446744073709551616):=by
 have e:=pow_split hs
 have hm:=Nat.div_add_mod f (2 ^ s)
 generalize f % 2 ^ s=r at *
 generalize f / 2 ^ s=q at *
 generalize 2 ^ (64-s)=u at *
 generalize 2 ^ s=t at *
 grind
theorem shd_room{s f g:Nat}(hs:s<64)(hg:g<2 ^ (64-s)):g+f % 2 ^ s*2 ^ (64-s)<18446744073709551616:=by
 rw[←pow_split hs]
 have hr:f % 2 ^ s<2 ^ s:=Nat.mod_lt _ (Nat.pow_pos (by decide))
 have t:(f % 2 ^ s+1)*2 ^ (64-s)≤2 ^ s*2 ^ (64-s):=Nat.mul_le_mul_right _ hr
 rw[Nat.add_mul,Nat.mul_comm (2 ^ s)]at t
 omega
theorem shd_high{s f:Nat}(hs:s<64)(hf:f<18446744073709551616):f / 2 ^ s<2 ^ (64-s):=by
 refine Nat.div_lt_of_lt_mul ?_
 rw[Nat.mul_comm,pow_split hs]
 exact hf
theorem or_add{s g m:Nat}(hg:g<2 ^ s):g ||| 2 ^ s*m=g+2 ^ s*m:=by
 rw[Nat.or_comm,←Nat.two_pow_add_eq_or_of_lt hg,Nat.add_comm]
/-! ### The long division -/
theorem long_step{A SR SR' d q P OS W W':Nat} (h:SR+d*(P*18446744073709551616*OS)=A) (hw:SR'+P*W=SR+P*W') (hq:W'+q*d=W) :
  SR'+d*(P*(q+18446744073709551616*OS))=A:=by
 have:P*W=P*W'+P*(q*d):=by rw[←hq,Nat.mul_add]
 grind
theorem win_lt{r x d:Nat}(hr:r<18446744073709551616)(hx:x<d):r+18446744073709551616*x<18446744073709551616*d:=by
 have:18446744073709551616*(x+1)≤18446744073709551616*d:=Nat.mul_le_mul_left _ hx
 omega
theorem div_unshift{a b s Q R:Nat}(h:R+b*2 ^ s*Q=a*2 ^ s)(hr:R<b*2 ^ s):Q=a / b∧R / 2 ^ s=a % b:=by
 have hp:0<2 ^ s:=Nat.pow_pos (by decide)
 generalize 2 ^ s=t at *
 have hd:t ∣ R:=by
  have h1:t ∣ a*t:=Nat.dvd_mul_left _ _
  rw[←h]at h1
  exact (Nat.dvd_add_left (Nat.dvd_mul_right_of_dvd (Nat.dvd_mul_left _ _) _)).1 h1
 obtain⟨r,rfl⟩:=hd
 have e:a=r+b*Q:=by
  have:t*(r+b*Q)=t*a:=by grind
  exact (Nat.eq_of_mul_eq_mul_left hp this).symm
 have hb:r<b:=by
  rw[Nat.mul_comm b t]at hr
  exact Nat.lt_of_mul_lt_mul_left hr
 rw[Nat.mul_div_cancel_left _ hp]
 have hb0:0<b:=by omega
 constructor
 ·rw[e,Nat.add_mul_div_left _ _ hb0,Nat.div_eq_of_lt hb,Nat.zero_add]
 ·rw[e,Nat.add_mul_mod_self_left,Nat.mod_eq_of_lt hb]
open Go.RowKit
theorem ret_int{k:IntKind}{a b:Int}(h:a=b):Ending.returned (.int k a)=.returned (.int k b):=by rw[h]
theorem bel_drewN(w:World)(n:Nat):Below w.heap.size w (w.drewN n):=⟨rfl,rfl,rfl,Nat.le_refl _,fun _ _=>rfl⟩
theorem drewN_bel{B:Nat}{a w:World}(h:Below B a w)(n:Nat):Below B a (w.drewN n):=⟨h.os,h.tape,h.output,h.size,h.block⟩
theorem bel_one(w:World)(o:Obj):Below w.heap.size w (w.alloc o):=(Below.refl _ _).alloc (Nat.le_refl _) o
theorem infoL:(Tryz.prog.info? 144).map (fun i=>(i.zero,i.size,i.bytes))=some (some (.int .u64 0),1,8):=by kernel_rfl
def Rl(W:World)(a:Option Addr)(k:Nat)(f:Nat→Nat):Prop:=
 k≤100000∧Lb f k∧(0<k→∃ b off,a=some ⟨b,off,none⟩∧b<W.heap.size∧∀ j,j<k→W.cell? ⟨b,off+j,none⟩=some (.int .u64 (f j)))
theorem Rl.below{W W':World}{a:Option Addr}{k:Nat}{f:Nat→Nat}(h:Rl W a k f)(hb:Below W.heap.size W W'):Rl W' a k f:=
 ⟨h.1,h.2.1,fun h0=>by
  obtain⟨b,off,e,hl,hc⟩:=h.2.2 h0
  exact⟨b,off,e,Nat.lt_of_lt_of_le hl hb.size,fun j hj=>by rw[hb.cell (p:=⟨b,off+j,none⟩) hl];exact hc j hj⟩⟩
theorem Rl.at_{W:World} {a:Option Addr} {k:Nat} {f:Nat→Nat} (h:Rl W a k f) {j:Nat} (hj:j<k) :
  ∃ b off,a=some ⟨b,off,none⟩∧b<W.heap.size∧W.cell? ⟨b,off+j,none⟩=some (.int .u64 (f j)):=by
 obtain⟨b,off,e,hl,hc⟩:=h.2.2 (by omega)
 exact⟨b,off,e,hl,hc j hj⟩
theorem Rl.nil(W:World)(a:Option Addr)(f:Nat→Nat):Rl W a 0 f:=⟨by omega,fun j hj=>by omega,fun h=>by omega⟩
theorem Rl.low{W:World}{a:Option Addr}{k m:Nat}{f:Nat→Nat}(h:Rl W a k f)(hm:m≤k):Rl W a m f:=
 ⟨by have:=h.1;omega,fun j hj=>h.2.1 j (by omega),fun h0=>by
  obtain⟨b,off,e,hl,hc⟩:=h.2.2 (by omega)
  exact⟨b,off,e,hl,fun j hj=>hc j (by omega)⟩⟩
def Pl(a:Option Addr)(c:Nat):Prop:=(a=none∧c=0)∨∃ b off,a=some ⟨b,off,none⟩
theorem Pl.none_:Pl none 0:=.inl ⟨rfl,rfl⟩
theorem Pl.some_(b off:Nat){c:Nat}:Pl (some ⟨b,off,none⟩) c:=.inr ⟨b,off,rfl⟩
def Nm(W:World)(a:Option Addr)(k c n:Nat):Prop:=∃ f,Rl W a k f∧k≤c∧c≤9223372036854775807∧Top f k∧S f k=n∧Pl a c
theorem Nm.below{W W':World}{a:Option Addr}{k c n:Nat}(h:Nm W a k c n)(hb:Below W.heap.size W W'):Nm W' a k c n:=by
 obtain⟨f,h1,h2⟩:=h
 exact⟨f,h1.below hb,h2⟩
theorem Nm.zero(W:World)(a:Option Addr)(c:Nat)(hc:c≤9223372036854775807)(ha:Pl a c):Nm W a 0 c 0:=⟨fun _=>0,Rl.nil _ _ _,by omega,hc,.inl rfl,rfl,ha⟩
theorem Nm.len{W:World}{a:Option Addr}{k c n K:Nat}(h:Nm W a k c n)(hn:n<bp K):k≤K:=by
 obtain⟨f,_,_,_,ht,hs,_⟩:=h
 exact top_len ht (by rw[hs];exact hn)
theorem Nm.lt{W:World}{a:Option Addr}{k c n:Nat}(h:Nm W a k c n):n<bp k:=by
 obtain⟨f,h1,_,_,_,hs,_⟩:=h
 rw[←hs];exact S_lt h1.2.1
theorem Nm.pos{W:World}{a:Option Addr}{k c n:Nat}(h:Nm W a k c n)(hk:0<k):bp (k-1)≤n:=by
 obtain⟨f,_,_,_,ht,hs,_⟩:=h
 rw[←hs];exact top_ge ht hk
theorem Nm.nul{W:World}{a:Option Addr}{k c:Nat}(h:Nm W a k c 0):k=0:=by
 obtain⟨f,_,_,_,ht,hs,_⟩:=h
 exact top_zero ht hs
theorem Nm.one{W:World}{a:Option Addr}{k c n:Nat}(h:Nm W a k c n)(hn:0<n):0<k:=by
 rcases Nat.eq_zero_or_pos k with e|e
 ·subst e
  have:=h.lt
  rw[bp_zero]at this
  omega
 ·exact e
def NmPost(n:Nat)(w:World)(e:Ending)(w':World):Prop:=∃ a k c,e=.returned (.slice a k c)∧Nm w' a k c n∧Below w.heap.size w w'
def Bf(W:World)(g K:Nat)(f:Nat→Nat):Prop:=g<W.heap.size∧Lb f K∧∀ j,j<K→W.cell? ⟨g,j,none⟩=some (.int .u64 (f j))∧W.frozen? ⟨g,j,none⟩=false
theorem Bf.made(W:World)(K:Nat)(e:TypeId):Bf (W.alloc (.cells (madeCells #[.int .u64 0] K) e)) W.heap.size K (fun _=>0):=by
 refine⟨by simp,fun j _=>(by decide:0<18446744073709551616),fun j hj=>⟨?_,by simp⟩⟩
 rw[World.cell?_alloc_new,←Array.getElem?_toList,toList_madeCells_one]
 simp[hj]
theorem Bf.put{W:World}{g K i x:Nat}{f:Nat→Nat}(h:Bf W g K f)(hi:i<K)(hx:x<18446744073709551616):Bf (W.setCell ⟨g,i,none⟩ (.int .u64 x)) g K (put f i x):=by
 refine⟨by simpa using h.1,lb_put h.2.1 hx,fun j hj=>⟨?_,by rw[World.frozen?_setCell];exact (h.2.2 j hj).2⟩⟩
 by_cases e:j=i
 ·subst e
  rw[World.cell?_setCell_same _ _ _ (h.2.2 j hj).1,put_same]
 ·rw[World.cell?_setCell_other _ _ _ _ (by intro e2;injection e2 with _ e3;exact e e3.symm),(h.2.2 j hj).1,put_ne e]
theorem Bf.below{W W':World}{g K:Nat}{f:Nat→Nat}(h:Bf W g K f)(hb:Below W.heap.size W W'):Bf W' g K f:=
 ⟨Nat.lt_of_lt_of_le h.1 hb.size,h.2.1,fun j hj=>⟨(hb.cell (p:=⟨g,j,none⟩) h.1).trans (h.2.2 j hj).1,(hb.frozen (p:=⟨g,j,none⟩) h.1).trans (h.2.2 j hj).2⟩⟩
theorem Bf.congr{W:World}{g K:Nat}{f f':Nat→Nat}(h:Bf W g K f)(he:∀ j,j<K→f' j=f j):Bf W g K f':=
 ⟨h.1,fun j hj=>by rw[he j hj];exact h.2.1 j hj,fun j hj=>by rw[he j hj];exact h.2.2 j hj⟩
theorem Bf.rl{W:World}{g K i m:Nat}{f:Nat→Nat}(h:Bf W g K f)(hi:i+m≤K)(hK:K≤100000):Rl W (some ⟨g,i,none⟩) m (from_ f i):=
 ⟨by omega,fun j hj=>h.2.1 _ (by omega),fun _=>⟨g,i,rfl,h.1,fun j hj=>(h.2.2 (i+j) (by omega)).1⟩⟩
theorem Bf.rl0{W:World}{g K m:Nat}{f:Nat→Nat}(h:Bf W g K f)(hi:m≤K)(hK:K≤100000):Rl W (some ⟨g,0,none⟩) m f:=
 ⟨by omega,fun j hj=>h.2.1 _ (by omega),fun _=>⟨g,0,rfl,h.1,fun j hj=>by rw[Nat.zero_add];exact (h.2.2 j (by omega)).1⟩⟩
theorem mk_limbs(n:Nat)(hn:n≤100000)(w:World):(Instr.makeSlice 105 (.int .i64 n) (.int .i64 n)).run Tryz.prog w=.ok (.slice (some ⟨w.heap.size,0,none⟩) n n) (w.alloc (.cells (madeCells #[.int .u64 0] n) 144)):=by
 have hmk:=run_make_row' (P:=Tryz.prog) 105 144 (.int .u64 0) 8 Tryz.underlying105 infoL rfl .i64 .i64 n (by omega) (by omega)
 simpa using hmk w
theorem mk_limbsI(z:Int)(n:Nat)(hz:z=(n:Int))(hn:n≤100000)(w:World):(Instr.makeSlice 105 (.int .i64 z) (.int .i64 z)).run Tryz.prog w=.ok (.slice (some ⟨w.heap.size,0,none⟩) n n) (w.alloc (.cells (madeCells #[.int .u64 0] n) 144)):=by
 rw[hz];exact mk_limbs n hn w
def TrimPost(a:Option Addr)(c n:Nat)(w:World)(e:Ending)(w':World):Prop:=∃ m,e=.returned (.slice a m c)∧Nm w' a m c n∧w=w'
set_option maxHeartbeats 1000000 in
theorem trim_c2(a:Option Addr) (k c:Nat) (f:Nat→Nat) (w:World) (h:Rl w a k f) (hk:k≤c) (hc:c≤9223372036854775807) (ha:Pl a c) :
  Calls Tryz.prog 145 #[.slice a k c] w (TrimPost a c (S f k) w):=by
 have H:=Zh h
 clear h
 go_enter Tryz.func145,Tryz.ntmps145
 go_wp2
 go_loop [0] (fun s=>∃ m:Nat,m≤k∧s=.slice a m c∧Hid (S f m=S f k)) (fun s=>match s with | .slice _ m _=>m | _=>0)
 case atStart=>exact⟨k,Nat.le_refl _,rfl,rfl⟩
 case round=>
  obtain⟨m,hm,rfl,hS⟩:=hrel
  rcases Nat.eq_zero_or_pos m with e|e
  ·subst e
   go_wp2
   go_ret
   exact⟨0,rfl,by rw[←hS.out];exact Nm.zero _ _ _ hc ha,rfl⟩
  ·obtain⟨p,rfl⟩:∃ p,m=p+1:=⟨m-1,by omega⟩
   obtain⟨b,off,rfl,hb,hcell⟩:=H.out.at_ (show p<k by omega)
   have hp1:(0:Int)<(p:Int)+1:=by omega
   have HS:=Zh (S_succ f p)
   by_cases h0:f p=0
   ·rw[h0]at hcell HS
    have HS2:Hid (S f p=S f k):=by unfold Hid;rw[←hS.out,HS.out];omega
    go_wp2
    go_round
    case rel=>exact⟨p,by omega,rfl,HS2⟩
    case measure=>simp
   ·have HT:Hid (Top f (p+1)):=.inr (by simpa using h0)
    have d:((f p:Int) == 0)=false:=by rw[beq_eq_false_iff_ne];omega
    have d':(f p == 0)=false:=by rw[beq_eq_false_iff_ne];exact h0
    generalize f p=x at *
    go_wp2
    go_ret
    exact⟨p+1,rfl,⟨f,H.out.low hm,by omega,hc,HT.out,hS.out,ha⟩,rfl⟩
theorem trim_c(a:Option Addr) (k c:Nat) (f:Nat→Nat) (w:World) (h:Rl w a k f) (hk:k≤c) (hc:c≤9223372036854775807) (ha:Pl a c) :
  Calls Tryz.prog 145 #[.slice a k c] w (NmPost (S f k) w):=
 (trim_c2 a k c f w h hk hc ha).mono fun e w' ⟨m,he,hn,hw⟩=>⟨a,m,c,he,hn,by rw[hw];exact Below.refl _ _⟩
theorem Nm.grown{W W':World}{a:Option Addr}{k c n:Nat}{row:Option Nat}(h:Nm W a k c n)(hg:W.grownBy W' row)(hne:∀ b off,a=some ⟨b,off,none⟩→some b≠row):Nm W' a k c n:=by
 obtain⟨f,h1,h2⟩:=h
 refine⟨f,⟨h1.1,h1.2.1,fun h0=>?_⟩,h2⟩
 obtain⟨b,off,e,hl,hc⟩:=h1.2.2 h0
 refine⟨b,off,e,Nat.lt_of_lt_of_le hl hg.size,fun j hj=>?_⟩
 rw[World.cell?_of_block (a:=⟨b,off+j,none⟩) (hg.block b hl (hne b off e))]
 exact hc j hj
theorem Rl.grown{W W':World}{a:Option Addr}{k:Nat}{f:Nat→Nat}{g:Nat}(h:Rl W a k f)(hg:W.grownBy W' (some g))(hne:0<k→∀ b off,a=some ⟨b,off,none⟩→b≠g):Rl W' a k f:=by
 refine⟨h.1,h.2.1,fun h0=>?_⟩
 obtain⟨b,off,e,hl,hc⟩:=h.2.2 h0
 refine⟨b,off,e,Nat.lt_of_lt_of_le hl hg.size,fun j hj=>?_⟩
 rw[World.cell?_of_block (a:=⟨b,off+j,none⟩) (hg.block b hl (fun e2=>hne h0 b off e (by injection e2)))]
 exact hc j hj
def Apart(a:Option Addr)(k g:Nat):Prop:=0<k→∀ b off,a=some ⟨b,off,none⟩→b≠g
theorem apart_of{W:World}{a:Option Addr}{k g:Nat}{f:Nat→Nat}(h:Rl W a k f)(hg:W.heap.size≤g):Apart a k g:=fun h0 b off e=>by
 obtain⟨b',off',e',hl,_⟩:=h.2.2 h0
 rw[e]at e'
 injection e' with e'
 injection e' with e1 _
 omega
theorem add64(x y c:Nat) (hx:x<18446744073709551616) (hy:y<18446744073709551616) (hc:c≤1) (w:World) :
  (callFunc 200 #[.int .u64 x,.int .u64 y,.int .u64 c]).run Tryz.prog w=.ok (.value (.tuple #[.int .u64 (((x+y+c) % 18446744073709551616:Nat):Int),.int .u64 (((x+y+c) / 18446744073709551616:Nat):Int)])) w:=by
 rw[run_callFunc_extern Tryz.func200 (by kernel_rfl) (by kernel_rfl) (by kernel_rfl) (e:=add64Entry) (by kernel_rfl),run_add64 x y c (by omega) (by omega) (by omega) (by omega)]
 simp only[Result.andThen]
 congr 5<;>omega
theorem sub64(x y b:Nat) (hb:b≤1) (w:World) :
  (callFunc 188 #[.int .u64 x,.int .u64 y,.int .u64 b]).run Tryz.prog w=.ok (.value (.tuple #[.int .u64 (((x+18446744073709551616-y-b) % 18446744073709551616:Nat):Int),.int .u64 ((if x<y+b then 1 else 0:Nat):Int)])) w:=by
 rw[run_callFunc_extern Tryz.func188 (by kernel_rfl) (by kernel_rfl) (by kernel_rfl) (e:=sub64Entry) (by kernel_rfl),run_sub64 x y b hb]
 rfl
theorem adds{zx zy zc:Int}(x y c:Nat)(ex:zx=(x:Int))(ey:zy=(y:Int))(ec:zc=(c:Int))(hx:x<18446744073709551616)(hy:y<18446744073709551616)(hc:c≤1):∃ s d:Nat,
  (∀ w,(callFunc 200 #[.int .u64 zx,.int .u64 zy,.int .u64 zc]).run Tryz.prog w=.ok (.value (.tuple #[.int .u64 (s:Int),.int .u64 (d:Int)])) w) ∧
  x+y+c=s+d*18446744073709551616∧s<18446744073709551616∧d≤1:=by
 subst ex ey ec
 exact⟨(x+y+c) % 18446744073709551616,(x+y+c) / 18446744073709551616,add64 x y c hx hy hc,by have:=Nat.div_add_mod (x+y+c) 18446744073709551616;omega,Nat.mod_lt _ (by decide),by omega⟩
theorem subs{zx zy zb:Int}(x y b:Nat)(ex:zx=(x:Int))(ey:zy=(y:Int))(eb:zb=(b:Int))(hx:x<18446744073709551616)(hy:y<18446744073709551616)(hb:b≤1):∃ s d:Nat,
  (∀ w,(callFunc 188 #[.int .u64 zx,.int .u64 zy,.int .u64 zb]).run Tryz.prog w=.ok (.value (.tuple #[.int .u64 (s:Int),.int .u64 (d:Int)])) w) ∧
  s+(y+b)=x+d*18446744073709551616∧s<18446744073709551616∧d≤1:=by
 subst ex ey eb
 refine⟨(x+18446744073709551616-y-b) % 18446744073709551616,if x<y+b then 1 else 0,sub64 x y b hb,?_,Nat.mod_lt _ (by decide),?_⟩
 ·split<;>omega
 ·split<;>omega
theorem mul64_c(x y:Nat) (hx:x<18446744073709551616) (hy:y<18446744073709551616) (w:World) :
  Calls Tryz.prog 135 #[.int .u64 x,.int .u64 y] w fun e w'=>e=.returned (.tuple #[.int .u64 ((x*y / 18446744073709551616:Nat):Int),.int .u64 ((x*y % 18446744073709551616:Nat):Int)])∧w'=w:=Tryz.bits_Mul64 x y hx hy w
theorem muls(x y:Nat)(hx:x<18446744073709551616)(hy:y<18446744073709551616):∃ h l:Nat,(∀ w,Calls Tryz.prog 135 #[.int .u64 x,.int .u64 y] w fun e w'=>e=.returned (.tuple #[.int .u64 (h:Int),.int .u64 (l:Int)])∧w'=w) ∧
  x*y=l+h*18446744073709551616∧l<18446744073709551616∧h≤18446744073709551614:=by
 refine⟨_,_,mul64_c x y hx hy,by have:=Nat.div_add_mod (x*y) 18446744073709551616;omega,Nat.mod_lt _ (by decide),?_⟩
 have a:x*y≤18446744073709551615*18446744073709551615:=Nat.mul_le_mul (by omega) (by omega)
 generalize x*y=z at *
 omega
theorem steps(x t m:Nat)(hx:x<18446744073709551616)(ht:t<18446744073709551616)(hm:m<18446744073709551616):∃ l h:Nat,(∀ w,Calls Tryz.prog 199 #[.int .u64 x,.int .u64 t,.int .u64 m] w fun e w'=>e=.returned (.tuple #[.int .u64 (l:Int),.int .u64 (h:Int)])∧w'=w) ∧
  x*t+m=l+h*18446744073709551616∧l<18446744073709551616∧h<18446744073709551616:=by
 obtain⟨hi,lo,hmul,hm1,hm2,hm3⟩:=muls x t hx ht
 have HMUL:=Zh hmul
 obtain⟨s,d,hadd,ha1,ha2,ha3⟩:=adds lo m 0 rfl rfl (show (0:Int)=((0:Nat):Int) from rfl) hm2 hm (by omega)
 have hbd:hi+d<18446744073709551616:=by
  have a:x*t≤18446744073709551615*18446744073709551615:=Nat.mul_le_mul (by omega) (by omega)
  omega
 refine⟨s,hi+d,fun w=>?_,by omega,ha2,hbd⟩
 have hs:IntKind.u64.wrap ((hi:Int)+(d:Int))=((hi+d:Nat):Int):=by rw[IntKind.wrap_u64]<;>omega
 clear hm1 ha1 hmul
 go_enter Tryz.func199,Tryz.ntmps199
 go_wp2_with (first | (go_at_call 135;refine (HMUL.out _).mono ?_;rintro e w' ⟨rfl,rfl⟩) | (rw[hadd]))
 go_ret2
 exact⟨rfl,rfl⟩
set_option maxHeartbeats 2000000 in
theorem timesPlus_c(a:Option Addr) (k c n t m:Nat) (w:World) (h:Nm w a k c n) (ht:t<18446744073709551616) (hm:m<18446744073709551616) (hn:n<bp 2000) :
  Calls Tryz.prog 184 #[.slice a k c,.int .u64 t,.int .u64 m] w (NmPost (n*t+m) w):=by
 have hk2:=h.len hn
 obtain⟨f,hr,hkc,hc,htop,hs,_⟩:=h
 have hmk:=fun w=>mk_limbsI ((k:Int)+1) (k+1) (by omega) (by omega) w
 have H:=Zh hr
 have HS:=Zh hs
 clear hr hs htop hn
 go_enter Tryz.func184,Tryz.ntmps184
 go_wp2_with fail
 have B0:=Zh (Bf.made w (k+1) 144)
 have BL:Hid (Below w.heap.size w (w.alloc (.cells (madeCells #[.int .u64 0] (k+1)) 144))):=bel_one _ _
 generalize hW1:w.alloc (.cells (madeCells #[.int .u64 0] (k+1)) 144)=W1 at *
 clear hW1 hmk
 go_loopw [2,16] (fun v i wr=>∃ (j y:Nat) (g:Nat→Nat),j≤k∧i=.int .i64 j∧v=.int .u64 y∧y<18446744073709551616∧Hid (Bf wr w.heap.size (k+1) g∧Below w.heap.size w wr∧S g j+y*bp j=t*S f j+m)) (fun _ i _=>k-(intOf i).toNat)
 case atStart=>exact⟨0,m,fun _=>0,Nat.zero_le _,rfl,rfl,hm,B0.out,BL.out,by rw[S_zero,S_zero,bp_zero];omega⟩
 case round=>
  obtain⟨j,y,g,hj,rfl,rfl,hy,hR⟩:=hrel
  by_cases hlt:j<k
  ·have hlt':(j:Int)<(k:Int):=by omega
   obtain⟨b,off,rfl,hb,hc1⟩:=(H.out.below hR.out.2.1).at_ hlt
   have hx:=H.out.2.1 j hlt
   obtain⟨s,hi,hstep,ha1,ha2,hhi⟩:=steps (f j) t y hx ht hy
   have HST:=Zh hstep
   have hBj:=hR.out.1.2.2 j (by omega)
   have hc2:=hBj.1
   have hf2:=hBj.2
   have NB:=Zh (hR.out.1.put (i:=j) (x:=s) (by omega) ha2)
   have NX:Hid (Bf (wr.setCell ⟨w.heap.size,j,none⟩ (.int .u64 s)) w.heap.size (k+1) (put g j s)∧Below w.heap.size w (wr.setCell ⟨w.heap.size,j,none⟩ (.int .u64 s))∧S (put g j s) (j+1)+hi*bp (j+1)=t*S f (j+1)+m):=by
    refine⟨NB.out,hR.out.2.1.setCell (p:=⟨w.heap.size,j,none⟩) (Nat.le_refl _) _,?_⟩
    rw[S_put,bp_succ,S_succ]
    exact step_mul hR.out.2.2 (by omega)
   clear hBj hstep NB ha1
   generalize f j=x at *
   go_wp2_with (go_at_call 199;refine (HST.out _).mono ?_;rintro e w' ⟨rfl,rfl⟩)
   go_roundw
   case rel=>exact⟨j+1,hi,put g j s,by omega,by go_num,rfl,hhi,NX.out⟩
   case measure=>simp[intOf];omega
  ·obtain rfl:j=k:=by omega
   have hBj:=hR.out.1.2.2 j (by omega)
   have hc2:=hBj.1
   have hf2:=hBj.2
   have NB:=Zh (hR.out.1.put (i:=j) (x:=y) (by omega) hy)
   have BL2:Hid (Below w.heap.size w (wr.setCell ⟨w.heap.size,j,none⟩ (.int .u64 y))):=hR.out.2.1.setCell (p:=⟨w.heap.size,j,none⟩) (Nat.le_refl _) _
   have E:Hid (S (put g j y) (j+1)=n*t+m):=by unfold Hid;rw[S_put,hR.out.2.2,HS.out,Nat.mul_comm]
   clear hBj hlt
   go_wp2_with fail
   generalize wr.setCell ⟨w.heap.size,j,none⟩ (.int .u64 y)=W3 at *
   refine (trim_c (some ⟨w.heap.size,0,none⟩) (j+1) (j+1) (put g j y) W3 (NB.out.rl0 (Nat.le_refl _) (by omega)) (Nat.le_refl _) (by omega) (Pl.some_ _ _)).mono ?_
   rintro e w4 ⟨a',k',c',rfl,hN,b4⟩
   rw[E.out]at hN
   have R:=Zh (show NmPost (n*t+m) w (.returned (.slice a' k' c')) w4 from ⟨a',k',c',rfl,hN,BL2.out.trans (b4.mono BL2.out.size)⟩)
   clear hN b4
   go_wp2
   go_ret
   exact R.out
end Go.Proofs.YtghgbhmiliiohaaGreatDoor
