/-
  Decimal texts of numbers of the reference: the arithmetic.
-/
import Derived.Test.YtghgbhmiliiohaaGreatDoorAM26
import Derived.Test.YtghgbhmiliiohaaGreatDoorAM11
import Derived.Test.YtghgbhmiliiohaaGreatDoorAM18
import Derived.Lib.AtoiAll
import Derived.Lib.Repeat
namespace Go.Proofs.YtghgbhmiliiohaaGreatDoor
def dlS(l:List Nd)(t:Bool)(a b:Int):Nat:=farD t a.toNat b.toNat (min (mtS l a.toNat b.toNat).2 16)
theorem farD_le{t:Bool}{a b d:Nat}(h:d≤16):farD t a b d≤256:=by
 have:d*d≤16*16:=Nat.mul_le_mul h h
 unfold farD
 split
 ·omega
 ·split<;>omega
theorem dlS_le(l:List Nd)(t:Bool)(a b:Int):dlS l t a b≤256:=farD_le (Nat.min_le_right _ _)
theorem dlS_same(l:List Nd)(t:Bool)(a:Int):dlS l t a a=0:=by unfold dlS farD;rw[if_pos rfl]
theorem mtS_le{l:List Nd}(F:Fr l){a b:Nat}(ha:Has l a)(hb:Has l b):(mtS l a b).2≤16:=by
 have h:=(mtS_is F ha hb).2.2.1
 have h1:=F.lev ha
 have h2:=F.lev hb
 omega
theorem dlS_is{l:List Nd}(F:Fr l)(t:Bool){a b:Nat}(ha:Has l a)(hb:Has l b):dlS l t a b=farD t a b (mtS l a b).2:=by
 unfold dlS
 rw[Int.toNat_natCast,Int.toNat_natCast,Nat.min_eq_left (mtS_le F ha hb)]
def sumL(f:Int→Nat):List Int→Nat
 | []=>0
 | x::X=>f x+sumL f X
theorem sumL_snoc(f:Int→Nat)(X:List Int)(x:Int):sumL f (X ++ [x])=sumL f X+f x:=by
 induction X with
 | nil=>simp[sumL]
 | cons y X ih=>simp only[List.cons_append,sumL,ih];omega
theorem sumL_le{f:Int→Nat}{B:Nat}{X:List Int}(h:∀ x∈X,f x≤B):sumL f X≤X.length*B:=by
 induction X with
 | nil=>simp[sumL]
 | cons y X ih=>
  have h1:=ih fun x hx=>h x (List.mem_cons_of_mem _ hx)
  have h2:=h y (List.mem_cons_self ..)
  simp only[sumL,List.length_cons,Nat.succ_mul]
  omega
theorem sumL_congr{f g:Int→Nat}{X:List Int}(h:∀ x∈X,f x=g x):sumL f X=sumL g X:=by
 induction X with
 | nil=>rfl
 | cons y X ih=>simp only[sumL];rw[h y (List.mem_cons_self ..),ih fun x hx=>h x (List.mem_cons_of_mem _ hx)]
def nC(X:List Int)(s:Int):Nat:=X.countP fun x=>x == s
theorem nC_le(X:List Int)(s:Int):nC X s≤X.length:=List.countP_le_length
def InCd(X:List Int):Prop:=∀ x∈X,0<x∧x<1000
theorem sumL_codes{X:List Int}(h:InCd X)(f:Int→Nat):sumL f X=sumN (fun b=>nC X b*f b) 1000:=by
 induction X with
 | nil=>exact (sumN_zero fun j _=>by simp[nC]).symm
 | cons x X ih=>
  have hx:=h x (List.mem_cons_self ..)
  obtain⟨c,rfl⟩:∃ c:Nat,x=c:=⟨x.toNat,by omega⟩
  have e:=sumN_at (f:=fun b=>nC X b*f b) (g:=fun b=>nC ((c:Int)::X) b*f b) (i:=c) (d:=f c) (k:=1000) (by omega)
   (fun j hj=>by
    have e1:((c:Int) == (j:Int))=false:=by rw[beq_eq_false_iff_ne];omega
    show nC ((c:Int)::X) j*f j=nC X j*f j
    unfold nC
    rw[List.countP_cons,e1]
    rfl)
   (by
    show nC ((c:Int)::X) c*f c=nC X c*f c+f c
    unfold nC
    rw[List.countP_cons,beq_self_eq_true,if_pos rfl,Nat.succ_mul])
  rw[e,←ih fun x hx=>h x (List.mem_cons_of_mem _ hx)]
  simp only[sumL]
  omega
def rwS(dl:Int→Int→Nat)(g:Int→Nat)(a:Int):Nat:=sumN (fun b=>g b*dl a b) 1000
def dfS(dl:Int→Int→Nat)(g:Int→Nat):Nat:=sumN (fun a=>g a*rwS dl g a) 1000
def prS(dl:Int→Int→Nat)(X:List Int):Nat:=sumL (fun x=>sumL (dl x) X) X
theorem prS_is{X:List Int}(h:InCd X)(dl:Int→Int→Nat):prS dl X=dfS dl (nC X):=by
 unfold prS dfS
 rw[←sumL_codes h fun a=>rwS dl (nC X) a]
 exact sumL_congr fun x _=>sumL_codes h (dl x)
theorem prS_le(X:List Int){dl:Int→Int→Nat}(hd:∀ a b,dl a b≤256):prS dl X≤X.length*(X.length*256):=
 sumL_le fun x _=>sumL_le fun y _=>hd x y
theorem dfS_le{X:List Int}(h:InCd X){dl:Int→Int→Nat}(hd:∀ a b,dl a b≤256):dfS dl (nC X)≤X.length*(X.length*256):=by
 rw[←prS_is h];exact prS_le X hd
def ndS(l:List Nd)(f:Int→Nat):Nat→Nat
 | 0=>0
 | k+1=>ndS l f k+f (nd l k).cd
theorem ndS_mono(l:List Nd)(f:Int→Nat){i:Nat}:∀ {j:Nat},i≤j→ndS l f i≤ndS l f j
 | 0,h=>by rw[Nat.le_zero.1 h];exact Nat.le_refl _
 | j+1,h=>by
  by_cases e:i=j+1
  ·rw[e];exact Nat.le_refl _
  ·exact Nat.le_trans (ndS_mono l f (j:=j) (by omega)) (Nat.le_add_right _ _)
theorem ndS_sum{l:List Nd}(h:Ord l)(f:Int→Nat):∀ k,k≤l.length→ndS l f k=sumN (fun s=>if inK l k s=true then f s else 0) 1000
 | 0,_=>(sumN_zero fun j _=>by rw[if_neg (by simp[inK])]).symm
 | k+1,hk=>by
  have hr:=h.rng k (by omega)
  obtain⟨c,hc⟩:∃ c:Nat,(nd l k).cd=c:=⟨(nd l k).cd.toNat,by omega⟩
  have no:inK l k c=false:=by
   rw[Bool.eq_false_iff]
   intro e
   obtain⟨j,hj,e2⟩:=inK_iff.1 e
   have:=h.lt (i:=j) (j:=k) hj (by omega)
   omega
  have e:=sumN_at (f:=fun s=>if inK l k s=true then f s else 0) (g:=fun s=>if inK l (k+1) s=true then f s else 0) (i:=c) (d:=f c) (k:=1000) (by omega)
   (fun j hj=>by
    have e1:((nd l k).cd == (j:Int))=false:=by rw[hc,beq_eq_false_iff_ne];omega
    show (if inK l (k+1) j=true then _ else _)=(if inK l k j=true then _ else _)
    rw[inK_next,e1,Bool.or_false])
   (by
    show (if inK l (k+1) c=true then _ else _)=(if inK l k c=true then _ else _)+_
    rw[inK_next,no,hc]
    simp)
  rw[e,←ndS_sum h f k (by omega)]
  show ndS l f k+f (nd l k).cd=_
  rw[hc]
theorem ndS_all{l:List Nd}(h:Ord l){f:Int→Nat}(hf:∀ s:Nat,inK l l.length s=false→f s=0):ndS l f l.length=sumN (fun s=>f s) 1000:=by
 rw[ndS_sum h f _ (Nat.le_refl _)]
 refine sumN_congr fun s _=>?_
 by_cases hs:inK l l.length s=true
 ·rw[if_pos hs]
 ·rw[if_neg hs,hf s (by simpa using hs)]
def InLd(l:List Nd)(X:List Int):Prop:=∀ x∈X,∃ c:Nat,x=c∧Has l c
theorem InLd.codes{l:List Nd}(h:Ord l){X:List Int}(hX:InLd l X):InCd X:=fun x hx=>by
 obtain⟨c,rfl,hc⟩:=hX x hx
 have:=has_pos h hc
 omega
theorem nC_out{l:List Nd}{X:List Int}(hX:InLd l X){s:Nat}(hs:inK l l.length s=false):nC X s=0:=by
 unfold nC
 rw[List.countP_eq_zero]
 intro x hx e
 obtain⟨c,e1,k,hk,e2⟩:=hX x hx
 rw[beq_iff_eq]at e
 have:inK l l.length s=true:=inK_iff.2 ⟨k,hk,by omega⟩
 rw[hs]at this
 cases this
theorem row_nodes{l:List Nd}(h:Ord l){X:List Int}(hX:InLd l X)(dl:Int→Int→Nat)(x:Int):ndS l (fun y=>nC X x*nC X y*dl x y) l.length=nC X x*rwS dl (nC X) x:=by
 rw[ndS_all h fun s hs=>by rw[nC_out hX hs];simp]
 unfold rwS
 rw[Nat.mul_comm,←sumN_mul]
 exact sumN_congr fun b _=>by simp only[Nat.mul_comm,Nat.mul_left_comm]
def exS(l:List Nd)(dl:Int→Int→Nat)(X:List Int)(x:Int):Nat:=ndS l (fun y=>nC X x*nC X y*dl x y) l.length
theorem all_nodes{l:List Nd}(h:Ord l){X:List Int}(hX:InLd l X)(dl:Int→Int→Nat):ndS l (exS l dl X) l.length=dfS dl (nC X):=by
 have e:∀ s,exS l dl X s=nC X s*rwS dl (nC X) s:=fun s=>row_nodes h hX dl s
 rw[ndS_all h fun s hs=>by rw[e,nC_out hX hs];simp]
 unfold dfS
 exact sumN_congr fun b _=>e b
@[irreducible] def tp (j:Nat):Nat:=1000000000 ^ j
theorem tp_zero:tp 0=1:=by unfold tp;rfl
theorem tp_succ(j:Nat):tp (j+1)=tp j*1000000000:=by unfold tp;exact Nat.pow_succ ..
theorem tp_one:tp 1=1000000000:=by rw[tp_succ,tp_zero]
theorem tp_pos(j:Nat):0<tp j:=by unfold tp;exact Nat.pow_pos (by decide)
theorem tp_add(i j:Nat):tp (i+j)=tp i*tp j:=by unfold tp;exact Nat.pow_add _ _ _
theorem tp_mono{i j:Nat}(h:i≤j):tp i≤tp j:=by
 obtain⟨d,rfl⟩:=Nat.exists_eq_add_of_le h
 rw[tp_add]
 exact Nat.le_mul_of_pos_right _ (tp_pos d)
theorem tp_lt{i j:Nat}(h:tp i<tp j):i<j:=by
 rcases Nat.lt_or_ge i j with l|l
 ·exact l
 ·have:=tp_mono l;omega
theorem tp_pow(j:Nat):tp j=1000000000 ^ j:=by unfold tp;rfl
def Tn(f:Nat→Nat):Nat→Nat
 | 0=>0
 | k+1=>Tn f k+f k*tp k
theorem Tn_zero(f:Nat→Nat):Tn f 0=0:=rfl
theorem Tn_succ(f:Nat→Nat)(k:Nat):Tn f (k+1)=Tn f k+f k*tp k:=rfl
theorem Tn_one(f:Nat→Nat):Tn f 1=f 0:=by rw[Tn_succ,Tn_zero,tp_zero];omega
theorem Tn_congr{f g:Nat→Nat}:∀ {k},(∀ j,j<k→f j=g j)→Tn f k=Tn g k
 | 0,_=>rfl
 | k+1,h=>by rw[Tn_succ,Tn_succ,Tn_congr (fun j hj=>h j (by omega)),h k (by omega)]
def Ld(f:Nat→Nat)(k:Nat):Prop:=∀ j,j<k→f j<1000000000
theorem Tn_lt{f:Nat→Nat}:∀ {k},Ld f k→Tn f k<tp k
 | 0,_=>by rw[tp_zero];exact Nat.zero_lt_one
 | k+1,h=>by
  have t:=Tn_lt (f:=f) (k:=k) (fun j hj=>h j (by omega))
  have u:=h k (by omega)
  rw[Tn_succ,tp_succ]
  have q:f k*tp k≤999999999*tp k:=Nat.mul_le_mul_right _ (by omega)
  omega
theorem Tn_zeros{f:Nat→Nat}:∀ {k},(∀ j,j<k→f j=0)→Tn f k=0
 | 0,_=>rfl
 | k+1,h=>by rw[Tn_succ,Tn_zeros (fun j hj=>h j (by omega)),h k (by omega)];omega
theorem Tn_split(f:Nat→Nat)(k:Nat):∀ m,Tn f (k+m)=Tn f k+tp k*Tn (fun j=>f (k+j)) m
 | 0=>by simp[Tn]
 | m+1=>by
  rw[←Nat.add_assoc,Tn_succ,Tn_split f k m,Tn_succ,tp_add,Nat.mul_add,Nat.mul_left_comm (tp k)]
  omega
theorem Tn_front(f:Nat→Nat)(m:Nat):Tn f (m+1)=f 0+1000000000*Tn (fun j=>f (j+1)) m:=by
 have h:=Tn_split f 1 m
 rw[Tn_one,tp_one,Nat.add_comm 1 m]at h
 rw[h]
 have e:Tn (fun j=>f (1+j)) m=Tn (fun j=>f (j+1)) m:=Tn_congr (fun j _=>by rw[Nat.add_comm])
 rw[e]
theorem Tn_ge{f:Nat→Nat}{k:Nat}(h:f k≠0):tp k≤Tn f (k+1):=by
 rw[Tn_succ]
 have:1*tp k≤f k*tp k:=Nat.mul_le_mul_right _ (by omega)
 omega
def Tod(f:Nat→Nat)(k:Nat):Prop:=k=0∨f (k-1)≠0
theorem tod_ge{f:Nat→Nat}{k:Nat}(h:Tod f k)(hk:0<k):tp (k-1)≤Tn f k:=by
 obtain⟨m,rfl⟩:∃ m,k=m+1:=⟨k-1,by omega⟩
 rcases h with h|h
 ·omega
 ·exact Tn_ge (by simpa using h)
theorem tod_len{f:Nat→Nat}{k K:Nat}(h:Tod f k)(hn:Tn f k<tp K):k≤K:=by
 rcases Nat.eq_zero_or_pos k with e|e
 ·omega
 ·have:=tp_lt (Nat.lt_of_le_of_lt (tod_ge h e) hn)
  omega
theorem tod_zero{f:Nat→Nat}{k:Nat}(h:Tod f k)(hn:Tn f k=0):k=0:=by
 rcases Nat.eq_zero_or_pos k with e|e
 ·exact e
 ·have:=tod_ge h e;have:=tp_pos (k-1);omega
theorem dlen_lt{f g:Nat→Nat}{k m:Nat}(hf:Ld f k)(hg:Tod g m)(h:k<m):Tn f k<Tn g m:=by
 have a:=Tn_lt hf
 have b:=tod_ge hg (by omega)
 have c:=tp_mono (show k≤m-1 by omega)
 omega
theorem dcmp_lt{f g:Nat→Nat}{k i:Nat}(hf:Ld f k)(hi:i<k)(hlt:f i<g i)(he:∀ j,i<j→j<k→f j=g j):Tn f k<Tn g k:=by
 obtain⟨m,rfl⟩:=Nat.exists_eq_add_of_lt hi
 rw[show i+m+1=(i+1)+m by omega,Tn_split f (i+1) m,Tn_split g (i+1) m]
 have e:Tn (fun j=>f (i+1+j)) m=Tn (fun j=>g (i+1+j)) m:=Tn_congr (fun j hj=>he _ (by omega) (by omega))
 rw[e,Tn_succ,Tn_succ]
 have a:=Tn_lt (f:=f) (k:=i) (fun j hj=>hf j (by omega))
 have b:(f i+1)*tp i≤g i*tp i:=Nat.mul_le_mul_right _ (by omega)
 rw[Nat.add_mul,Nat.one_mul]at b
 omega
theorem dstep_add{P G X Y c x y s c':Nat} (h:G+c*P=X+Y) (h2:x+y+c=s+c'*1000000000) :
  (G+s*P)+c'*(P*1000000000)=(X+x*P)+(Y+y*P):=by grind
theorem dstep_addmul{P G X Y c x y f s c':Nat} (h:G+c*P=Y+f*X) (h2:x*f+c+y=s+c'*1000000000) :
  (G+s*P)+c'*(P*1000000000)=(Y+y*P)+f*(X+x*P):=by grind
theorem dstep_submul{P G X Y c x y f s c':Nat} (h:G+f*X=Y+c*P) (h2:s+(x*f+c)=y+c'*1000000000) :
  (G+s*P)+f*(X+x*P)=(Y+y*P)+c'*(P*1000000000):=by grind
theorem dstep_sub{P G X Y c x y s c':Nat} (h:G+X=Y+c*P) (h2:s+(x+c)=y+c'*1000000000) :
  (G+s*P)+(X+x*P)=(Y+y*P)+c'*(P*1000000000):=by grind
theorem Tn_put{f:Nat→Nat}{i x:Nat}:Tn (put f i x) (i+1)=Tn f i+x*tp i:=by
 rw[Tn_succ,put_same,Tn_congr (fun j hj=>put_ne (by omega))]
theorem ld_put{f:Nat→Nat}{i x k:Nat}(h:Ld f k)(hx:x<1000000000):Ld (put f i x) k:=fun j hj=>by
 unfold put
 split
 ·exact hx
 ·exact h j hj
theorem tp_ten(j:Nat):tp j=10 ^ (9*j):=by rw[tp_pow,Nat.pow_mul]
def decB(n:Nat):ByteArray:=⟨(Lib.decDigits n).toArray⟩
theorem decB_list(n:Nat):(decB n).data.toList=Lib.decDigits n:=by simp[decB]
theorem decB_size(n:Nat):(decB n).size=(Lib.decDigits n).length:=by simp[decB,ByteArray.size]
theorem dec_len:∀ (k n:Nat),0<k→n<10 ^ k→(Lib.decDigits n).length≤k
 | 0,_,h,_=>absurd h (by omega)
 | k+1,n,_,h=>by
  rw[Lib.decDigits.eq_def]
  split
  ·simp
  ·next hn=>
   have hk:0<k:=by
    rcases Nat.eq_zero_or_pos k with e|e
    ·subst e;simp at h;omega
    ·exact e
   have:=dec_len k (n / 10) hk (by rw[Nat.pow_succ]at h;omega)
   simp
   omega
theorem dec_pad:∀ (k m d:Nat),0<m→d<10 ^ k→Lib.decDigits (m*10 ^ k+d)=Lib.decDigits m ++ padL k d
 | 0,m,d,_,h=>by
  have:d=0:=by simp at h;omega
  subst this
  simp[padL]
 | k+1,m,d,hm,h=>by
  have hp:0<10 ^ k:=Nat.pow_pos (by decide)
  have e:m*10 ^ (k+1)=m*10 ^ k*10:=by rw[Nat.pow_succ,Nat.mul_assoc]
  have hp2:1≤m*10 ^ k:=Nat.mul_pos hm hp
  have e1:(m*10 ^ (k+1)+d) / 10=m*10 ^ k+d / 10:=by omega
  have e2:(m*10 ^ (k+1)+d) % 10=d % 10:=by omega
  rw[Lib.decDigits.eq_def,dif_neg (by omega),e1,e2,dec_pad k m (d / 10) hm (by rw[Nat.pow_succ]at h;omega),padL_succ,List.append_assoc]
theorem pad_nul:∀ k:Nat,padL k 0=List.replicate k 48
 | 0=>rfl
 | k+1=>by rw[padL_succ,Nat.zero_div,pad_nul k,List.replicate_succ'];rfl
theorem rep_zeros(c:Nat):Lib.repeatL [48] c=List.replicate c 48:=by
 have:=Lib.repeatL_replicate 48 1 c
 rw[Nat.mul_one]at this
 exact this
theorem pad_rep:∀ (k d:Nat),0<k→d<10 ^ k→Lib.repeatL [48] (k-(Lib.decDigits d).length) ++ Lib.decDigits d=padL k d
 | 0,_,h,_=>absurd h (by omega)
 | k+1,d,_,h=>by
  rw[Lib.decDigits.eq_def,padL_succ]
  split
  ·next hd=>
   have e1:d / 10=0:=by omega
   have e2:d % 10=d:=by omega
   rw[e1,e2,pad_nul,rep_zeros]
   simp
  ·next hd=>
   have hk:0<k:=by
    rcases Nat.eq_zero_or_pos k with e|e
    ·subst e;simp at h;omega
    ·exact e
   have:=pad_rep k (d / 10) hk (by rw[Nat.pow_succ]at h;omega)
   rw[List.length_append,List.length_singleton,Nat.add_sub_add_right,←List.append_assoc,this]
theorem Tn_top{f:Nat→Nat}{k p:Nat}(h:Ld f k)(hp:p≤k):Tn f k / tp p=Tn (fun j=>f (p+j)) (k-p):=by
 have e:=Tn_split f p (k-p)
 rw[Nat.add_sub_cancel' hp]at e
 rw[e,Nat.add_mul_div_left _ _ (tp_pos p),Nat.div_eq_of_lt (Tn_lt fun j hj=>h j (by omega)),Nat.zero_add]
theorem Tn_digit{f:Nat→Nat}{k p:Nat}(h:Ld f k)(hp:p<k):Tn f k / tp p=Tn f k / tp (p+1)*1000000000+f p:=by
 rw[Tn_top h (by omega),Tn_top h (show p+1≤k by omega)]
 obtain⟨m,hm⟩:∃ m,k-p=m+1:=⟨k-p-1,by omega⟩
 have e:k-(p+1)=m:=by omega
 rw[hm,e,Tn_front,Nat.add_zero,Nat.add_comm,Nat.mul_comm]
 have e2:Tn (fun j=>f (p+(j+1))) m=Tn (fun j=>f (p+1+j)) m:=Tn_congr fun j _=>by rw[Nat.add_right_comm,Nat.add_assoc]
 rw[e2]
theorem dec_next{f:Nat→Nat} {k p:Nat} (h:Ld f k) (hp:p<k) (h0:0<Tn f k / tp (p+1)) :
  Lib.decDigits (Tn f k / tp p)=Lib.decDigits (Tn f k / tp (p+1)) ++ Lib.repeatL [48] (9-(Lib.decDigits (f p)).length) ++ Lib.decDigits (f p):=by
 have hd:f p<10 ^ 9:=h p hp
 rw[Tn_digit h hp,List.append_assoc,pad_rep 9 (f p) (by decide) hd,←dec_pad 9 _ _ h0 hd]
theorem Tn_last{f:Nat→Nat}{k:Nat}(h:Ld f k)(hk:0<k):Tn f k / tp (k-1)=f (k-1):=by
 rw[Tn_top h (by omega),show k-(k-1)=1 by omega,Tn_one,Nat.add_zero]
theorem dec_short{n k:Nat}(hk:0<k)(h:n<tp k):(Lib.decDigits n).length≤9*k:=dec_len (9*k) n (by omega) (by rw[←tp_ten];exact h)
end Go.Proofs.YtghgbhmiliiohaaGreatDoor
