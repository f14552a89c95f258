/-
  Numbers of any size: the highest bits of a number, and steps at once.
-/
import Derived.Test.YtghgbhmiliiohaaGreatDoorAM13
import Derived.Test.YtghgbhmiliiohaaGreatDoorAMQ
import Derived.Test.YtghgbhmiliiohaaGreatDoorAM14
set_option maxRecDepth 100000
namespace Go.Proofs.YtghgbhmiliiohaaGreatDoor
theorem long_zero{F:Nat→Nat} {p k K d:Nat} (hK:p+(k+1)≤K) (hd:d<bp k) (h2:S (from_ F (p+1)) (K-(p+1))<d) :
  S (from_ F (p+(k+1))) (K-(p+(k+1)))=0∧S (from_ F (p+1)) k<d:=by
 obtain⟨r,hr⟩:∃ r,K-(p+1)=k+r:=⟨K-(p+1)-k,by omega⟩
 rw[hr]at h2
 have h:=S_high (f:=from_ F (p+1)) (n:=k) (m:=r) (by omega)
 rw[from_from]at h
 refine⟨?_,by rw[←h.2];exact h2⟩
 rw[show p+(k+1)=p+1+k by omega,show K-(p+1+k)=r by omega]
 exact h.1
theorem long_win{F:Nat→Nat} {p k K d:Nat} (hK:p+(k+1)≤K) (hd:d<bp k) (hF:F p<18446744073709551616) (h2:S (from_ F (p+1)) (K-(p+1))<d) :
  S (from_ F p) (k+1)<18446744073709551616*d:=by
 rw[S_cons]
 exact win_lt hF (long_zero hK hd h2).2
theorem long_next{F F2 G:Nat→Nat} {p k K L d A q:Nat} (hK:p+(k+1)≤K) (hL:p<L) (hd:d<bp k)
  (h1:S F K+d*(bp (p+1)*S (from_ G (p+1)) (L-(p+1)))=A) (h2:S (from_ F (p+1)) (K-(p+1))<d)
  (hout:∀ j,j<p∨p+(k+1)≤j→F2 j=F j) (hq:S (from_ F2 p) (k+1)+q*d=S (from_ F p) (k+1)) (hlt:S (from_ F2 p) (k+1)<d) :
  S F2 K+d*(bp p*S (from_ (put G p q) p) (L-p))=A∧S (from_ F2 p) (K-p)<d:=by
 constructor
 ·have hw:=S_window (f:=F) (g:=F2) hK (fun j _ hj=>hout j hj)
  rw[bp_succ]at h1
  have e1:S (from_ (put G p q) p) (L-p)=q+18446744073709551616*S (from_ G (p+1)) (L-(p+1)):=by
   rw[show L-p=(L-(p+1))+1 by omega,S_cons,put_same]
   congr 2
   exact S_congr (fun j _=>put_ne (by omega))
  rw[e1]
  exact long_step h1 hw hq
 ·obtain⟨r,hr⟩:∃ r,K-p=(k+1)+r:=⟨K-p-(k+1),by omega⟩
  have hz:=(long_zero hK hd h2).1
  rw[show K-(p+(k+1))=r by omega]at hz
  rw[hr,S_at,from_from]
  have e:S (from_ F2 (p+(k+1))) r=S (from_ F (p+(k+1))) r:=S_congr (fun j _=>hout _ (.inr (by omega)))
  rw[e,hz,Nat.mul_zero]
  exact hlt
theorem long_start{F:Nat→Nat}{k1 m s d L:Nat}(hF:Lb F (k1+1))(hL:L+m=k1)(ht:F k1<2 ^ s)(hs:s<64)(hd:9223372036854775808*bp m≤d):S (from_ F L) (k1+1-L)<d:=by
 rw[show k1+1-L=m+1 by omega,S_succ]
 have e:from_ F L m=F k1:=by unfold from_;rw[hL]
 rw[e]
 have hl:S (from_ F L) m<bp m:=S_lt (fun j hj=>hF _ (by omega))
 have hp:2 ^ s≤2 ^ 63:=Nat.pow_le_pow_right (by decide) (by omega)
 have:(F k1+1)*bp m≤9223372036854775808*bp m:=Nat.mul_le_mul_right _ (by omega)
 rw[Nat.add_mul,Nat.one_mul]at this
 omega
theorem long_guess{F fd:Nat→Nat} {p m q d:Nat} (hF:Lb (from_ F p) m) (hfd:S fd (m+1)=d) (hW:S (from_ F p) (m+1+1)<18446744073709551616*d)
  (hg:(fd m≤from_ F p (m+1)∧q+1=18446744073709551616)∨from_ F p (m+1)*18446744073709551616+from_ F p m<(q+1)*fd m):S (from_ F p) (m+1+1)<(q+1)*d:=by
 refine guess_ok (high:=from_ F p (m+1)) (low:=from_ F p m) (rest:=S (from_ F p) m) (top:=fd m) (d':=S fd m) (P:=bp m) ?_ (S_lt hF) ?_ hW hg
 ·rw[S_succ,S_succ,bp_succ];grind
 ·rw[←hfd,S_succ];omega
theorem lower{X X' W d B q y:Nat} (h:X+(q+1)*d=W+B) (h2:X'+y*B=X+d) (hX:X<B) (hX':X' < B) (hy:y≤1) :
  X'+q*d=W+(1-y)*B∧W<(q+1)*d:=by
 rw[Nat.add_mul,Nat.one_mul]at h ⊢
 rcases Nat.eq_zero_or_pos y with e|e
 ·subst e
  simp only[Nat.zero_mul,Nat.sub_zero,Nat.one_mul]at h2 ⊢
  omega
 ·obtain rfl:y=1:=by omega
  simp only[Nat.sub_self,Nat.zero_mul,Nat.one_mul]at h2 ⊢
  omega
theorem lead_bp{m d n2 s top r:Nat}(hn:n2=top*bp m+r)(hr:r<bp m)(h1:9223372036854775808≤top*2 ^ s)(h2:top*2 ^ s<18446744073709551616)(hd:d=n2*2 ^ s):9223372036854775808*bp m≤d∧d<bp (m+1):=by
 have hp:0<2 ^ s:=Nat.pow_pos (by decide)
 have e:d=top*2 ^ s*bp m+r*2 ^ s:=by rw[hd,hn];grind
 constructor
 ·have:=Nat.mul_le_mul_right (bp m) h1
  omega
 ·rw[bp_succ]
  have hs:s<64:=by
   rcases Nat.lt_or_ge s 64 with l|l
   ·exact l
   ·have:2 ^ 64≤2 ^ s:=Nat.pow_le_pow_right (by decide) l
    rcases Nat.eq_zero_or_pos top with e|e
    ·subst e;omega
    ·have:1*2 ^ s≤top*2 ^ s:=Nat.mul_le_mul_right _ e
     omega
  rw[←pow_split hs]at h2 ⊢
  have ht:top<2 ^ (64-s):=Nat.lt_of_mul_lt_mul_right h2
  have a:r*2 ^ s<bp m*2 ^ s:=Nat.mul_lt_mul_of_pos_right hr hp
  have b:(top+1)*(2 ^ s*bp m)≤2 ^ (64-s)*(2 ^ s*bp m):=Nat.mul_le_mul_right _ ht
  have c:bp m*(2 ^ (64-s)*2 ^ s)=2 ^ (64-s)*(2 ^ s*bp m):=by grind
  have c2:(top+1)*(2 ^ s*bp m)=top*2 ^ s*bp m+bp m*2 ^ s:=by grind
  omega
open Go.RowKit
theorem Bf.other{W W':World}{h K g:Nat}{f:Nat→Nat}(hb:Bf W h K f)(hg:W.grownBy W' (some g))(hne:h≠g):Bf W' h K f:=by
 have e:W'.heap[h]?=W.heap[h]?:=hg.block h hb.1 (by intro e;injection e with e;exact hne e)
 exact⟨Nat.lt_of_lt_of_le hb.1 hg.size,hb.2.1,fun j hj=>⟨(World.cell?_of_block (a:=⟨h,j,none⟩) e).trans (hb.2.2 j hj).1,(World.frozen?_of_block (a:=⟨h,j,none⟩) e).trans (hb.2.2 j hj).2⟩⟩
theorem Bf.setOther{W:World}{h K g i:Nat}{f:Nat→Nat}{v:Value}(hb:Bf W h K f)(hne:h≠g):Bf (W.setCell ⟨g,i,none⟩ v) h K f:=
 hb.other (grown_set (World.grownBy.refl W (some g))) hne
theorem below_grows{W W':World}{row:Option Nat}(h:Below W.heap.size W W'):W.grownBy W' row:=⟨h.os,h.tape,h.output,h.size,fun i hi _=>h.block i hi⟩
theorem grown_new{a w:World}{row:Option Nat}{g i:Nat}{v:Value}(h:a.grownBy w row)(hg:a.heap.size≤g):a.grownBy (w.setCell ⟨g,i,none⟩ v) row:=by
 refine⟨h.os,h.tape,h.output,by have:=h.size;simpa using this,fun k hk hne=>?_⟩
 rw[Below.heap_setCell _ _ _ _ (fun e=>by subst e;omega)]
 exact h.block k hk hne
structure Lng (w3:World) (gr go K L d A:Nat) (p:Nat) (F G:Nat→Nat) (W:World):Prop where
 rest:Bf W gr K F
 quo:Bf W go L G
 grw:w3.grownBy W (some gr)
 sum:S F K+d*(bp p*S (from_ G p) (L-p))=A
 low:S (from_ F p) (K-p)<d
theorem Lng.keep{w3:World}{gr go K L d A p:Nat}{F G:Nat→Nat}{W W':World}(h:Lng w3 gr go K L d A p F G W)(hb:Below W.heap.size W W'):Lng w3 gr go K L d A p F G W':=
 ⟨h.rest.below hb,h.quo.below hb,h.grw.trans (below_grows hb),h.sum,h.low⟩
theorem Wd.trans{w w' w2:World}{g K o m:Nat}{f f' f2:Nat→Nat}(h:Wd w g K o m f f' w')(h2:Wd w' g K o m f' f2 w2):Wd w g K o m f f2 w2:=
 ⟨h2.bf,fun j hj=>(h2.out j hj).trans (h.out j hj),h.grown.trans h2.grown⟩
def DivPost(n d:Nat)(w:World)(e:Ending)(w':World):Prop:=
 ∃ a k c b m e2,e=.returned (.tuple #[.slice a k c,.slice b m e2])∧Nm w' a k c (n / d)∧Nm w' b m e2 (n % d)∧Below w.heap.size w w'
def DinP(w3:World)(gr K d A:Nat)(e:Ending)(w':World):Prop:=
 ∃ a k c Q F,e=.returned (.slice a k c)∧Nm w' a k c Q∧Bf w' gr K F∧S F K+d*Q=A∧S F K<d∧w3.grownBy w' (some gr)
set_option maxHeartbeats 8000000 in
theorem divideIn_c(gr k1 L m cr cd d A:Nat) (ad:Option Addr) (FR fd:Nat→Nat) (w3:World) (hRD:Rl w3 ad (m+1) fd) (hA:Apart ad (m+1) gr) (hF:Bf w3 gr (k1+1) FR) (hLm:L+m=k1) (hk1:k1<50000) (hcr:k1+1≤cr) (hcr2:cr≤9223372036854775807)
  (hd:S fd (m+1)=d) (htd:0<fd m) (hst:S (from_ FR L) (k1+1-L)<d) (hA0:S FR (k1+1)=A) :
  Calls Tryz.prog 194 #[.slice (some ⟨gr,0,none⟩) (k1+1) cr,.slice ad (m+1) cd] w3 (DinP w3 gr (k1+1) d A):=by
 obtain⟨bd,od,rfl,_,_⟩:=hRD.at_ (show m<m+1 by omega)
 have RD:=Zh hRD
 have TD:Hid (0<fd m):=htd
 have SFD:=Zh hd
 have HAP:=Zh hA
 have HDB:Hid (d<bp (m+1)):=by unfold Hid;rw[←hd];exact S_lt hRD.2.1
 have HST:=Zh hst
 have HBR:=Zh hF
 have hL9:L≤100000:=by omega
 have hmk:=fun w=>mk_limbsI ((k1:Int)+1-((m:Int)+1)) L (by omega) (by omega) w
 have hwm:IntKind.i64.wrap (m:Int)=m:=by rw[IntKind.wrap_i64]<;>omega
 clear hRD hA hF hd htd hst
 go_enter Tryz.func194,Tryz.ntmps194
 go_wp2_with fail
 have B0:=Zh (Bf.made w3 L 144)
 have HB4:Hid (Below w3.heap.size w3 (w3.alloc (.cells (madeCells #[.int .u64 0] L) 144))):=bel_one _ _
 have BR4:=Zh (HBR.out.below HB4.out)
 have HNE:Hid (gr≠w3.heap.size):=by have:=HBR.out.1;unfold Hid;omega
 generalize hW4:w3.alloc (.cells (madeCells #[.int .u64 0] L) 144)=w4 at *
 clear hW4 hmk
 obtain⟨go,hgo⟩:∃ go,w3.heap.size=go:=⟨_,rfl⟩
 have HGO2:Hid (w3.heap.size≤go):=by unfold Hid;omega
 have HA:Hid (Lng w3 gr go (k1+1) L d (S FR (k1+1)) L FR (fun _=>0) w4):=by
  refine⟨BR4.out,by rw[←hgo];exact B0.out,below_grows HB4.out,?_,HST.out⟩
  rw[Nat.sub_self,S_zero,Nat.mul_zero,Nat.mul_zero,Nat.add_zero]
 rw[hgo]at HNE
 rw[hgo]
 rw[hA0]at HA
 clear BR4 B0 HST HB4 HBR hgo hA0
 go_loopw [6] (fun i wr=>∃ (j:Nat) (F G:Nat→Nat),j≤L∧i=.int .i64 ((j:Int)-1)∧Hid (Lng w3 gr go (k1+1) L d A j F G wr)) (fun i _=>(intOf i+1).toNat)
 case atStart=>exact⟨L,FR,fun _=>0,Nat.le_refl _,rfl,HA.out⟩
 case round=>
  clear HA
  obtain⟨j,F,G,hj,rfl,hR⟩:=hrel
  rcases Nat.eq_zero_or_pos j with e|e
  ·subst e
   have E:Hid (S F (k1+1)+d*S G L=A∧S F (k1+1)<d):=by
    have hs1:=hR.out.sum
    have hs2:=hR.out.low
    rw[from_zero,Nat.sub_zero,bp_zero,Nat.one_mul]at hs1
    rw[from_zero,Nat.sub_zero]at hs2
    exact⟨hs1,hs2⟩
   have RR:=Zh hR.out
   clear hR
   go_wp2_with fail
   refine (trim_c (some ⟨go,0,none⟩) L L G wr (RR.out.quo.rl0 (Nat.le_refl _) (by omega)) (Nat.le_refl _) (by omega) (Pl.some_ _ _)).mono ?_
   rintro e w5 ⟨qa,qk,qc,rfl,hQ,b5⟩
   have RR5:=RR.out.keep b5
   have R:Hid (DinP w3 gr (k1+1) d A (.returned (.slice qa qk qc)) w5):=⟨_,_,_,_,F,rfl,hQ,RR5.rest,E.out.1,E.out.2,RR5.grw⟩
   clear hQ b5 RR RR5
   go_wp2
   go_ret
   exact R.out
  ·obtain⟨p,rfl⟩:∃ p,j=p+1:=⟨j-1,by omega⟩
   have ei:((p+1:Nat):Int)-1=(p:Int):=by omega
   rw[ei]
   have hpL:p<L:=by omega
   have hpL':(p:Int)<(L:Int):=by omega
   have hpK:p+(m+1+1)≤k1+1:=by omega
   have hpK':(p:Int)+((m:Int)+1)+1≤(k1:Int)+1:=by omega
   have hpp:(p:Int)≤(p:Int)+((m:Int)+1)+1:=by omega
   have el:p+(m+1)+1-p=m+1+1:=by omega
   have RG:=Zh (guessLimb_c (some ⟨gr,p,none⟩) (some ⟨bd,od,none⟩) m (cr-p) cd (from_ F p) fd wr (hR.out.rest.rl hpK (by omega)) (RD.out.grown hR.out.grw HAP.out) TD.out)
   go_wp2_with fail
   (with_reducible refine RG.out.mono ?_)
   rintro e wg ⟨q0,rfl,hq0,hgs,ng,rfl⟩
   have LW:=Zh (hR.out.keep (bel_drewN wr ng))
   have hFp:=hR.out.rest.2.1
   have GG:Hid (S (from_ F p) (m+1+1)<(q0+1)*d):=long_guess (fun i hi=>hFp _ (by omega)) SFD.out (long_win hpK HDB.out (hFp p (by omega)) hR.out.low) hgs
   clear hgs hFp hR RG
   generalize wr.drewN ng=W1 at *
   have RS:=Zh (subtractTimes_g gr p (m+1) (cr-p) (k1+1) cd q0 (some ⟨bd,od,none⟩) F fd W1 (RD.out.grown LW.out.grw HAP.out) HAP.out LW.out.rest (by omega) (by omega) hq0)
   go_wp2_with fail
   (with_reducible refine RS.out.mono ?_)
   rintro e wS ⟨x0,F1,hx0,rfl,hW,hs1⟩
   rw[SFD.out]at hs1
   have I0:Hid (Wd W1 gr (k1+1) p (m+1+1) F F1 wS∧S (from_ F1 p) (m+1+1)+q0*d=S (from_ F p) (m+1+1)+x0*bp (m+1+1)∧S (from_ F p) (m+1+1)<(q0+1)*d):=⟨hW,hs1,GG.out⟩
   clear hW hs1 RS GG
   go_wp2_with fail
   go_loopw [8,9] (fun vq vb wx=>∃ (q x:Nat) (F2:Nat→Nat),vq=.int .u64 q∧vb=.bool (decide (x=1))∧x≤1∧q<18446744073709551616∧Hid (Wd W1 gr (k1+1) p (m+1+1) F F2 wx∧S (from_ F2 p) (m+1+1)+q*d=S (from_ F p) (m+1+1)+x*bp (m+1+1)∧S (from_ F p) (m+1+1)<(q+1)*d)) (fun vq _ _=>(intOf vq).toNat)
   case atStart=>exact⟨q0,x0,F1,rfl,rfl,hx0,hq0,I0.out⟩
   case round=>
    clear I0
    obtain⟨q,x,F2,rfl,rfl,hx,hq,hI⟩:=hrel
    have hlb:S (from_ F2 p) (m+1+1)<bp (m+1+1):=S_lt (fun i hi=>hI.out.1.bf.2.1 _ (by omega))
    rcases Nat.eq_zero_or_pos x with e|e
    ·subst e
     have hqb:=(LW.out.quo.other hI.out.1.grown (fun e=>HNE.out e.symm))
     have hBj:=hqb.2.2 p hpL
     have hc5:=hBj.1
     have hf5:=hBj.2
     have NX:Hid (Lng w3 gr go (k1+1) L d A p F2 (put G p q) (wr.setCell ⟨go,p,none⟩ (.int .u64 q))):=by
      have h1:S (from_ F2 p) (m+1+1)+q*d=S (from_ F p) (m+1+1):=by
       have h:=hI.out.2.1
       rw[Nat.zero_mul,Nat.add_zero (S (from_ F p) (m+1+1))]at h
       exact h
      have h2:S (from_ F p) (m+1+1)<q*d+d:=by
       have h:=hI.out.2.2
       rw[Nat.add_mul,Nat.one_mul]at h
       exact h
      have hn:=long_next hpK hpL HDB.out LW.out.sum LW.out.low hI.out.1.out h1 (by omega)
      exact⟨hI.out.1.bf.setOther HNE.out,hqb.put hpL hq,grown_new (LW.out.grw.trans hI.out.1.grown) HGO2.out,hn.1,hn.2⟩
     clear hBj hqb hlb
     go_wp2
     go_roundw
     case rel=>exact⟨p,F2,put G p q,by omega,by go_num,NX.out⟩
     case measure=>simp[intOf]
    ·obtain rfl:x=1:=by omega
     have hq0':0<q:=by
      rcases Nat.eq_zero_or_pos q with e|e
      ·subst e
       have:=hI.out.2.1
       rw[Nat.zero_mul,Nat.one_mul]at this
       omega
      ·exact e
     obtain⟨r,rfl⟩:∃ r,q=r+1:=⟨q-1,by omega⟩
     have RA:=Zh (addTo_g gr p (m+1+1) (m+1) (cr-p) (k1+1) cd (some ⟨bd,od,none⟩) F2 fd wr (RD.out.grown (LW.out.grw.trans hI.out.1.grown) HAP.out) HAP.out hI.out.1.bf hpK (by omega) (by omega))
     have er:((r+1:Nat):Int)=(r:Int)+1:=by omega
     have HLB:=Zh hlb
     clear hlb
     go_wp2_with fail
     (with_reducible refine RA.out.mono ?_)
     rintro e wA ⟨y,F3,rfl,hy,hWA,hsA⟩
     rw[SFD.out]at hsA
     have hlb3:S (from_ F3 p) (m+1+1)<bp (m+1+1):=S_lt (fun i hi=>hWA.bf.2.1 _ (by omega))
     have h1:=hI.out.2.1
     rw[Nat.one_mul]at h1
     have hlow:=lower h1 hsA HLB.out hlb3 hy
     have NX:Hid (Wd W1 gr (k1+1) p (m+1+1) F F3 wA∧S (from_ F3 p) (m+1+1)+r*d=S (from_ F p) (m+1+1)+(1-y)*bp (m+1+1)∧S (from_ F p) (m+1+1)<(r+1)*d):=⟨hI.out.1.trans hWA,hlow.1,hlow.2⟩
     clear hWA hsA hlb3 h1 hlow hI RA HLB
     rcases Nat.eq_zero_or_pos y with ey|ey
     ·subst ey
      have NX1:Hid (Wd W1 gr (k1+1) p (m+1+1) F F3 wA∧S (from_ F3 p) (m+1+1)+r*d=S (from_ F p) (m+1+1)+1*bp (m+1+1)∧S (from_ F p) (m+1+1)<(r+1)*d):=by
       have h:=NX.out
       rw[Nat.sub_zero 1]at h
       exact h
      clear NX
      go_wp2
      go_roundw
      case rel=>exact⟨r,1,F3,by go_num,rfl,by omega,by omega,NX1.out⟩
      case measure=>simp[intOf]
     ·obtain rfl:y=1:=by omega
      have NX1:Hid (Wd W1 gr (k1+1) p (m+1+1) F F3 wA∧S (from_ F3 p) (m+1+1)+r*d=S (from_ F p) (m+1+1)+0*bp (m+1+1)∧S (from_ F p) (m+1+1)<(r+1)*d):=by
       have h:=NX.out
       rw[Nat.sub_self 1]at h
       exact h
      clear NX
      go_wp2
      go_roundw
      case rel=>exact⟨r,0,F3,by go_num,rfl,by omega,by omega,NX1.out⟩
      case measure=>simp[intOf]
set_option maxHeartbeats 8000000 in
theorem divideLong_c(a1 a2:Option Addr) (k1 m c1 c2 n1 n2:Nat) (w:World) (h1:Nm w a1 k1 c1 n1) (h2:Nm w a2 (m+1) c2 n2) (hle:m+1≤k1) (hk1:k1<50000) :
  Calls Tryz.prog 177 #[.slice a1 k1 c1,.slice a2 (m+1) c2] w (DivPost n1 n2 w):=by
 obtain⟨f1,r1,hkc1,hcc1,t1,s1,p1⟩:=h1
 obtain⟨f2,r2,hkc2,hcc2,t2,s2,p2⟩:=h2
 obtain⟨b2,o2,rfl,hbl2,htop⟩:=r2.at_ (show m<m+1 by omega)
 have htpos:0<f2 m:=by
  rcases t2 with e|e
  ·omega
  ·simp at e;omega
 have htlt:=r2.2.1 m (by omega)
 obtain⟨s,hs,hl1,hl2,HZ⟩:=lead_ex (f2 m) htpos htlt
 have HLZ:=Zh HZ
 obtain⟨d,hd⟩:∃ d,d=n2*2 ^ s:=⟨_,rfl⟩
 have hdb:=lead_bp (m:=m) (d:=d) (n2:=n2) (s:=s) (top:=f2 m) (r:=S f2 m) (by rw[←s2,S_succ];omega) (S_lt (fun j hj=>r2.2.1 j (by omega))) hl1 hl2 hd
 have HU2:=Zh (fun w' (hb:Below w.heap.size w w')=>shiftUp_c (some ⟨b2,o2,none⟩) (m+1) c2 s f2 w' (r2.below hb) hs (by omega))
 have HU1:=Zh (fun w' (hb:Below w.heap.size w w')=>shiftUp_c a1 k1 c1 s f1 w' (r1.below hb) hs (by omega))
 have HS1:=Zh s1
 have HS2:=Zh s2
 have HD:=Zh hd
 have HDB:=Zh hdb
 have hm5:m<50000:=by omega
 have hwm:IntKind.i64.wrap (m:Int)=m:=by rw[IntKind.wrap_i64];omega
 clear HZ r1 r2 t1 t2 p1 p2 s1 s2 hd hdb hl1 hl2 htpos htlt
 generalize f2 m=top at *
 go_enter Tryz.func177,Tryz.ntmps177
 go_wp2_with (go_at_call 170;refine (HLZ.out _).mono ?_;rintro e w' ⟨rfl,rfl⟩)
 refine (HU1.out _ (Below.refl _ _)).mono ?_
 rintro e w1 ⟨gr,FR,rfl,hgr,hbr,hsr,htr,br⟩
 rw[HS1.out]at hsr
 have BD1:=Zh br
 have HGR:=Zh hgr
 have HBR:=Zh hbr
 have HST:Hid (S (from_ FR (k1-m)) (k1+1-(k1-m))<d):=long_start hbr.2.1 (show k1-m+m=k1 by omega) htr hs HDB.out.1
 have HSR:=Zh hsr
 clear hgr hbr hsr htr HU1 br
 go_wp2_with fail
 refine (HU2.out _ BD1.out).mono ?_
 rintro e w2 ⟨gd,FD,rfl,hgd,hbd,hsd,_,bd⟩
 rw[HS2.out,←HD.out]at hsd
 have hKd:=hbd.rl0 (Nat.le_refl _) (show m+1+1≤100000 by omega)
 have BD:=Zh bd
 have SD:=Zh hsd
 have HKD:=Zh hKd
 have HGD:=Zh hgd
 clear hgd hbd hsd bd hKd HU2
 go_wp2_with fail
 refine (trim_c2 (some ⟨gd,0,none⟩) (m+1+1) (m+1+1) FD w2 HKD.out (Nat.le_refl _) (by omega) (Pl.some_ _ _)).mono ?_
 rintro e w3 ⟨kd,rfl,hN,rfl⟩
 rw[SD.out]at hN
 obtain rfl:kd=m+1:=by
  have u1:=hN.len HDB.out.2
  have u2:=bp_lt (Nat.lt_of_le_of_lt (show bp m≤d by have:=HDB.out.1;have:=bp_pos m;omega) hN.lt)
  omega
 obtain⟨fd,rd,hkcd,hccd,td,sd,pd⟩:=hN
 have td':0<fd m:=by
  rcases td with e|e
  ·omega
  ·simp at e;omega
 have AP:Apart (some ⟨gd,0,none⟩) (m+1) gr:=fun _ b off e=>by
  injection e with e
  injection e with e1 _
  have h1:=HGD.out
  have h2:=HBR.out.1
  omega
 have DI:=Zh (divideIn_c gr k1 (k1-m) m (k1+1) (m+1+1) d (n1*2 ^ s) (some ⟨gd,0,none⟩) FR fd w2 rd AP (HBR.out.below BD.out) (by omega) hk1 (Nat.le_refl _) (by omega) sd td' HST.out HSR.out)
 have BD2:=Zh (BD1.out.trans (BD.out.mono BD1.out.size))
 clear rd hkcd hccd td sd pd td' AP SD HKD BD HST
 go_wp2_with fail
 (with_reducible refine DI.out.mono ?_)
 rintro e w5 ⟨qa,qk,qc,Q,F,rfl,hQ,hBF,hsum,hlow,hgrw⟩
 have E:Hid (Q=n1 / n2∧S F (k1+1) / 2 ^ s=n1 % n2):=by
  rw[HD.out]at hsum hlow
  exact div_unshift hsum hlow
 have B5:Hid (Below w.heap.size w w5):=BD2.out.grown hgrw BD2.out.size (fun q hq=>by cases hq;exact HGR.out)
 rw[E.out.1]at hQ
 have HQ:=Zh hQ
 have HBF:=Zh hBF
 clear hQ hBF hsum hlow hgrw DI
 go_wp2_with fail
 refine (trim_c (some ⟨gr,0,none⟩) (k1+1) (k1+1) F w5 (HBF.out.rl0 (Nat.le_refl _) (by omega)) (Nat.le_refl _) (by omega) (Pl.some_ _ _)).mono ?_
 rintro e w6 ⟨ta,tk,tc,rfl,hT,b6⟩
 obtain⟨tf,tr,_,_,_,ts,_⟩:=hT
 have HQ6:=Zh (HQ.out.below b6)
 have B6:=Zh (B5.out.trans (b6.mono B5.out.size))
 have TR:=Zh (shiftDown_c ta tk tc s tf w6 tr hs)
 have TS:=Zh ts
 clear HQ b6 tr ts
 go_wp2_with fail
 refine TR.out.mono ?_
 rintro e w7 ⟨ra,rk,rc,rfl,hRm,b7⟩
 rw[TS.out,E.out.2]at hRm
 have R:Hid (DivPost n1 n2 w (.returned (.tuple #[.slice qa qk qc,.slice ra rk rc])) w7):=
  ⟨_,_,_,_,_,_,rfl,HQ6.out.below b7,hRm,B6.out.trans (b7.mono B6.out.size)⟩
 clear hRm b7
 go_wp2
 go_ret2
 exact R.out
theorem sgn_neg(x y:Nat):decide (sgn x y<0)=decide (x<y):=by
 rcases Nat.lt_trichotomy x y with l|l|l
 ·rw[sgn_lt l];simp[l]
 ·subst l;rw[sgn_eq];simp
 ·rw[sgn_gt l]
  have h:¬ x<y:=by omega
  simp[h]
theorem built_one(w:World)(n:Nat)(hn:n<18446744073709551616):Rl (w.alloc (.cells #[.int .u64 n] 144)) (some ⟨w.heap.size,0,none⟩) 1 (fun _=>n):=
 ⟨by omega,fun _ _=>hn,fun _=>⟨w.heap.size,0,rfl,by simp,fun j hj=>by
  obtain rfl:j=0:=by omega
  rw[World.cell?_alloc_new];rfl⟩⟩
set_option maxHeartbeats 2000000 in
theorem divide_c(a1 a2:Option Addr) (k1 k2 c1 c2 n1 n2:Nat) (w:World) (h1:Nm w a1 k1 c1 n1) (h2:Nm w a2 k2 c2 n2) (h0:0<n2) (hn1:n1<bp 4000) :
  Calls Tryz.prog 154 #[.slice a1 k1 c1,.slice a2 k2 c2] w (DivPost n1 n2 w):=by
 have hk1:=h1.len hn1
 have HC:=Zh (compare_c a1 a2 k1 k2 c1 c2 n1 n2 w h1 h2)
 have HS:=Zh (sgn_neg n1 n2)
 by_cases hlt:n1<n2
 ·have hd:decide (sgn n1 n2<0)=true:=by rw[HS.out];simp[hlt]
  have R:=Zh (fun q=>(show DivPost n1 n2 w (.returned (.tuple #[.slice none 0 0,.slice a1 k1 c1])) (w.drewN q) from
   ⟨_,_,_,_,_,_,rfl,by rw[Nat.div_eq_of_lt hlt];exact Nm.zero _ _ _ (by omega) Pl.none_,by rw[Nat.mod_eq_of_lt hlt];exact h1.below (bel_drewN _ _),bel_drewN _ _⟩))
  clear h1 h2 hlt HS
  generalize sgn n1 n2=sg at *
  go_enter Tryz.func154,Tryz.ntmps154
  go_wp2_with fail
  refine HC.out.mono ?_
  rintro e w1 ⟨rfl,q,rfl⟩
  go_wp2
  go_ret2
  exact R.out q
 ·have hd:decide (sgn n1 n2<0)=false:=by rw[HS.out];simp[hlt]
  have hk2:=h2.one h0
  have hk12:k2≤k1:=by
   rcases Nat.lt_or_ge k1 k2 with l|l
   ·have e1:=h1.lt
    have e2:=h2.pos (by omega)
    have e3:=bp_mono (show k1≤k2-1 by omega)
    omega
   ·exact l
  have H1:=Zh h1
  have H2:=Zh h2
  clear HS
  by_cases hk:k2=1
  ·subst hk
   obtain⟨f2,r2,_,_,t2,s2,p2⟩:=h2
   obtain⟨b2,o2,rfl,hb2,hc2⟩:=r2.at_ (show 0<1 by omega)
   rw[S_one]at s2
   have hlim:=r2.2.1 0 (by omega)
   rw[s2]at hc2 hlim
   have GB:=Zh hb2
   have GC:=Zh hc2
   clear r2 t2 s2 p2 h1 hlt hk2 hk12 hb2 hc2
   generalize sgn n1 n2=sg at *
   have H0:=Zh h0
   clear h0
   go_enter Tryz.func154,Tryz.ntmps154
   go_wp2_with fail
   refine HC.out.mono ?_
   rintro e w1 ⟨rfl,q,rfl⟩
   have hc2':(w.drewN q).cell? ⟨b2,o2+0,none⟩=some (.int .u64 n2):=GC.out
   rw[Nat.add_zero]at hc2'
   have L1:=Zh (H1.out.below (bel_drewN w q))
   have B1:=Zh (bel_drewN w q)
   generalize w.drewN q=w1 at *
   clear H1 H2 HC GB GC
   go_wp2_with fail
   refine (divideShort_c a1 k1 c1 n1 n2 w1 L1.out H0.out hlim).mono ?_
   rintro e w3 ⟨a3,k3,c3,r,rfl,hr,l3,b3⟩
   have hrb:r<18446744073709551616:=by rw[hr];have:=Nat.mod_lt n1 H0.out;omega
   have HR:=Zh hr
   have L3:=Zh l3
   have B3:=Zh (B1.out.trans (b3.mono B1.out.size))
   clear l3 b3 hr
   go_wp2_with fail
   have hL:Hid (Nm (w3.alloc (.cells #[.int .u64 r] 144)) a3 k3 c3 (n1 / n2)):=L3.out.below (bel_one _ _)
   have hB:Hid (Below w.heap.size w (w3.alloc (.cells #[.int .u64 r] 144))):=B3.out.alloc B3.out.size _
   have hT:=Zh (trim_c (some ⟨w3.heap.size,0,none⟩) 1 1 (fun _=>r) (w3.alloc (.cells #[.int .u64 r] 144)) (built_one w3 r hrb) (by omega) (by omega) (Pl.some_ _ _))
   refine hT.out.mono ?_
   rintro e w4 ⟨a4,k4,c4,rfl,l4,b4⟩
   rw[S_one,HR.out]at l4
   have R:Hid (DivPost n1 n2 w (.returned (.tuple #[.slice a3 k3 c3,.slice a4 k4 c4])) w4):=⟨_,_,_,_,_,_,rfl,hL.out.below b4,l4,hB.out.trans (b4.mono hB.out.size)⟩
   clear l4 b4
   go_wp2
   go_ret2
   exact R.out
  ·obtain⟨m,rfl⟩:∃ m,k2=m+1:=⟨k2-1,by omega⟩
   have hne:((m:Int)+1 == 1)=false:=by rw[beq_eq_false_iff_ne];omega
   have hne':(m == 0)=false:=by rw[beq_eq_false_iff_ne];omega
   have HD:=Zh (fun q=>divideLong_c a1 a2 k1 m c1 c2 n1 n2 (w.drewN q) (h1.below (bel_drewN w q)) (h2.below (bel_drewN w q)) hk12 (by omega))
   clear h1 h2 hlt hk
   generalize sgn n1 n2=sg at *
   go_enter Tryz.func154,Tryz.ntmps154
   go_wp2_with fail
   refine HC.out.mono ?_
   rintro e w1 ⟨rfl,q,rfl⟩
   go_wp2_with fail
   (with_reducible refine (HD.out q).mono ?_)
   rintro e w4 ⟨qa,qk,qc,ra,rk,rc,rfl,l1,l2,b4⟩
   have R:Hid (DivPost n1 n2 w (.returned (.tuple #[.slice qa qk qc,.slice ra rk rc])) w4):=⟨_,_,_,_,_,_,rfl,l1,l2,(bel_drewN w q).trans b4⟩
   clear l1 l2 b4
   go_wp2
   go_ret2
   exact R.out
theorem zshl(s:Nat)(_:s<64):IntKind.u64.wrap 0=0:=by decide
def WinPost(h l s:Nat)(w:World)(e:Ending)(w':World):Prop:=∃ v:Nat,e=.returned (.int .u64 (v:Int))∧v=(h*2 ^ s ||| l / 2 ^ (64-s))∧∃ q,w'=w.drewN q
set_option maxHeartbeats 2000000 in
theorem window_c(a:Option Addr) (k c z s:Nat) (f:Nat→Nat) (w:World) (h:Rl w a k f) (hk:k≤z+2) (hz:z<50000) (hs:s<64) (hh:ext f k (z+1)*2 ^ s<18446744073709551616) :
  Calls Tryz.prog 175 #[.slice a k c,.int .i64 ((z:Int)+2),.int .i64 s] w (WinPost (ext f k (z+1)) (ext f k z) s w):=by
 have hw1:IntKind.i64.wrap ((z:Int)+1)=(z:Int)+1:=by rw[IntKind.wrap_i64];omega
 have hw0:IntKind.i64.wrap (z:Int)=(z:Int):=by rw[IntKind.wrap_i64];omega
 have hw64:IntKind.i64.wrap (64-(s:Int))=64-(s:Int):=by rw[IntKind.wrap_i64];omega
 have hp:0<2 ^ s:=Nat.pow_pos (by decide)
 have hl:ext f k z<18446744073709551616:=by
  by_cases e:z<k
  ·rw[ext_in e];exact h.2.1 z e
  ·rw[ext_out (by omega)];decide
 obtain⟨x,hx⟩:∃ x,ext f k (z+1)*2 ^ s=x:=⟨_,rfl⟩
 obtain⟨y,hy⟩:∃ y,ext f k z / 2 ^ (64-s)=y:=⟨_,rfl⟩
 have hxb:x<18446744073709551616:=by rw[←hx];exact hh
 have hyb:y<18446744073709551616:=by rw[←hy];have:=Nat.div_le_self (ext f k z) (2 ^ (64-s));omega
 obtain⟨v,hv⟩:∃ v,x ||| y=v:=⟨_,rfl⟩
 have e1:IntKind.u64.wrap ((ext f k (z+1):Int)*2 ^ s)=(x:Int):=wrap_shl (by rw[hx];exact Nat.mod_eq_of_lt hxb)
 have e2:(ext f k z:Int) / 2 ^ (64-s)=(y:Int):=shr_cast hy
 have e3:=or_cast hxb hyb hv
 have HV:Hid (v=(ext f k (z+1)*2 ^ s ||| ext f k z / 2 ^ (64-s))):=by unfold Hid;rw[hx,hy,hv]
 clear hx hy hv hh hp
 by_cases c1:k=z+2
 ·subst c1
  obtain⟨b,o,rfl,_,g1⟩:=h.at_ (show z+1<z+2 by omega)
  obtain⟨b',o',e,_,g0⟩:=h.at_ (show z<z+2 by omega)
  injection e with e
  injection e with e4 e5
  subst e4 e5
  have t1:=ext_in (f:=f) (show z+1<z+2 by omega)
  have t0:=ext_in (f:=f) (show z<z+2 by omega)
  rw[←t1]at g1
  rw[←t0]at g0
  clear t1 t0 h
  generalize ext f (z+2) (z+1)=hi at *
  generalize ext f (z+2) z=lo at *
  have d1:(z:Int)+1<(z:Int)+2:=by omega
  have d2:(z:Int)<(z:Int)+2:=by omega
  have d3:z+1<z+2:=by omega
  have d4:z<z+2:=by omega
  go_enter Tryz.func175,Tryz.ntmps175
  go_wp2_with fail
  go_quiet (fail)
  go_wp2
  go_ret
  exact⟨v,rfl,HV.out,_,rfl⟩
 ·by_cases c2:k=z+1
  ·subst c2
   obtain⟨b,o,rfl,_,g0⟩:=h.at_ (show z<z+1 by omega)
   have t1:=ext_out (f:=f) (show z+1≤z+1 by omega)
   have t0:=ext_in (f:=f) (show z<z+1 by omega)
   rw[←t0]at g0
   rw[t1]at e1
   have e1':(x:Int)=0:=by rw[←e1,Int.natCast_zero,Int.zero_mul];decide
   clear t0 h e1
   generalize ext f (z+1) (z+1)=hi at *
   generalize ext f (z+1) z=lo at *
   have ex:x=0:=by omega
   subst ex
   have e3':bits .or .u64 (0:Int) (y:Int)=(v:Int):=e3
   clear e1' t1 e3
   have d1:¬ (z:Int)+2≤(z:Int)+1:=by omega
   have d4:z<z+1:=by omega
   have d2:(z:Int)<(z:Int)+1:=by omega
   have ez:=zshl s hs
   go_enter Tryz.func175,Tryz.ntmps175
   go_wp2_with fail
   go_quiet (fail)
   go_wp2
   go_ret
   exact⟨v,rfl,HV.out,_,rfl⟩
  ·have hkz:k≤z:=by omega
   have t1:=ext_out (f:=f) (show k≤z+1 by omega)
   have t0:=ext_out (f:=f) hkz
   have H:=Zh h
   rw[t1]at e1
   rw[t0]at e2
   have e1':(x:Int)=0:=by rw[←e1,Int.natCast_zero,Int.zero_mul];decide
   have e2':(y:Int)=0:=by rw[←e2,Int.natCast_zero,Int.zero_ediv]
   clear h e1 e2 hl
   generalize ext f k (z+1)=hi at *
   generalize ext f k z=lo at *
   have ex:x=0:=by omega
   have ey:y=0:=by omega
   subst ex ey
   have e3':bits .or .u64 (0:Int) (0:Int)=(v:Int):=e3
   clear e1' e2' t1 t0 e3
   have d1:¬ (z:Int)+2≤(k:Int):=by omega
   have d2:¬ (z:Int)+1≤(k:Int):=by omega
   have ez:=zshl s hs
   go_enter Tryz.func175,Tryz.ntmps175
   go_wp2_with fail
   go_quiet (fail)
   go_wp2
   go_ret
   exact⟨v,rfl,HV.out,_,rfl⟩
abbrev stepV(a0 b0 a1 b1:Nat)(odd made:Bool):Value:=.agg #[.int .u64 (a0:Int),.int .u64 (b0:Int),.int .u64 (a1:Int),.int .u64 (b1:Int),.bool odd,.bool made]
theorem step_less{P G X Y m l b x y t u p q m' l' s b':Nat} (h:G+u*Y+m*P=t*X+(l+b)*P) (h1:x*t+m=p+m'*18446744073709551616) (h2:y*u+l=q+l'*18446744073709551616) (h3:s+(q+b)=p+b'*18446744073709551616) :
  (G+s*P)+u*(Y+y*P)+m'*(P*18446744073709551616)=t*(X+x*P)+(l'+b')*(P*18446744073709551616):=by grind
theorem less_end{P G A B m lb r:Nat}(h:G+B+m*P=A+lb*P)(hr:A=B+r)(hG:G<P)(hr2:r<P):G=r:=by
 have e:G+m*P=r+lb*P:=by omega
 have h1:(G+m*P) % P=G:=by rw[Nat.add_mul_mod_self_right,Nat.mod_eq_of_lt hG]
 have h2:(r+lb*P) % P=r:=by rw[Nat.add_mul_mod_self_right,Nat.mod_eq_of_lt hr2]
 rw[←h1,e,h2]
theorem ext_lb{f:Nat→Nat}{k:Nat}(h:Lb f k)(j:Nat):ext f k j<18446744073709551616:=by
 by_cases e:j<k
 ·rw[ext_in e];exact h j e
 ·rw[ext_out (by omega)];decide
def TlI(w:World)(f1 f2:Nat→Nat)(K x y j m l b:Nat)(g:Nat→Nat)(wr:World):Prop:=
 Bf wr w.heap.size K g∧Below w.heap.size w wr∧S g j+y*S f2 j+m*bp j=x*S f1 j+(l+b)*bp j
set_option maxHeartbeats 4000000 in
theorem timesLess_c(p1 p2:Option Addr) (k1 k2 c1 c2 n1 n2 x y r:Nat) (w:World) (h1:Nm w p1 k1 c1 n1) (h2:Nm w p2 k2 c2 n2) (hn1:n1<bp 2000) (hn2:n2<bp 2000)
  (hx:x<18446744073709551616) (hy:y<18446744073709551616) (hr:x*n1=y*n2+r) (hrb:r≤n1∨r≤n2) :
  Calls Tryz.prog 192 #[.slice p1 k1 c1,.int .u64 x,.slice p2 k2 c2,.int .u64 y] w (NmPost r w):=by
 have hk1:=h1.len hn1
 have hk2:=h2.len hn2
 obtain⟨K,hK⟩:∃ K,max k1 k2=K:=⟨_,rfl⟩
 have hkK:k1≤K∧k2≤K∧K≤2000:=by omega
 have hKo:K=k1∨K=k2:=by omega
 have hmax:max (k1:Int) (k2:Int)=(K:Int):=by omega
 have HRB:Hid (r<bp K):=by
  rcases hrb with e|e
  ·exact Nat.lt_of_lt_of_le (Nat.lt_of_le_of_lt e h1.lt) (bp_mono hkK.1)
  ·exact Nat.lt_of_lt_of_le (Nat.lt_of_le_of_lt e h2.lt) (bp_mono hkK.2.1)
 obtain⟨f1,r1,_,_,_,s1,_⟩:=h1
 obtain⟨f2,r2,_,_,_,s2,_⟩:=h2
 have hmk:=fun w=>mk_limbs K (by omega) w
 have H1:=Zh r1
 have H2:=Zh r2
 have HE:Hid (x*S (ext f1 k1) K=y*S (ext f2 k2) K+r):=by unfold Hid;rw[S_ext f1 hkK.1,S_ext f2 hkK.2.1,s1,s2];exact hr
 clear r1 r2 s1 s2 hn1 hn2 hr hrb hK
 go_enter Tryz.func192,Tryz.ntmps192
 go_wp2_with fail
 have B0:=Zh (Bf.made w K 144)
 have BL:Hid (Below w.heap.size w (w.alloc (.cells (madeCells #[.int .u64 0] K) 144))):=bel_one _ _
 generalize hW1:w.alloc (.cells (madeCells #[.int .u64 0] K) 144)=W1 at *
 clear hW1 hmk hmax
 go_loopw [11,12,13,26] (fun vm vl vb i wr=>∃ (j m l b:Nat) (g:Nat→Nat),j≤K∧i=.int .i64 j∧vm=.int .u64 m∧vl=.int .u64 l∧vb=.int .u64 b∧m<18446744073709551616∧l<18446744073709551616∧b≤1∧Hid (TlI w (ext f1 k1) (ext f2 k2) K x y j m l b g wr)) (fun _ _ _ i _=>K-(intOf i).toNat)
 case atStart=>exact⟨0,0,0,0,fun _=>0,Nat.zero_le _,rfl,rfl,rfl,rfl,by decide,by decide,by decide,B0.out,BL.out,by simp only[S_zero];omega⟩
 case round=>
  clear B0 BL
  obtain⟨j,m,l,b,g,hj,rfl,rfl,rfl,rfl,hm,hl,hb,hR⟩:=hrel
  by_cases hlt:j<K
  ·have hlt':(j:Int)<(K:Int):=by omega
   obtain⟨u,hu⟩:∃ u,ext f1 k1 j=u:=⟨_,rfl⟩
   obtain⟨v,hv⟩:∃ v,ext f2 k2 j=v:=⟨_,rfl⟩
   have hub:u<18446744073709551616:=by rw[←hu];exact ext_lb H1.out.2.1 j
   have hvb:v<18446744073709551616:=by rw[←hv];exact ext_lb H2.out.2.1 j
   obtain⟨p,m',hst1,e1,hp,hm'⟩:=steps u x m hub hx hm
   obtain⟨q,l',hst2,e2,hq,hl'⟩:=steps v y l hvb hy hl
   obtain⟨s,b',hsub,e3,hs,hb'⟩:=subs p q b rfl rfl rfl hp hq hb
   have ST1:=Zh hst1
   have ST2:=Zh hst2
   have hBj:=hR.out.1.2.2 j hlt
   have hc2:=hBj.1
   have hf2:=hBj.2
   have NX:Hid (TlI w (ext f1 k1) (ext f2 k2) K x y (j+1) m' l' b' (put g j s) (wr.setCell ⟨w.heap.size,j,none⟩ (.int .u64 s))):=by
    refine⟨hR.out.1.put hlt hs,hR.out.2.1.setCell (p:=⟨w.heap.size,j,none⟩) (Nat.le_refl _) _,?_⟩
    rw[S_put,bp_succ,S_succ,S_succ,hu,hv]
    exact step_less hR.out.2.2 e1 e2 e3
   have BR:=Zh hR.out.2.1
   clear hst1 hst2 e1 e2 e3 hR hBj
   by_cases i1:j<k1
   ·obtain⟨b1,o1,rfl,_,g1⟩:=(H1.out.below BR.out).at_ i1
    rw[←ext_in (f:=f1) i1,hu]at g1
    have i1':(j:Int)<(k1:Int):=by omega
    by_cases i2:j<k2
    ·obtain⟨b2,o2,rfl,_,g2⟩:=(H2.out.below BR.out).at_ i2
     rw[←ext_in (f:=f2) i2,hv]at g2
     have i2':(j:Int)<(k2:Int):=by omega
     clear hu hv
     go_wp2_with fail
     refine (ST1.out _).mono ?_
     rintro e w1 ⟨rfl,rfl⟩
     go_wp2_with fail
     refine (ST2.out _).mono ?_
     rintro e w2 ⟨rfl,rfl⟩
     go_wp2_with (rw[hsub])
     go_roundw
     case rel=>exact⟨j+1,m',l',b',put g j s,by omega,by go_num,rfl,rfl,rfl,hm',hl',hb',NX.out⟩
     case measure=>simp[intOf];omega
    ·rw[ext_out (by omega)]at hv
     subst hv
     have i2':¬ (j:Int)<(k2:Int):=by omega
     clear hu
     go_wp2_with fail
     refine (ST1.out _).mono ?_
     rintro e w1 ⟨rfl,rfl⟩
     go_wp2_with fail
     refine (ST2.out _).mono ?_
     rintro e w2 ⟨rfl,rfl⟩
     go_wp2_with (rw[hsub])
     go_roundw
     case rel=>exact⟨j+1,m',l',b',put g j s,by omega,by go_num,rfl,rfl,rfl,hm',hl',hb',NX.out⟩
     case measure=>simp[intOf];omega
   ·rw[ext_out (by omega)]at hu
    subst hu
    have i1':¬ (j:Int)<(k1:Int):=by omega
    by_cases i2:j<k2
    ·obtain⟨b2,o2,rfl,_,g2⟩:=(H2.out.below BR.out).at_ i2
     rw[←ext_in (f:=f2) i2,hv]at g2
     have i2':(j:Int)<(k2:Int):=by omega
     clear hv
     go_wp2_with fail
     refine (ST1.out _).mono ?_
     rintro e w1 ⟨rfl,rfl⟩
     go_wp2_with fail
     refine (ST2.out _).mono ?_
     rintro e w2 ⟨rfl,rfl⟩
     go_wp2_with (rw[hsub])
     go_roundw
     case rel=>exact⟨j+1,m',l',b',put g j s,by omega,by go_num,rfl,rfl,rfl,hm',hl',hb',NX.out⟩
     case measure=>simp[intOf];omega
    ·exact absurd hlt (by omega)
  ·obtain rfl:j=K:=by omega
   have E:Hid (S g j=r):=less_end hR.out.2.2 HE.out (S_lt hR.out.1.2.1) HRB.out
   have RB:=Zh hR.out.2.1
   have RL:=Zh (hR.out.1.rl0 (Nat.le_refl _) (by omega))
   clear hlt hR
   go_wp2_with fail
   refine (trim_c (some ⟨w.heap.size,0,none⟩) j j g wr RL.out (Nat.le_refl _) (by omega) (Pl.some_ _ _)).mono ?_
   rintro e w4 ⟨a',k',c',rfl,hN,b4⟩
   rw[E.out]at hN
   have R:=Zh (show NmPost r w (.returned (.slice a' k' c')) w4 from ⟨a',k',c',rfl,hN,RB.out.trans (b4.mono RB.out.size)⟩)
   clear hN b4
   go_wp2
   go_ret
   exact R.out
set_option maxHeartbeats 2000000 in
theorem combine_c(odd:Bool) (a0 b0 a1 b1:Nat) (made:Bool) (p1 p2:Option Addr) (k1 k2 c1 c2 n1 n2 x y r:Nat) (w:World) (h1:Nm w p1 k1 c1 n1) (h2:Nm w p2 k2 c2 n2) (hn1:n1<bp 2000) (hn2:n2<bp 2000)
  (hx:x<18446744073709551616) (hy:y<18446744073709551616) (hr:if odd then y*n2=x*n1+r else x*n1=y*n2+r) (hrb:r≤n1∨r≤n2) :
  Calls Tryz.prog 176 #[stepV a0 b0 a1 b1 odd made,.slice p1 k1 c1,.int .u64 x,.slice p2 k2 c2,.int .u64 y] w (NmPost r w):=by
 obtain⟨W1,hW1⟩:∃ W1,w.alloc (.cells #[.int .u64 (a0:Int),.int .u64 (b0:Int),.int .u64 (a1:Int),.int .u64 (b1:Int),.bool odd,.bool made] 203)=W1:=⟨_,rfl⟩
 have B1:Hid (Below w.heap.size w W1):=by rw[←hW1];exact bel_one _ _
 have D4:W1.cell? ⟨w.heap.size,4,none⟩=some (.bool odd):=by rw[←hW1,World.cell?_alloc_at _ _ _ _ rfl];rfl
 cases odd
 ·simp only[Bool.false_eq_true,if_false]at hr
  have HC:=Zh (timesLess_c p1 p2 k1 k2 c1 c2 n1 n2 x y r W1 (h1.below B1.out) (h2.below B1.out) hn1 hn2 hx hy hr hrb)
  clear h1 h2 hn1 hn2 hr hrb
  go_enter Tryz.func176,Tryz.ntmps176
  go_wp2_with fail
  (with_reducible refine HC.out.mono ?_)
  rintro e w4 ⟨pr,kr,cr,rfl,lr,b4⟩
  have R:=Zh (show NmPost r w (.returned (.slice pr kr cr)) w4 from ⟨_,_,_,rfl,lr,B1.out.trans (b4.mono B1.out.size)⟩)
  clear lr b4 hW1 D4
  go_wp2
  go_ret
  exact R.out
 ·simp only[if_true]at hr
  have HC:=Zh (timesLess_c p2 p1 k2 k1 c2 c1 n2 n1 y x r W1 (h2.below B1.out) (h1.below B1.out) hn2 hn1 hy hx hr hrb.symm)
  clear h1 h2 hn1 hn2 hr hrb
  go_enter Tryz.func176,Tryz.ntmps176
  go_wp2_with fail
  (with_reducible refine HC.out.mono ?_)
  rintro e w4 ⟨pr,kr,cr,rfl,lr,b4⟩
  have R:=Zh (show NmPost r w (.returned (.slice pr kr cr)) w4 from ⟨_,_,_,rfl,lr,B1.out.trans (b4.mono B1.out.size)⟩)
  clear lr b4 hW1 D4
  go_wp2
  go_ret
  exact R.out
set_option maxHeartbeats 2000000 in
theorem first_c(odd:Bool) (a0 b0 a1 b1:Nat) (made:Bool) (p1 p2:Option Addr) (k1 k2 c1 c2 n1 n2 r:Nat) (w:World) (h1:Nm w p1 k1 c1 n1) (h2:Nm w p2 k2 c2 n2) (hn1:n1<bp 2000) (hn2:n2<bp 2000)
  (hx:a0<18446744073709551616) (hy:b0<18446744073709551616) (hr:if odd then b0*n2=a0*n1+r else a0*n1=b0*n2+r) (hrb:r≤n1∨r≤n2) :
  Calls Tryz.prog 152 #[stepV a0 b0 a1 b1 odd made,.slice p1 k1 c1,.slice p2 k2 c2] w (NmPost r w):=by
 obtain⟨W1,hW1⟩:∃ W1,w.alloc (.cells #[.int .u64 (a0:Int),.int .u64 (b0:Int),.int .u64 (a1:Int),.int .u64 (b1:Int),.bool odd,.bool made] 203)=W1:=⟨_,rfl⟩
 have B1:Hid (Below w.heap.size w W1):=by rw[←hW1];exact bel_one _ _
 have D0:W1.cell? ⟨w.heap.size,0,none⟩=some (.int .u64 (a0:Int)):=by rw[←hW1,World.cell?_alloc_at _ _ _ _ rfl];rfl
 have D1:W1.cell? ⟨w.heap.size,1,none⟩=some (.int .u64 (b0:Int)):=by rw[←hW1,World.cell?_alloc_at _ _ _ _ rfl];rfl
 have D2:W1.cell? ⟨w.heap.size,2,none⟩=some (.int .u64 (a1:Int)):=by rw[←hW1,World.cell?_alloc_at _ _ _ _ rfl];rfl
 have D3:W1.cell? ⟨w.heap.size,3,none⟩=some (.int .u64 (b1:Int)):=by rw[←hW1,World.cell?_alloc_at _ _ _ _ rfl];rfl
 have D4:W1.cell? ⟨w.heap.size,4,none⟩=some (.bool odd):=by rw[←hW1,World.cell?_alloc_at _ _ _ _ rfl];rfl
 have D5:W1.cell? ⟨w.heap.size,5,none⟩=some (.bool made):=by rw[←hW1,World.cell?_alloc_at _ _ _ _ rfl];rfl
 have HC:=Zh (combine_c odd a0 b0 a1 b1 made p1 p2 k1 k2 c1 c2 n1 n2 a0 b0 r W1 (h1.below B1.out) (h2.below B1.out) hn1 hn2 hx hy hr hrb)
 clear h1 h2 hn1 hn2 hr
 go_enter Tryz.func152,Tryz.ntmps152
 go_wp2_with fail
 (with_reducible refine HC.out.mono ?_)
 rintro e w4 ⟨pr,kr,cr,rfl,lr,b4⟩
 have R:=Zh (show NmPost r w (.returned (.slice pr kr cr)) w4 from ⟨_,_,_,rfl,lr,B1.out.trans (b4.mono B1.out.size)⟩)
 clear lr b4 hW1 D0 D1 D2 D3 D4 D5
 go_wp2
 go_ret
 exact R.out
set_option maxHeartbeats 2000000 in
theorem second_c(odd:Bool) (a0 b0 a1 b1:Nat) (made:Bool) (p1 p2:Option Addr) (k1 k2 c1 c2 n1 n2 r:Nat) (w:World) (h1:Nm w p1 k1 c1 n1) (h2:Nm w p2 k2 c2 n2) (hn1:n1<bp 2000) (hn2:n2<bp 2000)
  (hx:a1<18446744073709551616) (hy:b1<18446744073709551616) (hr:if odd then a1*n1=b1*n2+r else b1*n2=a1*n1+r) (hrb:r≤n2∨r≤n1) :
  Calls Tryz.prog 153 #[stepV a0 b0 a1 b1 odd made,.slice p1 k1 c1,.slice p2 k2 c2] w (NmPost r w):=by
 obtain⟨W1,hW1⟩:∃ W1,w.alloc (.cells #[.int .u64 (a0:Int),.int .u64 (b0:Int),.int .u64 (a1:Int),.int .u64 (b1:Int),.bool odd,.bool made] 203)=W1:=⟨_,rfl⟩
 have B1:Hid (Below w.heap.size w W1):=by rw[←hW1];exact bel_one _ _
 have D0:W1.cell? ⟨w.heap.size,0,none⟩=some (.int .u64 (a0:Int)):=by rw[←hW1,World.cell?_alloc_at _ _ _ _ rfl];rfl
 have D1:W1.cell? ⟨w.heap.size,1,none⟩=some (.int .u64 (b0:Int)):=by rw[←hW1,World.cell?_alloc_at _ _ _ _ rfl];rfl
 have D2:W1.cell? ⟨w.heap.size,2,none⟩=some (.int .u64 (a1:Int)):=by rw[←hW1,World.cell?_alloc_at _ _ _ _ rfl];rfl
 have D3:W1.cell? ⟨w.heap.size,3,none⟩=some (.int .u64 (b1:Int)):=by rw[←hW1,World.cell?_alloc_at _ _ _ _ rfl];rfl
 have D4:W1.cell? ⟨w.heap.size,4,none⟩=some (.bool odd):=by rw[←hW1,World.cell?_alloc_at _ _ _ _ rfl];rfl
 have D5:W1.cell? ⟨w.heap.size,5,none⟩=some (.bool made):=by rw[←hW1,World.cell?_alloc_at _ _ _ _ rfl];rfl
 have HC:=Zh (combine_c odd a0 b0 a1 b1 made p2 p1 k2 k1 c2 c1 n2 n1 b1 a1 r W1 (h2.below B1.out) (h1.below B1.out) hn2 hn1 hy hx hr hrb)
 clear h1 h2 hn1 hn2 hr
 go_enter Tryz.func153,Tryz.ntmps153
 go_wp2_with fail
 (with_reducible refine HC.out.mono ?_)
 rintro e w4 ⟨pr,kr,cr,rfl,lr,b4⟩
 have R:=Zh (show NmPost r w (.returned (.slice pr kr cr)) w4 from ⟨_,_,_,rfl,lr,B1.out.trans (b4.mono B1.out.size)⟩)
 clear lr b4 hW1 D0 D1 D2 D3 D4 D5
 go_wp2
 go_ret
 exact R.out
end Go.Proofs.YtghgbhmiliiohaaGreatDoor
