/-
  Numbers of any size: division by one limb.
-/
import Derived.Test.YtghgbhmiliiohaaGreatDoorAM11
import Derived.Test.YtghgbhmiliiohaaGreatDoorAMQ
import Derived.Test.YtghgbhmiliiohaaGreatDoorAM12
import Derived.Deep.CutBlock
import Derived.Deep.CutRange
set_option maxRecDepth 100000
namespace Go.Proofs.YtghgbhmiliiohaaGreatDoor
def HalfInv(y yn1 un32 un1 q rhat:Nat):Prop:=q*yn1+rhat=un32∧un32*4294967296+un1<(q+1)*y
theorem half_start{y yn0 yn1 un32 un1:Nat} (hy:y=yn1*4294967296+yn0) (h1:un1<4294967296) (hp:0<yn1) :
  HalfInv y yn1 un32 un1 (un32 / yn1) (un32-un32 / yn1*yn1):=by
 refine⟨?_,half_init hy rfl h1 hp⟩
 have:=Nat.div_mul_le_self un32 yn1
 omega
theorem half_next{y yn0 yn1 un32 un1 q rhat:Nat} (hy:y=yn1*4294967296+yn0) (h1:un1<4294967296) (h32:un32<y) (hI:HalfInv y yn1 un32 un1 (q+1) rhat)
  (ht:4294967296≤q+1∨4294967296*rhat+un1<(q+1)*yn0):HalfInv y yn1 un32 un1 q (rhat+yn1):=by
 refine⟨?_,half_step hy rfl h1 h32 hI.1 ht⟩
 have:=hI.1
 rw[Nat.add_mul,Nat.one_mul]at this
 omega
theorem half_end{y yn0 yn1 un32 un1 q rhat:Nat} (hy:y=yn1*4294967296+yn0) (h0:yn0<4294967296) (h32:un32<y) (hI:HalfInv y yn1 un32 un1 q rhat)
  (ht:q*yn0≤4294967296*rhat+un1∨4294967296≤rhat):q=(un32*4294967296+un1) / y:=by
 have hd:q*yn0≤4294967296*rhat+un1:=by
  rcases ht with h|h
  ·exact h
  ·exact half_break hy h0 h32 hI.1 h
 have a:=half_done hy rfl hI.1 hd
 have hy0:0<y:=by omega
 exact (Nat.div_eq_of_lt_le (by rw[Nat.mul_comm]at a;rw[Nat.mul_comm];exact a) hI.2).symm
theorem half_qlt{y un32 un1:Nat}(h1:un1<4294967296)(h32:un32<y):(un32*4294967296+un1) / y<4294967296:=by
 refine Nat.div_lt_of_lt_mul ?_
 have:(un32+1)*4294967296≤y*4294967296:=Nat.mul_le_mul_right _ h32
 rw[Nat.add_mul,Nat.one_mul]at this
 omega
theorem halves0{y u k un0:Nat} (hy:0<y) :
  u / y*k+(u % y*k+un0) / y=(u*k+un0) / y∧(u % y*k+un0) % y=(u*k+un0) % y:=by
 have hd:=Nat.div_add_mod u y
 have e:u*k+un0=(u % y*k+un0)+y*(u / y*k):=by
  have:u*k=(y*(u / y)+u % y)*k:=by rw[hd]
  rw[this,Nat.add_mul,Nat.mul_assoc]
  omega
 rw[e,Nat.add_mul_div_left _ _ hy,Nat.add_mul_mod_self_left]
 omega
theorem norm_hi{h l y s:Nat} (hs:s<64) (hh:h<y) (hl:l<18446744073709551616) (hY:y*2 ^ s<18446744073709551616) :
  h*2 ^ s<18446744073709551616∧(h*2 ^ s ||| l / 2 ^ (64-s))=h*2 ^ s+l / 2 ^ (64-s)∧h*2 ^ s+l / 2 ^ (64-s)<y*2 ^ s ∧
  (h*2 ^ s+l / 2 ^ (64-s))*18446744073709551616+l*2 ^ s % 18446744073709551616=(h*18446744073709551616+l)*2 ^ s:=by
 have hp:0<2 ^ s:=Nat.pow_pos (by decide)
 have e1:l / 2 ^ (64-s)=l*2 ^ s / 18446744073709551616:=(shr_is hs).symm
 have e2:l*2 ^ s / 18446744073709551616<2 ^ s:=shl_high hl
 have hm:=Nat.div_add_mod (l*2 ^ s) 18446744073709551616
 have a:(h+1)*2 ^ s≤y*2 ^ s:=Nat.mul_le_mul_right _ hh
 rw[Nat.add_mul,Nat.one_mul]at a
 rw[e1]
 refine⟨by omega,?_,by omega,?_⟩
 ·rw[Nat.or_comm,Nat.mul_comm h,or_add e2];omega
 ·rw[Nat.add_mul,Nat.add_mul]
  have:h*18446744073709551616*2 ^ s=h*2 ^ s*18446744073709551616:=by rw[Nat.mul_assoc,Nat.mul_comm 18446744073709551616,Nat.mul_assoc]
  omega
theorem norm_out{N y s:Nat}:N*2 ^ s / (y*2 ^ s)=N / y∧N*2 ^ s % (y*2 ^ s) / 2 ^ s=N % y:=by
 have hp:0<2 ^ s:=Nat.pow_pos (by decide)
 refine⟨Nat.mul_div_mul_right _ _ hp,?_⟩
 rw[Nat.mul_mod_mul_right,Nat.mul_div_cancel _ hp]
theorem lead{y b:Nat}(h1:2 ^ b≤y)(h2:y<2 ^ (b+1))(hb:b<64):9223372036854775808≤y*2 ^ (63-b)∧y*2 ^ (63-b)<18446744073709551616:=by
 have hp:0<2 ^ (63-b):=Nat.pow_pos (by decide)
 have e1:2 ^ b*2 ^ (63-b)=9223372036854775808:=by rw[←Nat.pow_add,show b+(63-b)=63 by omega]
 have e2:2 ^ (b+1)*2 ^ (63-b)=18446744073709551616:=by rw[←Nat.pow_add,show b+1+(63-b)=64 by omega]
 exact⟨by rw[←e1];exact Nat.mul_le_mul_right _ h1,by rw[←e2];exact Nat.mul_lt_mul_of_pos_right h2 hp⟩
open Go.RowKit
theorem wrap_lt{x:Nat}(h:x<18446744073709551616):IntKind.u64.wrap (x:Int)=(x:Int):=by rw[IntKind.wrap_u64];omega
theorem wrap_mod(x:Nat):IntKind.u64.wrap (x:Int)=((x % 18446744073709551616:Nat):Int):=by rw[IntKind.wrap_u64];omega
theorem wrap_shl{x s y:Nat}(h:x*2 ^ s % 18446744073709551616=y):IntKind.u64.wrap ((x:Int)*2 ^ s)=(y:Int):=by
 have e:(x:Int)*2 ^ s=((x*2 ^ s:Nat):Int):=by rw[Int.natCast_mul,Int.natCast_pow];rfl
 rw[e,wrap_mod,h]
theorem shr_cast{x s y:Nat}(h:x / 2 ^ s=y):(x:Int) / 2 ^ s=(y:Int):=by
 have e:(2:Int) ^ s=((2 ^ s:Nat):Int):=by rw[Int.natCast_pow];rfl
 rw[e,←Int.natCast_ediv,h]
theorem and_mask{x y:Nat}(hx:x<18446744073709551616)(h:x % 4294967296=y):bits .and .u64 (x:Int) 4294967295=(y:Int):=by
 have e:bits .and .u64 (x:Int) ((4294967295:Nat):Int)=(y:Int):=by
  rw[bits_and_u64_nat _ _ hx (by decide),show (4294967295:Nat)=2 ^ 32-1 from rfl,Nat.and_two_pow_sub_one_eq_mod,←h]
 exact e
theorem or_cast{x y z:Nat}(hx:x<18446744073709551616)(hy:y<18446744073709551616)(h:x ||| y=z):bits .or .u64 (x:Int) (y:Int)=(z:Int):=by
 rw[bits_or_u64_nat _ _ hx hy,h]
theorem div_cast{x y z:Nat}(h:x / y=z):(x:Int) / (y:Int)=(z:Int):=by rw[←Int.natCast_ediv,h]
theorem mul_cast{x y z:Nat}(h:x*y=z):(x:Int)*(y:Int)=(z:Int):=by rw[←Int.natCast_mul,h]
theorem half_left{Y u v Q m:Nat} (hQ:u*4294967296+v=Q*Y+m) (hm:m<18446744073709551616) :
  IntKind.u64.wrap (IntKind.u64.wrap (IntKind.u64.wrap ((u:Int)*4294967296)+(v:Int))-IntKind.u64.wrap ((Q:Int)*(Y:Int)))=(m:Int):=by
 have e:(Q:Int)*(Y:Int)=((Q*Y:Nat):Int):=by rw[Int.natCast_mul]
 rw[e]
 generalize Q*Y=z at *
 simp only[IntKind.wrap_u64]
 omega
theorem guess_gt{r u p y0:Nat}(h:4294967296*r+u<(p+1)*y0)(hr:r<4294967296)(hu:u<4294967296)(hp:p+1<4294967296)(hy:y0<4294967296):∃ m k:Nat,((p:Int)+1)*(y0:Int)=(m:Int)∧(4294967296:Int)*(r:Int)=(k:Int)∧IntKind.u64.wrap (m:Int)=(m:Int)∧IntKind.u64.wrap (k:Int)=(k:Int)∧IntKind.u64.wrap ((k:Int)+(u:Int))=(k:Int)+(u:Int)∧(k:Int)+(u:Int)<(m:Int):=by
 have:(p+1)*y0≤4294967295*4294967295:=Nat.mul_le_mul (by omega) (by omega)
 have e1:((p:Int)+1)*(y0:Int)=(((p+1)*y0:Nat):Int):=by rw[Int.natCast_mul];rfl
 have e2:(4294967296:Int)*(r:Int)=((4294967296*r:Nat):Int):=by rw[Int.natCast_mul];rfl
 refine⟨(p+1)*y0,4294967296*r,e1,e2,wrap_lt (by omega),wrap_lt (by omega),?_,by omega⟩
 have t:=@wrap_lt (4294967296*r+u) (by omega)
 rw[Int.natCast_add]at t
 exact t
theorem guess_le{r u q y0:Nat}(h:q*y0≤4294967296*r+u)(hr:r<4294967296)(hu:u<4294967296)(hq:q<4294967296)(hy:y0<4294967296):∃ m k:Nat,(q:Int)*(y0:Int)=(m:Int)∧(4294967296:Int)*(r:Int)=(k:Int)∧IntKind.u64.wrap (m:Int)=(m:Int)∧IntKind.u64.wrap (k:Int)=(k:Int)∧IntKind.u64.wrap ((k:Int)+(u:Int))=(k:Int)+(u:Int)∧¬ (k:Int)+(u:Int)<(m:Int):=by
 have:q*y0≤4294967295*4294967295:=Nat.mul_le_mul (by omega) (by omega)
 have e2:(4294967296:Int)*(r:Int)=((4294967296*r:Nat):Int):=by rw[Int.natCast_mul];rfl
 refine⟨q*y0,4294967296*r,by rw[Int.natCast_mul],e2,wrap_lt (by omega),wrap_lt (by omega),?_,by omega⟩
 have t:=@wrap_lt (4294967296*r+u) (by omega)
 rw[Int.natCast_add]at t
 exact t
set_option maxHeartbeats 2000000 in
theorem div64_hi(h l y s Y yn1 yn0 hs ls u32 u10 u1 u0 Q1 U2 Q2 R0 R:Nat) (w:World) (h0:0<h) (hh:h<y) (hs64:s<64)
  (e1:IntKind.u64.wrap ((y:Int)*2 ^ s)=(Y:Int)) (e2:(Y:Int) / 4294967296=(yn1:Int)) (e3:bits .and .u64 (Y:Int) 4294967295=(yn0:Int)) (e4:IntKind.u64.wrap ((h:Int)*2 ^ s)=(hs:Int))
  (e5:IntKind.u64.wrap ((l:Int)*2 ^ s)=(u10:Int)) (e6:(u10:Int) / 4294967296=(u1:Int)) (e7:bits .and .u64 (u10:Int) 4294967295=(u0:Int)) (e8:(l:Int) / 2 ^ (64-s)=(ls:Int)) (e9:bits .or .u64 (hs:Int) (ls:Int)=(u32:Int))
  (hY:Y=yn1*4294967296+yn0) (hYb:Y<18446744073709551616) (hyn1:0<yn1) (hyn0:yn0<4294967296) (huu1:u1<4294967296) (huu0:u0<4294967296) (h32u32:u32<Y)
  (hQ1:Q1=(u32*4294967296+u1) / Y) (hU2:U2=(u32*4294967296+u1) % Y) (hQ2:Q2=(U2*4294967296+u0) / Y) (hR0:R0=(U2*4294967296+u0) % Y) (hR:R0 / 2 ^ s=R)
  (HZ:∀ w,Calls Tryz.prog 170 #[.int .u64 y] w fun e w'=>e=.returned (.int .i64 (s:Int))∧w=w') :
  Calls Tryz.prog 144 #[.int .u64 h,.int .u64 l,.int .u64 y] w fun e w'=>e=.returned (.tuple #[.int .u64 ((Q1*4294967296+Q2:Nat):Int),.int .u64 (R:Int)])∧w=w':=by
 have hz:((y:Int) == 0)=false:=by rw[beq_eq_false_iff_ne];omega
 have hz2:((h:Int) == 0)=false:=by rw[beq_eq_false_iff_ne];omega
 have hz3:decide ((y:Int)≤(h:Int))=false:=by rw[decide_eq_false_iff_not];omega
 have HY:=Zh hY
 have HQQ1:=Zh hQ1
 have HQQ2:=Zh hQ2
 have HU2:=Zh hU2
 have HR:=Zh hR
 have HR0:=Zh hR0
 have HZ:=Zh HZ
 have h32U2:U2<Y:=by rw[hU2];exact Nat.mod_lt _ (by omega)
 clear hQ1 hQ2 hU2 hR hR0
 have hy1:yn1<4294967296:=by omega
 clear hY
 obtain⟨q1,hq1⟩:∃ q,q=u32 / yn1:=⟨_,rfl⟩
 obtain⟨p1,hp1⟩:∃ p,p=q1*yn1:=⟨_,rfl⟩
 have hp1le:p1≤u32:=by rw[hp1,hq1];exact Nat.div_mul_le_self _ _
 obtain⟨r1,hr1⟩:∃ r,r=u32-p1:=⟨_,rfl⟩
 have e10:(u32:Int) / (yn1:Int)=(q1:Int):=div_cast hq1.symm
 have e11:(q1:Int)*(yn1:Int)=(p1:Int):=mul_cast hp1.symm
 have e12:(u32:Int)-(p1:Int)=(r1:Int):=by omega
 have e13:(p1:Int)≤(u32:Int):=by omega
 have I1:Hid (HalfInv Y yn1 u32 u1 q1 r1):=by unfold Hid;rw[hr1,hp1,hq1];exact half_start HY.out huu1 hyn1
 have q1lt:q1<18446744073709551616:=by rw[hq1];have:=Nat.div_le_self u32 yn1;omega
 have r1lt:r1<4294967296:=by
  have:=Nat.mod_lt u32 hyn1
  have:=Nat.div_add_mod u32 yn1
  rw[←hq1,Nat.mul_comm,←hp1]at this
  omega
 clear hq1 hp1 hr1 hp1le
 go_enter Tryz.func144,Tryz.ntmps144
 go_upto_block 0 with (go_at_call 170;refine (HZ.out _).mono ?_;rintro e w' ⟨rfl,rfl⟩)
 go_cut [15] from 67 to 85 (fun vq wx=>vq=.int .u64 Q1∧wx=w)
 case first=>
  go_wp2_with fail
  go_loop [15,16] (fun vq vr=>∃ q r:Nat,vq=.int .u64 q∧vr=.int .u64 r∧q<18446744073709551616∧r<4294967296∧Hid (HalfInv Y yn1 u32 u1 q r)) (fun vq _=>(intOf vq).toNat)
  case atStart=>exact⟨_,_,rfl,rfl,q1lt,r1lt,I1.out⟩
  case round=>
   obtain⟨q,r,rfl,rfl,hq,hr,hI⟩:=hrel
   by_cases ht:4294967296≤q∨4294967296*r+u1<q*yn0
   ·have hq0:0<q:=by
     rcases Nat.eq_zero_or_pos q with e|e
     ·subst e
      rcases ht with ht|ht
      ·omega
      ·rw[Nat.zero_mul]at ht;omega
     ·exact e
    obtain⟨p,rfl⟩:∃ p,q=p+1:=⟨q-1,by omega⟩
    have hN:Hid (HalfInv Y yn1 u32 u1 p (r+yn1)):=half_next HY.out huu1 h32u32 hI.out ht
    have d0:((p+1:Nat):Int)=(p:Int)+1:=by omega
    by_cases hb:4294967296≤r+yn1
    ·have hE:Hid (p=Q1):=by unfold Hid;rw[HQQ1.out];exact half_end HY.out hyn0 h32u32 hN.out (.inr hb)
     by_cases hc:4294967296≤p+1
     ·have hc':(4294967296:Int)≤(p:Int)+1:=by omega
      have hb':(4294967296:Int)≤(r:Int)+(yn1:Int):=by omega
      clear ht hb hI hN
      go_wp2
      go_meet
      case rel=>exact⟨by rw[←hE.out],rfl⟩
     ·have hc':¬ (4294967296:Int)≤(p:Int)+1:=by omega
      have hb':(4294967296:Int)≤(r:Int)+(yn1:Int):=by omega
      obtain⟨m,k,hm,hk,hm1,hk1,hk2,hm2⟩:=guess_gt (show 4294967296*r+u1<(p+1)*yn0 by omega) hr huu1 (show p+1<4294967296 by omega) hyn0
      clear ht hb hI hN hc
      go_wp2
      go_meet
      case rel=>exact⟨by rw[←hE.out],rfl⟩
    ·by_cases hc:4294967296≤p+1
     ·have hc':(4294967296:Int)≤(p:Int)+1:=by omega
      have hb':¬ (4294967296:Int)≤(r:Int)+(yn1:Int):=by omega
      clear ht hI
      go_wp2
      go_round
      case rel=>exact⟨p,r+yn1,by go_num,by go_num,by omega,by omega,hN.out⟩
      case measure=>simp[intOf]
     ·have hc':¬ (4294967296:Int)≤(p:Int)+1:=by omega
      have hb':¬ (4294967296:Int)≤(r:Int)+(yn1:Int):=by omega
      obtain⟨m,k,hm,hk,hm1,hk1,hk2,hm2⟩:=guess_gt (show 4294967296*r+u1<(p+1)*yn0 by omega) hr huu1 (show p+1<4294967296 by omega) hyn0
      clear ht hI hc
      go_wp2
      go_round
      case rel=>exact⟨p,r+yn1,by go_num,by go_num,by omega,by omega,hN.out⟩
      case measure=>simp[intOf]
   ·have hE:Hid (q=Q1):=by unfold Hid;rw[HQQ1.out];exact half_end HY.out hyn0 h32u32 hI.out (.inl (by omega))
    obtain⟨m,k,hm,hk,hm1,hk1,hk2,hm2⟩:=guess_le (show q*yn0≤4294967296*r+u1 by omega) hr huu1 (show q<4294967296 by omega) hyn0
    have hc':¬ (4294967296:Int)≤(q:Int):=by omega
    clear ht hI
    go_wp2
    go_meet
    case rel=>exact⟨by rw[←hE.out],rfl⟩
 case rest=>
  obtain⟨rfl,rfl⟩:=hcut
  have f0:IntKind.u64.wrap (IntKind.u64.wrap (IntKind.u64.wrap ((u32:Int)*4294967296)+(u1:Int))-IntKind.u64.wrap ((Q1:Int)*(Y:Int)))=(U2:Int):=half_left (by rw[HQQ1.out,HU2.out];exact (Nat.div_add_mod' _ _).symm) (by omega)
  clear e1 e2 e3 e4 e5 e6 e7 e8 e9 e10 e11 e12 e13
  obtain⟨q2,hq2⟩:∃ q,q=U2 / yn1:=⟨_,rfl⟩
  obtain⟨p2,hp2⟩:∃ p,p=q2*yn1:=⟨_,rfl⟩
  have hp2le:p2≤U2:=by rw[hp2,hq2];exact Nat.div_mul_le_self _ _
  obtain⟨r2,hr2⟩:∃ r,r=U2-p2:=⟨_,rfl⟩
  have e10:(U2:Int) / (yn1:Int)=(q2:Int):=div_cast hq2.symm
  have e11:(q2:Int)*(yn1:Int)=(p2:Int):=mul_cast hp2.symm
  have e12:(U2:Int)-(p2:Int)=(r2:Int):=by omega
  have e13:(p2:Int)≤(U2:Int):=by omega
  have I2:Hid (HalfInv Y yn1 U2 u0 q2 r2):=by unfold Hid;rw[hr2,hp2,hq2];exact half_start HY.out huu0 hyn1
  have q2lt:q2<18446744073709551616:=by rw[hq2];have:=Nat.div_le_self U2 yn1;omega
  have r2lt:r2<4294967296:=by
   have:=Nat.mod_lt U2 hyn1
   have:=Nat.div_add_mod U2 yn1
   rw[←hq2,Nat.mul_comm,←hp2]at this
   omega
  clear hq2 hp2 hr2 hp2le
  go_upto_block 2 with fail
  clear e10 e11 e12 e13 f0
  go_cut [18] from 102 to 120 (fun vq wx=>vq=.int .u64 Q2∧wx=wc)
  case first=>
   go_wp2_with fail
   go_loop [18,16] (fun vq vr=>∃ q r:Nat,vq=.int .u64 q∧vr=.int .u64 r∧q<18446744073709551616∧r<4294967296∧Hid (HalfInv Y yn1 U2 u0 q r)) (fun vq _=>(intOf vq).toNat)
   case atStart=>exact⟨_,_,rfl,rfl,q2lt,r2lt,I2.out⟩
   case round=>
    obtain⟨q,r,rfl,rfl,hq,hr,hI⟩:=hrel
    by_cases ht:4294967296≤q∨4294967296*r+u0<q*yn0
    ·have hq0:0<q:=by
      rcases Nat.eq_zero_or_pos q with e|e
      ·subst e
       rcases ht with ht|ht
       ·omega
       ·rw[Nat.zero_mul]at ht;omega
      ·exact e
     obtain⟨p,rfl⟩:∃ p,q=p+1:=⟨q-1,by omega⟩
     have hN:Hid (HalfInv Y yn1 U2 u0 p (r+yn1)):=half_next HY.out huu0 h32U2 hI.out ht
     have d0:((p+1:Nat):Int)=(p:Int)+1:=by omega
     by_cases hb:4294967296≤r+yn1
     ·have hE:Hid (p=Q2):=by unfold Hid;rw[HQQ2.out];exact half_end HY.out hyn0 h32U2 hN.out (.inr hb)
      by_cases hc:4294967296≤p+1
      ·have hc':(4294967296:Int)≤(p:Int)+1:=by omega
       have hb':(4294967296:Int)≤(r:Int)+(yn1:Int):=by omega
       clear ht hb hI hN
       go_wp2
       go_meet
       case rel=>exact⟨by rw[←hE.out],rfl⟩
      ·have hc':¬ (4294967296:Int)≤(p:Int)+1:=by omega
       have hb':(4294967296:Int)≤(r:Int)+(yn1:Int):=by omega
       obtain⟨m,k,hm,hk,hm1,hk1,hk2,hm2⟩:=guess_gt (show 4294967296*r+u0<(p+1)*yn0 by omega) hr huu0 (show p+1<4294967296 by omega) hyn0
       clear ht hb hI hN hc
       go_wp2
       go_meet
       case rel=>exact⟨by rw[←hE.out],rfl⟩
     ·by_cases hc:4294967296≤p+1
      ·have hc':(4294967296:Int)≤(p:Int)+1:=by omega
       have hb':¬ (4294967296:Int)≤(r:Int)+(yn1:Int):=by omega
       clear ht hI
       go_wp2
       go_round
       case rel=>exact⟨p,r+yn1,by go_num,by go_num,by omega,by omega,hN.out⟩
       case measure=>simp[intOf]
      ·have hc':¬ (4294967296:Int)≤(p:Int)+1:=by omega
       have hb':¬ (4294967296:Int)≤(r:Int)+(yn1:Int):=by omega
       obtain⟨m,k,hm,hk,hm1,hk1,hk2,hm2⟩:=guess_gt (show 4294967296*r+u0<(p+1)*yn0 by omega) hr huu0 (show p+1<4294967296 by omega) hyn0
       clear ht hI hc
       go_wp2
       go_round
       case rel=>exact⟨p,r+yn1,by go_num,by go_num,by omega,by omega,hN.out⟩
       case measure=>simp[intOf]
    ·have hE:Hid (q=Q2):=by unfold Hid;rw[HQQ2.out];exact half_end HY.out hyn0 h32U2 hI.out (.inl (by omega))
     obtain⟨m,k,hm,hk,hm1,hk1,hk2,hm2⟩:=guess_le (show q*yn0≤4294967296*r+u0 by omega) hr huu0 (show q<4294967296 by omega) hyn0
     have hc':¬ (4294967296:Int)≤(q:Int):=by omega
     clear ht hI
     go_wp2
     go_meet
     case rel=>exact⟨by rw[←hE.out],rfl⟩
  case rest=>
   obtain⟨rfl,rfl⟩:=hcut
   have f1:IntKind.u64.wrap (IntKind.u64.wrap (IntKind.u64.wrap ((U2:Int)*4294967296)+(u0:Int))-IntKind.u64.wrap ((Q2:Int)*(Y:Int)))=(R0:Int):=half_left (by rw[HQQ2.out,HR0.out];exact (Nat.div_add_mod' _ _).symm) (by have:=Nat.mod_lt (U2*4294967296+u0) (show 0<Y by omega);rw[HR0.out];omega)
   have f2:(R0:Int) / 2 ^ s=(R:Int):=shr_cast HR.out
   have q1b:Q1<4294967296:=by rw[HQQ1.out];exact half_qlt huu1 h32u32
   have q2b:Q2<4294967296:=by rw[HQQ2.out];exact half_qlt huu0 h32U2
   go_wp2_with fail
   go_ret2
   exact⟨by rw[Int.natCast_add,Int.natCast_mul];rfl,rfl⟩
structure Stp (odd:Bool) (a0 b0 a1 b1 HA HB hA hB:Nat):Prop where
 cmb:Cmb odd a0 b0 a1 b1 HA HB hA hB
 bak:Bak a0 b0 a1 b1 HA HB hA hB
 det:Det odd a0 b0 a1 b1
 le:hB≤hA
 i1:a1≤b1
 i2:a0+a1≤b0+b1
 i3:1≤b1
 i4:1≤a0+a1
structure Coll (a0 b0 a1 b1 hA hB:Nat):Prop where
 c0:a0≤b0
 c1:1≤b0
 c2:1≤a1
 c3:b1≤hB
 c4:b0+b1+hB≤hA
theorem Stp.start{HA HB:Nat}(h:HB≤HA):Stp false 1 0 0 1 HA HB HA HB:=
 ⟨by simp[Cmb],by simp[Bak],by simp[Det],h,by omega,by omega,by omega,by omega⟩
theorem Stp.next{odd:Bool} {a0 b0 a1 b1 HA HB hA hB:Nat} (h:Stp odd a0 b0 a1 b1 HA HB hA hB) (hp:0<hB) :
  Stp (!odd) a1 b1 (a0+hA / hB*a1) (b0+hA / hB*b1) HA HB hB (hA % hB)∧a1≤b1∧1≤b1∧1≤a0+hA / hB*a1:=by
 have hq:1≤hA / hB:=(Nat.le_div_iff_mul_le hp).2 (by have:=h.le;omega)
 have hr:=Nat.mod_lt hA hp
 have x1:=h.i1
 have x2:=h.i2
 have x3:=h.i3
 have x4:=h.i4
 obtain⟨q,hq'⟩:∃ q,hA / hB=q+1:=⟨hA / hB-1,by omega⟩
 have e1:=cmb_step h.cmb
 have e2:=bak_step h.bak
 have e3:=det_step (hA / hB) h.det
 rw[hq']at e1 e2 e3 ⊢
 have m1:q*a1≤q*b1:=Nat.mul_le_mul_left _ x1
 have m2:(q+1)*a1=q*a1+a1:=by rw[Nat.add_mul,Nat.one_mul]
 have m3:(q+1)*b1=q*b1+b1:=by rw[Nat.add_mul,Nat.one_mul]
 exact⟨⟨e1,e2,e3,by omega,by omega,by omega,by omega,by omega⟩,x1,x3,by omega⟩
theorem Stp.bound{odd:Bool}{a0 b0 a1 b1 HA HB hA hB:Nat}(h:Stp odd a0 b0 a1 b1 HA HB hA hB)(hA0:0<hA):b1≤HA∧a1≤HB∧(0<hB→b0+b1≤HA∧a0≤HB):=by
 obtain⟨e1,e2⟩:=h.bak
 have m1:b1*1≤b1*hA:=Nat.mul_le_mul_left _ hA0
 have m2:a1*1≤a1*hA:=Nat.mul_le_mul_left _ hA0
 refine⟨by omega,by omega,fun hp=>?_⟩
 have m3:b0*1≤b0*hB:=Nat.mul_le_mul_left _ hp
 have m4:a0*1≤a0*hB:=Nat.mul_le_mul_left _ hp
 exact⟨by omega,by omega⟩
theorem Stp.all{odd:Bool} {a0 b0 a1 b1 HA HB hA hB P la lb:Nat} (h:Stp odd a0 b0 a1 b1 HA HB hA hB) (hc:Coll a0 b0 a1 b1 hA hB) (hla:la<P) (hlb:lb<P) :
  ∃ a' b',Cmb odd a0 b0 a1 b1 (HA*P+la) (HB*P+lb) a' b'∧b' < a'∧a'≤HB*P+lb∧Nat.gcd a' b'=Nat.gcd (HA*P+la) (HB*P+lb):=by
 obtain⟨a',b',hcm,hle⟩:=cmb_all h.cmb hla hlb hc.c0 h.i1 hc.c3 hc.c4
 have hg:=gcd_of h.det hcm
 have hbk:=bak_of h.det hcm
 have m1:1*a'≤a1*a':=Nat.mul_le_mul_right _ hc.c2
 refine⟨a',b',hcm,?_,by rw[hbk.2];omega,hg⟩
 have c1:=hc.c1
 have c4:=hc.c4
 have n2:b0*lb+b0≤b0*P:=by rw[←Nat.mul_succ];exact Nat.mul_le_mul_left _ hlb
 have n2':b1*lb≤b1*P:=Nat.mul_le_mul_left _ (by omega)
 have n3:a0*la≤b0*la:=Nat.mul_le_mul_right _ hc.c0
 have n4:b0*la+b0≤b0*P:=by rw[←Nat.mul_succ];exact Nat.mul_le_mul_left _ hla
 have n5:a1*la≤b1*la:=Nat.mul_le_mul_right _ h.i1
 have n6:b1*la≤b1*P:=Nat.mul_le_mul_left _ (by omega)
 have m8:(b0+b1+hB)*P≤hA*P:=Nat.mul_le_mul_right _ c4
 rw[Nat.add_mul,Nat.add_mul]at m8
 have hcb:=h.cmb
 cases odd
 ·simp only[Cmb,Bool.false_eq_true,if_false]at hcb hcm
  obtain⟨e1,e2⟩:=hcb
  obtain⟨g1,g2⟩:=hcm
  have f1:a0*(HA*P+la)=b0*(HB*P)+hA*P+a0*la:=by grind
  have f2:b1*(HB*P+lb)=a1*(HA*P)+hB*P+b1*lb:=by grind
  rw[f1,Nat.mul_add]at g1
  rw[f2,Nat.mul_add]at g2
  omega
 ·simp only[Cmb,if_true]at hcb hcm
  obtain⟨e1,e2⟩:=hcb
  obtain⟨g1,g2⟩:=hcm
  have f1:b0*(HB*P+lb)=a0*(HA*P)+hA*P+b0*lb:=by grind
  have f2:a1*(HA*P+la)=b1*(HB*P)+hB*P+a1*la:=by grind
  rw[f1,Nat.mul_add]at g1
  rw[f2,Nat.mul_add]at g2
  omega
theorem win_bits{n h l r p s:Nat} (hn:n=(h*18446744073709551616+l)*p+r) (hr:r<p) (hs:s<64) (hl:l<18446744073709551616) (hh:h*2 ^ s<18446744073709551616) :
  (h*2 ^ s ||| l / 2 ^ (64-s))=n / (p*2 ^ (64-s))∧n / (p*2 ^ (64-s))<18446744073709551616:=by
 have hp2:0<2 ^ (64-s):=Nat.pow_pos (by decide)
 have hp:0<p:=by omega
 have e1:l / 2 ^ (64-s)=l*2 ^ s / 18446744073709551616:=(shr_is hs).symm
 have e2:l*2 ^ s / 18446744073709551616<2 ^ s:=shl_high hl
 have a1:(h*2 ^ s ||| l / 2 ^ (64-s))=h*2 ^ s+l / 2 ^ (64-s):=by
  rw[e1,Nat.or_comm,Nat.mul_comm h,or_add e2];omega
 have a2:n / p=h*18446744073709551616+l:=by
  rw[hn,Nat.mul_comm _ p,Nat.mul_add_div hp,Nat.div_eq_of_lt hr,Nat.add_zero]
 have a3:n / (p*2 ^ (64-s))=h*2 ^ s+l / 2 ^ (64-s):=by
  rw[←Nat.div_div_eq_div_mul,a2,←pow_split hs,show h*(2 ^ (64-s)*2 ^ s)+l=2 ^ (64-s)*(h*2 ^ s)+l by grind,Nat.mul_add_div hp2]
 refine⟨by rw[a1,a3],?_⟩
 rw[a3,e1]
 have hd:h*2 ^ s+2 ^ s≤18446744073709551616:=by
  rw[←pow_split hs]at hh ⊢
  have:h<2 ^ (64-s):=Nat.lt_of_mul_lt_mul_right hh
  have:=Nat.mul_le_mul_right (2 ^ s) (show h+1≤2 ^ (64-s) from this)
  rw[Nat.add_mul,Nat.one_mul]at this
  exact this
 omega
theorem bitLen_ex:∀ y:Nat,0<y→y<18446744073709551616→∃ b,Lib.bitLen y=b+1∧2 ^ b≤y∧y<2 ^ (b+1):=by
 intro y
 induction y using Nat.strongRecOn with
 | _ y ih=>
  intro h0 hy
  have e:=Lib.bitLen_half y (by omega) hy
  by_cases h1:y=1
  ·subst h1;exact⟨0,by decide,by decide,by decide⟩
  ·obtain⟨b,e1,e2,e3⟩:=ih (y / 2) (by omega) (by omega) (by omega)
   exact⟨b+1,by omega,by rw[Nat.pow_succ];omega,by rw[Nat.pow_succ];omega⟩
theorem lead_ex(y:Nat)(h0:0<y)(hy:y<18446744073709551616):∃ s:Nat,s<64∧9223372036854775808≤y*2 ^ s∧y*2 ^ s<18446744073709551616 ∧
  ∀ w,Calls Tryz.prog 170 #[.int .u64 y] w fun e w'=>e=.returned (.int .i64 (s:Int))∧w=w':=by
 obtain⟨b,hb1,h1,h2⟩:=bitLen_ex y h0 hy
 have hb64:b<64:=by
  rcases Nat.lt_or_ge b 64 with l|l
  ·exact l
  ·have:2 ^ 64≤2 ^ b:=Nat.pow_le_pow_right (by decide) l
   omega
 have hl:=lead h1 h2 hb64
 refine⟨63-b,by omega,hl.1,hl.2,fun w=>(Tryz.bits_LeadingZeros64 (y:Int) w (by omega) (by omega)).mono ?_⟩
 rintro e w' ⟨rfl,rfl⟩
 refine⟨?_,rfl⟩
 have e:((y:Int)).toNat=y:=by omega
 rw[e,hb1]
 exact ret_int (by omega)
def Div64Post(n y:Nat)(w:World)(e:Ending)(w':World):Prop:=∃ q r:Nat,e=.returned (.tuple #[.int .u64 (q:Int),.int .u64 (r:Int)])∧q=n / y∧r=n % y∧∃ m,w'=w.drewN m
theorem div64_lo(l y:Nat)(w:World)(hl:l<18446744073709551616)(h0:0<y)(hy:y<18446744073709551616):Calls Tryz.prog 144 #[.int .u64 0,.int .u64 l,.int .u64 y] w (Div64Post l y w):=by
 have hz:((y:Int) == 0)=false:=by rw[beq_eq_false_iff_ne];omega
 have hz3:decide ((y:Int)≤0)=false:=by rw[decide_eq_false_iff_not];omega
 obtain⟨q,hq⟩:∃ q,l / y=q:=⟨_,rfl⟩
 have e1:(l:Int) / (y:Int)=(q:Int):=div_cast hq
 have hqb:q<18446744073709551616:=by rw[←hq];have:=Nat.div_le_self l y;omega
 have HQ:=Zh hq
 clear hq
 go_enter Tryz.func144,Tryz.ntmps144
 go_wp2_with fail
 go_quiet (fail)
 go_wp2
 go_ret2
 exact⟨q,l % y,rfl,HQ.out.symm,rfl,_,rfl⟩
theorem div64_c(h l y:Nat) (w:World) (hl:l<18446744073709551616) (hh:h<y) (hy:y<18446744073709551616) :
  Calls Tryz.prog 144 #[.int .u64 h,.int .u64 l,.int .u64 y] w (Div64Post (h*18446744073709551616+l) y w):=by
 rcases Nat.eq_zero_or_pos h with e|h0
 ·subst e
  rw[Nat.zero_mul,Nat.zero_add]
  exact div64_lo l y w hl hh hy
 ·obtain⟨s,hs,hY1,hY2,HZ⟩:=lead_ex y (by omega) hy
  obtain⟨a1,a2,a3,a4⟩:=norm_hi hs hh hl hY2
  have hp:0<2 ^ s:=Nat.pow_pos (by decide)
  have hu:=Nat.mod_lt (l*2 ^ s) (show 0<18446744073709551616 by decide)
  have hls:l / 2 ^ (64-s)<18446744073709551616:=by have:=Nat.div_le_self l (2 ^ (64-s));omega
  have e4:h*2 ^ s % 18446744073709551616=h*2 ^ s:=Nat.mod_eq_of_lt a1
  have e1:y*2 ^ s % 18446744073709551616=y*2 ^ s:=Nat.mod_eq_of_lt hY2
  have no:=@norm_out (h*18446744073709551616+l) y s
  rw[←a4]at no
  generalize hY:y*2 ^ s=Y at *
  generalize hhs:h*2 ^ s=hsv at *
  generalize hlsv:l / 2 ^ (64-s)=ls at *
  generalize hu10:l*2 ^ s % 18446744073709551616=u10 at *
  have eu:(hsv+ls)*18446744073709551616+u10=((hsv+ls)*4294967296+u10 / 4294967296)*4294967296+u10 % 4294967296:=by omega
  rw[eu]at no
  have hv:=@halves0 Y ((hsv+ls)*4294967296+u10 / 4294967296) 4294967296 (u10 % 4294967296) (by omega)
  rw[←hv.1,←hv.2]at no
  refine (div64_hi h l y s Y (Y / 4294967296) (Y % 4294967296) hsv ls (hsv+ls) u10 (u10 / 4294967296) (u10 % 4294967296) _ _ _ _ _ w h0 hh hs (wrap_shl (by rw[hY];exact e1)) (div_cast rfl) (and_mask hY2 rfl) (wrap_shl (by rw[hhs];exact e4)) (wrap_shl hu10) (div_cast rfl) (and_mask hu rfl) (shr_cast hlsv) (or_cast a1 hls a2) (by omega) hY2 (by omega) (by omega) (by omega) (by omega) a3 rfl rfl rfl rfl rfl HZ).mono ?_
  rintro e w' ⟨rfl,rfl⟩
  exact⟨_,_,rfl,no.1,no.2,0,rfl⟩
theorem short_step{Q R D X P f r' q':Nat} (h:Q*D+R=X) (h2:R*18446744073709551616+f=q'*D+r') (hP:P=P) :
  (q'+18446744073709551616*Q)*D+r'=f+18446744073709551616*X:=by
 have:18446744073709551616*X=18446744073709551616*(Q*D)+18446744073709551616*R:=by rw[←h,Nat.mul_add]
 rw[Nat.add_mul,Nat.mul_assoc]
 omega
def ShortPost(n d:Nat)(w:World)(e:Ending)(w':World):Prop:=∃ a k c,∃ r:Nat,e=.returned (.tuple #[.slice a k c,.int .u64 (r:Int)])∧r=n % d∧Nm w' a k c (n / d)∧Below w.heap.size w w'
def ShortPost2(n d:Nat)(w:World)(e:Ending)(w':World):Prop:=∃ k c,∃ r:Nat,e=.returned (.tuple #[.slice (some ⟨w.heap.size,0,none⟩) k c,.int .u64 (r:Int)])∧r=n % d∧Nm w' (some ⟨w.heap.size,0,none⟩) k c (n / d)∧Below w.heap.size w w'
set_option maxHeartbeats 2000000 in
theorem divideShort_f(a:Option Addr) (k c n d:Nat) (w:World) (h:Nm w a k c n) (hd0:0<d) (hd:d<18446744073709551616) :
  Calls Tryz.prog 124 #[.slice a k c,.int .u64 d] w (ShortPost2 n d w):=by
 obtain⟨f,hr,hkc,hc,htop,hs,_⟩:=h
 have hk2:=hr.1
 have hmk:=fun w=>mk_limbs k hk2 w
 have H:=Zh hr
 have HS:=Zh hs
 clear hr hs htop
 go_enter Tryz.func124,Tryz.ntmps124
 go_wp2_with fail
 have B0:=Zh (Bf.made w k 144)
 have BL:Hid (Below w.heap.size w (w.alloc (.cells (madeCells #[.int .u64 0] k) 144))):=bel_one _ _
 generalize hW1:w.alloc (.cells (madeCells #[.int .u64 0] k) 144)=W1 at *
 clear hW1 hmk
 go_loopw [7,8] (fun v i wr=>∃ (m y:Nat) (g:Nat→Nat),m≤k∧i=.int .i64 ((m:Int)-1)∧v=.int .u64 y∧y<d∧Hid (Bf wr w.heap.size k g∧Below w.heap.size w wr∧S (from_ g m) (k-m)*d+y=S (from_ f m) (k-m))) (fun _ i _=>(intOf i+1).toNat)
 case atStart=>exact⟨k,0,fun _=>0,Nat.le_refl _,rfl,rfl,hd0,B0.out,BL.out,by rw[Nat.sub_self,S_zero,S_zero];omega⟩
 case round=>
  obtain⟨m,y,g,hm,rfl,rfl,hy,hR⟩:=hrel
  rcases Nat.eq_zero_or_pos m with e|e
  ·subst e
   have E:Hid (S g k=n / d∧y=n % d):=by
    have h:=hR.out.2.2
    have e1:from_ g 0=g:=by funext j;unfold from_;rw[Nat.zero_add]
    have e2:from_ f 0=f:=by funext j;unfold from_;rw[Nat.zero_add]
    rw[e1,e2,Nat.sub_zero,HS.out]at h
    have hd1:(y+S g k*d) / d=S g k:=by rw[Nat.add_mul_div_right _ _ hd0,Nat.div_eq_of_lt hy,Nat.zero_add]
    have hd2:(y+S g k*d) % d=y:=by rw[Nat.add_mul_mod_self_right,Nat.mod_eq_of_lt hy]
    rw[Nat.add_comm,h]at hd1 hd2
    exact⟨hd1.symm,hd2.symm⟩
   have BB:=Zh hR.out.1
   have BL2:=Zh hR.out.2.1
   clear hR
   go_wp2_with fail
   refine (trim_c2 (some ⟨w.heap.size,0,none⟩) k k g wr (BB.out.rl0 (Nat.le_refl _) hk2) (Nat.le_refl _) (by omega) (Pl.some_ _ _)).mono ?_
   rintro e w5 ⟨k',rfl,hN,rfl⟩
   rw[E.out.1]at hN
   have R:=Zh (show ShortPost2 n d w (.returned (.tuple #[.slice (some ⟨w.heap.size,0,none⟩) k' k,.int .u64 (y:Int)])) wr from ⟨k',k,y,rfl,E.out.2,hN,BL2.out⟩)
   clear hN
   go_wp2
   go_ret2
   exact R.out
  ·obtain⟨p,rfl⟩:∃ p,m=p+1:=⟨m-1,by omega⟩
   obtain⟨b,off,rfl,hb,hc1⟩:=(H.out.below hR.out.2.1).at_ (show p<k by omega)
   have hx:=H.out.2.1 p (by omega)
   have hp:(p:Int)<(k:Int):=by omega
   have ei:((p+1:Nat):Int)-1=(p:Int):=by omega
   rw[ei]
   have HD:=Zh (fun w=>div64_c y (f p) d w hx hy hd)
   have HF:Hid (S (from_ f p) (k-p)=f p+18446744073709551616*S (from_ f (p+1)) (k-(p+1))):=by
    unfold Hid
    rw[show k-p=(k-(p+1))+1 by omega,S_cons]
   generalize f p=x at *
   go_wp2_with fail
   refine (HD.out _).mono ?_
   rintro e w2 ⟨q,r,rfl,hq,hr,nq,rfl⟩
   have hqr:y*18446744073709551616+x=q*d+r:=by rw[hq,hr];exact (Nat.div_add_mod' _ _).symm
   have hr2:r<d:=by rw[hr];exact Nat.mod_lt _ hd0
   have hq2:q<18446744073709551616:=by
    rw[hq]
    refine Nat.div_lt_of_lt_mul ?_
    have:(y+1)*18446744073709551616≤d*18446744073709551616:=Nat.mul_le_mul_right _ hy
    omega
   have hrb:r<18446744073709551616:=by omega
   have HB:Hid (Below wr.heap.size wr (wr.drewN nq)):=bel_drewN _ _
   have BB:=Zh (hR.out.1.below HB.out)
   have BL2:Hid (Below w.heap.size w (wr.drewN nq)):=hR.out.2.1.trans (HB.out.mono hR.out.2.1.size)
   have hBj:=BB.out.2.2 p (by omega)
   have hc2:=hBj.1
   have hf2:=hBj.2
   have NX:Hid (Bf ((wr.drewN nq).setCell ⟨w.heap.size,p,none⟩ (.int .u64 q)) w.heap.size k (put g p q)∧Below w.heap.size w ((wr.drewN nq).setCell ⟨w.heap.size,p,none⟩ (.int .u64 q))∧S (from_ (put g p q) p) (k-p)*d+r=S (from_ f p) (k-p)):=by
    refine⟨BB.out.put (by omega) hq2,BL2.out.setCell (p:=⟨w.heap.size,p,none⟩) (Nat.le_refl _) _,?_⟩
    have e1:S (from_ (put g p q) p) (k-p)=q+18446744073709551616*S (from_ g (p+1)) (k-(p+1)):=by
     rw[show k-p=(k-(p+1))+1 by omega,S_cons,put_same]
     congr 2
     exact S_congr (fun j hj=>put_ne (by omega))
    rw[e1,HF.out]
    exact short_step (P:=0) hR.out.2.2 hqr rfl
   clear hq hr hqr hBj HD HF
   generalize wr.drewN nq=W3 at *
   go_wp2
   go_roundw
   case rel=>exact⟨p,r,put g p q,by omega,by go_num,rfl,hr2,NX.out⟩
   case measure=>simp[intOf]
theorem divideShort_c(a:Option Addr) (k c n d:Nat) (w:World) (h:Nm w a k c n) (hd0:0<d) (hd:d<18446744073709551616) :
  Calls Tryz.prog 124 #[.slice a k c,.int .u64 d] w (ShortPost n d w):=
 (divideShort_f a k c n d w h hd0 hd).mono fun e w' ⟨k',c',r,he,hr,hn,hb⟩=>⟨_,k',c',r,he,hr,hn,hb⟩
end Go.Proofs.YtghgbhmiliiohaaGreatDoor
