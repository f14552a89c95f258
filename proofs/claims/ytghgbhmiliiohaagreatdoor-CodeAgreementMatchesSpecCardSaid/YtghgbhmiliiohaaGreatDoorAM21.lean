/-
  CodeAgreementIsSymmetric: Kappa of pairs.
-/
import Derived.Test.YtghgbhmiliiohaaGreatDoorAMQ
import Derived.Test.YtghgbhmiliiohaaGreatDoorAM20
import Derived.Test.YtghgbhmiliiohaaGreatDoorAM18
import Derived.Test.YtghgbhmiliiohaaGreatDoorAM10
set_option maxRecDepth 100000
namespace Go.Proofs.YtghgbhmiliiohaaGreatDoor
open Go.RowKit
set_option maxHeartbeats 4000000 in
theorem ratioOf_c(b1:Bool) (a1:Option Addr) (k1 c1:Nat) (b2:Bool) (a2:Option Addr) (k2 c2:Nat) (x y:Int) (w:World) (h1:Zn w b1 a1 k1 c1 x) (h2:Zn w b2 a2 k2 c2 y) (hx:x.natAbs<bp 2000) (hy:y.natAbs<bp 2000) (hp:0<y) :
  Calls Tryz.prog 66 #[.agg #[.bool b1,.slice a1 k1 c1,.bool b2,.slice a2 k2 c2]] w (RaPost x y w):=by
 obtain⟨W0,hW0⟩:∃ W0,(w.alloc (.cells #[.bool b1,.slice a1 k1 c1,.bool b2,.slice a2 k2 c2] 109)).alloc (.cells #[.string ⟨#[]⟩,.string ⟨#[]⟩] 32)=W0:=⟨_,rfl⟩
 have J0:Hid (Rb w b1 a1 k1 c1 b2 a2 k2 c2 W0):=by
  have s1:(w.alloc (.cells #[.bool b1,.slice a1 k1 c1,.bool b2,.slice a2 k2 c2] 109)).heap.size=w.heap.size+1:=by simp
  rw[←hW0]
  refine⟨(B4.made w _ _ _ _ _).keep (bel_one _ _),?_,((Below.refl _ _).alloc (Nat.le_refl _) _).alloc (by simp) _⟩
  rw[←s1];exact B2.made _ _ _ _
 obtain⟨u,hu⟩:∃ u:ByteArray,u=⟨(Lib.decDigits x.natAbs).toArray⟩:=⟨_,rfl⟩
 have hus:u.size=(Lib.decDigits x.natAbs).length:=by rw[hu];simp[ByteArray.size]
 have hts:(tzB y).size=(Lib.decDigits y.natAbs).length:=by
  have e:tz y=Lib.decDigits y.natAbs:=by unfold tz;rw[if_neg (by omega)]
  unfold tzB
  rw[e]
  simp[ByteArray.size]
 have HTP:Hid (∀ w,Calls Tryz.prog 98 #[.string (tzB x),.string ⟨#[45]⟩] w fun e w'=>e=.returned (.string u)∧w=w'):=fun w=>(Tryz.strings_TrimPrefix (tzB x) ⟨#[45]⟩ w).mono fun e w' ⟨he,hw⟩=>⟨by
  rw[he,hu]
  have e2:Lib.trimPrefix (tzB x).data.toList (⟨#[45]⟩:ByteArray).data.toList=Lib.decDigits x.natAbs:=trim_tz x
  rw[e2],hw.symm⟩
 have HFT:Hid (fits x y=(decide (u.size≤2000) && decide ((tzB y).size≤2000))):=by unfold Hid fits;rw[hus,hts]
 have M1:=Zh (fun W (h:Rb w b1 a1 k1 c1 b2 a2 k2 c2 W)=>Text_c b1 a1 k1 c1 x W (h1.below h.bel) hx)
 have M2:=Zh (fun W (h:Rb w b1 a1 k1 c1 b2 a2 k2 c2 W)=>Text_c b2 a2 k2 c2 y W (h2.below h.bel) hy)
 clear h1 h2 hx hy hp hu hus hts
 go_enter Tryz.func66,Tryz.ntmps66
 go_wp2_with fail
 clear hW0
 refine wp_region_noPanic ?_
 refine wp_region_held_drew (S:=SR w.heap.size b1 a1 k1 c1 b2 a2 k2 c2) (by kernel_rfl) (J0.out.keep (Below.refl _ _).drew).si (fun hS=>?_)
 have J1:=Zh (J0.out.keep (Below.refl _ _).drew)
 clear J0
 refine Zt (i:=0) (v:=?v0z29) rfl (Or.inl ⟨by rfl,?hy0z29⟩) ?rest0z29
 case hy0z29=>
  intro w hSw
  dsimp only[SR]at hSw
  go_simp
  try with_reducible rfl
 simp only[Act.put,Zd,Ze,Zf,Za,Zb,Zc]
 refine Zt (i:=1) (v:=?v1z30) rfl (Or.inl ⟨by rfl,?hy1z30⟩) ?rest1z30
 case hy1z30=>
  intro w hSw
  dsimp only[SR]at hSw
  go_simp
  try with_reducible rfl
 simp only[Act.put,Zd,Ze,Zf,Za,Zb,Zc]
 refine Zt (i:=3) (v:=?v3z31) rfl (Or.inl ⟨by rfl,?hy3z31⟩) ?rest3z31
 case hy3z31=>
  intro w hSw
  dsimp only[SR]at hSw
  go_simp
  try with_reducible rfl
 simp only[Act.put,Zd,Ze,Zf,Za,Zb,Zc]
 refine Zt (i:=4) (v:=?v4z32) rfl (Or.inl ⟨by rfl,?hy4z32⟩) ?rest4z32
 case hy4z32=>
  intro w hSw
  dsimp only[SR]at hSw
  go_simp
  try with_reducible rfl
 simp only[Act.put,Zd,Ze,Zf,Za,Zb,Zc]
 refine wpAnyH_ready (rs:=[2]) (by kernel_rfl) (by simp) ?_
 refine AllReadyH.cons rfl (fun K hK=>?_) AllReadyH.nil
 go_simp
 refine (M1.out _ J1.out).mono ?_
 rintro e W3 ⟨rfl,bc⟩
 try go_simp
 have J3:=Zh (J1.out.keep bc)
 have hT:=J3.out.si
 refine hK.out _ _ hT (fun _=>?_)
 clear hK K hS bc J1
 have hS:=hT
 clear hT
 try simp only[Act.put,Za,Zb,Zc]
 refine wpAnyH_ready (rs:=[5]) (by kernel_rfl) (by simp) ?_
 refine AllReadyH.cons rfl (fun K hK=>?_) AllReadyH.nil
 go_simp
 refine (M2.out _ J3.out).mono ?_
 rintro e W4 ⟨rfl,bc⟩
 try go_simp
 have J4:=Zh (J3.out.keep bc)
 have hT:=J4.out.si
 refine hK.out _ _ hT (fun _=>?_)
 clear hK K hS bc J3
 have hS:=hT
 clear hT
 try simp only[Act.put,Za,Zb,Zc]
 refine Zt (i:=6) (v:=?v6z33) rfl (Or.inl ⟨by rfl,?hy6z33⟩) ?rest6z33
 case hy6z33=>
  intro w hSw
  dsimp only[SR]at hSw
  go_simp
  try with_reducible rfl
 simp only[Act.put,Zd,Ze,Zf,Za,Zb,Zc]
 refine Zt (i:=7) (v:=?v7z34) rfl (Or.inl ⟨by rfl,?hy7z34⟩) ?rest7z34
 case hy7z34=>
  intro w hSw
  dsimp only[SR]at hSw
  go_simp
  try with_reducible rfl
 simp only[Act.put,Zd,Ze,Zf,Za,Zb,Zc]
 refine wpAnyH_done (by kernel_rfl) ?_ _
 refine NoPanic.normal ?_
 clear hS M1 M2
 generalize hty:tzB y=ty at *
 generalize htx:tzB x=tx at *
 by_cases hf:fits x y=true
 ·have HRA:Hid (ra x y=(tx,ty,0)):=by unfold Hid ra;rw[if_pos hf,htx,hty]
  have h1:u.size≤2000∧ty.size≤2000:=by rw[HFT.out]at hf;simpa using hf
  have i1:¬ (2000:Int)<(u.size:Int):=by omega
  have i2:¬ (2000:Int)<(ty.size:Int):=by omega
  clear hf HFT h1 hty htx
  obtain⟨W9,hW9⟩:∃ W9,two W4 (w.heap.size+1) (.string tx) (.string ty)=W9:=⟨_,rfl⟩
  have R9:B2 W9 (w.heap.size+1) (.string tx) (.string ty):=by rw[←hW9];exact J4.out.r.set _ _
  have PP:Hid (RaPost x y w (.returned (.tuple #[.agg #[.string tx,.string ty],.int .i64 0])) W9):=by
   rw[←hW9]
   exact⟨by rw[HRA.out],below_two J4.out.bel (Nat.le_succ _) _ _⟩
  have q0:=J4.out.r.c0
  have q1:=J4.out.r.c1
  have g0:=J4.out.r.fr 0
  have g1:=J4.out.r.fr 1
  obtain⟨r0,r1,_,_⟩:=id R9
  unfold two at hW9
  clear R9
  go_wp2_with (go_at_call 98;refine (HTP.out _).mono ?_;rintro e w' ⟨rfl,rfl⟩)
  exact bodyPost_ret (v:=.tuple #[.agg #[.string tx,.string ty],.int .i64 0]) (by simp[results,Tryz.results66,go_sem,r0,r1]) rfl PP.out
 ·have HRA:Hid (ra x y=(⟨#[]⟩,⟨#[]⟩,2)):=by unfold Hid ra;rw[if_neg hf]
  have h1:2000<u.size∨(u.size≤2000∧2000<ty.size):=by rw[HFT.out]at hf;simp at hf;omega
  clear hf HFT hty htx
  rcases h1 with h|⟨h,h'⟩
  ·have i1:(2000:Int)<(u.size:Int):=by omega
   obtain⟨W9,hW9⟩:∃ W9,two W4 (w.heap.size+1) (.string ⟨#[]⟩) (.string ⟨#[]⟩)=W9:=⟨_,rfl⟩
   have R9:B2 W9 (w.heap.size+1) (.string ⟨#[]⟩) (.string ⟨#[]⟩):=by rw[←hW9];exact J4.out.r.set _ _
   have PP:Hid (RaPost x y w (.returned (.tuple #[.agg #[.string ⟨#[]⟩,.string ⟨#[]⟩],.int .i64 2])) W9):=by
    rw[←hW9]
    exact⟨by rw[HRA.out],below_two J4.out.bel (Nat.le_succ _) _ _⟩
   have q0:=J4.out.r.c0
   have q1:=J4.out.r.c1
   have g0:=J4.out.r.fr 0
   have g1:=J4.out.r.fr 1
   obtain⟨r0,r1,_,_⟩:=id R9
   unfold two at hW9
   clear R9
   go_wp2_with (go_at_call 98;refine (HTP.out _).mono ?_;rintro e w' ⟨rfl,rfl⟩)
   exact bodyPost_ret (v:=.tuple #[.agg #[.string ⟨#[]⟩,.string ⟨#[]⟩],.int .i64 2]) (by simp[results,Tryz.results66,go_sem,r0,r1]) rfl PP.out
  ·have i1:¬ (2000:Int)<(u.size:Int):=by omega
   have i2:(2000:Int)<(ty.size:Int):=by omega
   obtain⟨W9,hW9⟩:∃ W9,two W4 (w.heap.size+1) (.string ⟨#[]⟩) (.string ⟨#[]⟩)=W9:=⟨_,rfl⟩
   have R9:B2 W9 (w.heap.size+1) (.string ⟨#[]⟩) (.string ⟨#[]⟩):=by rw[←hW9];exact J4.out.r.set _ _
   have PP:Hid (RaPost x y w (.returned (.tuple #[.agg #[.string ⟨#[]⟩,.string ⟨#[]⟩],.int .i64 2])) W9):=by
    rw[←hW9]
    exact⟨by rw[HRA.out],below_two J4.out.bel (Nat.le_succ _) _ _⟩
   have q0:=J4.out.r.c0
   have q1:=J4.out.r.c1
   have g0:=J4.out.r.fr 0
   have g1:=J4.out.r.fr 1
   obtain⟨r0,r1,_,_⟩:=id R9
   unfold two at hW9
   clear R9
   go_wp2_with (go_at_call 98;refine (HTP.out _).mono ?_;rintro e w' ⟨rfl,rfl⟩)
   exact bodyPost_ret (v:=.tuple #[.agg #[.string ⟨#[]⟩,.string ⟨#[]⟩],.int .i64 2]) (by simp[results,Tryz.results66,go_sem,r0,r1]) rfl PP.out
theorem cop_dvd{a b c:Nat}(h:Nat.gcd a b=1)(hd:a ∣ b*c):a ∣ c:=Nat.Coprime.dvd_of_dvd_mul_left h hd
theorem low_eq{p q p' q':Int}(hq:0<q)(hq':0<q')(h1:Int.gcd p q=1)(h2:Int.gcd p' q'=1)(h:p*q'=p'*q):p=p'∧q=q':=by
 have e:p.natAbs*q'.natAbs=p'.natAbs*q.natAbs:=by rw[←Int.natAbs_mul,h,Int.natAbs_mul]
 have g1:Nat.gcd q.natAbs p.natAbs=1:=by rw[Nat.gcd_comm];exact h1
 have g2:Nat.gcd q'.natAbs p'.natAbs=1:=by rw[Nat.gcd_comm];exact h2
 have d1:q.natAbs ∣ q'.natAbs:=cop_dvd g1 (by rw[e];exact Nat.dvd_mul_left _ _)
 have d2:q'.natAbs ∣ q.natAbs:=cop_dvd g2 (by rw[←e];exact Nat.dvd_mul_left _ _)
 have e2:q.natAbs=q'.natAbs:=Nat.dvd_antisymm d1 d2
 have e3:q=q':=by omega
 subst e3
 exact⟨Int.eq_of_mul_eq_mul_right (by omega) h,rfl⟩
structure Low (n d p q:Int):Prop where
 pos:0<q
 one:Int.gcd p q=1
 eq:p*d=n*q
theorem red_low{n d:Int}(h:d≠0):Low n d (red n d).1 (red n d).2:=by
 have hp:=red_pos (n:=n) h
 have hg:0<Int.gcd n d:=Int.gcd_pos_of_ne_zero_right n h
 have hgn:ovG n d≠0:=ovG_ne h
 have habs:=ovG_abs n d
 have hdn:ovG n d ∣ n:=by rw[←Int.natAbs_dvd,habs];exact Int.gcd_dvd_left n d
 have hdd:ovG n d ∣ d:=by rw[←Int.natAbs_dvd,habs];exact Int.gcd_dvd_right n d
 refine⟨hp,?_,?_⟩
 ·show Nat.gcd (n.tdiv (ovG n d)).natAbs (d.tdiv (ovG n d)).natAbs=1
  rw[Int.natAbs_tdiv,Int.natAbs_tdiv,habs]
  have hg2:0<Nat.gcd n.natAbs d.natAbs:=hg
  show Nat.gcd (n.natAbs / Nat.gcd n.natAbs d.natAbs) (d.natAbs / Nat.gcd n.natAbs d.natAbs)=1
  rw[Nat.gcd_div (Nat.gcd_dvd_left _ _) (Nat.gcd_dvd_right _ _),Nat.div_self hg2]
 ·show n.tdiv (ovG n d)*d=n*d.tdiv (ovG n d)
  have a:=Int.tdiv_mul_cancel hdn
  have b:=Int.tdiv_mul_cancel hdd
  generalize n.tdiv (ovG n d)=u at *
  generalize d.tdiv (ovG n d)=v at *
  generalize ovG n d=g at *
  rw[←a,←b,Int.mul_assoc,Int.mul_comm g v]
theorem red_eq{n d n' d':Int}(h:d≠0)(h':d'≠0)(e:n*d'=n'*d):red n d=red n' d':=by
 have l:=red_low (n:=n) h
 have l':=red_low (n:=n') h'
 generalize red n d=r at *
 generalize red n' d'=r' at *
 have hx:r.1*r'.2=r'.1*r.2:=by
  have a:=l.eq
  have b:=l'.eq
  have t:(r.1*r'.2)*(d*d')=(r'.1*r.2)*(d*d'):=by
   have c1:(r.1*r'.2)*(d*d')=(r.1*d)*(d'*r'.2):=by grind
   have c2:(r'.1*r.2)*(d*d')=(r'.1*d')*(d*r.2):=by grind
   rw[c1,c2,a,b]
   have c3:n*r.2*(d'*r'.2)=(n*d')*(r.2*r'.2):=by grind
   have c4:n'*r'.2*(d*r.2)=(n'*d)*(r.2*r'.2):=by grind
   rw[c3,c4,e]
  exact Int.eq_of_mul_eq_mul_right (Int.mul_ne_zero h h') t
 have:=low_eq l.pos l'.pos l.one l'.one hx
 exact Prod.ext this.1 this.2
theorem raR_eq{n d n' d':Int}(h:d≠0)(h':d'≠0)(e:n*d'=n'*d):raR n d=raR n' d':=by
 unfold raR
 rw[red_eq h h' e]
def roS(n d:Int):ByteArray×ByteArray×Int:=if d=0 then (⟨#[]⟩,⟨#[]⟩,19) else raR n d
set_option maxHeartbeats 4000000 in
theorem RatioOf_c(n d:Int) (w:World) (n0:-9223372036854775808≤n) (n1:n≤9223372036854775807) (d0:-9223372036854775808≤d) (d1:d≤9223372036854775807) :
  Calls Tryz.prog 40 #[.int .i64 n,.int .i64 d] w (OpPost (roS n d) w):=by
 obtain⟨W0,hW0⟩:∃ W0,w.alloc (.cells #[.string ⟨#[]⟩,.string ⟨#[]⟩] 32)=W0:=⟨_,rfl⟩
 have JR0:Hid (B2 W0 w.heap.size (.string ⟨#[]⟩) (.string ⟨#[]⟩)):=by rw[←hW0];exact B2.made _ _ _ _
 have JB0:Hid (Below w.heap.size w W0):=by rw[←hW0];exact bel_one _ _
 by_cases hz:d=0
 ·subst hz
  have RS:Hid (roS n 0=(⟨#[]⟩,⟨#[]⟩,19)):=rfl
  go_enter Tryz.func40,Tryz.ntmps40
  obtain⟨W9,hW9⟩:∃ W9,two W0 (w.heap.size) (.string ⟨#[]⟩) (.string ⟨#[]⟩)=W9:=⟨_,rfl⟩
  have R9:B2 W9 (w.heap.size) (.string ⟨#[]⟩) (.string ⟨#[]⟩):=by rw[←hW9];exact JR0.out.set _ _
  have PP:Hid (OpPost (roS n 0) w (.returned (.tuple #[.agg #[.string ⟨#[]⟩,.string ⟨#[]⟩],.int .i64 19])) W9):=by
   rw[←hW9]
   exact⟨by rw[RS.out],below_two JB0.out (by omega) _ _⟩
  have c0:=JR0.out.c0
  have c1:=JR0.out.c1
  have cf0:=JR0.out.fr 0
  have cf1:=JR0.out.fr 1
  obtain⟨r0,r1,_,_⟩:=id R9
  unfold two at hW9
  clear R9
  go_wp2_with fail
  exact bodyPost_ret (v:=.tuple #[.agg #[.string ⟨#[]⟩,.string ⟨#[]⟩],.int .i64 19]) (by simp[results,Tryz.results40,go_sem,r0,r1]) rfl PP.out
 ·have hne:(d == 0)=false:=by rw[beq_eq_false_iff_ne];exact hz
  have RS:Hid (roS n d=raR n d):=by unfold Hid roS;rw[if_neg hz]
  have bn:n.natAbs<bp 2000:=Nat.lt_of_lt_of_le (show n.natAbs<bp 1 by rw[bp_one];omega) (bp_mono (by decide))
  have bd:d.natAbs<bp 2000:=Nat.lt_of_lt_of_le (show d.natAbs<bp 1 by rw[bp_one];omega) (bp_mono (by decide))
  have O1:=Zh (fun w=>Of_c n w n0 n1)
  have O2:=Zh (fun w=>Of_c d w d0 d1)
  have BN:=Zh bn
  have BD:=Zh bd
  have HZ:=Zh hz
  clear hz bn bd
  go_enter Tryz.func40,Tryz.ntmps40
  go_wp2_with fail
  clear hW0
  (with_reducible refine (O1.out _).mono ?_)
  rintro e w1 ⟨ba,a,k,c,rfl,hn,b1⟩
  have N1:=Zh hn
  have JR1:=Zh (JR0.out.keep b1)
  have JB1:=Zh (JB0.out.trans (b1.mono JB0.out.size))
  clear hn b1 O1 JR0 JB0
  go_wp2_with fail
  (with_reducible refine (O2.out _).mono ?_)
  rintro e w2 ⟨bb,a',k',c',rfl,hd,b2⟩
  have N2:=Zh (N1.out.below b2)
  have D2:=Zh hd
  have JR2:=Zh (JR1.out.keep b2)
  have JB2:=Zh (JB1.out.trans (b2.mono JB1.out.size))
  have HV:=Zh (Over_c ba bb a a' k k' c c' n d w2 N2.out D2.out HZ.out BN.out BD.out)
  clear hd b2 O2 JR1 JB1 N1
  go_wp2_with fail
  refine HV.out.mono ?_
  rintro e w6 ⟨ob,oa,ok,oc,ob',oa',ok',oc',rfl,hn,hd,b6⟩
  have JR6:=Zh (JR2.out.keep b6)
  have JB6:=Zh (JB2.out.trans (b6.mono JB2.out.size))
  have HRO:=Zh (ratioOf_c ob oa ok oc ob' oa' ok' oc' _ _ w6 hn hd (Nat.lt_of_le_of_lt (tdiv_abs_le _ _) BN.out) (Nat.lt_of_le_of_lt (tdiv_abs_le _ _) BD.out) (red_pos (n:=n) (d:=d) HZ.out))
  obtain⟨rr,hrr⟩:∃ rr,raR n d=rr:=⟨_,rfl⟩
  have RS2:Hid (roS n d=rr):=by rw[←hrr];exact RS.out
  have HRO2:Hid (Calls Tryz.prog 66 #[.agg #[.bool ob,.slice oa ok oc,.bool ob',.slice oa' ok' oc']] w6 (OpPost rr w6)):=by rw[←hrr];exact HRO.out
  clear hn hd b6 hrr HRO RS HV JR2 JB2
  go_wp2_with fail
  refine HRO2.out.mono ?_
  rintro e w8 ⟨rfl,b8⟩
  have JR8:=Zh (JR6.out.keep b8)
  have JB8:=Zh (JB6.out.trans (b8.mono JB6.out.size))
  clear b8 HRO2 JR6 JB6
  obtain⟨W9,hW9⟩:∃ W9,two w8 (w.heap.size) (.string rr.1) (.string rr.2.1)=W9:=⟨_,rfl⟩
  have R9:B2 W9 (w.heap.size) (.string rr.1) (.string rr.2.1):=by rw[←hW9];exact JR8.out.set _ _
  have PP:Hid (OpPost (roS n d) w (.returned (.tuple #[.agg #[.string rr.1,.string rr.2.1],.int .i64 rr.2.2])) W9):=by
   rw[←hW9]
   exact⟨by rw[RS2.out],below_two JB8.out (by omega) _ _⟩
  have c0:=JR8.out.c0
  have c1:=JR8.out.c1
  have cf0:=JR8.out.fr 0
  have cf1:=JR8.out.fr 1
  obtain⟨r0,r1,_,_⟩:=id R9
  unfold two at hW9
  clear R9
  go_wp2_with fail
  exact bodyPost_ret (v:=.tuple #[.agg #[.string rr.1,.string rr.2.1],.int .i64 rr.2.2]) (by simp[results,Tryz.results40,go_sem,r0,r1]) rfl PP.out
open Go.WideMaps Go.Maps
def kaN(P:List (Int×Int)):Int×Int:=
 if chN P=P.length*P.length then (1,1) else ((nE P*P.length:Nat)-(chN P:Int),(P.length*P.length:Nat)-(chN P:Int))
def kaS(P:List (Int×Int)):ByteArray×ByteArray×Int:=roS (kaN P).1 (kaN P).2
theorem sq_le{n:Nat}(h:n≤20000):n*n≤400000000:=Nat.mul_le_mul h h
structure InKp (W1 W2 wr:World) (b1 b2 n m:Nat) (P:List (Int×Int)) (D:DataW Value) (left:Lit→Bool) (cnt c:Nat):Prop where
 rg:wr.ranges Tryz.prog 3 asIs b1 W2.heap.size n D left cnt
 c2:CtIs wr b2 m (nS P)
 bel:Below W1.heap.size W1 wr
 lf:∀ z,left z=true→Maps.has D z=true
 sum:c=chL (nF P) (nS P) left
set_option maxHeartbeats 4000000 in
theorem kappaOf_c(a:Option Addr) (c:Nat) (P:List (Int×Int)) (w:World) (hP:RdP w a P) (hs:SmP P) (hn:P.length≤20000) :
  Calls Tryz.prog 15 #[.slice a P.length c] w (OpPost (kaS P) w):=by
 have hmm:=@run_makeMap Tryz.prog
 obtain⟨W1,hW1⟩:∃ W1,w.alloc (.cells #[.string ⟨#[]⟩,.string ⟨#[]⟩] 32)=W1:=⟨_,rfl⟩
 have JR1:Hid (B2 W1 w.heap.size (.string ⟨#[]⟩) (.string ⟨#[]⟩)):=by rw[←hW1];exact B2.made _ _ _ _
 have JB1:Hid (Below w.heap.size w W1):=by rw[←hW1];exact bel_one _ _
 have HP:=Zh (hP.below JB1.out)
 have HS:=Zh hs
 have hwb:Hid (w.heap.size<W1.heap.size):=by rw[←hW1];simp[Hid]
 have S0:Hid (InF W1 ((W1.alloc (.map #[] 0)).alloc (.map #[] 0)) W1.heap.size (W1.heap.size+1) (2*0) (nF (P.take 0)) (nS (P.take 0))):=InF.made W1
 have h9n:=hP.1
 clear hP hs
 go_enter Tryz.func15,Tryz.ntmps15
 go_wp2_with fail
 go_loopw [4,17] (fun e i wr=>∃ k:Nat,k≤P.length∧i=.int .i64 k∧e=.int .i64 (nE (P.take k):Nat)∧Hid (InF W1 wr W1.heap.size (W1.heap.size+1) (2*k) (nF (P.take k)) (nS (P.take k)))) (fun _ i _=>P.length-(intOf i).toNat)
 case atStart=>exact⟨0,Nat.zero_le _,rfl,rfl,S0.out⟩
 case round=>
  clear S0
  obtain⟨k,hk,rfl,rfl,hS⟩:=hrel
  by_cases hlt:k<P.length
  ·obtain⟨b',off,rfl,u0,u1⟩:=(HP.out.below hS.out.bel).at_ hlt
   have hlt':(k:Int)<(P.length:Int):=by omega
   have hsm:=HS.out _ (pn_mem hlt)
   have EN:=Zh (nE_next hlt)
   have FN:=Zh (fun s=>nF_next hlt s)
   have SN:=Zh (fun s=>nS_next hlt s)
   have el:=nE_le (P.take k)
   have fl:=nF_le (P.take k) (pn P k).1
   have sl:=nS_le (P.take k) (pn P k).2
   rw[List.length_take]at el fl sl
   obtain⟨p,hp⟩:∃ p,pn P k=p:=⟨_,rfl⟩
   rw[hp]at u0 u1 hsm EN FN SN fl sl
   obtain⟨x,y⟩:=p
   dsimp only at u0 u1 hsm EN FN SN fl sl
   obtain⟨WA,hWA⟩:∃ W,wr.alloc (.cells #[.int .i64 x,.int .i64 y] 74)=W:=⟨_,rfl⟩
   have bA:Below wr.heap.size wr WA:=by rw[←hWA];exact bel_one _ _
   have v0:WA.cell? ⟨wr.heap.size,0,none⟩=some (.int .i64 x):=by rw[←hWA,World.cell?_alloc_new];rfl
   have v1:WA.cell? ⟨wr.heap.size,1,none⟩=some (.int .i64 y):=by rw[←hWA,World.cell?_alloc_new];rfl
   have hAl:wr.heap.size<WA.heap.size:=by rw[←hWA];simp
   have SA:=hS.out.keep bA
   have inx:in64 x:=by unfold in64;omega
   have iny:in64 y:=by unfold in64;omega
   have hlook1:=SA.c1.look inx
   obtain⟨WB,hup1,SB,gB⟩:=SA.store1 (by unfold maxLen;omega) inx
   have hwr:=hS.out.le
   have w0:=(grown_cell (p:=⟨wr.heap.size,0,none⟩) gB hAl (by show wr.heap.size≠_;omega)).trans v0
   have w1:=(grown_cell (p:=⟨wr.heap.size,1,none⟩) gB hAl (by show wr.heap.size≠_;omega)).trans v1
   have hlook2:=SB.c2.look iny
   obtain⟨WC,hup2,SC,gC⟩:=SB.store2 (by unfold maxLen;omega) iny
   have hBl:=Nat.lt_of_lt_of_le hAl gB.size
   have z0:=(grown_cell (p:=⟨wr.heap.size,0,none⟩) gC hBl (by show wr.heap.size≠_;omega)).trans w0
   have z1:=(grown_cell (p:=⟨wr.heap.size,1,none⟩) gC hBl (by show wr.heap.size≠_;omega)).trans w1
   have NX:Hid (InF W1 WC W1.heap.size (W1.heap.size+1) (2*(k+1)) (nF (P.take (k+1))) (nS (P.take (k+1)))):=
    (SC.more (m:=2*(k+1)) (by omega)).congr (fun s=>FN.out s) (fun s=>SN.out s)
   obtain⟨m1,hm1⟩:∃ m,nF (P.take k) x=m:=⟨_,rfl⟩
   obtain⟨m2,hm2⟩:∃ m,nS (P.take k) y=m:=⟨_,rfl⟩
   obtain⟨m3,hm3⟩:∃ m,nE (P.take k)=m:=⟨_,rfl⟩
   rw[hm1]at hlook1 hup1 fl
   rw[hm2]at hlook2 hup2 sl
   rw[hm3]at EN el ⊢
   have q1:(m1:Int)≤20000:=by omega
   have q2:(m2:Int)≤20000:=by omega
   have q3:(m3:Int)≤20000:=by omega
   clear SA SB SC gB gC hS bA hm1 hm2 hm3 hsm inx iny fl sl el FN SN hAl hBl hwr
   by_cases hxy:x=y
   ·have h2:(x == y)=true:=by rw[beq_iff_eq];exact hxy
    have EN2:Hid (nE (P.take (k+1))=m3+1):=by unfold Hid;rw[EN.out,if_pos hxy]
    clear EN hxy
    go_wp2_with fail
    go_roundw
    case rel=>exact⟨k+1,by omega,by go_num,by rw[EN2.out];go_num,NX.out⟩
    case measure=>simp[intOf];omega
   ·have h2:(x == y)=false:=by rw[beq_eq_false_iff_ne];exact hxy
    have EN2:Hid (nE (P.take (k+1))=m3):=by unfold Hid;rw[EN.out,if_neg hxy,Nat.add_zero]
    clear EN hxy
    go_wp2_with fail
    go_roundw
    case rel=>exact⟨k+1,by omega,by go_num,by rw[EN2.out],NX.out⟩
    case measure=>simp[intOf];omega
  ·obtain rfl:k=P.length:=by omega
   clear hlt
   rw[List.take_length]at hS ⊢
   obtain⟨W2,hW2⟩:∃ x:World,x=wr:=⟨wr,rfl⟩
   subst hW2
   have ML:=Zh (MapIs.lt hS.out.c1)
   have HSc2:=Zh hS.out.c2
   have HSb:=Zh hS.out.bel
   have HSle:=Zh hS.out.le
   obtain⟨D,hown,hD⟩:=hS.out.c1
   have HD:Hid (∀ s,Maps.has D (.int .i64 s)=((ctF (nF P) s).map (Value.int .i64)).isSome∧∀ z,D.atKey (.int .i64 s) (.held z)=.held (((ctF (nF P) s).map (Value.int .i64)).getD z)):=hD.2
   clear hD hS
   go_wp2_with (first
    | (at_range;refine wpList_range_own _ rfl _ 80 rfl 3 3 lawI Tryz.underlying80 asIs W1.heap.size (2*P.length) D rfl hown ?_;intro w0 hrg0 hg0 hs0)
    | go_in)
   go_frame
   have R0:Hid (InKp W1 W2 w0 W1.heap.size (W1.heap.size+1) (2*P.length) (2*P.length) P D (Maps.has D) (Maps.size D) 0):=by
    refine⟨hrg0,MapIs.kept HSc2.out hg0 (by intro e;cases e),HSb.out.grown hg0 HSb.out.size (fun j hj=>by cases hj),fun z h=>h,?_⟩
    symm
    refine chL_none fun s hs=>?_
    rw[(HD.out s).1]at hs
    unfold ctF at hs
    by_cases e:nF P (s:Int)=0
    ·exact e
    ·rw[if_neg e]at hs;simp at hs
   clear hrg0 hg0 hs0 hown
   go_loopw [10] (fun cv wr=>∃ (left:Lit→Bool) (cnt c:Nat),cv=.int .i64 (c:Nat)∧Hid (InKp W1 W2 wr W1.heap.size (W1.heap.size+1) (2*P.length) (2*P.length) P D left cnt c)) (fun _ wr=>wr.rangeLeft W1.heap.size W2.heap.size)
   case atStart=>exact⟨_,_,0,rfl,R0.out⟩
   case round=>
    clear R0
    obtain⟨left,cnt,c,rfl,hS⟩:=hrel
    have hrg:=hS.out.rg
    go_wp2_with (first
     | (at_next;refine next_nums rfl _ rfl 3 lawI Tryz.underlying3 W1.heap.size W2.heap.size (2*P.length) D left cnt rfl hrg ?_ ?_)
     | go_in)
    ·intro _ hl0
     have EC:c=chN P:=by rw[hS.out.sum];exact chL_all (fun s=>hl0 _)
     have BE:=Zh hS.out.bel
     have hle:=chN_le P
     have hsq:=sq_le hn
     have hne:=nE_le P
     have hpr:nE P*P.length≤400000000:=Nat.le_trans (Nat.mul_le_mul hne (Nat.le_refl _)) hsq
     clear hS hrg hl0
     subst EC
     by_cases hch:chN P=P.length*P.length
     ·have KS:kaS P=roS 1 1:=by unfold kaS kaN;rw[if_pos hch]
      have hall:(P.length:Int)*(P.length:Int)=(chN P:Int):=by rw[hch];simp
      have h16:((chN P:Int) == (chN P:Int))=true:=by simp
      clear hch
      have HK:=Zh (RatioOf_c (1) (1) wr (by omega) (by omega) (by omega) (by omega))
      obtain⟨r,hr⟩:∃ r,roS (1) (1)=r:=⟨_,rfl⟩
      rw[hr]at HK
      have KR:Hid (kaS P=r):=by unfold Hid;rw[KS,←hr]
      clear hr
      go_wp2_with fail
      (with_reducible refine HK.out.mono ?_)
      rintro e W5 ⟨rfl,b5⟩
      have J5:=Zh ((JR1.out.keep BE.out).keep b5)
      have BW5:=Zh ((JB1.out.trans (BE.out.mono JB1.out.size)).trans (b5.mono (JB1.out.trans (BE.out.mono JB1.out.size)).size))
      clear b5 HK
      obtain⟨W9,hW9⟩:∃ W9,two W5 w.heap.size (.string r.1) (.string r.2.1)=W9:=⟨_,rfl⟩
      have R9:B2 W9 w.heap.size (.string r.1) (.string r.2.1):=by rw[←hW9];exact J5.out.set _ _
      have PP:Hid (OpPost (kaS P) w (.returned (.tuple #[.agg #[.string r.1,.string r.2.1],.int .i64 r.2.2])) W9):=by
       rw[←hW9,KR.out]
       exact⟨rfl,below_two BW5.out (Nat.le_refl _) _ _⟩
      have q0:=J5.out.c0
      have q1:=J5.out.c1
      have g0:=J5.out.fr 0
      have g1:=J5.out.fr 1
      obtain⟨r0,r1,_,_⟩:=id R9
      unfold two at hW9
      clear R9
      go_wp2_with fail
      exact bodyPost_ret (v:=.tuple #[.agg #[.string r.1,.string r.2.1],.int .i64 r.2.2]) (by simp[results,Tryz.results15,go_sem,r0,r1]) rfl PP.out
     ·have KS:kaS P=roS ((nE P*P.length:Nat)-(chN P:Int)) ((P.length*P.length:Nat)-(chN P:Int)):=by unfold kaS kaN;rw[if_neg hch]
      obtain⟨all,hA⟩:∃ m,P.length*P.length=m:=⟨_,rfl⟩
      obtain⟨eq,hE⟩:∃ m,nE P*P.length=m:=⟨_,rfl⟩
      have hall:(P.length:Int)*(P.length:Int)=(all:Int):=by rw[←hA];simp
      have heq:(nE P:Int)*(P.length:Int)=(eq:Int):=by rw[←hE];simp
      rw[hA]at hch hle hsq KS
      rw[hE]at hpr KS
      have h16:((chN P:Int) == (all:Int))=false:=by rw[beq_eq_false_iff_ne];omega
      clear hch hA hE
      have HK:=Zh (RatioOf_c ((eq:Int)-(chN P:Int)) ((all:Int)-(chN P:Int)) wr (by omega) (by omega) (by omega) (by omega))
      obtain⟨r,hr⟩:∃ r,roS ((eq:Int)-(chN P:Int)) ((all:Int)-(chN P:Int))=r:=⟨_,rfl⟩
      rw[hr]at HK
      have KR:Hid (kaS P=r):=by unfold Hid;rw[KS,←hr]
      clear hr
      go_wp2_with fail
      (with_reducible refine HK.out.mono ?_)
      rintro e W5 ⟨rfl,b5⟩
      have J5:=Zh ((JR1.out.keep BE.out).keep b5)
      have BW5:=Zh ((JB1.out.trans (BE.out.mono JB1.out.size)).trans (b5.mono (JB1.out.trans (BE.out.mono JB1.out.size)).size))
      clear b5 HK
      obtain⟨W9,hW9⟩:∃ W9,two W5 w.heap.size (.string r.1) (.string r.2.1)=W9:=⟨_,rfl⟩
      have R9:B2 W9 w.heap.size (.string r.1) (.string r.2.1):=by rw[←hW9];exact J5.out.set _ _
      have PP:Hid (OpPost (kaS P) w (.returned (.tuple #[.agg #[.string r.1,.string r.2.1],.int .i64 r.2.2])) W9):=by
       rw[←hW9,KR.out]
       exact⟨rfl,below_two BW5.out (Nat.le_refl _) _ _⟩
      have q0:=J5.out.c0
      have q1:=J5.out.c1
      have g0:=J5.out.fr 0
      have g1:=J5.out.fr 1
      obtain⟨r0,r1,_,_⟩:=id R9
      unfold two at hW9
      clear R9
      go_wp2_with fail
      exact bodyPost_ret (v:=.tuple #[.agg #[.string r.1,.string r.2.1],.int .i64 r.2.2]) (by simp[results,Tryz.results15,go_sem,r0,r1]) rfl PP.out
    ·intro s cv w1 cnt1 hlk hat hrg1 hlt hg1 hs1 hen
     have hhas:=hS.out.lf _ hlk
     rw[(HD.out s).1]at hhas
     have hf:nF P s≠0:=by
      intro e
      unfold ctF at hhas
      rw[if_pos e]at hhas
      simp at hhas
     have hcv:cv=.int .i64 (nF P s:Nat):=by
      have:=hat (.held (.int .i64 0))
      rw[(HD.out s).2]at this
      unfold ctF at this
      rw[if_neg hf]at this
      simpa using this.symm
     subst hcv
     obtain⟨pp,hpp,hps⟩:∃ pp∈P,pp.1=s:=by
      have:=List.countP_pos_iff.1 (Nat.pos_of_ne_zero hf)
      obtain⟨pp,h1,h2⟩:=this
      exact⟨pp,h1,by simpa using h2⟩
     have hsm:=(HS.out pp hpp).1
     rw[hps]at hsm
     obtain⟨sn,rfl⟩:∃ sn:Nat,s=(sn:Int):=⟨s.toNat,by omega⟩
     have ST:=chL_step (g1:=nF P) (g2:=nS P) (left:=left) (s:=sn) (by omega) hlk
     have C21:CtIs w1 (W1.heap.size+1) (2*P.length) (nS P):=MapIs.kept hS.out.c2 hg1 (by intro e;injection e with e;have:=HSle.out;omega)
     have hlook:=C21.look (s:=(sn:Int)) (by unfold in64;omega)
     have hbd:chL (nF P) (nS P) (fun z=>left z && !z.sameKey (.int .i64 (sn:Int)))≤400000000:=Nat.le_trans chL_le (Nat.le_trans (chN_le P) (sq_le hn))
     have NX:Hid (InKp W1 W2 w1 W1.heap.size (W1.heap.size+1) (2*P.length) (2*P.length) P D (fun z=>left z && !z.sameKey (.int .i64 (sn:Int))) cnt1 (chL (nF P) (nS P) (fun z=>left z && !z.sameKey (.int .i64 (sn:Int))))):=
      ⟨hrg1,C21,hS.out.bel.grown hg1 hS.out.bel.size (fun j hj=>by cases hj;exact HSb.out.size),fun z h=>hS.out.lf z (by revert h;cases left z<;>simp),rfl⟩
     have ME:Hid (w1.rangeLeft W1.heap.size W2.heap.size<wr.rangeLeft W1.heap.size W2.heap.size):=by
      unfold Hid;rw[hrg1.left_eq,hrg.left_eq];exact hlt
     obtain⟨c',hc'⟩:∃ c',chL (nF P) (nS P) (fun z=>left z && !z.sameKey (.int .i64 (sn:Int)))=c':=⟨_,rfl⟩
     rw[hc']at ST hbd NX
     rw[←hS.out.sum]at ST
     obtain⟨f,hff⟩:∃ f,nF P (sn:Int)=f:=⟨_,rfl⟩
     obtain⟨g,hgg⟩:∃ g,nS P (sn:Int)=g:=⟨_,rfl⟩
     rw[hff,hgg]at ST
     rw[hgg]at hlook
     obtain⟨m,hm⟩:∃ m,f*g=m:=⟨_,rfl⟩
     rw[hm]at ST
     have hmul:(f:Int)*(g:Int)=(m:Int):=by rw[←hm];simp
     have hsum:(c:Int)+(m:Int)=(c':Int):=by omega
     rw[hff]at hen ⊢
     have hbd':(c':Int)≤400000000:=by omega
     have hm9:(m:Int)≤400000000:=by omega
     clear hat hhas hlk hg1 hs1 hS hrg hrg1 hlt C21 hf hff hgg hm hc' ST hbd hps hpp hsm
     go_wp2_with fail
     go_roundw
     case rel=>exact⟨_,cnt1,c',rfl,NX.out⟩
     case measure=>exact ME.out
end Go.Proofs.YtghgbhmiliiohaaGreatDoor
