/-
  Whole numbers of any size: what they are in memory, signs, boxes.
-/
import Derived.Test.YtghgbhmiliiohaaGreatDoorAM15
import Derived.Test.YtghgbhmiliiohaaGreatDoorAMQ
import Derived.RegionTactic
import Derived.BigRegion
import Derived.Outline
import Derived.Deep.RegionHeld3
set_option maxRecDepth 100000
namespace Go.Proofs.YtghgbhmiliiohaaGreatDoor
open Go.RowKit
structure SBox (W:World) (g:Nat) (x0 x1 x2 x3 x4 x5:Value):Prop where
 c0:W.cell? ⟨g,0,none⟩=some x0
 c1:W.cell? ⟨g,1,none⟩=some x1
 c2:W.cell? ⟨g,2,none⟩=some x2
 c3:W.cell? ⟨g,3,none⟩=some x3
 c4:W.cell? ⟨g,4,none⟩=some x4
 c5:W.cell? ⟨g,5,none⟩=some x5
 fr:∀ o,W.frozen? ⟨g,o,none⟩=false
 lt:g<W.heap.size
theorem SBox.keep{W W':World}{g:Nat}{x0 x1 x2 x3 x4 x5:Value}(h:SBox W g x0 x1 x2 x3 x4 x5)(hb:Below W.heap.size W W'):SBox W' g x0 x1 x2 x3 x4 x5:=by
 have c:=fun (o:Nat)=>hb.cell (p:=⟨g,o,none⟩) h.lt
 exact⟨(c 0).trans h.c0,(c 1).trans h.c1,(c 2).trans h.c2,(c 3).trans h.c3,(c 4).trans h.c4,(c 5).trans h.c5,fun o=>(hb.frozen (p:=⟨g,o,none⟩) h.lt).trans (h.fr o),Nat.lt_of_lt_of_le h.lt hb.size⟩
theorem SBox.made(W:World)(x0 x1 x2 x3 x4 x5:Value)(T:TypeId):SBox (W.alloc (.cells #[x0,x1,x2,x3,x4,x5] T)) W.heap.size x0 x1 x2 x3 x4 x5:=by
 refine⟨?_,?_,?_,?_,?_,?_,fun o=>by simp,by simp⟩
 all_goals (rw[World.cell?_alloc_new];rfl)
def six(W:World)(g:Nat)(y0 y1 y2 y3 y4 y5:Value):World:=
 (((((W.setCell ⟨g,0,none⟩ y0).setCell ⟨g,1,none⟩ y1).setCell ⟨g,2,none⟩ y2).setCell ⟨g,3,none⟩ y3).setCell ⟨g,4,none⟩ y4).setCell ⟨g,5,none⟩ y5
theorem six_size(W:World)(g:Nat)(y0 y1 y2 y3 y4 y5:Value):(six W g y0 y1 y2 y3 y4 y5).heap.size=W.heap.size:=by unfold six;simp
theorem SBox.set{W:World}{g:Nat}{x0 x1 x2 x3 x4 x5:Value}(h:SBox W g x0 x1 x2 x3 x4 x5)(y0 y1 y2 y3 y4 y5:Value):SBox (six W g y0 y1 y2 y3 y4 y5) g y0 y1 y2 y3 y4 y5:=by
 have hne:∀ {i j:Nat},i≠j→(⟨g,i,none⟩:Addr)≠⟨g,j,none⟩:=fun h e=>by injection e with _ e2;exact h e2
 unfold six
 refine⟨?_,?_,?_,?_,?_,?_,fun o=>by simp only[World.frozen?_setCell];exact h.fr o,by simpa using h.lt⟩
 ·rw[World.cell?_setCell_other _ _ _ _ (hne (by decide)),World.cell?_setCell_other _ _ _ _ (hne (by decide)),World.cell?_setCell_other _ _ _ _ (hne (by decide)),World.cell?_setCell_other _ _ _ _ (hne (by decide)),World.cell?_setCell_other _ _ _ _ (hne (by decide)),World.cell?_setCell_same _ _ _ h.c0]
 ·rw[World.cell?_setCell_other _ _ _ _ (hne (by decide)),World.cell?_setCell_other _ _ _ _ (hne (by decide)),World.cell?_setCell_other _ _ _ _ (hne (by decide)),World.cell?_setCell_other _ _ _ _ (hne (by decide)),World.cell?_setCell_same _ _ _ (u:=x1) (by rw[World.cell?_setCell_other _ _ _ _ (hne (by decide))];exact h.c1)]
 ·rw[World.cell?_setCell_other _ _ _ _ (hne (by decide)),World.cell?_setCell_other _ _ _ _ (hne (by decide)),World.cell?_setCell_other _ _ _ _ (hne (by decide)),World.cell?_setCell_same _ _ _ (u:=x2) (by rw[World.cell?_setCell_other _ _ _ _ (hne (by decide)),World.cell?_setCell_other _ _ _ _ (hne (by decide))];exact h.c2)]
 ·rw[World.cell?_setCell_other _ _ _ _ (hne (by decide)),World.cell?_setCell_other _ _ _ _ (hne (by decide)),World.cell?_setCell_same _ _ _ (u:=x3) (by rw[World.cell?_setCell_other _ _ _ _ (hne (by decide)),World.cell?_setCell_other _ _ _ _ (hne (by decide)),World.cell?_setCell_other _ _ _ _ (hne (by decide))];exact h.c3)]
 ·rw[World.cell?_setCell_other _ _ _ _ (hne (by decide)),World.cell?_setCell_same _ _ _ (u:=x4) (by rw[World.cell?_setCell_other _ _ _ _ (hne (by decide)),World.cell?_setCell_other _ _ _ _ (hne (by decide)),World.cell?_setCell_other _ _ _ _ (hne (by decide)),World.cell?_setCell_other _ _ _ _ (hne (by decide))];exact h.c4)]
 ·rw[World.cell?_setCell_same _ _ _ (u:=x5) (by rw[World.cell?_setCell_other _ _ _ _ (hne (by decide)),World.cell?_setCell_other _ _ _ _ (hne (by decide)),World.cell?_setCell_other _ _ _ _ (hne (by decide)),World.cell?_setCell_other _ _ _ _ (hne (by decide)),World.cell?_setCell_other _ _ _ _ (hne (by decide))];exact h.c5)]
theorem SBox.other{W:World}{g h:Nat}{x0 x1 x2 x3 x4 x5:Value}(hb:SBox W g x0 x1 x2 x3 x4 x5)(hne:h≠g)(y0 y1 y2 y3 y4 y5:Value):SBox (six W h y0 y1 y2 y3 y4 y5) g x0 x1 x2 x3 x4 x5:=by
 have hne':∀ {i j:Nat},(⟨h,i,none⟩:Addr)≠⟨g,j,none⟩:=fun e=>by injection e with e1 _;exact hne e1
 have e:∀ o,(six W h y0 y1 y2 y3 y4 y5).cell? ⟨g,o,none⟩=W.cell? ⟨g,o,none⟩:=fun o=>by
  unfold six
  rw[World.cell?_setCell_other _ _ _ _ hne',World.cell?_setCell_other _ _ _ _ hne',World.cell?_setCell_other _ _ _ _ hne',World.cell?_setCell_other _ _ _ _ hne',World.cell?_setCell_other _ _ _ _ hne',World.cell?_setCell_other _ _ _ _ hne']
 exact⟨(e 0).trans hb.c0,(e 1).trans hb.c1,(e 2).trans hb.c2,(e 3).trans hb.c3,(e 4).trans hb.c4,(e 5).trans hb.c5,fun o=>by unfold six;simp only[World.frozen?_setCell];exact hb.fr o,by rw[six_size];exact hb.lt⟩
theorem below_six{W0 W:World}{g:Nat}(h:Below W0.heap.size W0 W)(hg:W0.heap.size≤g)(y0 y1 y2 y3 y4 y5:Value):Below W0.heap.size W0 (six W g y0 y1 y2 y3 y4 y5):=
 (((((h.setCell (p:=⟨g,0,none⟩) hg y0).setCell (p:=⟨g,1,none⟩) hg y1).setCell (p:=⟨g,2,none⟩) hg y2).setCell (p:=⟨g,3,none⟩) hg y3).setCell (p:=⟨g,4,none⟩) hg y4).setCell (p:=⟨g,5,none⟩) hg y5
def StepOk(n1 n2:Nat)(odd:Bool)(a0 b0 a1 b1:Nat):Prop:=∃ a' b',Cmb odd a0 b0 a1 b1 n1 n2 a' b'∧b' < a'∧a'≤n2∧Nat.gcd a' b'=Nat.gcd n1 n2
def StepPost(n1 n2:Nat)(w:World)(e:Ending)(w':World):Prop:=
 ∃ a0 b0 a1 b1 odd made,e=.returned (stepV a0 b0 a1 b1 odd made)∧a0<18446744073709551616∧b0<18446744073709551616∧a1<18446744073709551616∧b1<18446744073709551616∧(made=true→StepOk n1 n2 odd a0 b0 a1 b1)∧Below w.heap.size w w'
theorem heads{f1 f2:Nat→Nat} {z k2 n1 n2 s:Nat} (hf1:Lb f1 (z+2)) (hs1:S f1 (z+2)=n1) (hk2:k2≤z+2) (hf2:Lb f2 k2) (hs2:S f2 k2=n2) (hle:n2≤n1) (hs:s<64) (ht:f1 (z+1)*2 ^ s<18446744073709551616) :
  ∃ HA HB P la lb,HA<18446744073709551616∧HB≤HA∧la<P∧lb<P∧n1=HA*P+la∧n2=HB*P+lb∧ext f2 k2 (z+1)*2 ^ s<18446744073709551616 ∧
   HA=(ext f1 (z+2) (z+1)*2 ^ s ||| ext f1 (z+2) z / 2 ^ (64-s))∧HB=(ext f2 k2 (z+1)*2 ^ s ||| ext f2 k2 z / 2 ^ (64-s)):=by
 have hp:0<bp z*2 ^ (64-s):=Nat.mul_pos (bp_pos z) (Nat.pow_pos (by decide))
 have hl2:Lb (ext f2 k2) (z+2):=fun j _=>by
  by_cases e:j<k2
  ·rw[ext_in e];exact hf2 j e
  ·rw[ext_out (by omega)];decide
 have e2:n2=(ext f2 k2 (z+1)*18446744073709551616+ext f2 k2 z)*bp z+S (ext f2 k2) z:=by
  rw[←hs2,←S_ext f2 hk2,S_succ,S_succ,bp_succ];grind
 have e1:n1=(f1 (z+1)*18446744073709551616+f1 z)*bp z+S f1 z:=by
  rw[←hs1,S_succ,S_succ,bp_succ];grind
 have r1:S f1 z<bp z:=S_lt (fun j hj=>hf1 j (by omega))
 have r2:S (ext f2 k2) z<bp z:=S_lt (fun j hj=>hl2 j (by omega))
 have hh:ext f2 k2 (z+1)≤f1 (z+1):=by
  rcases Nat.lt_or_ge (f1 (z+1)) (ext f2 k2 (z+1)) with l|l
  ·exfalso
   have a:=hf1 z (by omega)
   have b:(f1 (z+1)+1)*(18446744073709551616*bp z)≤ext f2 k2 (z+1)*(18446744073709551616*bp z):=Nat.mul_le_mul_right _ l
   have c:(f1 z+1)*bp z≤18446744073709551616*bp z:=Nat.mul_le_mul_right _ a
   have d1:n1=f1 (z+1)*(18446744073709551616*bp z)+f1 z*bp z+S f1 z:=by rw[e1];grind
   have d2:n2=ext f2 k2 (z+1)*(18446744073709551616*bp z)+ext f2 k2 z*bp z+S (ext f2 k2) z:=by rw[e2];grind
   rw[Nat.add_mul,Nat.one_mul]at b c
   omega
  ·exact l
 have ht2:ext f2 k2 (z+1)*2 ^ s<18446744073709551616:=Nat.lt_of_le_of_lt (Nat.mul_le_mul_right _ hh) ht
 have w1:=win_bits e1 r1 hs (hf1 z (by omega)) ht
 have w2:=win_bits e2 r2 hs (hl2 z (by omega)) ht2
 refine⟨n1 / (bp z*2 ^ (64-s)),n2 / (bp z*2 ^ (64-s)),bp z*2 ^ (64-s),n1 % (bp z*2 ^ (64-s)),n2 % (bp z*2 ^ (64-s)),w1.2,Nat.div_le_div_right hle,Nat.mod_lt _ hp,Nat.mod_lt _ hp,(Nat.div_add_mod' _ _).symm,(Nat.div_add_mod' _ _).symm,ht2,?_,w2.1.symm⟩
 rw[ext_in (by omega),ext_in (by omega)]
 exact w1.1.symm
structure Sts (w:World) (HA HB hA hB a0 b0 a1 b1:Nat) (odd made:Bool) (W:World):Prop where
 stp:Stp odd a0 b0 a1 b1 HA HB hA hB
 col:made=true→Coll a0 b0 a1 b1 hA hB
 res:SBox W w.heap.size (.int .u64 0) (.int .u64 0) (.int .u64 0) (.int .u64 0) (.bool false) (.bool false)
 box:SBox W (w.heap.size+1) (.int .u64 (a0:Int)) (.int .u64 (b0:Int)) (.int .u64 (a1:Int)) (.int .u64 (b1:Int)) (.bool odd) (.bool made)
 bel:Below w.heap.size w W
 bds:a0<18446744073709551616∧b0<18446744073709551616∧a1<18446744073709551616∧b1<18446744073709551616
theorem Sts.keep{w:World}{HA HB hA hB a0 b0 a1 b1:Nat}{odd made:Bool}{W W':World}(h:Sts w HA HB hA hB a0 b0 a1 b1 odd made W)(hb:Below W.heap.size W W'):Sts w HA HB hA hB a0 b0 a1 b1 odd made W':=
 ⟨h.stp,h.col,h.res.keep hb,h.box.keep hb,h.bel.trans (hb.mono h.bel.size),h.bds⟩
set_option maxHeartbeats 4000000 in
theorem stepsOf_c(p1 p2:Option Addr) (z k2 c1 c2 n1 n2:Nat) (w:World) (h1:Nm w p1 (z+2) c1 n1) (h2:Nm w p2 k2 c2 n2) (hle:n2≤n1) (hk2:k2≤z+2) (hz:z<50000) :
  Calls Tryz.prog 151 #[.slice p1 (z+2) c1,.slice p2 k2 c2] w (StepPost n1 n2 w):=by
 obtain⟨f1,r1,hkc1,hcc1,t1,s1,_⟩:=h1
 obtain⟨f2,r2,hkc2,hcc2,t2,s2,_⟩:=h2
 obtain⟨b,o,rfl,hbl,htop⟩:=r1.at_ (show z+1<z+2 by omega)
 have htpos:0<f1 (z+1):=by
  rcases t1 with e|e
  ·omega
  ·rw[show z+2-1=z+1 by omega]at e;omega
 have htlt:=r1.2.1 (z+1) (by omega)
 obtain⟨s,hs,hl1,hl2,HZ⟩:=lead_ex (f1 (z+1)) htpos htlt
 have HLZ:=Zh HZ
 obtain⟨HA,HB,P,la,lb,hHA,hHB,hla,hlb,hn1,hn2,ht2,hwA,hwB⟩:=heads r1.2.1 s1 hk2 r2.2.1 s2 hle hs hl2
 have ht1:ext f1 (z+2) (z+1)*2 ^ s<18446744073709551616:=by rw[ext_in (by omega)];exact hl2
 have HWA:=Zh (fun W (hb:Below w.heap.size w W)=>window_c (some ⟨b,o,none⟩) (z+2) c1 z s f1 W (r1.below hb) (Nat.le_refl _) hz hs ht1)
 have HWB:=Zh (fun W (hb:Below w.heap.size w W)=>window_c p2 k2 c2 z s f2 W (r2.below hb) hk2 hz hs ht2)
 have EA:=Zh hwA
 have EB:=Zh hwB
 have OK:Hid (∀ odd a0 b0 a1 b1 hA hB,Stp odd a0 b0 a1 b1 HA HB hA hB→Coll a0 b0 a1 b1 hA hB→StepOk n1 n2 odd a0 b0 a1 b1):=by
  intro odd a0 b0 a1 b1 hA hB hst hco
  have t:=hst.all hco hla hlb
  rw[←hn1,←hn2]at t
  exact t
 have HLE:=Zh hHB
 have hwz:IntKind.i64.wrap ((z:Int)+1)=(z:Int)+1:=by rw[IntKind.wrap_i64];omega
 clear r1 r2 t1 t2 s1 s2 HZ hn1 hn2 hla hlb ht1 ht2 hwA hwB hl1 hl2 hle htpos htlt hHB
 generalize f1 (z+1)=top at *
 obtain⟨W1,hW1⟩:∃ W1,w.alloc (.cells #[.int .u64 0,.int .u64 0,.int .u64 0,.int .u64 0,.bool false,.bool false] 203)=W1:=⟨_,rfl⟩
 have R1:Hid (SBox W1 w.heap.size (.int .u64 0) (.int .u64 0) (.int .u64 0) (.int .u64 0) (.bool false) (.bool false)):=by rw[←hW1];exact SBox.made _ _ _ _ _ _ _ _
 have B1:Hid (Below w.heap.size w W1):=by rw[←hW1];exact bel_one _ _
 have S1:Hid (W1.heap.size=w.heap.size+1):=by rw[←hW1];simp[Hid]
 have hbl1:b<W1.heap.size:=Nat.lt_of_lt_of_le hbl B1.out.size
 have htop1:W1.cell? ⟨b,o+(z+1),none⟩=some (.int .u64 (top:Int)):=by rw[B1.out.cell (p:=⟨b,o+(z+1),none⟩) hbl];exact htop
 clear htop hbl
 go_enter Tryz.func151,Tryz.ntmps151
 go_wp2_with (go_at_call 170;refine (HLZ.out _).mono ?_;rintro e w' ⟨rfl,rfl⟩)
 clear htop1 hbl1
 (with_reducible refine (HWA.out _ B1.out).mono ?_)
 rintro e wA ⟨vA,rfl,hvA,qA,rfl⟩
 obtain rfl:vA=HA:=by rw[hvA,←EA.out]
 clear hvA HWA EA
 go_wp2_with fail
 (with_reducible refine (HWB.out _ (B1.out.trans ((bel_drewN W1 qA).mono B1.out.size))).mono ?_)
 rintro e wB ⟨vB,rfl,hvB,qB,rfl⟩
 obtain rfl:vB=HB:=by rw[hvB,←EB.out]
 clear hvB HWB EB
 obtain⟨W2,hW2⟩:∃ W2,(W1.drewN qA).drewN qB=W2:=⟨_,rfl⟩
 rw[hW2]
 have D2:Hid (Below W1.heap.size W1 W2):=by rw[←hW2,drewN_drewN];exact bel_drewN W1 (qA+qB)
 have S2:Hid (W2.heap.size=w.heap.size+1):=by unfold Hid;rw[←hW2];exact S1.out
 have R2:=Zh (R1.out.keep D2.out)
 have B2:=Zh (B1.out.trans (D2.out.mono B1.out.size))
 clear R1 B1 S1 D2 hW2 hW1
 obtain⟨W20,hW20⟩:∃ W20,W2.alloc (.cells #[.int .u64 0,.int .u64 0,.int .u64 0,.int .u64 0,.bool false,.bool false] 203)=W20:=⟨_,rfl⟩
 have X20:SBox W20 W2.heap.size (.int .u64 0) (.int .u64 0) (.int .u64 0) (.int .u64 0) (.bool false) (.bool false):=by rw[←hW20];exact SBox.made _ _ _ _ _ _ _ _
 have B20:Below W2.heap.size W2 W20:=by rw[←hW20];exact bel_one _ _
 obtain⟨x0,x1,x2,x3,x4,x5,xf,xl⟩:=id X20
 obtain⟨W3,hW3⟩:∃ W3,six W20 W2.heap.size (.int .u64 1) (.int .u64 0) (.int .u64 0) (.int .u64 1) (.bool false) (.bool false)=W3:=⟨_,rfl⟩
 have I0:Hid (Sts w vA vB vA vB 1 0 0 1 false false W3):=by
  have hb:Below W2.heap.size W2 W3:=by rw[←hW3];exact below_six B20 (Nat.le_refl _) _ _ _ _ _ _
  refine⟨Stp.start HLE.out,(fun h=>nomatch h),R2.out.keep hb,?_,B2.out.trans (hb.mono B2.out.size),by decide⟩
  rw[←S2.out,←hW3]
  exact X20.set _ _ _ _ _ _
 have f0:=xf 0
 have f1:=xf 1
 have f2:=xf 2
 have f3:=xf 3
 have f4:=xf 4
 have f5:=xf 5
 clear X20 B20 xf R2 B2
 unfold six at hW3
 go_wp2_with fail
 clear hW3 hW20 x0 x1 x2 x3 x4 x5 f0 f1 f2 f3 f4 f5
 have HS2:=S2.out
 rw[HS2]
 clear HS2 S2
 go_loopw [6,7] (fun uA uB wr=>∃ (hA hB a0 b0 a1 b1:Nat) (odd made:Bool),uA=.int .u64 hA∧uB=.int .u64 hB∧hA<18446744073709551616∧Hid (Sts w vA vB hA hB a0 b0 a1 b1 odd made wr)) (fun _ uB _=>(intOf uB).toNat)
 case atStart=>exact⟨vA,vB,1,0,0,1,false,false,rfl,rfl,hHA,I0.out⟩
 case round=>
  clear I0
  obtain⟨hA,hB,a0,b0,a1,b1,odd,made,rfl,rfl,hAb,hI⟩:=hrel
  rcases Nat.eq_zero_or_pos hB with hp|hp
  ·have OKK:Hid (made=true→StepOk n1 n2 odd a0 b0 a1 b1):=fun h=>OK.out _ _ _ _ _ _ _ hI.out.stp (hI.out.col h)
   subst hp
   have hE:=Zh hI.out
   clear hI
   obtain⟨s0,s1,s2,s3,s4,s5,sf,sl⟩:=id hE.out.box
   obtain⟨r0,r1,r2,r3,r4,r5,rf,rl⟩:=id hE.out.res
   obtain⟨W9,hW9⟩:∃ W9,six wr w.heap.size (.int .u64 (a0:Int)) (.int .u64 (b0:Int)) (.int .u64 (a1:Int)) (.int .u64 (b1:Int)) (.bool odd) (.bool made)=W9:=⟨_,rfl⟩
   have R9:SBox W9 w.heap.size (.int .u64 (a0:Int)) (.int .u64 (b0:Int)) (.int .u64 (a1:Int)) (.int .u64 (b1:Int)) (.bool odd) (.bool made):=by rw[←hW9];exact hE.out.res.set _ _ _ _ _ _
   have PP:Hid (StepPost n1 n2 w (.returned (stepV a0 b0 a1 b1 odd made)) W9):=by
    have x:=hE.out.bds
    refine⟨a0,b0,a1,b1,odd,made,rfl,x.1,x.2.1,x.2.2.1,x.2.2.2,OKK.out,?_⟩
    rw[←hW9]
    exact below_six hE.out.bel (Nat.le_refl _) _ _ _ _ _ _
   have rf0:=rf 0
   have rf1:=rf 1
   have rf2:=rf 2
   have rf3:=rf 3
   have rf4:=rf 4
   have rf5:=rf 5
   obtain⟨t0,t1,t2,t3,t4,t5,tf,tl⟩:=R9
   clear rf rl sf sl tf tl hE
   unfold six at hW9
   go_wp2_with fail
   exact bodyPost_ret (v:=stepV a0 b0 a1 b1 odd made) (by simp[results,Tryz.results151,go_sem,t0,t1,t2,t3,t4,t5]) rfl PP.out
  ·have hle:=hI.out.stp.le
   have hN:=hI.out.stp.next hp
   obtain⟨q,hq⟩:∃ q,hA / hB=q:=⟨_,rfl⟩
   obtain⟨r,hr⟩:∃ r,hA % hB=r:=⟨_,rfl⟩
   have hrl:r<hB:=by rw[←hr];exact Nat.mod_lt _ hp
   rw[hq,hr]at hN
   obtain⟨x1,hx1⟩:∃ x,q*a1=x:=⟨_,rfl⟩
   obtain⟨x2,hx2⟩:∃ x,q*b1=x:=⟨_,rfl⟩
   obtain⟨an,han⟩:∃ x,a0+x1=x:=⟨_,rfl⟩
   obtain⟨bn,hbn⟩:∃ x,b0+x2=x:=⟨_,rfl⟩
   rw[hx1,hx2,han,hbn]at hN
   obtain⟨hN1,hN2,hN3,hN4⟩:=hN
   have bd:=hN1.bound hp
   have hvBA:=HLE.out
   have e1:(hA:Int) / (hB:Int)=(q:Int):=div_cast hq
   have e2:(q:Int)*(a1:Int)=(x1:Int):=mul_cast hx1
   have e3:(q:Int)*(b1:Int)=(x2:Int):=mul_cast hx2
   have e4:(a0:Int)+(x1:Int)=(an:Int):=by omega
   have e5:(b0:Int)+(x2:Int)=(bn:Int):=by omega
   have w1:IntKind.u64.wrap (x1:Int)=(x1:Int):=wrap_lt (by omega)
   have w2:IntKind.u64.wrap (x2:Int)=(x2:Int):=wrap_lt (by omega)
   have w3:IntKind.u64.wrap (an:Int)=(an:Int):=wrap_lt (by omega)
   have w4:IntKind.u64.wrap (bn:Int)=(bn:Int):=wrap_lt (by omega)
   have wq:IntKind.u64.wrap (q:Int)=(q:Int):=wrap_lt (by have:=Nat.div_le_self hA hB;omega)
   have hri:(hA:Int) % (hB:Int)=(r:Int):=by rw[←hr,Int.natCast_emod]
   have HRI:=Zh hri
   have bn64:bn<18446744073709551616:=by omega
   have an64:an<18446744073709551616:=by omega
   have hB64:hB<18446744073709551616:=by omega
   have BD3:=Zh bd.2.2
   have N1:=Zh hN1
   have N2:=Zh hN2
   have N3:=Zh hN3
   have N4:=Zh hN4
   clear hq hr hx1 hx2 han hbn hri bd hN1 hN2 hN3 hN4 hvBA
   go_wp2_with fail
   go_quiet (fail)
   rw[HRI.out]
   have hE:=Zh (hI.out.keep (bel_drewN wr nq))
   generalize wr.drewN nq=Wd at *
   obtain⟨y0,y1,y2,y3,y4,y5,yf,yl⟩:=hE.out.box
   obtain⟨Wz,hWz⟩:∃ Wz,Wd.alloc (.cells #[.int .u64 0,.int .u64 0,.int .u64 0,.int .u64 0,.bool false,.bool false] 203)=Wz:=⟨_,rfl⟩
   have Xz:SBox Wz Wd.heap.size (.int .u64 0) (.int .u64 0) (.int .u64 0) (.int .u64 0) (.bool false) (.bool false):=by rw[←hWz];exact SBox.made _ _ _ _ _ _ _ _
   have Bz:Below Wd.heap.size Wd Wz:=by rw[←hWz];exact bel_one _ _
   obtain⟨z0,z1,z2,z3,z4,z5,zf,zl⟩:=id Xz
   obtain⟨Wn,hWn⟩:∃ Wn,six Wz Wd.heap.size (.int .u64 (a1:Int)) (.int .u64 (b1:Int)) (.int .u64 (an:Int)) (.int .u64 (bn:Int)) (.bool (!odd)) (.bool true)=Wn:=⟨_,rfl⟩
   have hbn':Below Wd.heap.size Wd Wn:=by rw[←hWn];exact below_six Bz (Nat.le_refl _) _ _ _ _ _ _
   have Xn:SBox Wn Wd.heap.size (.int .u64 (a1:Int)) (.int .u64 (b1:Int)) (.int .u64 (an:Int)) (.int .u64 (bn:Int)) (.bool (!odd)) (.bool true):=by rw[←hWn];exact Xz.set _ _ _ _ _ _
   have zf0:=zf 0
   have zf1:=zf 1
   have zf2:=zf 2
   have zf3:=zf 3
   have zf4:=zf 4
   have zf5:=zf 5
   have HXN:=Zh Xn
   have hEn:=Zh (hE.out.keep hbn')
   have HNL:Hid (w.heap.size+1≠Wd.heap.size):=by unfold Hid;omega
   obtain⟨m0,m1,m2,m3,m4,m5,mf,ml⟩:=Xn
   clear Xz Bz zf hbn' hE mf ml zl yf yl hI
   unfold six at hWn
   by_cases hc1:r<bn
   ·have hc1':(r:Int)<(bn:Int):=by omega
    have OKK:Hid (made=true→StepOk n1 n2 odd a0 b0 a1 b1):=fun h=>OK.out _ _ _ _ _ _ _ hEn.out.stp (hEn.out.col h)
    have hE:=Zh hEn.out
    clear hEn
    obtain⟨s0,s1,s2,s3,s4,s5,sf,sl⟩:=id hE.out.box
    obtain⟨r0,r1,r2,r3,r4,r5,rf,rl⟩:=id hE.out.res
    obtain⟨W9,hW9⟩:∃ W9,six Wn w.heap.size (.int .u64 (a0:Int)) (.int .u64 (b0:Int)) (.int .u64 (a1:Int)) (.int .u64 (b1:Int)) (.bool odd) (.bool made)=W9:=⟨_,rfl⟩
    have R9:SBox W9 w.heap.size (.int .u64 (a0:Int)) (.int .u64 (b0:Int)) (.int .u64 (a1:Int)) (.int .u64 (b1:Int)) (.bool odd) (.bool made):=by rw[←hW9];exact hE.out.res.set _ _ _ _ _ _
    have PP:Hid (StepPost n1 n2 w (.returned (stepV a0 b0 a1 b1 odd made)) W9):=by
     have x:=hE.out.bds
     refine⟨a0,b0,a1,b1,odd,made,rfl,x.1,x.2.1,x.2.2.1,x.2.2.2,OKK.out,?_⟩
     rw[←hW9]
     exact below_six hE.out.bel (Nat.le_refl _) _ _ _ _ _ _
    have rf0:=rf 0
    have rf1:=rf 1
    have rf2:=rf 2
    have rf3:=rf 3
    have rf4:=rf 4
    have rf5:=rf 5
    obtain⟨t0,t1,t2,t3,t4,t5,tf,tl⟩:=R9
    clear rf rl sf sl tf tl hE
    unfold six at hW9
    go_wp2_with fail
    exact bodyPost_ret (v:=stepV a0 b0 a1 b1 odd made) (by simp[results,Tryz.results151,go_sem,t0,t1,t2,t3,t4,t5]) rfl PP.out
   ·have hc1':¬ (r:Int)<(bn:Int):=by omega
    have hr0:0<r:=by
     have h:=N1.out.i3
     omega
    have hsum:=(BD3.out hr0).1
    have hsb:IntKind.u64.wrap ((b1:Int)+(bn:Int))=(b1:Int)+(bn:Int):=by
     have t:=@wrap_lt (b1+bn) (by omega)
     rw[Int.natCast_add]at t
     exact t
    have hdb:IntKind.u64.wrap ((hB:Int)-(r:Int))=(hB:Int)-(r:Int):=by rw[IntKind.wrap_u64];omega
    clear hsum
    by_cases hc2:hB-r<b1+bn
    ·have hc2':(hB:Int)-(r:Int)<(b1:Int)+(bn:Int):=by omega
     have OKK:Hid (made=true→StepOk n1 n2 odd a0 b0 a1 b1):=fun h=>OK.out _ _ _ _ _ _ _ hEn.out.stp (hEn.out.col h)
     have hE:=Zh hEn.out
     clear hEn
     obtain⟨s0,s1,s2,s3,s4,s5,sf,sl⟩:=id hE.out.box
     obtain⟨r0,r1,r2,r3,r4,r5,rf,rl⟩:=id hE.out.res
     obtain⟨W9,hW9⟩:∃ W9,six Wn w.heap.size (.int .u64 (a0:Int)) (.int .u64 (b0:Int)) (.int .u64 (a1:Int)) (.int .u64 (b1:Int)) (.bool odd) (.bool made)=W9:=⟨_,rfl⟩
     have R9:SBox W9 w.heap.size (.int .u64 (a0:Int)) (.int .u64 (b0:Int)) (.int .u64 (a1:Int)) (.int .u64 (b1:Int)) (.bool odd) (.bool made):=by rw[←hW9];exact hE.out.res.set _ _ _ _ _ _
     have PP:Hid (StepPost n1 n2 w (.returned (stepV a0 b0 a1 b1 odd made)) W9):=by
      have x:=hE.out.bds
      refine⟨a0,b0,a1,b1,odd,made,rfl,x.1,x.2.1,x.2.2.1,x.2.2.2,OKK.out,?_⟩
      rw[←hW9]
      exact below_six hE.out.bel (Nat.le_refl _) _ _ _ _ _ _
     have rf0:=rf 0
     have rf1:=rf 1
     have rf2:=rf 2
     have rf3:=rf 3
     have rf4:=rf 4
     have rf5:=rf 5
     obtain⟨t0,t1,t2,t3,t4,t5,tf,tl⟩:=R9
     clear rf rl sf sl tf tl hE
     unfold six at hW9
     go_wp2_with fail
     exact bodyPost_ret (v:=stepV a0 b0 a1 b1 odd made) (by simp[results,Tryz.results151,go_sem,t0,t1,t2,t3,t4,t5]) rfl PP.out
    ·have hc2':¬ (hB:Int)-(r:Int)<(b1:Int)+(bn:Int):=by omega
     obtain⟨v0,v1,v2,v3,v4,v5,vf,vl⟩:=id hEn.out.box
     obtain⟨Ws,hWs⟩:∃ Ws,six Wn (w.heap.size+1) (.int .u64 (a1:Int)) (.int .u64 (b1:Int)) (.int .u64 (an:Int)) (.int .u64 (bn:Int)) (.bool (!odd)) (.bool true)=Ws:=⟨_,rfl⟩
     have NX:Hid (Sts w vA vB hB r a1 b1 an bn (!odd) true Ws):=by
      have x:=hEn.out
      have xb:=x.bds
      rw[←hWs]
      exact⟨N1.out,fun _=>⟨N2.out,N3.out,N4.out,by omega,by omega⟩,x.res.other (by omega) _ _ _ _ _ _,x.box.set _ _ _ _ _ _,below_six x.bel (by omega) _ _ _ _ _ _,xb.2.2.1,xb.2.2.2,an64,bn64⟩
     have vf0:=vf 0
     have vf1:=vf 1
     have vf2:=vf 2
     have vf3:=vf 3
     have vf4:=vf 4
     have vf5:=vf 5
     clear vf vl hEn
     unfold six at hWs
     go_wp2_with fail
     go_roundw
     case rel=>exact⟨hB,r,a1,b1,an,bn,!odd,true,rfl,rfl,hB64,NX.out⟩
     case measure=>simp[intOf];omega
def limbAt(W:World)(p:Addr):Nat:=match W.cell? p with
 | some (.int _ x)=>x.toNat
 | _=>0
def numAt(W:World)(v:Value):Nat:=match v with
 | .slice (some p) k _=>S (fun j=>limbAt W ⟨p.block,p.off+j,none⟩) k
 | _=>0
theorem numAt_is{W:World}{a:Option Addr}{k c n:Nat}(h:Nm W a k c n):numAt W (.slice a k c)=n:=by
 obtain⟨f,hr,_,_,_,hs,hp⟩:=h
 rw[←hs]
 rcases hp with ⟨rfl,_⟩|⟨b,off,rfl⟩
 ·have hk:k=0:=by
   rcases Nat.eq_zero_or_pos k with e|e
   ·exact e
   ·obtain⟨b,off,he,_⟩:=hr.2.2 e
    cases he
  subst hk
  rfl
 ·show S (fun j=>limbAt W ⟨b,off+j,none⟩) k=S f k
  refine S_congr (fun j hj=>?_)
  obtain⟨b',off',e,_,hc⟩:=hr.at_ hj
  injection e with e
  injection e with e1 e2
  subst e1 e2
  unfold limbAt
  rw[hc]
  simp
def CB(g:Nat)(a0 b0 a1 b1:Nat)(odd made:Bool)(W:World):Prop:=
 W.cell? ⟨g,0,none⟩=some (.int .u64 (a0:Int))∧W.cell? ⟨g,1,none⟩=some (.int .u64 (b0:Int))∧W.cell? ⟨g,2,none⟩=some (.int .u64 (a1:Int))∧W.cell? ⟨g,3,none⟩=some (.int .u64 (b1:Int))∧W.cell? ⟨g,4,none⟩=some (.bool odd)∧W.cell? ⟨g,5,none⟩=some (.bool made)∧Hid (g<W.heap.size)
theorem CB.keep{g a0 b0 a1 b1:Nat}{odd made:Bool}{W W':World}(h:CB g a0 b0 a1 b1 odd made W)(hb:Below W.heap.size W W'):CB g a0 b0 a1 b1 odd made W':=by
 obtain⟨h0,h1,h2,h3,h4,h5,hl⟩:=h
 have c:=fun (o:Nat)=>hb.cell (p:=⟨g,o,none⟩) hl.out
 exact⟨(c 0).trans h0,(c 1).trans h1,(c 2).trans h2,(c 3).trans h3,(c 4).trans h4,(c 5).trans h5,Nat.lt_of_lt_of_le hl.out hb.size⟩
structure Euc (w:World) (n1 n2:Nat) (pa pb:Option Addr) (ka ca kb cb x y:Nat) (W:World):Prop where
 a:Nm W pa ka ca x
 b:Nm W pb kb cb y
 bel:Below w.heap.size w W
 gcd:Nat.gcd x y=Nat.gcd n1 n2
 le:y≤x
 lt:x<bp 2000
theorem Euc.keep{w:World}{n1 n2:Nat}{pa pb:Option Addr}{ka ca kb cb x y:Nat}{W W':World}(h:Euc w n1 n2 pa pb ka ca kb cb x y W)(hb:Below W.heap.size W W'):Euc w n1 n2 pa pb ka ca kb cb x y W':=
 ⟨h.a.below hb,h.b.below hb,h.bel.trans (hb.mono h.bel.size),h.gcd,h.le,h.lt⟩
set_option maxHeartbeats 4000000 in
theorem common_c(p1 p2:Option Addr) (k1 k2 c1 c2 n1 n2:Nat) (w:World) (h1:Nm w p1 k1 c1 n1) (h2:Nm w p2 k2 c2 n2) (hn1:n1<bp 2000) (hn2:n2<bp 2000) :
  Calls Tryz.prog 128 #[.slice p1 k1 c1,.slice p2 k2 c2] w (NmPost (Nat.gcd n1 n2) w):=by
 have HC:=Zh (compare_c p1 p2 k1 k2 c1 c2 n1 n2 w h1 h2)
 have HS:=Zh (sgn_neg n1 n2)
 have H1:=Zh h1
 have H2:=Zh h2
 have N1:=Zh hn1
 have N2:=Zh hn2
 clear h1 h2 hn1 hn2
 by_cases hlt:n1<n2
 ·have hd:decide (sgn n1 n2<0)=true:=by rw[HS.out];simp[hlt]
  have HLT:=Zh hlt
  clear HS hlt
  generalize sgn n1 n2=sg at *
  go_enter Tryz.func128,Tryz.ntmps128
  go_wp2_with fail
  refine HC.out.mono ?_
  rintro e w1 ⟨rfl,q,rfl⟩
  have I0:Hid (Euc w n1 n2 p2 p1 k2 c2 k1 c1 n2 n1 (w.drewN q)):=⟨H2.out.below (bel_drewN w q),H1.out.below (bel_drewN w q),bel_drewN w q,Nat.gcd_comm _ _,Nat.le_of_lt HLT.out,N2.out⟩
  clear HC H1 H2 N1 N2 HLT
  go_wp2_with fail
  clear hd
  go_loopw [0,1] (fun va vb wr=>∃ (pa pb:Option Addr) (ka ca kb cb x y:Nat),va=.slice pa ka ca∧vb=.slice pb kb cb∧Hid (Euc w n1 n2 pa pb ka ca kb cb x y wr)) (fun _ vb W=>numAt W vb)
  case atStart=>exact⟨p2,p1,k2,c2,k1,c1,n2,n1,rfl,rfl,I0.out⟩
  case round=>
   clear I0
   obtain⟨pa,pb,ka,ca,kb,cb,x,y,rfl,rfl,hI⟩:=hrel
   by_cases hk:1<kb
   ·have hk':(1:Int)<(kb:Int):=by omega
    have hkab:kb≤ka:=by
     rcases Nat.lt_or_ge ka kb with l|l
     ·have e1:=hI.out.a.lt
      have e2:=hI.out.b.pos (by omega)
      have e3:=bp_mono (show ka≤kb-1 by omega)
      have:=hI.out.le
      omega
     ·exact l
    have hka:=hI.out.a.len hI.out.lt
    obtain⟨z,rfl⟩:∃ z,ka=z+2:=⟨ka-2,by omega⟩
    have hy0:Hid (0<y):=by
     have e2:=hI.out.b.pos (by omega)
     have:=bp_pos (kb-1)
     unfold Hid;omega
    have ML:=Zh (numAt_is hI.out.b)
    have HS:=Zh (stepsOf_c pa pb z kb ca cb x y wr hI.out.a hI.out.b hI.out.le hkab (by omega))
    go_wp2_with fail
    (with_reducible refine HS.out.mono ?_)
    rintro e w4 ⟨a0,b0,a1,b1,odd,made,rfl,q0,q1,q2,q3,hok,b4⟩
    have I4:=Zh (hI.out.keep b4)
    have OK:=Zh hok
    clear hok b4 hI HS
    obtain⟨W20,hW20⟩:∃ W20,w4.alloc (.cells #[.int .u64 0,.int .u64 0,.int .u64 0,.int .u64 0,.bool false,.bool false] 203)=W20:=⟨_,rfl⟩
    have X20:SBox W20 w4.heap.size (.int .u64 0) (.int .u64 0) (.int .u64 0) (.int .u64 0) (.bool false) (.bool false):=by rw[←hW20];exact SBox.made _ _ _ _ _ _ _ _
    have B20:Below w4.heap.size w4 W20:=by rw[←hW20];exact bel_one _ _
    obtain⟨x0,x1,x2,x3,x4,x5,xf,xl⟩:=id X20
    obtain⟨W3,hW3⟩:∃ W3,six W20 w4.heap.size (.int .u64 (a0:Int)) (.int .u64 (b0:Int)) (.int .u64 (a1:Int)) (.int .u64 (b1:Int)) (.bool odd) (.bool made)=W3:=⟨_,rfl⟩
    have I3:Hid (Euc w n1 n2 pa pb (z+2) ca kb cb x y W3):=by
     have hb:Below w4.heap.size w4 W3:=by rw[←hW3];exact below_six B20 (Nat.le_refl _) _ _ _ _ _ _
     exact I4.out.keep hb
    have X3:SBox W3 w4.heap.size (.int .u64 (a0:Int)) (.int .u64 (b0:Int)) (.int .u64 (a1:Int)) (.int .u64 (b1:Int)) (.bool odd) (.bool made):=by rw[←hW3];exact X20.set _ _ _ _ _ _
    have hCB:CB w4.heap.size a0 b0 a1 b1 odd made W3:=⟨X3.c0,X3.c1,X3.c2,X3.c3,X3.c4,X3.c5,X3.lt⟩
    have f0:=xf 0
    have f1:=xf 1
    have f2:=xf 2
    have f3:=xf 3
    have f4:=xf 4
    have f5:=xf 5
    have m5:=X3.c5
    have HCB:=Zh hCB
    clear X20 B20 xf xl I4 X3 hCB
    unfold six at hW3
    cases made
    ·clear OK HCB
     go_wp2_with fail
     clear hW3 hW20 x0 x1 x2 x3 x4 x5 f0 f1 f2 f3 f4 f5 m5
     (with_reducible refine (divide_c pa pb (z+2) kb ca cb x y W3 I3.out.a I3.out.b hy0.out (Nat.lt_of_lt_of_le I3.out.lt (bp_mono (by decide)))).mono ?_)
     rintro e w6 ⟨qa,qk,qc,ra,rk,rc,rfl,_,l2,b6⟩
     have NX:Hid (Euc w n1 n2 pb ra kb cb rk rc y (x % y) w6):=by
      have h:=I3.out.keep b6
      refine⟨h.b,l2,h.bel,?_,Nat.le_of_lt (Nat.mod_lt _ hy0.out),Nat.lt_of_le_of_lt h.le h.lt⟩
      rw[←h.gcd,Nat.gcd_comm y,←Nat.gcd_rec,Nat.gcd_comm]
     clear l2 b6 I3
     go_wp2_with fail
     go_roundw
     case rel=>exact⟨pb,ra,kb,cb,rk,rc,y,x % y,rfl,rfl,NX.out⟩
     case measure=>rw[numAt_is NX.out.b,ML.out];exact Nat.mod_lt _ hy0.out
    ·obtain⟨a',b',hcm,hlt,hle,hg⟩:=OK.out rfl
     have HM1:Hid (if odd then b0*y=a0*x+a' else a0*x=b0*y+a'):=by
      cases odd
      ·simp only[Cmb,Bool.false_eq_true,if_false]at hcm ⊢;exact hcm.1
      ·simp only[Cmb,if_true]at hcm ⊢;exact hcm.1
     have HM2:Hid (if odd then a1*x=b1*y+b' else b1*y=a1*x+b'):=by
      cases odd
      ·simp only[Cmb,Bool.false_eq_true,if_false]at hcm ⊢;exact hcm.2
      ·simp only[Cmb,if_true]at hcm ⊢;exact hcm.2
     have HLT:=Zh hlt
     have HLE:=Zh hle
     have HG:=Zh hg
     clear hcm hlt hle hg OK
     go_wp2_with fail
     clear hW3 hW20 x0 x1 x2 x3 x4 x5 f0 f1 f2 f3 f4 f5 m5
     refine wp_region_noPanic ?_
     refine wp_region_held_drew (S:=CB w4.heap.size a0 b0 a1 b1 odd true) (by kernel_rfl) (HCB.out.keep (Below.refl _ _).drew) (fun hS=>?_)
     have hE:=Zh (I3.out.keep (Below.refl _ _).drew)
     clear HCB
     refine Zt (i:=0) (v:=?v0z1) rfl (Or.inl ⟨by rfl,?hy0z1⟩) ?rest0z1
     case hy0z1=>
      intro w hSw
      dsimp only[CB]at hSw
      go_simp
      try with_reducible rfl
     simp only[Act.put,Zd,Ze,Zf,Za,Zb,Zc]
     refine Zt (i:=1) (v:=?v1z2) rfl (Or.inl ⟨by rfl,?hy1z2⟩) ?rest1z2
     case hy1z2=>
      intro w hSw
      dsimp only[CB]at hSw
      go_simp
      try with_reducible rfl
     simp only[Act.put,Zd,Ze,Zf,Za,Zb,Zc]
     refine Zt (i:=2) (v:=?v2z3) rfl (Or.inl ⟨by rfl,?hy2z3⟩) ?rest2z3
     case hy2z3=>
      intro w hSw
      dsimp only[CB]at hSw
      go_simp
      try with_reducible rfl
     simp only[Act.put,Zd,Ze,Zf,Za,Zb,Zc]
     refine Zt (i:=4) (v:=?v4z4) rfl (Or.inl ⟨by rfl,?hy4z4⟩) ?rest4z4
     case hy4z4=>
      intro w hSw
      dsimp only[CB]at hSw
      go_simp
      try with_reducible rfl
     simp only[Act.put,Zd,Ze,Zf,Za,Zb,Zc]
     refine Zt (i:=5) (v:=?v5z5) rfl (Or.inl ⟨by rfl,?hy5z5⟩) ?rest5z5
     case hy5z5=>
      intro w hSw
      dsimp only[CB]at hSw
      go_simp
      try with_reducible rfl
     simp only[Act.put,Zd,Ze,Zf,Za,Zb,Zc]
     refine Zt (i:=6) (v:=?v6z6) rfl (Or.inl ⟨by rfl,?hy6z6⟩) ?rest6z6
     case hy6z6=>
      intro w hSw
      dsimp only[CB]at hSw
      go_simp
      try with_reducible rfl
     simp only[Act.put,Zd,Ze,Zf,Za,Zb,Zc]
     refine wpAnyH_ready (rs:=[3]) (by kernel_rfl) (by simp) ?_
     refine AllReadyH.cons rfl (fun K hK=>?_) AllReadyH.nil
     go_simp
     refine (first_c odd a0 b0 a1 b1 true pa pb (z+2) kb ca cb x y a' _ hE.out.a hE.out.b hE.out.lt (Nat.lt_of_le_of_lt hE.out.le hE.out.lt) q0 q1 HM1.out (.inr HLE.out)).mono ?_
     rintro e w5 ⟨ga,gk,gc,rfl,l5,b5⟩
     try go_simp
     have hT:=hS.keep b5
     have hE5:=Zh (hE.out.keep b5)
     have L5:=Zh l5
     refine hK.out _ _ hT (fun _=>?_)
     clear hK K hS b5 l5 hE I3
     have hS:=hT
     clear hT
     try simp only[Act.put,Za,Zb,Zc]
     refine wpAnyH_ready (rs:=[7]) (by kernel_rfl) (by simp) ?_
     refine AllReadyH.cons rfl (fun K hK=>?_) AllReadyH.nil
     go_simp
     refine (second_c odd a0 b0 a1 b1 true pa pb (z+2) kb ca cb x y b' _ hE5.out.a hE5.out.b hE5.out.lt (Nat.lt_of_le_of_lt hE5.out.le hE5.out.lt) q2 q3 HM2.out (.inl (by have:=HLT.out;have:=HLE.out;omega))).mono ?_
     rintro e w6 ⟨ha,hk2,hc,rfl,l6,b6⟩
     try go_simp
     have hT:=hS.keep b6
     have NX:Hid (Euc w n1 n2 ga ha gk gc hk2 hc a' b' w6):=by
      have h:=hE5.out.keep b6
      refine⟨L5.out.below b6,l6,h.bel,by rw[HG.out,h.gcd],Nat.le_of_lt HLT.out,?_⟩
      have:=HLE.out
      have:=h.le
      have:=h.lt
      omega
     refine hK.out _ _ hT (fun _=>?_)
     clear hK K hS b6 l6 hE5 L5
     have hS:=hT
     clear hT
     try simp only[Act.put,Za,Zb,Zc]
     refine Zt (i:=8) (v:=?v8z7) rfl (Or.inl ⟨by rfl,?hy8z7⟩) ?rest8z7
     case hy8z7=>
      intro w hSw
      dsimp only[CB]at hSw
      go_simp
      try with_reducible rfl
     simp only[Act.put,Zd,Ze,Zf,Za,Zb,Zc]
     refine Zt (i:=9) (v:=?v9z8) rfl (Or.inl ⟨by rfl,?hy9z8⟩) ?rest9z8
     case hy9z8=>
      intro w hSw
      dsimp only[CB]at hSw
      go_simp
      try with_reducible rfl
     simp only[Act.put,Zd,Ze,Zf,Za,Zb,Zc]
     refine wpAnyH_done (by kernel_rfl) ?_ _
     refine NoPanic.normal ?_
     clear hS
     go_wp2_with fail
     go_roundw
     case rel=>exact⟨ga,ha,gk,gc,hk2,hc,a',b',rfl,rfl,NX.out⟩
     case measure=>rw[numAt_is NX.out.b,ML.out];have:=HLT.out;have:=HLE.out;omega
   ·have hk':¬ (1:Int)<(kb:Int):=by omega
    rcases Nat.eq_zero_or_pos kb with e|e
    ·subst e
     have R:Hid (NmPost (Nat.gcd n1 n2) w (.returned (.slice pa ka ca)) wr):=by
      have h:=hI.out
      have hb:=h.b
      have hy:y=0:=by have:=hb.lt;rw[bp_zero]at this;omega
      refine⟨_,_,_,rfl,?_,h.bel⟩
      have hg:=h.gcd
      rw[hy,Nat.gcd_zero_right]at hg
      rw[←hg];exact h.a
     clear hI
     go_wp2
     go_ret
     exact R.out
    ·obtain rfl:kb=1:=by omega
     obtain⟨fb,rb,_,_,tb,sb,_⟩:=hI.out.b
     obtain⟨bb,ob,rfl,hbb,hcb⟩:=rb.at_ (show 0<1 by omega)
     rw[S_one]at sb
     have hlim:=rb.2.1 0 (by omega)
     have hpos:0<y:=by
      rcases tb with e|e
      ·omega
      ·simp at e;omega
     rw[sb]at hcb hlim
     rw[Nat.add_zero]at hcb
     have HP:=Zh hpos
     have HBB:=Zh hbb
     have HCC:=Zh hcb
     have HD:=Zh (divideShort_c pa ka ca x y wr hI.out.a hpos hlim)
     clear rb tb sb hpos hbb
     go_wp2_with fail
     (with_reducible refine HD.out.mono ?_)
     rintro e w6 ⟨qa,qk,qc,r,rfl,hr,_,b6⟩
     have hc6:w6.cell? ⟨bb,ob,none⟩=some (.int .u64 (y:Int)):=by rw[b6.cell (p:=⟨bb,ob,none⟩) HBB.out];exact HCC.out
     have B6:=Zh (hI.out.bel.trans (b6.mono hI.out.bel.size))
     have hrb:r<18446744073709551616:=by rw[hr];have:=Nat.mod_lt x HP.out;omega
     have HG:Hid (Nat.gcd y r=Nat.gcd n1 n2):=by unfold Hid;rw[hr,←hI.out.gcd,Nat.gcd_comm y,←Nat.gcd_rec,Nat.gcd_comm]
     clear b6 hr HCC HBB HD hI hcb
     go_wp2_with fail
     (with_reducible refine (commonLimb_c y r w6 hlim hrb (.inl HP.out)).mono ?_)
     rintro e w7 ⟨g,rfl,hg,hgb,qq,rfl⟩
     have R:Hid (NmPost (Nat.gcd n1 n2) w (.returned (.slice (some ⟨(w6.drewN qq).heap.size,0,none⟩) 1 1)) ((w6.drewN qq).alloc (.cells #[.int .u64 g] 144))):=by
      refine⟨_,_,_,rfl,⟨fun _=>g,built_one _ g hgb,by omega,by omega,.inr ?_,?_,Pl.some_ _ _⟩,?_⟩
      ·have hp:=Nat.gcd_pos_of_pos_left r HP.out
       rw[←hg]at hp
       show g≠0
       omega
      ·rw[S_one,hg,HG.out]
      ·exact (B6.out.trans ((bel_drewN w6 qq).mono B6.out.size)).alloc (by have:=B6.out.size;simpa using this) _
     clear hg
     generalize w6.drewN qq=w8 at *
     go_wp2
     go_ret
     exact R.out
 ·have hd:decide (sgn n1 n2<0)=false:=by rw[HS.out];simp[hlt]
  have HLE:Hid (n2≤n1):=by unfold Hid;omega
  clear HS hlt
  generalize sgn n1 n2=sg at *
  go_enter Tryz.func128,Tryz.ntmps128
  go_wp2_with fail
  refine HC.out.mono ?_
  rintro e w1 ⟨rfl,q,rfl⟩
  have I0:Hid (Euc w n1 n2 p1 p2 k1 c1 k2 c2 n1 n2 (w.drewN q)):=⟨H1.out.below (bel_drewN w q),H2.out.below (bel_drewN w q),bel_drewN w q,rfl,HLE.out,N1.out⟩
  clear HC H1 H2 N1 N2 HLE
  go_wp2_with fail
  clear hd
  go_loopw [0,1] (fun va vb wr=>∃ (pa pb:Option Addr) (ka ca kb cb x y:Nat),va=.slice pa ka ca∧vb=.slice pb kb cb∧Hid (Euc w n1 n2 pa pb ka ca kb cb x y wr)) (fun _ vb W=>numAt W vb)
  case atStart=>exact⟨p1,p2,k1,c1,k2,c2,n1,n2,rfl,rfl,I0.out⟩
  case round=>
   clear I0
   obtain⟨pa,pb,ka,ca,kb,cb,x,y,rfl,rfl,hI⟩:=hrel
   by_cases hk:1<kb
   ·have hk':(1:Int)<(kb:Int):=by omega
    have hkab:kb≤ka:=by
     rcases Nat.lt_or_ge ka kb with l|l
     ·have e1:=hI.out.a.lt
      have e2:=hI.out.b.pos (by omega)
      have e3:=bp_mono (show ka≤kb-1 by omega)
      have:=hI.out.le
      omega
     ·exact l
    have hka:=hI.out.a.len hI.out.lt
    obtain⟨z,rfl⟩:∃ z,ka=z+2:=⟨ka-2,by omega⟩
    have hy0:Hid (0<y):=by
     have e2:=hI.out.b.pos (by omega)
     have:=bp_pos (kb-1)
     unfold Hid;omega
    have ML:=Zh (numAt_is hI.out.b)
    have HS:=Zh (stepsOf_c pa pb z kb ca cb x y wr hI.out.a hI.out.b hI.out.le hkab (by omega))
    go_wp2_with fail
    (with_reducible refine HS.out.mono ?_)
    rintro e w4 ⟨a0,b0,a1,b1,odd,made,rfl,q0,q1,q2,q3,hok,b4⟩
    have I4:=Zh (hI.out.keep b4)
    have OK:=Zh hok
    clear hok b4 hI HS
    obtain⟨W20,hW20⟩:∃ W20,w4.alloc (.cells #[.int .u64 0,.int .u64 0,.int .u64 0,.int .u64 0,.bool false,.bool false] 203)=W20:=⟨_,rfl⟩
    have X20:SBox W20 w4.heap.size (.int .u64 0) (.int .u64 0) (.int .u64 0) (.int .u64 0) (.bool false) (.bool false):=by rw[←hW20];exact SBox.made _ _ _ _ _ _ _ _
    have B20:Below w4.heap.size w4 W20:=by rw[←hW20];exact bel_one _ _
    obtain⟨x0,x1,x2,x3,x4,x5,xf,xl⟩:=id X20
    obtain⟨W3,hW3⟩:∃ W3,six W20 w4.heap.size (.int .u64 (a0:Int)) (.int .u64 (b0:Int)) (.int .u64 (a1:Int)) (.int .u64 (b1:Int)) (.bool odd) (.bool made)=W3:=⟨_,rfl⟩
    have I3:Hid (Euc w n1 n2 pa pb (z+2) ca kb cb x y W3):=by
     have hb:Below w4.heap.size w4 W3:=by rw[←hW3];exact below_six B20 (Nat.le_refl _) _ _ _ _ _ _
     exact I4.out.keep hb
    have X3:SBox W3 w4.heap.size (.int .u64 (a0:Int)) (.int .u64 (b0:Int)) (.int .u64 (a1:Int)) (.int .u64 (b1:Int)) (.bool odd) (.bool made):=by rw[←hW3];exact X20.set _ _ _ _ _ _
    have hCB:CB w4.heap.size a0 b0 a1 b1 odd made W3:=⟨X3.c0,X3.c1,X3.c2,X3.c3,X3.c4,X3.c5,X3.lt⟩
    have f0:=xf 0
    have f1:=xf 1
    have f2:=xf 2
    have f3:=xf 3
    have f4:=xf 4
    have f5:=xf 5
    have m5:=X3.c5
    have HCB:=Zh hCB
    clear X20 B20 xf xl I4 X3 hCB
    unfold six at hW3
    cases made
    ·clear OK HCB
     go_wp2_with fail
     clear hW3 hW20 x0 x1 x2 x3 x4 x5 f0 f1 f2 f3 f4 f5 m5
     (with_reducible refine (divide_c pa pb (z+2) kb ca cb x y W3 I3.out.a I3.out.b hy0.out (Nat.lt_of_lt_of_le I3.out.lt (bp_mono (by decide)))).mono ?_)
     rintro e w6 ⟨qa,qk,qc,ra,rk,rc,rfl,_,l2,b6⟩
     have NX:Hid (Euc w n1 n2 pb ra kb cb rk rc y (x % y) w6):=by
      have h:=I3.out.keep b6
      refine⟨h.b,l2,h.bel,?_,Nat.le_of_lt (Nat.mod_lt _ hy0.out),Nat.lt_of_le_of_lt h.le h.lt⟩
      rw[←h.gcd,Nat.gcd_comm y,←Nat.gcd_rec,Nat.gcd_comm]
     clear l2 b6 I3
     go_wp2_with fail
     go_roundw
     case rel=>exact⟨pb,ra,kb,cb,rk,rc,y,x % y,rfl,rfl,NX.out⟩
     case measure=>rw[numAt_is NX.out.b,ML.out];exact Nat.mod_lt _ hy0.out
    ·obtain⟨a',b',hcm,hlt,hle,hg⟩:=OK.out rfl
     have HM1:Hid (if odd then b0*y=a0*x+a' else a0*x=b0*y+a'):=by
      cases odd
      ·simp only[Cmb,Bool.false_eq_true,if_false]at hcm ⊢;exact hcm.1
      ·simp only[Cmb,if_true]at hcm ⊢;exact hcm.1
     have HM2:Hid (if odd then a1*x=b1*y+b' else b1*y=a1*x+b'):=by
      cases odd
      ·simp only[Cmb,Bool.false_eq_true,if_false]at hcm ⊢;exact hcm.2
      ·simp only[Cmb,if_true]at hcm ⊢;exact hcm.2
     have HLT:=Zh hlt
     have HLE:=Zh hle
     have HG:=Zh hg
     clear hcm hlt hle hg OK
     go_wp2_with fail
     clear hW3 hW20 x0 x1 x2 x3 x4 x5 f0 f1 f2 f3 f4 f5 m5
     refine wp_region_noPanic ?_
     refine wp_region_held_drew (S:=CB w4.heap.size a0 b0 a1 b1 odd true) (by kernel_rfl) (HCB.out.keep (Below.refl _ _).drew) (fun hS=>?_)
     have hE:=Zh (I3.out.keep (Below.refl _ _).drew)
     clear HCB
     refine Zt (i:=0) (v:=?v0z9) rfl (Or.inl ⟨by rfl,?hy0z9⟩) ?rest0z9
     case hy0z9=>
      intro w hSw
      dsimp only[CB]at hSw
      go_simp
      try with_reducible rfl
     simp only[Act.put,Zd,Ze,Zf,Za,Zb,Zc]
     refine Zt (i:=1) (v:=?v1z10) rfl (Or.inl ⟨by rfl,?hy1z10⟩) ?rest1z10
     case hy1z10=>
      intro w hSw
      dsimp only[CB]at hSw
      go_simp
      try with_reducible rfl
     simp only[Act.put,Zd,Ze,Zf,Za,Zb,Zc]
     refine Zt (i:=2) (v:=?v2z11) rfl (Or.inl ⟨by rfl,?hy2z11⟩) ?rest2z11
     case hy2z11=>
      intro w hSw
      dsimp only[CB]at hSw
      go_simp
      try with_reducible rfl
     simp only[Act.put,Zd,Ze,Zf,Za,Zb,Zc]
     refine Zt (i:=4) (v:=?v4z12) rfl (Or.inl ⟨by rfl,?hy4z12⟩) ?rest4z12
     case hy4z12=>
      intro w hSw
      dsimp only[CB]at hSw
      go_simp
      try with_reducible rfl
     simp only[Act.put,Zd,Ze,Zf,Za,Zb,Zc]
     refine Zt (i:=5) (v:=?v5z13) rfl (Or.inl ⟨by rfl,?hy5z13⟩) ?rest5z13
     case hy5z13=>
      intro w hSw
      dsimp only[CB]at hSw
      go_simp
      try with_reducible rfl
     simp only[Act.put,Zd,Ze,Zf,Za,Zb,Zc]
     refine Zt (i:=6) (v:=?v6z14) rfl (Or.inl ⟨by rfl,?hy6z14⟩) ?rest6z14
     case hy6z14=>
      intro w hSw
      dsimp only[CB]at hSw
      go_simp
      try with_reducible rfl
     simp only[Act.put,Zd,Ze,Zf,Za,Zb,Zc]
     refine wpAnyH_ready (rs:=[3]) (by kernel_rfl) (by simp) ?_
     refine AllReadyH.cons rfl (fun K hK=>?_) AllReadyH.nil
     go_simp
     refine (first_c odd a0 b0 a1 b1 true pa pb (z+2) kb ca cb x y a' _ hE.out.a hE.out.b hE.out.lt (Nat.lt_of_le_of_lt hE.out.le hE.out.lt) q0 q1 HM1.out (.inr HLE.out)).mono ?_
     rintro e w5 ⟨ga,gk,gc,rfl,l5,b5⟩
     try go_simp
     have hT:=hS.keep b5
     have hE5:=Zh (hE.out.keep b5)
     have L5:=Zh l5
     refine hK.out _ _ hT (fun _=>?_)
     clear hK K hS b5 l5 hE I3
     have hS:=hT
     clear hT
     try simp only[Act.put,Za,Zb,Zc]
     refine wpAnyH_ready (rs:=[7]) (by kernel_rfl) (by simp) ?_
     refine AllReadyH.cons rfl (fun K hK=>?_) AllReadyH.nil
     go_simp
     refine (second_c odd a0 b0 a1 b1 true pa pb (z+2) kb ca cb x y b' _ hE5.out.a hE5.out.b hE5.out.lt (Nat.lt_of_le_of_lt hE5.out.le hE5.out.lt) q2 q3 HM2.out (.inl (by have:=HLT.out;have:=HLE.out;omega))).mono ?_
     rintro e w6 ⟨ha,hk2,hc,rfl,l6,b6⟩
     try go_simp
     have hT:=hS.keep b6
     have NX:Hid (Euc w n1 n2 ga ha gk gc hk2 hc a' b' w6):=by
      have h:=hE5.out.keep b6
      refine⟨L5.out.below b6,l6,h.bel,by rw[HG.out,h.gcd],Nat.le_of_lt HLT.out,?_⟩
      have:=HLE.out
      have:=h.le
      have:=h.lt
      omega
     refine hK.out _ _ hT (fun _=>?_)
     clear hK K hS b6 l6 hE5 L5
     have hS:=hT
     clear hT
     try simp only[Act.put,Za,Zb,Zc]
     refine Zt (i:=8) (v:=?v8z15) rfl (Or.inl ⟨by rfl,?hy8z15⟩) ?rest8z15
     case hy8z15=>
      intro w hSw
      dsimp only[CB]at hSw
      go_simp
      try with_reducible rfl
     simp only[Act.put,Zd,Ze,Zf,Za,Zb,Zc]
     refine Zt (i:=9) (v:=?v9z16) rfl (Or.inl ⟨by rfl,?hy9z16⟩) ?rest9z16
     case hy9z16=>
      intro w hSw
      dsimp only[CB]at hSw
      go_simp
      try with_reducible rfl
     simp only[Act.put,Zd,Ze,Zf,Za,Zb,Zc]
     refine wpAnyH_done (by kernel_rfl) ?_ _
     refine NoPanic.normal ?_
     clear hS
     go_wp2_with fail
     go_roundw
     case rel=>exact⟨ga,ha,gk,gc,hk2,hc,a',b',rfl,rfl,NX.out⟩
     case measure=>rw[numAt_is NX.out.b,ML.out];have:=HLT.out;have:=HLE.out;omega
   ·have hk':¬ (1:Int)<(kb:Int):=by omega
    rcases Nat.eq_zero_or_pos kb with e|e
    ·subst e
     have R:Hid (NmPost (Nat.gcd n1 n2) w (.returned (.slice pa ka ca)) wr):=by
      have h:=hI.out
      have hb:=h.b
      have hy:y=0:=by have:=hb.lt;rw[bp_zero]at this;omega
      refine⟨_,_,_,rfl,?_,h.bel⟩
      have hg:=h.gcd
      rw[hy,Nat.gcd_zero_right]at hg
      rw[←hg];exact h.a
     clear hI
     go_wp2
     go_ret
     exact R.out
    ·obtain rfl:kb=1:=by omega
     obtain⟨fb,rb,_,_,tb,sb,_⟩:=hI.out.b
     obtain⟨bb,ob,rfl,hbb,hcb⟩:=rb.at_ (show 0<1 by omega)
     rw[S_one]at sb
     have hlim:=rb.2.1 0 (by omega)
     have hpos:0<y:=by
      rcases tb with e|e
      ·omega
      ·simp at e;omega
     rw[sb]at hcb hlim
     rw[Nat.add_zero]at hcb
     have HP:=Zh hpos
     have HBB:=Zh hbb
     have HCC:=Zh hcb
     have HD:=Zh (divideShort_c pa ka ca x y wr hI.out.a hpos hlim)
     clear rb tb sb hpos hbb
     go_wp2_with fail
     (with_reducible refine HD.out.mono ?_)
     rintro e w6 ⟨qa,qk,qc,r,rfl,hr,_,b6⟩
     have hc6:w6.cell? ⟨bb,ob,none⟩=some (.int .u64 (y:Int)):=by rw[b6.cell (p:=⟨bb,ob,none⟩) HBB.out];exact HCC.out
     have B6:=Zh (hI.out.bel.trans (b6.mono hI.out.bel.size))
     have hrb:r<18446744073709551616:=by rw[hr];have:=Nat.mod_lt x HP.out;omega
     have HG:Hid (Nat.gcd y r=Nat.gcd n1 n2):=by unfold Hid;rw[hr,←hI.out.gcd,Nat.gcd_comm y,←Nat.gcd_rec,Nat.gcd_comm]
     clear b6 hr HCC HBB HD hI hcb
     go_wp2_with fail
     (with_reducible refine (commonLimb_c y r w6 hlim hrb (.inl HP.out)).mono ?_)
     rintro e w7 ⟨g,rfl,hg,hgb,qq,rfl⟩
     have R:Hid (NmPost (Nat.gcd n1 n2) w (.returned (.slice (some ⟨(w6.drewN qq).heap.size,0,none⟩) 1 1)) ((w6.drewN qq).alloc (.cells #[.int .u64 g] 144))):=by
      refine⟨_,_,_,rfl,⟨fun _=>g,built_one _ g hgb,by omega,by omega,.inr ?_,?_,Pl.some_ _ _⟩,?_⟩
      ·have hp:=Nat.gcd_pos_of_pos_left r HP.out
       rw[←hg]at hp
       show g≠0
       omega
      ·rw[S_one,hg,HG.out]
      ·exact (B6.out.trans ((bel_drewN w6 qq).mono B6.out.size)).alloc (by have:=B6.out.size;simpa using this) _
     clear hg
     generalize w6.drewN qq=w8 at *
     go_wp2
     go_ret
     exact R.out
def zv(b:Bool)(n:Nat):Int:=if b then -(n:Int) else n
theorem zv_false(n:Nat):zv false n=n:=rfl
theorem zv_true(n:Nat):zv true n=-(n:Int):=rfl
theorem zv_abs(b:Bool)(n:Nat):(zv b n).natAbs=n:=by cases b<;>simp[zv]
def Zn(W:World)(b:Bool)(a:Option Addr)(k c:Nat)(z:Int):Prop:=∃ n,Nm W a k c n∧(b=true→0<n)∧z=zv b n
theorem Zn.below{W W':World}{b:Bool}{a:Option Addr}{k c:Nat}{z:Int}(h:Zn W b a k c z)(hb:Below W.heap.size W W'):Zn W' b a k c z:=by
 obtain⟨n,h1,h2⟩:=h
 exact⟨n,h1.below hb,h2⟩
theorem Zn.nm{W:World}{b:Bool}{a:Option Addr}{k c:Nat}{z:Int}(h:Zn W b a k c z):Nm W a k c z.natAbs:=by
 obtain⟨n,h1,_,rfl⟩:=h
 rw[zv_abs];exact h1
theorem Zn.sign{W:World}{b:Bool}{a:Option Addr}{k c:Nat}{z:Int}(h:Zn W b a k c z):b=decide (z<0):=by
 obtain⟨n,_,h2,rfl⟩:=h
 cases b
 ·rw[zv_false];simp
 ·have:=h2 rfl
  rw[zv_true];simp;omega
theorem Zn.zv{W:World}{b:Bool}{a:Option Addr}{k c:Nat}{z:Int}(h:Zn W b a k c z):z=zv b z.natAbs:=by
 obtain⟨n,_,_,rfl⟩:=h
 rw[zv_abs]
def ZPost(z:Int)(w:World)(e:Ending)(w':World):Prop:=∃ b a k c,e=.returned (.agg #[.bool b,.slice a k c])∧Zn w' b a k c z∧Below w.heap.size w w'
structure B2 (W:World) (g:Nat) (x0 x1:Value):Prop where
 c0:W.cell? ⟨g,0,none⟩=some x0
 c1:W.cell? ⟨g,1,none⟩=some x1
 fr:∀ o,W.frozen? ⟨g,o,none⟩=false
 lt:g<W.heap.size
theorem B2.keep{W W':World}{g:Nat}{x0 x1:Value}(h:B2 W g x0 x1)(hb:Below W.heap.size W W'):B2 W' g x0 x1:=
 ⟨(hb.cell (p:=⟨g,0,none⟩) h.lt).trans h.c0,(hb.cell (p:=⟨g,1,none⟩) h.lt).trans h.c1,fun o=>(hb.frozen (p:=⟨g,o,none⟩) h.lt).trans (h.fr o),Nat.lt_of_lt_of_le h.lt hb.size⟩
theorem B2.made(W:World)(x0 x1:Value)(T:TypeId):B2 (W.alloc (.cells #[x0,x1] T)) W.heap.size x0 x1:=by
 refine⟨?_,?_,fun o=>by simp,by simp⟩
 all_goals (rw[World.cell?_alloc_new];rfl)
def two(W:World)(g:Nat)(y0 y1:Value):World:=(W.setCell ⟨g,0,none⟩ y0).setCell ⟨g,1,none⟩ y1
theorem two_size(W:World)(g:Nat)(y0 y1:Value):(two W g y0 y1).heap.size=W.heap.size:=by unfold two;simp
theorem B2.set{W:World}{g:Nat}{x0 x1:Value}(h:B2 W g x0 x1)(y0 y1:Value):B2 (two W g y0 y1) g y0 y1:=by
 have hne:∀ {i j:Nat},i≠j→(⟨g,i,none⟩:Addr)≠⟨g,j,none⟩:=fun h e=>by injection e with _ e2;exact h e2
 unfold two
 refine⟨?_,?_,fun o=>by simp only[World.frozen?_setCell];exact h.fr o,by simpa using h.lt⟩
 ·rw[World.cell?_setCell_other _ _ _ _ (hne (by decide)),World.cell?_setCell_same _ _ _ h.c0]
 ·rw[World.cell?_setCell_same _ _ _ (u:=x1) (by rw[World.cell?_setCell_other _ _ _ _ (hne (by decide))];exact h.c1)]
theorem B2.other{W:World}{g h:Nat}{x0 x1:Value}(hb:B2 W g x0 x1)(hne:h≠g)(y0 y1:Value):B2 (two W h y0 y1) g x0 x1:=by
 have hne':∀ {i j:Nat},(⟨h,i,none⟩:Addr)≠⟨g,j,none⟩:=fun e=>by injection e with e1 _;exact hne e1
 have e:∀ o,(two W h y0 y1).cell? ⟨g,o,none⟩=W.cell? ⟨g,o,none⟩:=fun o=>by
  unfold two
  rw[World.cell?_setCell_other _ _ _ _ hne',World.cell?_setCell_other _ _ _ _ hne']
 exact⟨(e 0).trans hb.c0,(e 1).trans hb.c1,fun o=>by unfold two;simp only[World.frozen?_setCell];exact hb.fr o,by rw[two_size];exact hb.lt⟩
theorem below_two{W0 W:World}{g:Nat}(h:Below W0.heap.size W0 W)(hg:W0.heap.size≤g)(y0 y1:Value):Below W0.heap.size W0 (two W g y0 y1):=
 (h.setCell (p:=⟨g,0,none⟩) hg y0).setCell (p:=⟨g,1,none⟩) hg y1
theorem Nm.set{W:World}{a:Option Addr}{k c n:Nat}(h:Nm W a k c n){p:Addr}{u:Value}(hu:W.cell? p=some u)(hne:∀ m,u≠.int .u64 m)(x:Value):Nm (W.setCell p x) a k c n:=by
 obtain⟨f,h1,h2⟩:=h
 refine⟨f,⟨h1.1,h1.2.1,fun h0=>?_⟩,h2⟩
 obtain⟨b,off,e,hl,hc⟩:=h1.2.2 h0
 refine⟨b,off,e,by simpa using hl,fun j hj=>?_⟩
 rw[World.cell?_setCell_other _ _ _ _ (by intro e;rw[e,hc j hj]at hu;injection hu with hu;exact hne _ hu.symm)]
 exact hc j hj
theorem Nm.set2{W:World}{a:Option Addr}{k c n:Nat}(h:Nm W a k c n){g:Nat}{s:Bool}{pa:Option Addr}{kk cc:Nat}(hb:B2 W g (.bool s) (.slice pa kk cc))(y0 y1:Value):Nm (two W g y0 y1) a k c n:=by
 unfold two
 refine (h.set hb.c0 (fun m e=>by cases e) y0).set (u:=.slice pa kk cc) ?_ (fun m e=>by cases e) y1
 rw[World.cell?_setCell_other _ _ _ _ (by intro e;injection e with _ e2;cases e2)]
 exact hb.c1
theorem Zn.set2{W:World}{b:Bool}{a:Option Addr}{k c:Nat}{z:Int}(h:Zn W b a k c z){g:Nat}{s:Bool}{pa:Option Addr}{kk cc:Nat}(hb:B2 W g (.bool s) (.slice pa kk cc))(y0 y1:Value):Zn (two W g y0 y1) b a k c z:=by
 obtain⟨n,h1,h2⟩:=h
 exact⟨n,h1.set2 hb y0 y1,h2⟩
structure I3 (w:World) (b1:Bool) (a1:Option Addr) (k1 c1:Nat) (b2:Bool) (a2:Option Addr) (k2 c2:Nat) (W:World):Prop where
 x:B2 W w.heap.size (.bool b1) (.slice a1 k1 c1)
 y:B2 W (w.heap.size+1) (.bool b2) (.slice a2 k2 c2)
 r:B2 W (w.heap.size+1+1) (.bool false) (.slice none 0 0)
 bel:Below w.heap.size w W
theorem I3.keep{w:World}{b1:Bool}{a1:Option Addr}{k1 c1:Nat}{b2:Bool}{a2:Option Addr}{k2 c2:Nat}{W W':World}(h:I3 w b1 a1 k1 c1 b2 a2 k2 c2 W)(hb:Below W.heap.size W W'):I3 w b1 a1 k1 c1 b2 a2 k2 c2 W':=
 ⟨h.x.keep hb,h.y.keep hb,h.r.keep hb,h.bel.trans (hb.mono h.bel.size)⟩
theorem I3.made(w:World) (b1:Bool) (a1:Option Addr) (k1 c1:Nat) (b2:Bool) (a2:Option Addr) (k2 c2:Nat) (T1 T2 T3:TypeId) :
  I3 w b1 a1 k1 c1 b2 a2 k2 c2 (((w.alloc (.cells #[.bool b1,.slice a1 k1 c1] T1)).alloc (.cells #[.bool b2,.slice a2 k2 c2] T2)).alloc (.cells #[.bool false,.slice none 0 0] T3)):=by
 have s1:(w.alloc (.cells #[.bool b1,.slice a1 k1 c1] T1)).heap.size=w.heap.size+1:=by simp
 have s2:((w.alloc (.cells #[.bool b1,.slice a1 k1 c1] T1)).alloc (.cells #[.bool b2,.slice a2 k2 c2] T2)).heap.size=w.heap.size+1+1:=by simp
 refine⟨((B2.made w _ _ T1).keep (bel_one _ _)).keep (bel_one _ _),?_,?_,?_⟩
 ·rw[←s1];exact (B2.made _ _ _ T2).keep (bel_one _ _)
 ·rw[←s2];exact B2.made _ _ _ T3
 ·exact (((Below.refl _ _).alloc (Nat.le_refl _) _).alloc (by simp) _).alloc (by simp;omega) _
set_option maxHeartbeats 1000000 in
theorem withSign_c(b:Bool) (a:Option Addr) (k c n:Nat) (w:World) (h:Nm w a k c n) :
  Calls Tryz.prog 129 #[.bool b,.slice a k c] w fun e w'=>∃ b',e=.returned (.agg #[.bool b',.slice a k c])∧Zn w' b' a k c (zv b n)∧Below w.heap.size w w':=by
 have H:=Zh h
 obtain⟨W0,hW0⟩:∃ W0,w.alloc (.cells #[.bool false,.slice none 0 0] 107)=W0:=⟨_,rfl⟩
 have X0:B2 W0 w.heap.size (.bool false) (.slice none 0 0):=by rw[←hW0];exact B2.made _ _ _ _
 have B0:Below w.heap.size w W0:=by rw[←hW0];exact bel_one _ _
 obtain⟨b',hb'⟩:∃ b',(b && decide (0<k))=b':=⟨_,rfl⟩
 obtain⟨W1,hW1⟩:∃ W1,two W0 w.heap.size (.bool b') (.slice a k c)=W1:=⟨_,rfl⟩
 have R1:B2 W1 w.heap.size (.bool b') (.slice a k c):=by rw[←hW1];exact X0.set _ _
 have PP:Hid (Zn W1 b' a k c (zv b n)∧Below w.heap.size w W1):=by
  have hb1:Below w.heap.size w W1:=by rw[←hW1];exact below_two B0 (Nat.le_refl _) _ _
  refine⟨⟨n,h.below hb1,fun e=>?_,?_⟩,hb1⟩
  ·subst hb'
   simp at e
   have:=h.pos e.2
   have:=bp_pos (k-1)
   omega
  ·subst hb'
   rcases Nat.eq_zero_or_pos k with e|e
   ·have hn:n=0:=by have:=h.lt;rw[e,bp_zero]at this;omega
    subst hn
    cases b<;>simp[zv,e]
   ·cases b<;>simp[zv,e]
 obtain⟨x0,x1,xf,_⟩:=id X0
 obtain⟨r0,r1,_,_⟩:=id R1
 have f0:=xf 0
 have f1:=xf 1
 clear xf X0 B0 R1 h
 unfold two at hW1
 cases b
 ·have hb2:b'=false:=by rw[←hb'];rfl
  subst hb2
  clear hb'
  go_enter Tryz.func129,Tryz.ntmps129
  go_wp2
  exact bodyPost_ret (v:=.agg #[.bool false,.slice a k c]) (by simp[results,Tryz.results129,go_sem,r0,r1]) rfl ⟨_,rfl,PP.out⟩
 ·by_cases hk:0<k
  ·have hb2:b'=true:=by rw[←hb'];simp[hk]
   subst hb2
   clear hb'
   have hk':(0:Int)<(k:Int):=by omega
   go_enter Tryz.func129,Tryz.ntmps129
   go_wp2
   exact bodyPost_ret (v:=.agg #[.bool true,.slice a k c]) (by simp[results,Tryz.results129,go_sem,r0,r1]) rfl ⟨_,rfl,PP.out⟩
  ·have hb2:b'=false:=by rw[←hb'];simp[hk]
   subst hb2
   clear hb'
   obtain rfl:k=0:=by omega
   go_enter Tryz.func129,Tryz.ntmps129
   go_wp2
   exact bodyPost_ret (v:=.agg #[.bool false,.slice a 0 c]) (by simp[results,Tryz.results129,go_sem,r0,r1]) rfl ⟨_,rfl,PP.out⟩
end Go.Proofs.YtghgbhmiliiohaaGreatDoor
