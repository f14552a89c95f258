/-
  Reading decimal texts of numbers of any size: the arithmetic.
-/
import Derived.Test.YtghgbhmiliiohaaGreatDoorAMQ
import Derived.Test.YtghgbhmiliiohaaGreatDoorAM17
import Derived.Test.YtghgbhmiliiohaaGreatDoorAM11
import Derived.Lib.ItoaNum
import Derived.Lib.ItoaLen
import Derived.Lib.TrimByte
set_option maxRecDepth 100000
namespace Go.Proofs.YtghgbhmiliiohaaGreatDoor
open Go.RowKit
set_option maxHeartbeats 4000000 in
theorem part_c(b1 b2:Bool) (a1 a2:Option Addr) (k1 k2 c1 c2:Nat) (z1 z2:Int) (w:World) (h1:Zn w b1 a1 k1 c1 z1) (h2:Zn w b2 a2 k2 c2 z2) (hz:z2≠0) (n1:z1.natAbs<bp 4000) :
  Calls Tryz.prog 101 #[.agg #[.bool b1,.slice a1 k1 c1],.agg #[.bool b2,.slice a2 k2 c2]] w (ZPost (z1.tdiv z2) w):=by
 obtain⟨W0,hW0⟩:∃ W0,((w.alloc (.cells #[.bool b1,.slice a1 k1 c1] 107)).alloc (.cells #[.bool b2,.slice a2 k2 c2] 107)).alloc (.cells #[.bool false,.slice none 0 0] 107)=W0:=⟨_,rfl⟩
 have J0:Hid (I3 w b1 a1 k1 c1 b2 a2 k2 c2 W0):=by rw[←hW0];exact I3.made _ _ _ _ _ _ _ _ _ _ _ _
 have M1:=Zh (fun W (h:I3 w b1 a1 k1 c1 b2 a2 k2 c2 W)=>h1.below h.bel)
 have M2:=Zh (fun W (h:I3 w b1 a1 k1 c1 b2 a2 k2 c2 W)=>h2.below h.bel)
 have N1:=Zh n1
 have HZ0:=Zh hz
 clear h1 h2 n1 hz
 go_enter Tryz.func101,Tryz.ntmps101
 go_wp2_with fail
 clear hW0
 refine wp_region_noPanic ?_
 refine wp_region_held_drew (S:=SI w.heap.size b1 a1 k1 c1 b2 a2 k2 c2) (by kernel_rfl) (J0.out.keep (Below.refl _ _).drew).si (fun hS=>?_)
 have J1:=Zh (J0.out.keep (Below.refl _ _).drew)
 refine Zt (i:=0) (v:=?v0z29) rfl (Or.inl ⟨by rfl,?hy0z29⟩) ?rest0z29
 case hy0z29=>
  intro w hSw
  dsimp only[SI]at hSw
  go_simp
  try with_reducible rfl
 simp only[Act.put,Zd,Ze,Zf,Za,Zb,Zc]
 refine wpAnyH_ready (rs:=[1]) (by kernel_rfl) (by simp) ?_
 refine AllReadyH.cons rfl (fun K hK=>?_) AllReadyH.nil
 go_simp
 refine (Of_c 1 _ (by decide) (by decide)).mono ?_
 rintro e W3 ⟨ob,oa,ok,oc,rfl,hn,bc⟩
 try go_simp
 have J3:=Zh (J1.out.keep bc)
 have hT:=J3.out.si
 have HO:=Zh hn
 refine hK.out _ _ hT (fun _=>?_)
 clear hK K hS bc J1 hn
 have hS:=hT
 clear hT
 try simp only[Act.put,Za,Zb,Zc]
 refine wpAnyH_ready (rs:=[2]) (by kernel_rfl) (by simp) ?_
 refine AllReadyH.cons rfl (fun K hK=>?_) AllReadyH.nil
 go_simp
 refine (Equal_c b2 ob a2 oa k2 ok c2 oc z2 1 _ (M2.out _ J3.out) HO.out).mono ?_
 rintro e W4 ⟨rfl,bc⟩
 try go_simp
 have J4:=Zh (J3.out.keep bc)
 have hT:=J4.out.si
 refine hK.out _ _ hT (fun _=>?_)
 clear hK K hS bc J3 HO
 have hS:=hT
 clear hT
 try simp only[Act.put,Za,Zb,Zc]
 refine wpAnyH_done (by kernel_rfl) ?_ _
 refine NoPanic.normal ?_
 clear hS
 have x0:=J4.out.x.c0
 have x1:=J4.out.x.c1
 have y0:=J4.out.y.c0
 have y1:=J4.out.y.c1
 by_cases h1:z2=1
 ·have hd:decide (z2=1)=true:=decide_eq_true h1
  have HZ:Hid (Zn W4 b1 a1 k1 c1 (z1.tdiv z2)):=by
   rw[h1]
   have:=M1.out _ J4.out
   rw[Int.tdiv_one];exact this
  rw[hd]
  clear h1 hd
  obtain⟨W9,hW9⟩:∃ W9,two W4 (w.heap.size+1+1) (.bool b1) (.slice a1 k1 c1)=W9:=⟨_,rfl⟩
  have R9:B2 W9 (w.heap.size+1+1) (.bool b1) (.slice a1 k1 c1):=by rw[←hW9];exact J4.out.r.set _ _
  have PP:Hid (ZPost (z1.tdiv z2) w (.returned (.agg #[.bool b1,.slice a1 k1 c1])) W9):=by
   rw[←hW9]
   exact⟨_,_,_,_,rfl,HZ.out.set2 J4.out.r _ _,below_two J4.out.bel (by omega) _ _⟩
  have q0:=J4.out.r.c0
  have q1:=J4.out.r.c1
  have g0:=J4.out.r.fr 0
  have g1:=J4.out.r.fr 1
  obtain⟨r0,r1,_,_⟩:=id R9
  unfold two at hW9
  clear R9
  go_wp2_with fail
  exact bodyPost_ret (v:=.agg #[.bool b1,.slice a1 k1 c1]) (by simp[results,Tryz.results101,go_sem,r0,r1]) rfl PP.out
 ·have hd:decide (z2=1)=false:=decide_eq_false h1
  rw[hd]
  clear h1 hd
  have HD:=Zh (Divide_c b1 b2 a1 a2 k1 k2 c1 c2 z1 z2 W4 (M1.out _ J4.out) (M2.out _ J4.out) HZ0.out N1.out)
  go_wp2_with fail
  clear x0 x1 y0 y1
  refine HD.out.mono ?_
  rintro e w6 ⟨qb,qa,qk,qc,rb,ra,rk,rc,rfl,hq,_,b6⟩
  have J6:=Zh (J4.out.keep b6)
  have Q6:=Zh hq
  clear hq b6 J4 HD
  obtain⟨WA,hWA⟩:∃ W,w6.alloc (.cells #[.bool false,.slice none 0 0] 107)=W:=⟨_,rfl⟩
  have A1:B2 WA w6.heap.size (.bool false) (.slice none 0 0):=by rw[←hWA];exact B2.made _ _ _ _
  have bA:Below w6.heap.size w6 WA:=by rw[←hWA];exact bel_one _ _
  have sA:WA.heap.size=w6.heap.size+1:=by rw[←hWA];simp
  obtain⟨WB,hWB⟩:∃ W,WA.alloc (.cells #[.bool false,.slice none 0 0] 107)=W:=⟨_,rfl⟩
  have B1:B2 WB WA.heap.size (.bool false) (.slice none 0 0):=by rw[←hWB];exact B2.made _ _ _ _
  have bB:Below WA.heap.size WA WB:=by rw[←hWB];exact bel_one _ _
  have A2:=A1.keep bB
  have BB:Below w6.heap.size w6 WB:=bA.trans (bB.mono bA.size)
  obtain⟨WC,hWC⟩:∃ W,two WB w6.heap.size (.bool qb) (.slice qa qk qc)=W:=⟨_,rfl⟩
  have A3:B2 WC w6.heap.size (.bool qb) (.slice qa qk qc):=by rw[←hWC];exact A2.set _ _
  have B3_:B2 WC WA.heap.size (.bool false) (.slice none 0 0):=by rw[←hWC];exact B1.other (by omega) _ _
  have BC:Below w6.heap.size w6 WC:=by rw[←hWC];exact below_two BB (Nat.le_refl _) _ _
  obtain⟨WD,hWD⟩:∃ W,two WC WA.heap.size (.bool rb) (.slice ra rk rc)=W:=⟨_,rfl⟩
  have A4:B2 WD w6.heap.size (.bool qb) (.slice qa qk qc):=by rw[←hWD];exact A3.other (by omega) _ _
  have BD:Below w6.heap.size w6 WD:=by rw[←hWD];exact below_two BC (by omega) _ _
  have J7:=Zh (J6.out.keep BD)
  have HZ:=Zh (Q6.out.below BD)
  have a20:=A2.c0
  have a21:=A2.c1
  have a2f0:=A2.fr 0
  have a2f1:=A2.fr 1
  have b30:=B3_.c0
  have b31:=B3_.c1
  have b3f0:=B3_.fr 0
  have b3f1:=B3_.fr 1
  have a40:=A4.c0
  have a41:=A4.c1
  unfold two at hWC hWD
  have HS:=Zh sA
  clear A1 bA B1 bB A2 BB A3 B3_ BC A4 BD J6 Q6 sA
  obtain⟨W9,hW9⟩:∃ W9,two WD (w.heap.size+1+1) (.bool qb) (.slice qa qk qc)=W9:=⟨_,rfl⟩
  have R9:B2 W9 (w.heap.size+1+1) (.bool qb) (.slice qa qk qc):=by rw[←hW9];exact J7.out.r.set _ _
  have PP:Hid (ZPost (z1.tdiv z2) w (.returned (.agg #[.bool qb,.slice qa qk qc])) W9):=by
   rw[←hW9]
   exact⟨_,_,_,_,rfl,HZ.out.set2 J7.out.r _ _,below_two J7.out.bel (by omega) _ _⟩
  have q0:=J7.out.r.c0
  have q1:=J7.out.r.c1
  have g0:=J7.out.r.fr 0
  have g1:=J7.out.r.fr 1
  obtain⟨r0,r1,_,_⟩:=id R9
  unfold two at hW9
  clear R9
  go_wp2_with fail
  exact bodyPost_ret (v:=.agg #[.bool qb,.slice qa qk qc]) (by simp[results,Tryz.results101,go_sem,r0,r1]) rfl PP.out
def SO(g gd:Nat)(b1:Bool)(a1:Option Addr)(k1 c1:Nat)(b2:Bool)(a2:Option Addr)(k2 c2:Nat)(b3:Bool)(a3:Option Addr)(k3 c3:Nat)(W:World):Prop:=
 W.cell? ⟨g,0,none⟩=some (.bool b1)∧W.cell? ⟨g,1,none⟩=some (.slice a1 k1 c1)∧W.cell? ⟨g+1,0,none⟩=some (.bool b2)∧W.cell? ⟨g+1,1,none⟩=some (.slice a2 k2 c2)∧W.cell? ⟨gd,0,none⟩=some (.bool b3)∧W.cell? ⟨gd,1,none⟩=some (.slice a3 k3 c3)
theorem Ov.so{w:World}{gd:Nat}{b1:Bool}{a1:Option Addr}{k1 c1:Nat}{b2:Bool}{a2:Option Addr}{k2 c2:Nat}{b3:Bool}{a3:Option Addr}{k3 c3:Nat}{W:World}(h:Ov w gd b1 a1 k1 c1 b2 a2 k2 c2 b3 a3 k3 c3 W):SO w.heap.size gd b1 a1 k1 c1 b2 a2 k2 c2 b3 a3 k3 c3 W:=⟨h.x.c0,h.x.c1,h.y.c0,h.y.c1,h.d.c0,h.d.c1⟩
theorem Ov.done{w:World}{gd:Nat}{b1:Bool}{a1:Option Addr}{k1 c1:Nat}{b2:Bool}{a2:Option Addr}{k2 c2:Nat}{b3:Bool}{a3:Option Addr}{k3 c3:Nat}{W:World}(h:Ov w gd b1 a1 k1 c1 b2 a2 k2 c2 b3 a3 k3 c3 W)(y0 y1 y2 y3:Value):SO w.heap.size gd b1 a1 k1 c1 b2 a2 k2 c2 b3 a3 k3 c3 (four W (w.heap.size+1+1) y0 y1 y2 y3):=by
 have hd:=h.hd
 exact⟨(four_cell (by omega) _ _ _ _ 0).trans h.x.c0,(four_cell (by omega) _ _ _ _ 1).trans h.x.c1,(four_cell (by omega) _ _ _ _ 0).trans h.y.c0,(four_cell (by omega) _ _ _ _ 1).trans h.y.c1,(four_cell (by omega) _ _ _ _ 0).trans h.d.c0,(four_cell (by omega) _ _ _ _ 1).trans h.d.c1⟩
set_option maxHeartbeats 4000000 in
theorem Over_pos(b1:Bool) (a1 a2:Option Addr) (k1 k2 c1 c2:Nat) (z1 z2:Int) (w:World) (h1:Zn w b1 a1 k1 c1 z1) (h2:Zn w false a2 k2 c2 z2) (hz:z2≠0) (n1:z1.natAbs<bp 2000) (n2:z2.natAbs<bp 2000) :
  Calls Tryz.prog 67 #[.agg #[.bool b1,.slice a1 k1 c1],.agg #[.bool false,.slice a2 k2 c2]] w (FrPost (z1.tdiv (ovG z1 z2)) (z2.tdiv (ovG z1 z2)) w):=by
 obtain⟨W0,hW0⟩:∃ W0,((w.alloc (.cells #[.bool b1,.slice a1 k1 c1] 107)).alloc (.cells #[.bool false,.slice a2 k2 c2] 107)).alloc (.cells #[.bool false,.slice none 0 0,.bool false,.slice none 0 0] 109)=W0:=⟨_,rfl⟩
 have s2:((w.alloc (.cells #[.bool b1,.slice a1 k1 c1] 107)).alloc (.cells #[.bool false,.slice a2 k2 c2] 107)).heap.size=w.heap.size+1+1:=by simp
 have X0:B2 W0 w.heap.size (.bool b1) (.slice a1 k1 c1):=by rw[←hW0];exact ((B2.made w _ _ _).keep (bel_one _ _)).keep (bel_one _ _)
 have Y0:B2 W0 (w.heap.size+1) (.bool false) (.slice a2 k2 c2):=by
  have s1:(w.alloc (.cells #[.bool b1,.slice a1 k1 c1] 107)).heap.size=w.heap.size+1:=by simp
  rw[←hW0,←s1];exact (B2.made _ _ _ _).keep (bel_one _ _)
 have R0:B4 W0 (w.heap.size+1+1) (.bool false) (.slice none 0 0) (.bool false) (.slice none 0 0):=by rw[←hW0,←s2];exact B4.made _ _ _ _ _ _
 have B0:Below w.heap.size w W0:=by rw[←hW0];exact (((Below.refl _ _).alloc (Nat.le_refl _) _).alloc (by simp) _).alloc (by simp;omega) _
 have S0:Hid (w.heap.size+1+1<W0.heap.size):=by rw[←hW0];simp[Hid]
 have HB0:=Zh B0
 have HX0:=Zh X0
 have HY0:=Zh Y0
 have HR0:=Zh R0
 have HC:=Zh (Common_c b1 false a1 a2 k1 k2 c1 c2 z1 z2 W0 (h1.below B0) (h2.below B0) n1 n2)
 have Z1:=Zh (h1.below B0)
 have Z2:=Zh (h2.below B0)
 have SG:=Zh h2.sign
 have N1:=Zh (Nat.lt_of_lt_of_le n1 (bp_mono (show 2000≤4000 by decide)))
 have N2:=Zh (Nat.lt_of_lt_of_le n2 (bp_mono (show 2000≤4000 by decide)))
 have HNE:=Zh (ovG_ne (n:=z1) hz)
 have x0:=X0.c0
 have x1:=X0.c1
 have y0:=Y0.c0
 have y1:=Y0.c1
 clear h1 h2 s2 hz n1 n2 X0 Y0 R0 B0
 go_enter Tryz.func67,Tryz.ntmps67
 go_wp2_with fail
 clear hW0
 clear x0 x1 y0 y1
 refine HC.out.mono ?_
 rintro e w1 ⟨gb,ga,gk,gc,rfl,hg,b1'⟩
 have HG1:=Zh hg
 have BB1:=Zh b1'
 clear hg b1' HC
 obtain⟨W2,hW2⟩:∃ W2,w1.alloc (.cells #[.bool false,.slice none 0 0] 107)=W2:=⟨_,rfl⟩
 have D2:B2 W2 w1.heap.size (.bool false) (.slice none 0 0):=by rw[←hW2];exact B2.made _ _ _ _
 have B2':Below w1.heap.size w1 W2:=by rw[←hW2];exact bel_one _ _
 have hb02:Below W0.heap.size W0 W2:=BB1.out.trans (B2'.mono BB1.out.size)
 have O2:Ov w w1.heap.size b1 a1 k1 c1 false a2 k2 c2 false none 0 0 W2:=⟨HX0.out.keep hb02,HY0.out.keep hb02,HR0.out.keep hb02,D2,Nat.lt_of_lt_of_le S0.out BB1.out.size,HB0.out.trans (hb02.mono HB0.out.size)⟩
 obtain⟨gd,hgd⟩:∃ gd,w1.heap.size=gd:=⟨_,rfl⟩
 rw[hgd]at D2 O2
 obtain⟨W3,hW3⟩:∃ W3,two W2 gd (.bool gb) (.slice ga gk gc)=W3:=⟨_,rfl⟩
 have O3:Hid (Ov w gd b1 a1 k1 c1 false a2 k2 c2 gb ga gk gc W3):=by rw[←hW3];exact O2.setD _ _ _ _
 have Z13:Hid (Zn W3 b1 a1 k1 c1 z1):=by rw[←hW3];exact (Z1.out.below hb02).set2 D2 _ _
 have Z23:Hid (Zn W3 false a2 k2 c2 z2):=by rw[←hW3];exact (Z2.out.below hb02).set2 D2 _ _
 have G3:Hid (Zn W3 gb ga gk gc (Int.gcd z1 z2)):=by rw[←hW3];exact (HG1.out.below B2').set2 D2 _ _
 have d0:=D2.c0
 have d1:=D2.c1
 have f0:=D2.fr 0
 have f1:=D2.fr 1
 clear D2 B2' hb02 O2 HX0 HY0 HR0 S0 HB0 Z1 Z2 HG1 BB1
 have yc0W3:=O3.out.y.c0
 have dc0W3:=O3.out.d.c0
 have dc1W3:=O3.out.d.c1
 have df0W3:=O3.out.d.fr 0
 have df1W3:=O3.out.d.fr 1
 unfold two at hW3
 go_wp2_with fail
 clear hW3 hW2 d0 d1 f0 f1
 clear yc0W3 dc0W3 dc1W3 df0W3 df1W3
 clear hgd
 have G5:Hid (Zn W3 gb ga gk gc (ovG z1 z2)):=by
  have e:ovG z1 z2=(Int.gcd z1 z2:Int):=by
   have:=SG.out
   unfold ovG
   rw[if_neg (by simpa using this.symm)]
  rw[e]
  exact G3.out
 clear G3
 refine wp_region_noPanic ?_
 refine wp_region_held_drew (S:=SO w.heap.size gd b1 a1 k1 c1 false a2 k2 c2 gb ga gk gc) (by kernel_rfl) (O3.out.keep (Below.refl _ _).drew).so (fun hS=>?_)
 have J1:=Zh (O3.out.keep (Below.refl _ _).drew)
 have M1:=Zh (Z13.out.below (Below.refl _ _).drew)
 have M2:=Zh (Z23.out.below (Below.refl _ _).drew)
 have G1:=Zh (G5.out.below (Below.refl _ _).drew)
 clear O3 Z13 Z23 G5
 refine Zt (i:=0) (v:=?v0z29) rfl (Or.inl ⟨by rfl,?hy0z29⟩) ?rest0z29
 case hy0z29=>
  intro w hSw
  dsimp only[SO]at hSw
  go_simp
  try with_reducible rfl
 simp only[Act.put,Zd,Ze,Zf,Za,Zb,Zc]
 refine Zt (i:=1) (v:=?v1z30) rfl (Or.inl ⟨by rfl,?hy1z30⟩) ?rest1z30
 case hy1z30=>
  intro w hSw
  dsimp only[SO]at hSw
  go_simp
  try with_reducible rfl
 simp only[Act.put,Zd,Ze,Zf,Za,Zb,Zc]
 refine Zt (i:=3) (v:=?v3z31) rfl (Or.inl ⟨by rfl,?hy3z31⟩) ?rest3z31
 case hy3z31=>
  intro w hSw
  dsimp only[SO]at hSw
  go_simp
  try with_reducible rfl
 simp only[Act.put,Zd,Ze,Zf,Za,Zb,Zc]
 refine Zt (i:=4) (v:=?v4z32) rfl (Or.inl ⟨by rfl,?hy4z32⟩) ?rest4z32
 case hy4z32=>
  intro w hSw
  dsimp only[SO]at hSw
  go_simp
  try with_reducible rfl
 simp only[Act.put,Zd,Ze,Zf,Za,Zb,Zc]
 refine wpAnyH_ready (rs:=[2]) (by kernel_rfl) (by simp) ?_
 refine AllReadyH.cons rfl (fun K hK=>?_) AllReadyH.nil
 go_simp
 refine (part_c b1 gb a1 ga k1 gk c1 gc z1 (ovG z1 z2) _ M1.out G1.out HNE.out N1.out).mono ?_
 rintro e W6 ⟨qb,qa,qk,qc,rfl,hq,bc⟩
 try go_simp
 have J6:=Zh (J1.out.keep bc)
 have hT:=J6.out.so
 have Q6:=Zh hq
 have M6:=Zh (M2.out.below bc)
 have G6:=Zh (G1.out.below bc)
 refine hK.out _ _ hT (fun _=>?_)
 clear hK K hS bc J1 hq M1 M2 G1
 have hS:=hT
 clear hT
 try simp only[Act.put,Za,Zb,Zc]
 refine wpAnyH_ready (rs:=[5]) (by kernel_rfl) (by simp) ?_
 refine AllReadyH.cons rfl (fun K hK=>?_) AllReadyH.nil
 go_simp
 refine (part_c false gb a2 ga k2 gk c2 gc z2 (ovG z1 z2) _ M6.out G6.out HNE.out N2.out).mono ?_
 rintro e W8 ⟨pb,pa,pk,pc,rfl,hq,bc⟩
 try go_simp
 have J8:=Zh (J6.out.keep bc)
 have hT:=J8.out.so
 have P8:=Zh hq
 have Q8:=Zh (Q6.out.below bc)
 refine hK.out _ _ hT (fun _=>?_)
 clear hK K hS bc J6 hq M6 G6 Q6
 have hS:=hT
 clear hT
 try simp only[Act.put,Za,Zb,Zc]
 refine Zt (i:=6) (v:=?v6z33) rfl (Or.inl ⟨by rfl,?hy6z33⟩) ?rest6z33
 case hy6z33=>
  intro w hSw
  dsimp only[SO]at hSw
  go_simp
  try with_reducible rfl
 simp only[Act.put,Zd,Ze,Zf,Za,Zb,Zc]
 refine wpAnyH_ready (rs:=[7]) (by kernel_rfl) (by simp) ?_
 refine AllReadyH.cons rfl (fun K hK=>?_) AllReadyH.nil
 have q0':=J8.out.r.c0
 have q1':=J8.out.r.c1
 have q2':=J8.out.r.c2
 have q3':=J8.out.r.c3
 have g0':=J8.out.r.fr 0
 have g1':=J8.out.r.fr 1
 have g2':=J8.out.r.fr 2
 have g3':=J8.out.r.fr 3
 go_simp
 clear q0' q1' q2' q3' g0' g1' g2' g3'
 have hT:=J8.out.done (.bool qb) (.slice qa qk qc) (.bool pb) (.slice pa pk pc)
 have R9:=J8.out.r.set (.bool qb) (.slice qa qk qc) (.bool pb) (.slice pa pk pc)
 have PP:Hid (FrPost (z1.tdiv (ovG z1 z2)) (z2.tdiv (ovG z1 z2)) w (.returned (.agg #[.bool qb,.slice qa qk qc,.bool pb,.slice pa pk pc])) (four W8 (w.heap.size+1+1) (.bool qb) (.slice qa qk qc) (.bool pb) (.slice pa pk pc))):=
  ⟨_,_,_,_,_,_,_,_,rfl,Q8.out.set4 J8.out.r (NL.b _) (NL.s _ _ _) (NL.b _) (NL.s _ _ _) _ _ _ _,P8.out.set4 J8.out.r (NL.b _) (NL.s _ _ _) (NL.b _) (NL.s _ _ _) _ _ _ _,below_four J8.out.bel (by omega) _ _ _ _⟩
 unfold four at hT R9 PP
 refine hK.out _ _ hT (fun _=>?_)
 clear hK K hS
 try simp only[Act.put,Za,Zb,Zc]
 refine wpAnyH_done (by kernel_rfl) ?_ _
 refine NoPanic.normal ?_
 obtain⟨r0,r1,r2,r3,_,_⟩:=id R9
 clear hT R9
 go_wp2_with fail
 exact bodyPost_ret (v:=.agg #[.bool qb,.slice qa qk qc,.bool pb,.slice pa pk pc]) (by simp[results,Tryz.results67,go_sem,r0,r1,r2,r3]) rfl PP.out
set_option maxHeartbeats 4000000 in
theorem Over_neg(b1:Bool) (a1 a2:Option Addr) (k1 k2 c1 c2:Nat) (z1 z2:Int) (w:World) (h1:Zn w b1 a1 k1 c1 z1) (h2:Zn w true a2 k2 c2 z2) (hz:z2≠0) (n1:z1.natAbs<bp 2000) (n2:z2.natAbs<bp 2000) :
  Calls Tryz.prog 67 #[.agg #[.bool b1,.slice a1 k1 c1],.agg #[.bool true,.slice a2 k2 c2]] w (FrPost (z1.tdiv (ovG z1 z2)) (z2.tdiv (ovG z1 z2)) w):=by
 obtain⟨W0,hW0⟩:∃ W0,((w.alloc (.cells #[.bool b1,.slice a1 k1 c1] 107)).alloc (.cells #[.bool true,.slice a2 k2 c2] 107)).alloc (.cells #[.bool false,.slice none 0 0,.bool false,.slice none 0 0] 109)=W0:=⟨_,rfl⟩
 have s2:((w.alloc (.cells #[.bool b1,.slice a1 k1 c1] 107)).alloc (.cells #[.bool true,.slice a2 k2 c2] 107)).heap.size=w.heap.size+1+1:=by simp
 have X0:B2 W0 w.heap.size (.bool b1) (.slice a1 k1 c1):=by rw[←hW0];exact ((B2.made w _ _ _).keep (bel_one _ _)).keep (bel_one _ _)
 have Y0:B2 W0 (w.heap.size+1) (.bool true) (.slice a2 k2 c2):=by
  have s1:(w.alloc (.cells #[.bool b1,.slice a1 k1 c1] 107)).heap.size=w.heap.size+1:=by simp
  rw[←hW0,←s1];exact (B2.made _ _ _ _).keep (bel_one _ _)
 have R0:B4 W0 (w.heap.size+1+1) (.bool false) (.slice none 0 0) (.bool false) (.slice none 0 0):=by rw[←hW0,←s2];exact B4.made _ _ _ _ _ _
 have B0:Below w.heap.size w W0:=by rw[←hW0];exact (((Below.refl _ _).alloc (Nat.le_refl _) _).alloc (by simp) _).alloc (by simp;omega) _
 have S0:Hid (w.heap.size+1+1<W0.heap.size):=by rw[←hW0];simp[Hid]
 have HB0:=Zh B0
 have HX0:=Zh X0
 have HY0:=Zh Y0
 have HR0:=Zh R0
 have HC:=Zh (Common_c b1 true a1 a2 k1 k2 c1 c2 z1 z2 W0 (h1.below B0) (h2.below B0) n1 n2)
 have Z1:=Zh (h1.below B0)
 have Z2:=Zh (h2.below B0)
 have SG:=Zh h2.sign
 have N1:=Zh (Nat.lt_of_lt_of_le n1 (bp_mono (show 2000≤4000 by decide)))
 have N2:=Zh (Nat.lt_of_lt_of_le n2 (bp_mono (show 2000≤4000 by decide)))
 have HNE:=Zh (ovG_ne (n:=z1) hz)
 have x0:=X0.c0
 have x1:=X0.c1
 have y0:=Y0.c0
 have y1:=Y0.c1
 clear h1 h2 s2 hz n1 n2 X0 Y0 R0 B0
 go_enter Tryz.func67,Tryz.ntmps67
 go_wp2_with fail
 clear hW0
 clear x0 x1 y0 y1
 refine HC.out.mono ?_
 rintro e w1 ⟨gb,ga,gk,gc,rfl,hg,b1'⟩
 have HG1:=Zh hg
 have BB1:=Zh b1'
 clear hg b1' HC
 obtain⟨W2,hW2⟩:∃ W2,w1.alloc (.cells #[.bool false,.slice none 0 0] 107)=W2:=⟨_,rfl⟩
 have D2:B2 W2 w1.heap.size (.bool false) (.slice none 0 0):=by rw[←hW2];exact B2.made _ _ _ _
 have B2':Below w1.heap.size w1 W2:=by rw[←hW2];exact bel_one _ _
 have hb02:Below W0.heap.size W0 W2:=BB1.out.trans (B2'.mono BB1.out.size)
 have O2:Ov w w1.heap.size b1 a1 k1 c1 true a2 k2 c2 false none 0 0 W2:=⟨HX0.out.keep hb02,HY0.out.keep hb02,HR0.out.keep hb02,D2,Nat.lt_of_lt_of_le S0.out BB1.out.size,HB0.out.trans (hb02.mono HB0.out.size)⟩
 obtain⟨gd,hgd⟩:∃ gd,w1.heap.size=gd:=⟨_,rfl⟩
 rw[hgd]at D2 O2
 obtain⟨W3,hW3⟩:∃ W3,two W2 gd (.bool gb) (.slice ga gk gc)=W3:=⟨_,rfl⟩
 have O3:Hid (Ov w gd b1 a1 k1 c1 true a2 k2 c2 gb ga gk gc W3):=by rw[←hW3];exact O2.setD _ _ _ _
 have Z13:Hid (Zn W3 b1 a1 k1 c1 z1):=by rw[←hW3];exact (Z1.out.below hb02).set2 D2 _ _
 have Z23:Hid (Zn W3 true a2 k2 c2 z2):=by rw[←hW3];exact (Z2.out.below hb02).set2 D2 _ _
 have G3:Hid (Zn W3 gb ga gk gc (Int.gcd z1 z2)):=by rw[←hW3];exact (HG1.out.below B2').set2 D2 _ _
 have d0:=D2.c0
 have d1:=D2.c1
 have f0:=D2.fr 0
 have f1:=D2.fr 1
 clear D2 B2' hb02 O2 HX0 HY0 HR0 S0 HB0 Z1 Z2 HG1 BB1
 have yc0W3:=O3.out.y.c0
 have dc0W3:=O3.out.d.c0
 have dc1W3:=O3.out.d.c1
 have df0W3:=O3.out.d.fr 0
 have df1W3:=O3.out.d.fr 1
 unfold two at hW3
 go_wp2_with fail
 clear hW3 hW2 d0 d1 f0 f1
 clear yc0W3 dc0W3 dc1W3 df0W3 df1W3
 clear hgd
 refine (Minus_c gb ga gk gc _ W3 G3.out).mono ?_
 rintro e w4 ⟨hb,ha,hk,hc,rfl,hg4,b4⟩
 have O4:=Zh (O3.out.keep b4)
 have Z14:=Zh (Z13.out.below b4)
 have Z24:=Zh (Z23.out.below b4)
 have HG4:=Zh hg4
 clear hg4 b4 O3 Z13 Z23 G3
 obtain⟨W5,hW5⟩:∃ W5,two w4 gd (.bool hb) (.slice ha hk hc)=W5:=⟨_,rfl⟩
 have O5:Hid (Ov w gd b1 a1 k1 c1 true a2 k2 c2 hb ha hk hc W5):=by rw[←hW5];exact O4.out.setD _ _ _ _
 have Z15:Hid (Zn W5 b1 a1 k1 c1 z1):=by rw[←hW5];exact Z14.out.set2 O4.out.d _ _
 have Z25:Hid (Zn W5 true a2 k2 c2 z2):=by rw[←hW5];exact Z24.out.set2 O4.out.d _ _
 have G5:Hid (Zn W5 hb ha hk hc (ovG z1 z2)):=by
  rw[←hW5]
  have e:ovG z1 z2=-(Int.gcd z1 z2:Int):=by
   have:=SG.out
   unfold ovG
   rw[if_pos (by simpa using this.symm)]
  rw[e]
  exact HG4.out.set2 O4.out.d _ _
 have dc0w4:=O4.out.d.c0
 have dc1w4:=O4.out.d.c1
 have df0w4:=O4.out.d.fr 0
 have df1w4:=O4.out.d.fr 1
 clear O4 Z14 Z24 HG4
 unfold two at hW5
 go_wp2_with fail
 clear hW5
 clear dc0w4 dc1w4 df0w4 df1w4
 refine wp_region_noPanic ?_
 refine wp_region_held_drew (S:=SO w.heap.size gd b1 a1 k1 c1 true a2 k2 c2 hb ha hk hc) (by kernel_rfl) (O5.out.keep (Below.refl _ _).drew).so (fun hS=>?_)
 have J1:=Zh (O5.out.keep (Below.refl _ _).drew)
 have M1:=Zh (Z15.out.below (Below.refl _ _).drew)
 have M2:=Zh (Z25.out.below (Below.refl _ _).drew)
 have G1:=Zh (G5.out.below (Below.refl _ _).drew)
 clear O5 Z15 Z25 G5
 refine Zt (i:=0) (v:=?v0z34) rfl (Or.inl ⟨by rfl,?hy0z34⟩) ?rest0z34
 case hy0z34=>
  intro w hSw
  dsimp only[SO]at hSw
  go_simp
  try with_reducible rfl
 simp only[Act.put,Zd,Ze,Zf,Za,Zb,Zc]
 refine Zt (i:=1) (v:=?v1z35) rfl (Or.inl ⟨by rfl,?hy1z35⟩) ?rest1z35
 case hy1z35=>
  intro w hSw
  dsimp only[SO]at hSw
  go_simp
  try with_reducible rfl
 simp only[Act.put,Zd,Ze,Zf,Za,Zb,Zc]
 refine Zt (i:=3) (v:=?v3z36) rfl (Or.inl ⟨by rfl,?hy3z36⟩) ?rest3z36
 case hy3z36=>
  intro w hSw
  dsimp only[SO]at hSw
  go_simp
  try with_reducible rfl
 simp only[Act.put,Zd,Ze,Zf,Za,Zb,Zc]
 refine Zt (i:=4) (v:=?v4z37) rfl (Or.inl ⟨by rfl,?hy4z37⟩) ?rest4z37
 case hy4z37=>
  intro w hSw
  dsimp only[SO]at hSw
  go_simp
  try with_reducible rfl
 simp only[Act.put,Zd,Ze,Zf,Za,Zb,Zc]
 refine wpAnyH_ready (rs:=[2]) (by kernel_rfl) (by simp) ?_
 refine AllReadyH.cons rfl (fun K hK=>?_) AllReadyH.nil
 go_simp
 refine (part_c b1 hb a1 ha k1 hk c1 hc z1 (ovG z1 z2) _ M1.out G1.out HNE.out N1.out).mono ?_
 rintro e W6 ⟨qb,qa,qk,qc,rfl,hq,bc⟩
 try go_simp
 have J6:=Zh (J1.out.keep bc)
 have hT:=J6.out.so
 have Q6:=Zh hq
 have M6:=Zh (M2.out.below bc)
 have G6:=Zh (G1.out.below bc)
 refine hK.out _ _ hT (fun _=>?_)
 clear hK K hS bc J1 hq M1 M2 G1
 have hS:=hT
 clear hT
 try simp only[Act.put,Za,Zb,Zc]
 refine wpAnyH_ready (rs:=[5]) (by kernel_rfl) (by simp) ?_
 refine AllReadyH.cons rfl (fun K hK=>?_) AllReadyH.nil
 go_simp
 refine (part_c true hb a2 ha k2 hk c2 hc z2 (ovG z1 z2) _ M6.out G6.out HNE.out N2.out).mono ?_
 rintro e W8 ⟨pb,pa,pk,pc,rfl,hq,bc⟩
 try go_simp
 have J8:=Zh (J6.out.keep bc)
 have hT:=J8.out.so
 have P8:=Zh hq
 have Q8:=Zh (Q6.out.below bc)
 refine hK.out _ _ hT (fun _=>?_)
 clear hK K hS bc J6 hq M6 G6 Q6
 have hS:=hT
 clear hT
 try simp only[Act.put,Za,Zb,Zc]
 refine Zt (i:=6) (v:=?v6z38) rfl (Or.inl ⟨by rfl,?hy6z38⟩) ?rest6z38
 case hy6z38=>
  intro w hSw
  dsimp only[SO]at hSw
  go_simp
  try with_reducible rfl
 simp only[Act.put,Zd,Ze,Zf,Za,Zb,Zc]
 refine wpAnyH_ready (rs:=[7]) (by kernel_rfl) (by simp) ?_
 refine AllReadyH.cons rfl (fun K hK=>?_) AllReadyH.nil
 have q0':=J8.out.r.c0
 have q1':=J8.out.r.c1
 have q2':=J8.out.r.c2
 have q3':=J8.out.r.c3
 have g0':=J8.out.r.fr 0
 have g1':=J8.out.r.fr 1
 have g2':=J8.out.r.fr 2
 have g3':=J8.out.r.fr 3
 go_simp
 clear q0' q1' q2' q3' g0' g1' g2' g3'
 have hT:=J8.out.done (.bool qb) (.slice qa qk qc) (.bool pb) (.slice pa pk pc)
 have R9:=J8.out.r.set (.bool qb) (.slice qa qk qc) (.bool pb) (.slice pa pk pc)
 have PP:Hid (FrPost (z1.tdiv (ovG z1 z2)) (z2.tdiv (ovG z1 z2)) w (.returned (.agg #[.bool qb,.slice qa qk qc,.bool pb,.slice pa pk pc])) (four W8 (w.heap.size+1+1) (.bool qb) (.slice qa qk qc) (.bool pb) (.slice pa pk pc))):=
  ⟨_,_,_,_,_,_,_,_,rfl,Q8.out.set4 J8.out.r (NL.b _) (NL.s _ _ _) (NL.b _) (NL.s _ _ _) _ _ _ _,P8.out.set4 J8.out.r (NL.b _) (NL.s _ _ _) (NL.b _) (NL.s _ _ _) _ _ _ _,below_four J8.out.bel (by omega) _ _ _ _⟩
 unfold four at hT R9 PP
 refine hK.out _ _ hT (fun _=>?_)
 clear hK K hS
 try simp only[Act.put,Za,Zb,Zc]
 refine wpAnyH_done (by kernel_rfl) ?_ _
 refine NoPanic.normal ?_
 obtain⟨r0,r1,r2,r3,_,_⟩:=id R9
 clear hT R9
 go_wp2_with fail
 exact bodyPost_ret (v:=.agg #[.bool qb,.slice qa qk qc,.bool pb,.slice pa pk pc]) (by simp[results,Tryz.results67,go_sem,r0,r1,r2,r3]) rfl PP.out
theorem Over_c(b1 b2:Bool) (a1 a2:Option Addr) (k1 k2 c1 c2:Nat) (z1 z2:Int) (w:World) (h1:Zn w b1 a1 k1 c1 z1) (h2:Zn w b2 a2 k2 c2 z2) (hz:z2≠0) (n1:z1.natAbs<bp 2000) (n2:z2.natAbs<bp 2000) :
  Calls Tryz.prog 67 #[.agg #[.bool b1,.slice a1 k1 c1],.agg #[.bool b2,.slice a2 k2 c2]] w (FrPost (z1.tdiv (ovG z1 z2)) (z2.tdiv (ovG z1 z2)) w):=by
 cases b2
 ·exact Over_pos b1 a1 a2 k1 k2 c1 c2 z1 z2 w h1 h2 hz n1 n2
 ·exact Over_neg b1 a1 a2 k1 k2 c1 c2 z1 z2 w h1 h2 hz n1 n2
/-! ### The numeral with zeros ahead of it -/
def padL(m n:Nat):List UInt8:=(List.range m).map fun i=>UInt8.ofNat (48+n / 10 ^ (m-1-i) % 10)
theorem padL_succ(m n:Nat):padL (m+1) n=padL m (n / 10) ++ [UInt8.ofNat (48+n % 10)]:=by
 unfold padL
 rw[List.range_succ,List.map_append]
 congr 1
 ·refine List.map_congr_left fun i hi=>?_
  have hi:=List.mem_range.1 hi
  have e:m+1-1-i=(m-1-i)+1:=by omega
  rw[e,Nat.pow_succ,Nat.mul_comm,←Nat.div_div_eq_div_mul]
 ·simp
theorem padL_length(m n:Nat):(padL m n).length=m:=by simp[padL]
theorem padL_add(a:Nat):∀ b n:Nat,padL (a+b) n=padL a (n / 10 ^ b) ++ padL b (n % 10 ^ b)
 | 0,n=>by simp[padL]
 | b+1,n=>by
  have hp:0<10 ^ b:=Nat.pow_pos (by decide)
  have e1:n / 10 / 10 ^ b=n / 10 ^ (b+1):=by rw[Nat.pow_succ,Nat.mul_comm,Nat.div_div_eq_div_mul]
  have e2:n % 10 ^ (b+1) / 10=n / 10 % 10 ^ b:=by rw[Nat.pow_succ,Nat.mul_comm,Nat.mod_mul_right_div_self]
  have e3:n % 10 ^ (b+1) % 10=n % 10:=by rw[Nat.pow_succ,Nat.mod_mul_left_mod]
  rw[←Nat.add_assoc,padL_succ,padL_add a b (n / 10),padL_succ,e1,e2,e3,List.append_assoc]
theorem padL_zero(m:Nat):(padL m 0).dropWhile (· == 48)=[]:=by
 induction m with
 | zero=>rfl
 | succ m ih=>rw[padL_succ,Nat.zero_div,List.dropWhile_append,ih];rfl
theorem decDigits_ne(n:Nat):Lib.decDigits n≠[]:=by
 intro h
 have:=Lib.decDigits_length n
 rw[h]at this
 have:=Lib.nDigits_pos n
 simp at *
 omega
theorem digit_ne{d:Nat}(h0:0<d)(h9:d<10):(UInt8.ofNat (48+d) == 48)=false:=by
 match d,h0,h9 with
 | 1,_,_=>rfl
 | 2,_,_=>rfl
 | 3,_,_=>rfl
 | 4,_,_=>rfl
 | 5,_,_=>rfl
 | 6,_,_=>rfl
 | 7,_,_=>rfl
 | 8,_,_=>rfl
 | 9,_,_=>rfl
theorem trim_padL(m:Nat):∀ n:Nat,0<n→n<10 ^ m→(padL m n).dropWhile (· == 48)=Lib.decDigits n:=by
 induction m with
 | zero=>intro n h0 h1;simp at h1;omega
 | succ m ih=>
  intro n h0 h1
  rw[padL_succ,List.dropWhile_append]
  by_cases h:n<10
  ·have e:n / 10=0:=by omega
   have e':n % 10=n:=by omega
   rw[e,padL_zero,e',Lib.decDigits_one h]
   rw[if_pos (show ([]:List UInt8).isEmpty=true from rfl),List.dropWhile_cons_of_neg (by rw[digit_ne h0 h];simp)]
  ·rw[ih (n / 10) (by omega) (by rw[Nat.pow_succ]at h1;omega)]
   have hne:=decDigits_ne (n / 10)
   rw[if_neg (by simpa[List.isEmpty_iff] using hne)]
   rw[Lib.decDigits.eq_def n,dif_neg h]
/-! ### Chunks of 19 digits -/
@[irreducible] def ch:Nat:=10000000000000000000
theorem ch_is:ch=10000000000000000000:=by unfold ch;rfl
theorem ch_pow:ch=10 ^ 19:=by rw[ch_is]
def chunk(n j:Nat):Nat:=n / ch ^ j % ch
theorem ch_pos(j:Nat):0<ch ^ j:=Nat.pow_pos (by rw[ch_is];decide)
theorem chunk_lt(n j:Nat):chunk n j<10000000000000000000:=by unfold chunk;rw[←ch_is];exact Nat.mod_lt _ (by rw[ch_is];decide)
theorem chunk_next(n j:Nat):n / ch ^ j / ch=n / ch ^ (j+1):=by rw[Nat.pow_succ,Nat.div_div_eq_div_mul]
theorem padL_chunk(n j t:Nat):padL (19*t) (n / ch ^ (j+1)) ++ padL 19 (chunk n j)=padL (19*(t+1)) (n / ch ^ j):=by
 rw[show 19*(t+1)=19*t+19 by omega,padL_add,←ch_pow,chunk_next]
 rfl
theorem chunks_few{n K j:Nat}(hn:n<bp K)(hj:0<n / ch ^ j):j<2*K:=by
 rcases Nat.lt_or_ge j (2*K) with l|l
 ·exact l
 ·exfalso
  have h1:ch ^ j≤n:=by
   rcases Nat.lt_or_ge n (ch ^ j) with q|q
   ·rw[Nat.div_eq_of_lt q]at hj;omega
   ·exact q
  have h2:ch ^ (2*K)≤ch ^ j:=Nat.pow_le_pow_right (by rw[ch_is];decide) l
  have h3:bp K≤ch ^ (2*K):=by
   rw[Nat.pow_mul,bp_pow]
   exact Nat.pow_le_pow_left (by rw[ch_is];decide) K
  omega
theorem zero_next{n m:Nat}(h:n / ch ^ m=0):n<10 ^ (19*m):=by
 rw[Nat.pow_mul,←ch_pow]
 exact (Nat.div_eq_zero_iff.1 h).resolve_left (by have:=ch_pos m;omega)
/-! ### The digits of a chunk -/
def pw(i:Nat):Nat:=1000000000000000000 / 10 ^ i
theorem pw_succ(i:Nat):pw (i+1)=pw i / 10:=by unfold pw;rw[Nat.pow_succ,Nat.div_div_eq_div_mul]
theorem pw_eq{i:Nat}(h:i≤18):pw i=10 ^ (18-i):=by
 unfold pw
 rw[show (1000000000000000000:Nat)=10 ^ (18-i)*10 ^ i by rw[←Nat.pow_add,show 18-i+i=18 by omega]]
 exact Nat.mul_div_cancel _ (Nat.pow_pos (by decide))
theorem pw_end:pw 19=0:=by unfold pw;exact Nat.div_eq_of_lt (by decide)
theorem pw_le(i:Nat):pw i≤1000000000000000000:=Nat.div_le_self _ _
theorem digit_toNat{d:Nat}(h:d<10):(UInt8.ofNat (48+d)).toNat=48+d:=by
 rw[UInt8.toNat_ofNat'];omega
def val(l:List UInt8):Nat:=l.foldl (fun a c=>a*10+(c.toNat-48)) 0
theorem foldl_val(l:List UInt8):∀ a:Nat,l.foldl (fun a c=>a*10+(c.toNat-48)) a=a*10 ^ l.length+val l:=by
 induction l with
 | nil=>intro a;simp[val]
 | cons x l ih=>
  intro a
  have e:val (x::l)=(0*10+(x.toNat-48))*10 ^ l.length+val l:=by
   show l.foldl _ (0*10+(x.toNat-48))=_
   exact ih _
  rw[Nat.zero_mul,Nat.zero_add]at e
  rw[e,List.foldl_cons,ih,List.length_cons,Nat.pow_succ]
  have:(a*10+(x.toNat-48))*10 ^ l.length=a*(10 ^ l.length*10)+(x.toNat-48)*10 ^ l.length:=by grind
  omega
theorem val_append(a b:List UInt8):val (a ++ b)=val a*10 ^ b.length+val b:=by
 unfold val
 rw[List.foldl_append]
 exact foldl_val b _
theorem val_snoc(a:List UInt8)(x:UInt8):val (a ++ [x])=val a*10+(x.toNat-48):=by
 rw[val_append];simp[val]
def isDig(c:UInt8):Bool:=decide (48≤c.toNat) && decide (c.toNat≤57)
theorem isDig_iff{c:UInt8}:isDig c=true↔48≤c.toNat∧c.toNat≤57:=by unfold isDig;simp
def digs(l:List UInt8):Bool:=l.all isDig
theorem digs_append(a b:List UInt8):digs (a ++ b)=(digs a && digs b):=by unfold digs;exact List.all_append
theorem val_lt{l:List UInt8}:digs l=true→val l<10 ^ l.length:=by
 induction l with
 | nil=>intro _;simp[val]
 | cons x l ih=>
  intro h
  have hx:isDig x=true∧digs l=true:=by simpa[digs] using h
  have h1:=isDig_iff.1 hx.1
  have h2:=ih hx.2
  have e:val (x::l)=(x.toNat-48)*10 ^ l.length+val l:=by
   have:=val_append [x] l
   simpa[val] using this
  rw[e,List.length_cons,Nat.pow_succ]
  have:(x.toNat-48)*10 ^ l.length≤9*10 ^ l.length:=Nat.mul_le_mul_right _ (by omega)
  omega
theorem digs_dec(n:Nat):digs (Lib.decDigits n)=true:=by
 induction n using Nat.strongRecOn with
 | _ n ih=>
  rw[Lib.decDigits.eq_def]
  split
  ·next h=>
   simp only[digs,List.all_cons,List.all_nil,Bool.and_true]
   rw[isDig_iff,digit_toNat h]
   omega
  ·next h=>
   rw[digs_append,ih (n / 10) (by omega)]
   simp only[digs,List.all_cons,List.all_nil,Bool.and_true,Bool.true_and]
   rw[isDig_iff,digit_toNat (Nat.mod_lt _ (by decide))]
   omega
theorem val_dec(n:Nat):val (Lib.decDigits n)=n:=by
 induction n using Nat.strongRecOn with
 | _ n ih=>
  rw[Lib.decDigits.eq_def]
  split
  ·next h=>
   have:val [UInt8.ofNat (48+n)]=(UInt8.ofNat (48+n)).toNat-48:=by simp[val]
   rw[this,digit_toNat h];omega
  ·next h=>
   rw[val_snoc,ih (n / 10) (by omega),digit_toNat (Nat.mod_lt _ (by decide))]
   omega
theorem head_dec(n:Nat):∃ c r,Lib.decDigits n=c::r∧(c.toNat=48→n=0∧r=[]):=by
 induction n using Nat.strongRecOn with
 | _ n ih=>
  rw[Lib.decDigits.eq_def]
  split
  ·next h=>
   refine⟨_,[],rfl,fun e=>?_⟩
   rw[digit_toNat h]at e
   exact⟨by omega,rfl⟩
  ·next h=>
   obtain⟨c,r,e,hc⟩:=ih (n / 10) (by omega)
   refine⟨c,r ++ [UInt8.ofNat (48+n % 10)],by rw[e];rfl,fun h48=>?_⟩
   have:=(hc h48).1
   omega
theorem pow_bp(m:Nat):10 ^ (16*m)≤bp m:=by
 rw[bp_pow,Nat.pow_mul]
 exact Nat.pow_le_pow_left (by decide) m
theorem val_bp{l:List UInt8}(h:digs l=true)(hl:l.length≤2000):val l<bp 125:=
 by
 have h1:l.length≤16*125:=by omega
 have h2:=pow_bp 125
 have h3:=val_lt h
 generalize 16*125=m at h1 h2
 exact Nat.lt_of_lt_of_le h3 (Nat.le_trans (Nat.pow_le_pow_right (by decide) h1) h2)
def zread(l:List UInt8):Option Int:=
 let ds:=Lib.trimPrefix l [45]
 let neg:=decide (ds.length<l.length)
 if ds=[]∨(ds.head?=some 48∧(neg=true∨1<ds.length))∨digs ds=false then none
 else some (if neg then -(val ds:Int) else val ds)
theorem trim_minus(l:List UInt8):Lib.trimPrefix (45::l) [45]=l:=by simp[Lib.trimPrefix,Lib.hasPrefix]
theorem trim_plain{c:UInt8}{r:List UInt8}(h:c.toNat≠45):Lib.trimPrefix (c::r) [45]=c::r:=by
 have hc:c≠45:=fun e=>h (by rw[e];rfl)
 have hc':¬ (45:UInt8)=c:=fun e=>hc e.symm
 simp[Lib.trimPrefix,Lib.hasPrefix,hc,hc']
theorem zread_tz(neg:Bool)(n:Nat)(h:neg=true→0<n):zread (if neg then 45::Lib.decDigits n else Lib.decDigits n)=some (if neg then -(n:Int) else n):=by
 obtain⟨c,r,e,hc⟩:=head_dec n
 have hd:=digs_dec n
 have hv:=val_dec n
 have h48:c=48→c.toNat=48:=fun e=>by rw[e];rfl
 cases neg
 ·have hx:isDig c=true:=by rw[e]at hd;simp[digs]at hd;exact hd.1
  have hn:=(isDig_iff.1 hx).1
  simp only[Bool.false_eq_true,if_false]
  unfold zread
  rw[e,trim_plain (by omega),←e]
  have hne:¬ (Lib.decDigits n).length<(Lib.decDigits n).length:=by omega
  simp only[decide_eq_false hne]
  rw[if_neg ?_,hv]
  ·rfl
  ·rintro (h1|⟨h1,h2⟩|h1)
   ·rw[e]at h1;cases h1
   ·rw[e]at h1 h2
    have:=hc (h48 (by simpa using h1))
    rw[this.2]at h2
    simp at h2
   ·rw[hd]at h1;cases h1
 ·have hp:=h rfl
  simp only[if_true]
  unfold zread
  rw[trim_minus]
  have hne:(Lib.decDigits n).length<(45::Lib.decDigits n).length:=by simp
  simp only[decide_eq_true hne]
  rw[if_neg ?_,hv]
  ·rfl
  ·rintro (h1|⟨h1,h2⟩|h1)
   ·rw[e]at h1;cases h1
   ·rw[e]at h1
    have:=hc (h48 (by simpa using h1))
    omega
   ·rw[hd]at h1;cases h1
end Go.Proofs.YtghgbhmiliiohaaGreatDoor
