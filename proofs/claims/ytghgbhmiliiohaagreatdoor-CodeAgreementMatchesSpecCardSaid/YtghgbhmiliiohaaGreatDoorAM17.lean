/-
  Fractions of whole numbers of any size: boxes.
-/
import Derived.Test.YtghgbhmiliiohaaGreatDoorAMQ
import Derived.Test.YtghgbhmiliiohaaGreatDoorAM16
set_option maxRecDepth 100000
namespace Go.Proofs.YtghgbhmiliiohaaGreatDoor
open Go.RowKit
theorem zv_mul(b1 b2:Bool)(n1 n2:Nat):zv (b1 != b2) (n1*n2)=zv b1 n1*zv b2 n2:=by
 cases b1<;>cases b2<;>simp[zv,Int.neg_mul,Int.mul_neg]
theorem zv_same(b:Bool)(n1 n2:Nat):zv b (n1+n2)=zv b n1+zv b n2:=by
 cases b
 ·simp[zv]
 ·simp only[zv,if_true];omega
theorem zv_diff{b1 b2:Bool}(h:b1≠b2){n1 n2:Nat}(hle:n2≤n1):zv b1 (n1-n2)=zv b1 n1+zv b2 n2:=by
 cases b1<;>cases b2
 ·exact absurd rfl h
 ·simp only[zv,if_true,Bool.false_eq_true,if_false];omega
 ·simp only[zv,if_true,Bool.false_eq_true,if_false];omega
 ·exact absurd rfl h
theorem zv_minus(b:Bool)(n:Nat):zv (!b) n=-(zv b n):=by cases b<;>simp[zv]
def SI(g:Nat)(b1:Bool)(a1:Option Addr)(k1 c1:Nat)(b2:Bool)(a2:Option Addr)(k2 c2:Nat)(W:World):Prop:=
 W.cell? ⟨g,0,none⟩=some (.bool b1)∧W.cell? ⟨g,1,none⟩=some (.slice a1 k1 c1)∧W.cell? ⟨g+1,0,none⟩=some (.bool b2)∧W.cell? ⟨g+1,1,none⟩=some (.slice a2 k2 c2)
theorem I3.si{w:World}{b1:Bool}{a1:Option Addr}{k1 c1:Nat}{b2:Bool}{a2:Option Addr}{k2 c2:Nat}{W:World}(h:I3 w b1 a1 k1 c1 b2 a2 k2 c2 W):SI w.heap.size b1 a1 k1 c1 b2 a2 k2 c2 W:=⟨h.x.c0,h.x.c1,h.y.c0,h.y.c1⟩
theorem I3.done{w:World}{b1:Bool}{a1:Option Addr}{k1 c1:Nat}{b2:Bool}{a2:Option Addr}{k2 c2:Nat}{W:World}(h:I3 w b1 a1 k1 c1 b2 a2 k2 c2 W)(y0 y1:Value):SI w.heap.size b1 a1 k1 c1 b2 a2 k2 c2 (two W (w.heap.size+1+1) y0 y1):=
 ⟨(h.x.other (by omega) _ _).c0,(h.x.other (by omega) _ _).c1,(h.y.other (by omega) _ _).c0,(h.y.other (by omega) _ _).c1⟩
set_option maxHeartbeats 4000000 in
theorem Times_c(b1 b2:Bool) (a1 a2:Option Addr) (k1 k2 c1 c2:Nat) (z1 z2:Int) (w:World) (h1:Zn w b1 a1 k1 c1 z1) (h2:Zn w b2 a2 k2 c2 z2) (n1:z1.natAbs<bp 2000) (n2:z2.natAbs<bp 2000) :
  Calls Tryz.prog 141 #[.agg #[.bool b1,.slice a1 k1 c1],.agg #[.bool b2,.slice a2 k2 c2]] w (ZPost (z1*z2) w):=by
 obtain⟨W0,hW0⟩:∃ W0,((w.alloc (.cells #[.bool b1,.slice a1 k1 c1] 107)).alloc (.cells #[.bool b2,.slice a2 k2 c2] 107)).alloc (.cells #[.bool false,.slice none 0 0] 107)=W0:=⟨_,rfl⟩
 have J0:Hid (I3 w b1 a1 k1 c1 b2 a2 k2 c2 W0):=by rw[←hW0];exact I3.made _ _ _ _ _ _ _ _ _ _ _ _
 have M1:=Zh (fun W (h:I3 w b1 a1 k1 c1 b2 a2 k2 c2 W)=>h1.nm.below h.bel)
 have M2:=Zh (fun W (h:I3 w b1 a1 k1 c1 b2 a2 k2 c2 W)=>h2.nm.below h.bel)
 have N1:=Zh n1
 have N2:=Zh n2
 have E1:=Zh h1.zv
 have E2:=Zh h2.zv
 clear h1 h2 n1 n2
 go_enter Tryz.func141,Tryz.ntmps141
 go_wp2_with fail
 clear hW0
 refine wp_region_noPanic ?_
 refine wp_region_held_drew (S:=SI w.heap.size b1 a1 k1 c1 b2 a2 k2 c2) (by kernel_rfl) (J0.out.keep (Below.refl _ _).drew).si (fun hS=>?_)
 have J1:=Zh (J0.out.keep (Below.refl _ _).drew)
 refine Zt (i:=0) (v:=?v0z1) rfl (Or.inl ⟨by rfl,?hy0z1⟩) ?rest0z1
 case hy0z1=>
  intro w hSw
  dsimp only[SI]at hSw
  go_simp
  try with_reducible rfl
 simp only[Act.put,Zd,Ze,Zf,Za,Zb,Zc]
 refine Zt (i:=1) (v:=?v1z2) rfl (Or.inl ⟨by rfl,?hy1z2⟩) ?rest1z2
 case hy1z2=>
  intro w hSw
  dsimp only[SI]at hSw
  go_simp
  try with_reducible rfl
 simp only[Act.put,Zd,Ze,Zf,Za,Zb,Zc]
 refine Zt (i:=2) (v:=?v2z3) rfl (Or.inl ⟨by rfl,?hy2z3⟩) ?rest2z3
 case hy2z3=>
  intro w hSw
  dsimp only[SI]at hSw
  go_simp
  try with_reducible rfl
 simp only[Act.put,Zd,Ze,Zf,Za,Zb,Zc]
 refine Zt (i:=3) (v:=?v3z4) rfl (Or.inl ⟨by rfl,?hy3z4⟩) ?rest3z4
 case hy3z4=>
  intro w hSw
  dsimp only[SI]at hSw
  go_simp
  try with_reducible rfl
 simp only[Act.put,Zd,Ze,Zf,Za,Zb,Zc]
 refine Zt (i:=4) (v:=?v4z5) rfl (Or.inl ⟨by rfl,?hy4z5⟩) ?rest4z5
 case hy4z5=>
  intro w hSw
  dsimp only[SI]at hSw
  go_simp
  try with_reducible rfl
 simp only[Act.put,Zd,Ze,Zf,Za,Zb,Zc]
 refine Zt (i:=5) (v:=?v5z6) rfl (Or.inl ⟨by rfl,?hy5z6⟩) ?rest5z6
 case hy5z6=>
  intro w hSw
  dsimp only[SI]at hSw
  go_simp
  try with_reducible rfl
 simp only[Act.put,Zd,Ze,Zf,Za,Zb,Zc]
 refine Zt (i:=6) (v:=?v6z7) rfl (Or.inl ⟨by rfl,?hy6z7⟩) ?rest6z7
 case hy6z7=>
  intro w hSw
  dsimp only[SI]at hSw
  go_simp
  try with_reducible rfl
 simp only[Act.put,Zd,Ze,Zf,Za,Zb,Zc]
 refine Zt (i:=7) (v:=?v7z8) rfl (Or.inl ⟨by rfl,?hy7z8⟩) ?rest7z8
 case hy7z8=>
  intro w hSw
  dsimp only[SI]at hSw
  go_simp
  try with_reducible rfl
 simp only[Act.put,Zd,Ze,Zf,Za,Zb,Zc]
 refine Zt (i:=8) (v:=?v8z9) rfl (Or.inl ⟨by rfl,?hy8z9⟩) ?rest8z9
 case hy8z9=>
  intro w hSw
  dsimp only[SI]at hSw
  go_simp
  try with_reducible rfl
 simp only[Act.put,Zd,Ze,Zf,Za,Zb,Zc]
 refine wpAnyH_ready (rs:=[9]) (by kernel_rfl) (by simp) ?_
 refine AllReadyH.cons rfl (fun K hK=>?_) AllReadyH.nil
 go_simp
 refine (product_c a1 a2 k1 k2 c1 c2 _ _ _ (M1.out _ J1.out) (M2.out _ J1.out) N1.out N2.out).mono ?_
 rintro e W2 ⟨pa,pk,pc,rfl,hp,bc⟩
 try go_simp
 have J2:=Zh (J1.out.keep bc)
 have hT:=J2.out.si
 have HP:=Zh hp
 refine hK.out _ _ hT (fun _=>?_)
 clear hK K hS bc J1 hp
 have hS:=hT
 clear hT
 try simp only[Act.put,Za,Zb,Zc]
 refine wpAnyH_ready (rs:=[10]) (by kernel_rfl) (by simp) ?_
 refine AllReadyH.cons rfl (fun K hK=>?_) AllReadyH.nil
 go_simp
 refine (withSign_c (b1 != b2) pa pk pc _ W2 HP.out).mono ?_
 rintro e W3 ⟨b',rfl,hz,bc⟩
 try go_simp
 have J3:=Zh (J2.out.keep bc)
 have hT:=J3.out.si
 have HZ:Hid (Zn W3 b' pa pk pc (z1*z2)):=by
  rw[zv_mul,←E1.out,←E2.out]at hz
  exact hz
 refine hK.out _ _ hT (fun _=>?_)
 clear hK K hS bc J2 hz HP
 have hS:=hT
 clear hT
 try simp only[Act.put,Za,Zb,Zc]
 refine wpAnyH_ready (rs:=[11]) (by kernel_rfl) (by simp) ?_
 refine AllReadyH.cons rfl (fun K hK=>?_) AllReadyH.nil
 have q0:=J3.out.r.c0
 have q1:=J3.out.r.c1
 have g0:=J3.out.r.fr 0
 have g1:=J3.out.r.fr 1
 go_simp
 clear q0 q1 g0 g1
 have hT:=J3.out.done (.bool b') (.slice pa pk pc)
 have R9:=J3.out.r.set (.bool b') (.slice pa pk pc)
 have PP:Hid (ZPost (z1*z2) w (.returned (.agg #[.bool b',.slice pa pk pc])) (two W3 (w.heap.size+1+1) (.bool b') (.slice pa pk pc))):=
  ⟨_,_,_,_,rfl,HZ.out.set2 J3.out.r _ _,below_two J3.out.bel (by omega) _ _⟩
 unfold two at hT R9 PP
 refine hK.out _ _ hT (fun _=>?_)
 clear hK K hS
 try simp only[Act.put,Za,Zb,Zc]
 refine wpAnyH_done (by kernel_rfl) ?_ _
 refine NoPanic.normal ?_
 obtain⟨r0,r1,_,_⟩:=id R9
 clear hT R9
 go_wp2_with fail
 exact bodyPost_ret (v:=.agg #[.bool b',.slice pa pk pc]) (by simp[results,Tryz.results141,go_sem,r0,r1]) rfl PP.out
set_option maxHeartbeats 4000000 in
theorem Plus_same(b:Bool) (a1 a2:Option Addr) (k1 k2 c1 c2:Nat) (z1 z2:Int) (w:World) (h1:Zn w b a1 k1 c1 z1) (h2:Zn w b a2 k2 c2 z2) (n1:z1.natAbs<bp 2000) (n2:z2.natAbs<bp 2000) :
  Calls Tryz.prog 142 #[.agg #[.bool b,.slice a1 k1 c1],.agg #[.bool b,.slice a2 k2 c2]] w (ZPost (z1+z2) w):=by
 obtain⟨W0,hW0⟩:∃ W0,((w.alloc (.cells #[.bool b,.slice a1 k1 c1] 107)).alloc (.cells #[.bool b,.slice a2 k2 c2] 107)).alloc (.cells #[.bool false,.slice none 0 0] 107)=W0:=⟨_,rfl⟩
 have J0:Hid (I3 w b a1 k1 c1 b a2 k2 c2 W0):=by rw[←hW0];exact I3.made _ _ _ _ _ _ _ _ _ _ _ _
 have M1:=Zh (fun W (h:I3 w b a1 k1 c1 b a2 k2 c2 W)=>h1.nm.below h.bel)
 have M2:=Zh (fun W (h:I3 w b a1 k1 c1 b a2 k2 c2 W)=>h2.nm.below h.bel)
 have N1:=Zh n1
 have N2:=Zh n2
 have E1:=Zh h1.zv
 have E2:=Zh h2.zv
 have P1:Hid (b=true→0<z1.natAbs):=by
  intro e
  obtain⟨n,_,hp,rfl⟩:=h1
  rw[zv_abs];exact hp e
 have hbb:(b == b)=true:=by simp
 clear h1 h2 n1 n2
 have x0:=J0.out.x.c0
 have x1:=J0.out.x.c1
 have y0:=J0.out.y.c0
 have y1:=J0.out.y.c1
 go_enter Tryz.func142,Tryz.ntmps142
 go_wp2_with fail
 clear hW0
 clear x0 x1 y0 y1
 refine wp_region_noPanic ?_
 refine wp_region_held_drew (S:=SI w.heap.size b a1 k1 c1 b a2 k2 c2) (by kernel_rfl) (J0.out.keep (Below.refl _ _).drew).si (fun hS=>?_)
 have J1:=Zh (J0.out.keep (Below.refl _ _).drew)
 refine Zt (i:=0) (v:=?v0z10) rfl (Or.inl ⟨by rfl,?hy0z10⟩) ?rest0z10
 case hy0z10=>
  intro w hSw
  dsimp only[SI]at hSw
  go_simp
  try with_reducible rfl
 simp only[Act.put,Zd,Ze,Zf,Za,Zb,Zc]
 refine Zt (i:=1) (v:=?v1z11) rfl (Or.inl ⟨by rfl,?hy1z11⟩) ?rest1z11
 case hy1z11=>
  intro w hSw
  dsimp only[SI]at hSw
  go_simp
  try with_reducible rfl
 simp only[Act.put,Zd,Ze,Zf,Za,Zb,Zc]
 refine Zt (i:=2) (v:=?v2z12) rfl (Or.inl ⟨by rfl,?hy2z12⟩) ?rest2z12
 case hy2z12=>
  intro w hSw
  dsimp only[SI]at hSw
  go_simp
  try with_reducible rfl
 simp only[Act.put,Zd,Ze,Zf,Za,Zb,Zc]
 refine Zt (i:=3) (v:=?v3z13) rfl (Or.inl ⟨by rfl,?hy3z13⟩) ?rest3z13
 case hy3z13=>
  intro w hSw
  dsimp only[SI]at hSw
  go_simp
  try with_reducible rfl
 simp only[Act.put,Zd,Ze,Zf,Za,Zb,Zc]
 refine Zt (i:=4) (v:=?v4z14) rfl (Or.inl ⟨by rfl,?hy4z14⟩) ?rest4z14
 case hy4z14=>
  intro w hSw
  dsimp only[SI]at hSw
  go_simp
  try with_reducible rfl
 simp only[Act.put,Zd,Ze,Zf,Za,Zb,Zc]
 refine Zt (i:=5) (v:=?v5z15) rfl (Or.inl ⟨by rfl,?hy5z15⟩) ?rest5z15
 case hy5z15=>
  intro w hSw
  dsimp only[SI]at hSw
  go_simp
  try with_reducible rfl
 simp only[Act.put,Zd,Ze,Zf,Za,Zb,Zc]
 refine wpAnyH_ready (rs:=[6]) (by kernel_rfl) (by simp) ?_
 refine AllReadyH.cons rfl (fun K hK=>?_) AllReadyH.nil
 go_simp
 refine (sum_c a1 a2 k1 k2 c1 c2 _ _ _ (M1.out _ J1.out) (M2.out _ J1.out) N1.out N2.out).mono ?_
 rintro e W3 ⟨pa,pk,pc,rfl,hp,bc⟩
 try go_simp
 have J3:=Zh (J1.out.keep bc)
 have hT:=J3.out.si
 have HZ:Hid (Zn W3 b pa pk pc (z1+z2)):=by
  refine⟨_,hp,fun e=>by have:=P1.out e;omega,?_⟩
  rw[zv_same,←E1.out,←E2.out]
 refine hK.out _ _ hT (fun _=>?_)
 clear hK K hS bc J1 hp
 have hS:=hT
 clear hT
 try simp only[Act.put,Za,Zb,Zc]
 refine Zt (i:=7) (v:=?v7z16) rfl (Or.inl ⟨by rfl,?hy7z16⟩) ?rest7z16
 case hy7z16=>
  intro w hSw
  dsimp only[SI]at hSw
  go_simp
  try with_reducible rfl
 simp only[Act.put,Zd,Ze,Zf,Za,Zb,Zc]
 refine wpAnyH_ready (rs:=[8]) (by kernel_rfl) (by simp) ?_
 refine AllReadyH.cons rfl (fun K hK=>?_) AllReadyH.nil
 have q0:=J3.out.r.c0
 have q1:=J3.out.r.c1
 have g0:=J3.out.r.fr 0
 have g1:=J3.out.r.fr 1
 go_simp
 clear q0 q1 g0 g1
 have hT:=J3.out.done (.bool b) (.slice pa pk pc)
 have R9:=J3.out.r.set (.bool b) (.slice pa pk pc)
 have PP:Hid (ZPost (z1+z2) w (.returned (.agg #[.bool b,.slice pa pk pc])) (two W3 (w.heap.size+1+1) (.bool b) (.slice pa pk pc))):=
  ⟨_,_,_,_,rfl,HZ.out.set2 J3.out.r _ _,below_two J3.out.bel (by omega) _ _⟩
 unfold two at hT R9 PP
 refine hK.out _ _ hT (fun _=>?_)
 clear hK K hS
 try simp only[Act.put,Za,Zb,Zc]
 refine wpAnyH_done (by kernel_rfl) ?_ _
 refine NoPanic.normal ?_
 obtain⟨r0,r1,_,_⟩:=id R9
 clear hT R9
 go_wp2_with fail
 exact bodyPost_ret (v:=.agg #[.bool b,.slice pa pk pc]) (by simp[results,Tryz.results142,go_sem,r0,r1]) rfl PP.out
set_option maxHeartbeats 4000000 in
theorem Plus_diff(b1 b2:Bool) (a1 a2:Option Addr) (k1 k2 c1 c2:Nat) (z1 z2:Int) (w:World) (h1:Zn w b1 a1 k1 c1 z1) (h2:Zn w b2 a2 k2 c2 z2) (hne:b1≠b2) (hlt:z2.natAbs≤z1.natAbs) :
  Calls Tryz.prog 142 #[.agg #[.bool b1,.slice a1 k1 c1],.agg #[.bool b2,.slice a2 k2 c2]] w (ZPost (z1+z2) w):=by
 obtain⟨W0,hW0⟩:∃ W0,((w.alloc (.cells #[.bool b1,.slice a1 k1 c1] 107)).alloc (.cells #[.bool b2,.slice a2 k2 c2] 107)).alloc (.cells #[.bool false,.slice none 0 0] 107)=W0:=⟨_,rfl⟩
 have J0:Hid (I3 w b1 a1 k1 c1 b2 a2 k2 c2 W0):=by rw[←hW0];exact I3.made _ _ _ _ _ _ _ _ _ _ _ _
 have M1:=Zh h1.nm
 have M2:=Zh h2.nm
 have E1:=Zh h1.zv
 have E2:=Zh h2.zv
 have HC:=Zh (compare_c a1 a2 k1 k2 c1 c2 _ _ W0 (h1.nm.below J0.out.bel) (h2.nm.below J0.out.bel))
 have hd:decide (sgn z1.natAbs z2.natAbs<0)=false:=by rw[sgn_neg];simp;omega
 have HLE:=Zh hlt
 have hbe:(b1 == b2)=false:=by rw[beq_eq_false_iff_ne];exact hne
 have HNE:=Zh hne
 clear h1 h2 hne hlt
 generalize sgn z1.natAbs z2.natAbs=sg at *
 have x0:=J0.out.x.c0
 have x1:=J0.out.x.c1
 have y0:=J0.out.y.c0
 have y1:=J0.out.y.c1
 go_enter Tryz.func142,Tryz.ntmps142
 go_wp2_with fail
 clear hW0
 refine HC.out.mono ?_
 rintro e w1 ⟨rfl,q,rfl⟩
 have J1:=Zh (J0.out.keep (bel_drewN W0 q))
 have M1':=Zh (M1.out.below (J1.out.bel))
 have M2':=Zh (M2.out.below (J1.out.bel))
 clear x0 x1 y0 y1 HC J0 M1 M2
 generalize W0.drewN q=W1 at *
 have x0:=J1.out.x.c0
 have x1:=J1.out.x.c1
 have y0:=J1.out.y.c0
 have y1:=J1.out.y.c1
 have J0:=Zh J1.out
 have M1:=Zh M1'.out
 have M2:=Zh M2'.out
 clear J1 M1' M2'
 go_wp2_with fail
 clear x0 x1 y0 y1
 refine wp_region_noPanic ?_
 refine wp_region_held_drew (S:=SI w.heap.size b1 a1 k1 c1 b2 a2 k2 c2) (by kernel_rfl) (J0.out.keep (Below.refl _ _).drew).si (fun hS=>?_)
 have J2:=Zh (J0.out.keep (Below.refl _ _).drew)
 refine Zt (i:=0) (v:=?v0z17) rfl (Or.inl ⟨by rfl,?hy0z17⟩) ?rest0z17
 case hy0z17=>
  intro w hSw
  dsimp only[SI]at hSw
  go_simp
  try with_reducible rfl
 simp only[Act.put,Zd,Ze,Zf,Za,Zb,Zc]
 refine Zt (i:=1) (v:=?v1z18) rfl (Or.inl ⟨by rfl,?hy1z18⟩) ?rest1z18
 case hy1z18=>
  intro w hSw
  dsimp only[SI]at hSw
  go_simp
  try with_reducible rfl
 simp only[Act.put,Zd,Ze,Zf,Za,Zb,Zc]
 refine Zt (i:=2) (v:=?v2z19) rfl (Or.inl ⟨by rfl,?hy2z19⟩) ?rest2z19
 case hy2z19=>
  intro w hSw
  dsimp only[SI]at hSw
  go_simp
  try with_reducible rfl
 simp only[Act.put,Zd,Ze,Zf,Za,Zb,Zc]
 refine Zt (i:=3) (v:=?v3z20) rfl (Or.inl ⟨by rfl,?hy3z20⟩) ?rest3z20
 case hy3z20=>
  intro w hSw
  dsimp only[SI]at hSw
  go_simp
  try with_reducible rfl
 simp only[Act.put,Zd,Ze,Zf,Za,Zb,Zc]
 refine Zt (i:=4) (v:=?v4z21) rfl (Or.inl ⟨by rfl,?hy4z21⟩) ?rest4z21
 case hy4z21=>
  intro w hSw
  dsimp only[SI]at hSw
  go_simp
  try with_reducible rfl
 simp only[Act.put,Zd,Ze,Zf,Za,Zb,Zc]
 refine Zt (i:=5) (v:=?v5z22) rfl (Or.inl ⟨by rfl,?hy5z22⟩) ?rest5z22
 case hy5z22=>
  intro w hSw
  dsimp only[SI]at hSw
  go_simp
  try with_reducible rfl
 simp only[Act.put,Zd,Ze,Zf,Za,Zb,Zc]
 refine wpAnyH_ready (rs:=[6]) (by kernel_rfl) (by simp) ?_
 refine AllReadyH.cons rfl (fun K hK=>?_) AllReadyH.nil
 go_simp
 refine (difference_c a1 a2 k1 k2 c1 c2 _ _ _ (M1.out.below (Below.refl _ _).drew) (M2.out.below (Below.refl _ _).drew) (by have:=HLE.out;omega)).mono ?_
 rintro e W4 ⟨pa,pk,pc,rfl,hp,bc⟩
 try go_simp
 have J4:=Zh (J2.out.keep bc)
 have hT:=J4.out.si
 have HP:=Zh hp
 refine hK.out _ _ hT (fun _=>?_)
 clear hK K hS bc J2 hp
 have hS:=hT
 clear hT
 try simp only[Act.put,Za,Zb,Zc]
 refine wpAnyH_ready (rs:=[7]) (by kernel_rfl) (by simp) ?_
 refine AllReadyH.cons rfl (fun K hK=>?_) AllReadyH.nil
 go_simp
 refine (withSign_c b1 pa pk pc _ W4 HP.out).mono ?_
 rintro e W5 ⟨b',rfl,hz,bc⟩
 try go_simp
 have J5:=Zh (J4.out.keep bc)
 have hT:=J5.out.si
 have HZ:Hid (Zn W5 b' pa pk pc (z1+z2)):=by
  rw[zv_diff (b1:=b1) (b2:=b2) HNE.out (by have:=HLE.out;omega),←E1.out,←E2.out]at hz
  exact hz
 refine hK.out _ _ hT (fun _=>?_)
 clear hK K hS bc J4 hz HP
 have hS:=hT
 clear hT
 try simp only[Act.put,Za,Zb,Zc]
 refine wpAnyH_ready (rs:=[8]) (by kernel_rfl) (by simp) ?_
 refine AllReadyH.cons rfl (fun K hK=>?_) AllReadyH.nil
 have q0:=J5.out.r.c0
 have q1:=J5.out.r.c1
 have g0:=J5.out.r.fr 0
 have g1:=J5.out.r.fr 1
 go_simp
 clear q0 q1 g0 g1
 have hT:=J5.out.done (.bool b') (.slice pa pk pc)
 have R9:=J5.out.r.set (.bool b') (.slice pa pk pc)
 have PP:Hid (ZPost (z1+z2) w (.returned (.agg #[.bool b',.slice pa pk pc])) (two W5 (w.heap.size+1+1) (.bool b') (.slice pa pk pc))):=
  ⟨_,_,_,_,rfl,HZ.out.set2 J5.out.r _ _,below_two J5.out.bel (by omega) _ _⟩
 unfold two at hT R9 PP
 refine hK.out _ _ hT (fun _=>?_)
 clear hK K hS
 try simp only[Act.put,Za,Zb,Zc]
 refine wpAnyH_done (by kernel_rfl) ?_ _
 refine NoPanic.normal ?_
 obtain⟨r0,r1,_,_⟩:=id R9
 clear hT R9
 go_wp2_with fail
 exact bodyPost_ret (v:=.agg #[.bool b',.slice pa pk pc]) (by simp[results,Tryz.results142,go_sem,r0,r1]) rfl PP.out
set_option maxHeartbeats 4000000 in
theorem Plus_swap(b1 b2:Bool) (a1 a2:Option Addr) (k1 k2 c1 c2:Nat) (z1 z2:Int) (w:World) (h1:Zn w b1 a1 k1 c1 z1) (h2:Zn w b2 a2 k2 c2 z2) (hne:b1≠b2) (hlt:z1.natAbs<z2.natAbs) :
  Calls Tryz.prog 142 #[.agg #[.bool b1,.slice a1 k1 c1],.agg #[.bool b2,.slice a2 k2 c2]] w (ZPost (z1+z2) w):=by
 obtain⟨W0,hW0⟩:∃ W0,((w.alloc (.cells #[.bool b1,.slice a1 k1 c1] 107)).alloc (.cells #[.bool b2,.slice a2 k2 c2] 107)).alloc (.cells #[.bool false,.slice none 0 0] 107)=W0:=⟨_,rfl⟩
 have J0:Hid (I3 w b1 a1 k1 c1 b2 a2 k2 c2 W0):=by rw[←hW0];exact I3.made _ _ _ _ _ _ _ _ _ _ _ _
 have M1:=Zh h1.nm
 have M2:=Zh h2.nm
 have E1:=Zh h1.zv
 have E2:=Zh h2.zv
 have HC:=Zh (compare_c a1 a2 k1 k2 c1 c2 _ _ W0 (h1.nm.below J0.out.bel) (h2.nm.below J0.out.bel))
 have hd:decide (sgn z1.natAbs z2.natAbs<0)=true:=by rw[sgn_neg];simp;omega
 have HLE:=Zh hlt
 have hbe:(b1 == b2)=false:=by rw[beq_eq_false_iff_ne];exact hne
 have HNE:=Zh hne
 clear h1 h2 hne hlt
 generalize sgn z1.natAbs z2.natAbs=sg at *
 have x0:=J0.out.x.c0
 have x1:=J0.out.x.c1
 have y0:=J0.out.y.c0
 have y1:=J0.out.y.c1
 go_enter Tryz.func142,Tryz.ntmps142
 go_wp2_with fail
 clear hW0
 refine HC.out.mono ?_
 rintro e w1 ⟨rfl,q,rfl⟩
 have J1:=Zh (J0.out.keep (bel_drewN W0 q))
 have M1':=Zh (M1.out.below (J1.out.bel))
 have M2':=Zh (M2.out.below (J1.out.bel))
 clear x0 x1 y0 y1 HC J0 M1 M2
 generalize W0.drewN q=W1 at *
 have x0:=J1.out.x.c0
 have x1:=J1.out.x.c1
 have y0:=J1.out.y.c0
 have y1:=J1.out.y.c1
 have xf0:=J1.out.x.fr 0
 have xf1:=J1.out.x.fr 1
 have yf0:=J1.out.y.fr 0
 have yf1:=J1.out.y.fr 1
 obtain⟨W2,hW2⟩:∃ W2,two (two W1 w.heap.size (.bool b2) (.slice a2 k2 c2)) (w.heap.size+1) (.bool b1) (.slice a1 k1 c1)=W2:=⟨_,rfl⟩
 have hyy:B2 (two W1 w.heap.size (.bool b2) (.slice a2 k2 c2)) (w.heap.size+1) (.bool b2) (.slice a2 k2 c2):=J1.out.y.other (by omega) _ _
 have J0:Hid (I3 w b2 a2 k2 c2 b1 a1 k1 c1 W2):=by
  rw[←hW2]
  exact⟨(J1.out.x.set _ _).other (by omega) _ _,hyy.set _ _,(J1.out.r.other (by omega) _ _).other (by omega) _ _,below_two (below_two J1.out.bel (Nat.le_refl _) _ _) (by omega) _ _⟩
 have M1:Hid (Nm W2 a1 k1 c1 z1.natAbs):=by rw[←hW2];exact (M1'.out.set2 J1.out.x _ _).set2 hyy _ _
 have M2:Hid (Nm W2 a2 k2 c2 z2.natAbs):=by rw[←hW2];exact (M2'.out.set2 J1.out.x _ _).set2 hyy _ _
 clear hyy M1' M2' J1
 unfold two at hW2
 go_wp2_with fail
 clear hW2 x0 x1 y0 y1 xf0 xf1 yf0 yf1
 refine wp_region_noPanic ?_
 refine wp_region_held_drew (S:=SI w.heap.size b2 a2 k2 c2 b1 a1 k1 c1) (by kernel_rfl) (J0.out.keep (Below.refl _ _).drew).si (fun hS=>?_)
 have J2:=Zh (J0.out.keep (Below.refl _ _).drew)
 refine Zt (i:=0) (v:=?v0z23) rfl (Or.inl ⟨by rfl,?hy0z23⟩) ?rest0z23
 case hy0z23=>
  intro w hSw
  dsimp only[SI]at hSw
  go_simp
  try with_reducible rfl
 simp only[Act.put,Zd,Ze,Zf,Za,Zb,Zc]
 refine Zt (i:=1) (v:=?v1z24) rfl (Or.inl ⟨by rfl,?hy1z24⟩) ?rest1z24
 case hy1z24=>
  intro w hSw
  dsimp only[SI]at hSw
  go_simp
  try with_reducible rfl
 simp only[Act.put,Zd,Ze,Zf,Za,Zb,Zc]
 refine Zt (i:=2) (v:=?v2z25) rfl (Or.inl ⟨by rfl,?hy2z25⟩) ?rest2z25
 case hy2z25=>
  intro w hSw
  dsimp only[SI]at hSw
  go_simp
  try with_reducible rfl
 simp only[Act.put,Zd,Ze,Zf,Za,Zb,Zc]
 refine Zt (i:=3) (v:=?v3z26) rfl (Or.inl ⟨by rfl,?hy3z26⟩) ?rest3z26
 case hy3z26=>
  intro w hSw
  dsimp only[SI]at hSw
  go_simp
  try with_reducible rfl
 simp only[Act.put,Zd,Ze,Zf,Za,Zb,Zc]
 refine Zt (i:=4) (v:=?v4z27) rfl (Or.inl ⟨by rfl,?hy4z27⟩) ?rest4z27
 case hy4z27=>
  intro w hSw
  dsimp only[SI]at hSw
  go_simp
  try with_reducible rfl
 simp only[Act.put,Zd,Ze,Zf,Za,Zb,Zc]
 refine Zt (i:=5) (v:=?v5z28) rfl (Or.inl ⟨by rfl,?hy5z28⟩) ?rest5z28
 case hy5z28=>
  intro w hSw
  dsimp only[SI]at hSw
  go_simp
  try with_reducible rfl
 simp only[Act.put,Zd,Ze,Zf,Za,Zb,Zc]
 refine wpAnyH_ready (rs:=[6]) (by kernel_rfl) (by simp) ?_
 refine AllReadyH.cons rfl (fun K hK=>?_) AllReadyH.nil
 go_simp
 refine (difference_c a2 a1 k2 k1 c2 c1 _ _ _ (M2.out.below (Below.refl _ _).drew) (M1.out.below (Below.refl _ _).drew) (by have:=HLE.out;omega)).mono ?_
 rintro e W4 ⟨pa,pk,pc,rfl,hp,bc⟩
 try go_simp
 have J4:=Zh (J2.out.keep bc)
 have hT:=J4.out.si
 have HP:=Zh hp
 refine hK.out _ _ hT (fun _=>?_)
 clear hK K hS bc J2 hp
 have hS:=hT
 clear hT
 try simp only[Act.put,Za,Zb,Zc]
 refine wpAnyH_ready (rs:=[7]) (by kernel_rfl) (by simp) ?_
 refine AllReadyH.cons rfl (fun K hK=>?_) AllReadyH.nil
 go_simp
 refine (withSign_c b2 pa pk pc _ W4 HP.out).mono ?_
 rintro e W5 ⟨b',rfl,hz,bc⟩
 try go_simp
 have J5:=Zh (J4.out.keep bc)
 have hT:=J5.out.si
 have HZ:Hid (Zn W5 b' pa pk pc (z1+z2)):=by
  rw[zv_diff (b1:=b2) (b2:=b1) (fun e=>HNE.out e.symm) (by have:=HLE.out;omega),←E2.out,←E1.out,Int.add_comm]at hz
  exact hz
 refine hK.out _ _ hT (fun _=>?_)
 clear hK K hS bc J4 hz HP
 have hS:=hT
 clear hT
 try simp only[Act.put,Za,Zb,Zc]
 refine wpAnyH_ready (rs:=[8]) (by kernel_rfl) (by simp) ?_
 refine AllReadyH.cons rfl (fun K hK=>?_) AllReadyH.nil
 have q0:=J5.out.r.c0
 have q1:=J5.out.r.c1
 have g0:=J5.out.r.fr 0
 have g1:=J5.out.r.fr 1
 go_simp
 clear q0 q1 g0 g1
 have hT:=J5.out.done (.bool b') (.slice pa pk pc)
 have R9:=J5.out.r.set (.bool b') (.slice pa pk pc)
 have PP:Hid (ZPost (z1+z2) w (.returned (.agg #[.bool b',.slice pa pk pc])) (two W5 (w.heap.size+1+1) (.bool b') (.slice pa pk pc))):=
  ⟨_,_,_,_,rfl,HZ.out.set2 J5.out.r _ _,below_two J5.out.bel (by omega) _ _⟩
 unfold two at hT R9 PP
 refine hK.out _ _ hT (fun _=>?_)
 clear hK K hS
 try simp only[Act.put,Za,Zb,Zc]
 refine wpAnyH_done (by kernel_rfl) ?_ _
 refine NoPanic.normal ?_
 obtain⟨r0,r1,_,_⟩:=id R9
 clear hT R9
 go_wp2_with fail
 exact bodyPost_ret (v:=.agg #[.bool b',.slice pa pk pc]) (by simp[results,Tryz.results142,go_sem,r0,r1]) rfl PP.out
theorem Plus_c(b1 b2:Bool) (a1 a2:Option Addr) (k1 k2 c1 c2:Nat) (z1 z2:Int) (w:World) (h1:Zn w b1 a1 k1 c1 z1) (h2:Zn w b2 a2 k2 c2 z2) (n1:z1.natAbs<bp 2000) (n2:z2.natAbs<bp 2000) :
  Calls Tryz.prog 142 #[.agg #[.bool b1,.slice a1 k1 c1],.agg #[.bool b2,.slice a2 k2 c2]] w (ZPost (z1+z2) w):=by
 by_cases e:b1=b2
 ·subst e;exact Plus_same b1 a1 a2 k1 k2 c1 c2 z1 z2 w h1 h2 n1 n2
 ·by_cases hl:z1.natAbs<z2.natAbs
  ·exact Plus_swap b1 b2 a1 a2 k1 k2 c1 c2 z1 z2 w h1 h2 e hl
  ·exact Plus_diff b1 b2 a1 a2 k1 k2 c1 c2 z1 z2 w h1 h2 e (by omega)
structure I2 (w:World) (b1:Bool) (a1:Option Addr) (k1 c1:Nat) (W:World):Prop where
 x:B2 W w.heap.size (.bool b1) (.slice a1 k1 c1)
 r:B2 W (w.heap.size+1) (.bool false) (.slice none 0 0)
 bel:Below w.heap.size w W
theorem I2.keep{w:World}{b1:Bool}{a1:Option Addr}{k1 c1:Nat}{W W':World}(h:I2 w b1 a1 k1 c1 W)(hb:Below W.heap.size W W'):I2 w b1 a1 k1 c1 W':=
 ⟨h.x.keep hb,h.r.keep hb,h.bel.trans (hb.mono h.bel.size)⟩
theorem I2.made(w:World) (b1:Bool) (a1:Option Addr) (k1 c1:Nat) (T1 T3:TypeId) :
  I2 w b1 a1 k1 c1 ((w.alloc (.cells #[.bool b1,.slice a1 k1 c1] T1)).alloc (.cells #[.bool false,.slice none 0 0] T3)):=by
 have s1:(w.alloc (.cells #[.bool b1,.slice a1 k1 c1] T1)).heap.size=w.heap.size+1:=by simp
 refine⟨(B2.made w _ _ T1).keep (bel_one _ _),?_,((Below.refl _ _).alloc (Nat.le_refl _) _).alloc (by simp) _⟩
 rw[←s1];exact B2.made _ _ _ T3
theorem built_zn(b:Bool)(W:World)(n:Nat)(T:TypeId)(h0:0<n)(hn:n<18446744073709551616):Zn (W.alloc (.cells #[.int .u64 (n:Int)] T)) b (some ⟨W.heap.size,0,none⟩) 1 1 (Go.Proofs.YtghgbhmiliiohaaGreatDoor.zv b n):=by
 refine⟨n,⟨fun _=>n,⟨by omega,fun _ _=>hn,fun _=>⟨W.heap.size,0,rfl,by simp,fun j hj=>?_⟩⟩,by omega,by omega,.inr ?_,S_one _,Pl.some_ _ _⟩,fun _=>h0,rfl⟩
 ·obtain rfl:j=0:=by omega
  rw[World.cell?_alloc_new];rfl
 ·show n≠0
  omega
theorem zsgn(z:Int):z.sign=-1∧z<0∨z.sign=0∧z=0∨z.sign=1∧0<z:=by
 rcases Int.lt_trichotomy z 0 with h|h|h
 ·exact .inl ⟨Int.sign_eq_neg_one_of_neg h,h⟩
 ·subst h;exact .inr (.inl ⟨rfl,rfl⟩)
 ·exact .inr (.inr ⟨Int.sign_eq_one_of_pos h,h⟩)
theorem Zn.zero_len{W:World}{b:Bool}{a:Option Addr}{k c:Nat}{z:Int}(h:Zn W b a k c z):k=0↔z=0:=by
 obtain⟨n,hn,hp,rfl⟩:=h
 constructor
 ·intro e
  have:=hn.lt
  rw[e,bp_zero]at this
  have h0:n=0:=by omega
  subst h0;cases b<;>simp[Go.Proofs.YtghgbhmiliiohaaGreatDoor.zv]
 ·intro e
  have h0:n=0:=by cases b<;>simp[Go.Proofs.YtghgbhmiliiohaaGreatDoor.zv]at e<;>omega
  subst h0
  exact hn.nul
set_option maxHeartbeats 4000000 in
theorem Minus_c(b1:Bool) (a1:Option Addr) (k1 c1:Nat) (z1:Int) (w:World) (h1:Zn w b1 a1 k1 c1 z1) :
  Calls Tryz.prog 100 #[.agg #[.bool b1,.slice a1 k1 c1]] w (ZPost (-z1) w):=by
 obtain⟨W0,hW0⟩:∃ W0,(w.alloc (.cells #[.bool b1,.slice a1 k1 c1] 107)).alloc (.cells #[.bool false,.slice none 0 0] 107)=W0:=⟨_,rfl⟩
 have J0:Hid (I2 w b1 a1 k1 c1 W0):=by rw[←hW0];exact I2.made _ _ _ _ _ _ _
 have M1:=Zh (h1.nm.below J0.out.bel)
 have E1:=Zh h1.zv
 clear h1
 obtain⟨s,hs⟩:∃ s,(!b1)=s:=⟨_,rfl⟩
 have x0:=J0.out.x.c0
 have x1:=J0.out.x.c1
 go_enter Tryz.func100,Tryz.ntmps100
 go_wp2_with fail
 clear hW0
 try rw[hs]
 have HS:=Zh hs
 clear hs x0 x1
 refine (withSign_c s a1 k1 c1 _ W0 M1.out).mono ?_
 rintro e W3 ⟨b',rfl,hz,b3⟩
 have J3:=Zh (J0.out.keep b3)
 have HZ:Hid (Zn W3 b' a1 k1 c1 (-z1)):=by
  rw[←HS.out,zv_minus,←E1.out]at hz
  exact hz
 clear hz b3 J0 M1
 obtain⟨W9,hW9⟩:∃ W9,two W3 (w.heap.size+1) (.bool b') (.slice a1 k1 c1)=W9:=⟨_,rfl⟩
 have R9:B2 W9 (w.heap.size+1) (.bool b') (.slice a1 k1 c1):=by rw[←hW9];exact J3.out.r.set _ _
 have PP:Hid (ZPost (-z1) w (.returned (.agg #[.bool b',.slice a1 k1 c1])) W9):=by
  rw[←hW9]
  exact⟨_,_,_,_,rfl,HZ.out.set2 J3.out.r _ _,below_two J3.out.bel (by omega) _ _⟩
 have q0:=J3.out.r.c0
 have q1:=J3.out.r.c1
 have g0:=J3.out.r.fr 0
 have g1:=J3.out.r.fr 1
 obtain⟨r0,r1,_,_⟩:=id R9
 unfold two at hW9
 clear R9
 go_wp2_with fail
 exact bodyPost_ret (v:=.agg #[.bool b',.slice a1 k1 c1]) (by simp[results,Tryz.results100,go_sem,r0,r1]) rfl PP.out
set_option maxHeartbeats 4000000 in
theorem Sign_c(b1:Bool) (a1:Option Addr) (k1 c1:Nat) (z1:Int) (w:World) (h1:Zn w b1 a1 k1 c1 z1) :
  Calls Tryz.prog 166 #[.agg #[.bool b1,.slice a1 k1 c1]] w fun e w'=>e=.returned (.int .i64 z1.sign)∧Below w.heap.size w w':=by
 have hs:=h1.sign
 have hk:=h1.zero_len
 rcases zsgn z1 with ⟨e,h⟩|⟨e,h⟩|⟨e,h⟩
 ·have hb:b1=true:=by rw[hs];simp;omega
  subst hb
  rw[e]
  clear h1 hs hk e h
  go_enter Tryz.func166,Tryz.ntmps166
  go_wp2
  go_ret
  exact⟨rfl,bel_one _ _⟩
 ·have hb:b1=false:=by rw[hs];simp;omega
  subst hb
  obtain rfl:=hk.2 h
  rw[e]
  clear h1 hs hk e h
  go_enter Tryz.func166,Tryz.ntmps166
  go_wp2
  go_ret
  exact⟨rfl,bel_one _ _⟩
 ·have hb:b1=false:=by rw[hs];simp;omega
  subst hb
  have hne:((k1:Int) == 0)=false:=by
   rw[beq_eq_false_iff_ne]
   intro h0
   have:=hk.1 (by omega)
   omega
  have hne':(k1 == 0)=false:=by
   rw[beq_eq_false_iff_ne]
   intro h0
   have:=hk.1 h0
   omega
  rw[e]
  clear h1 hs hk e h
  go_enter Tryz.func166,Tryz.ntmps166
  go_wp2
  go_ret
  exact⟨rfl,bel_one _ _⟩
set_option maxHeartbeats 4000000 in
theorem Common_c(b1 b2:Bool) (a1 a2:Option Addr) (k1 k2 c1 c2:Nat) (z1 z2:Int) (w:World) (h1:Zn w b1 a1 k1 c1 z1) (h2:Zn w b2 a2 k2 c2 z2) (n1:z1.natAbs<bp 2000) (n2:z2.natAbs<bp 2000) :
  Calls Tryz.prog 99 #[.agg #[.bool b1,.slice a1 k1 c1],.agg #[.bool b2,.slice a2 k2 c2]] w (ZPost (Int.gcd z1 z2) w):=by
 obtain⟨W0,hW0⟩:∃ W0,((w.alloc (.cells #[.bool b1,.slice a1 k1 c1] 107)).alloc (.cells #[.bool b2,.slice a2 k2 c2] 107)).alloc (.cells #[.bool false,.slice none 0 0] 107)=W0:=⟨_,rfl⟩
 have J0:Hid (I3 w b1 a1 k1 c1 b2 a2 k2 c2 W0):=by rw[←hW0];exact I3.made _ _ _ _ _ _ _ _ _ _ _ _
 have HC:=Zh (common_c a1 a2 k1 k2 c1 c2 _ _ W0 (h1.nm.below J0.out.bel) (h2.nm.below J0.out.bel) n1 n2)
 clear h1 h2 n1 n2
 have x0:=J0.out.x.c0
 have x1:=J0.out.x.c1
 have y0:=J0.out.y.c0
 have y1:=J0.out.y.c1
 go_enter Tryz.func99,Tryz.ntmps99
 go_wp2_with fail
 clear hW0
 refine HC.out.mono ?_
 rintro e W3 ⟨pa,pk,pc,rfl,hp,b3⟩
 have J3:=Zh (J0.out.keep b3)
 have HZ:Hid (Zn W3 false pa pk pc (Int.gcd z1 z2)):=⟨_,hp,(fun e=>nomatch e),rfl⟩
 clear hp b3 J0 x0 x1 y0 y1 HC
 obtain⟨W9,hW9⟩:∃ W9,two W3 (w.heap.size+1+1) (.bool false) (.slice pa pk pc)=W9:=⟨_,rfl⟩
 have R9:B2 W9 (w.heap.size+1+1) (.bool false) (.slice pa pk pc):=by rw[←hW9];exact J3.out.r.set _ _
 have PP:Hid (ZPost (Int.gcd z1 z2) w (.returned (.agg #[.bool false,.slice pa pk pc])) W9):=by
  rw[←hW9]
  exact⟨_,_,_,_,rfl,HZ.out.set2 J3.out.r _ _,below_two J3.out.bel (by omega) _ _⟩
 have q0:=J3.out.r.c0
 have q1:=J3.out.r.c1
 have g0:=J3.out.r.fr 0
 have g1:=J3.out.r.fr 1
 obtain⟨r0,r1,_,_⟩:=id R9
 unfold two at hW9
 clear R9
 go_wp2_with fail
 exact bodyPost_ret (v:=.agg #[.bool false,.slice pa pk pc]) (by simp[results,Tryz.results99,go_sem,r0,r1]) rfl PP.out
set_option maxHeartbeats 4000000 in
theorem equal_c(a1 a2:Option Addr) (k1 k2 c1 c2 n1 n2:Nat) (w:World) (h1:Nm w a1 k1 c1 n1) (h2:Nm w a2 k2 c2 n2) :
  Calls Tryz.prog 156 #[.slice a1 k1 c1,.slice a2 k2 c2] w fun e w'=>e=.returned (.bool (decide (n1=n2)))∧∃ q,w'=w.drewN q:=by
 by_cases hk:k1=k2
 ·subst hk
  obtain⟨f,r1,_,_,t1,s1,_⟩:=h1
  obtain⟨g,r2,_,_,t2,s2,_⟩:=h2
  have H1:=Zh r1
  have H2:=Zh r2
  have S1:=Zh s1
  have S2:=Zh s2
  have hk1:=r1.1
  clear r1 r2 s1 s2 t1 t2
  go_enter Tryz.func156,Tryz.ntmps156
  go_wp2
  go_loopw [13] (fun i wr=>∃ j:Nat,j≤k1∧i=.int .i64 j∧Hid ((∀ i,i<j→f i=g i)∧∃ q,wr=w.drewN q)) (fun i _=>k1-(intOf i).toNat)
  case atStart=>exact⟨0,Nat.zero_le _,rfl,fun i hi=>by omega,0,rfl⟩
  case round=>
   obtain⟨j,hj,rfl,hR⟩:=hrel
   by_cases hlt:j<k1
   ·have hlt':(j:Int)<(k1:Int):=by omega
    obtain⟨q,hq⟩:=hR.out.2
    have HB:Hid (Below w.heap.size w wr):=by unfold Hid;rw[hq];exact bel_drewN _ _
    obtain⟨b1,o1,rfl,_,g1⟩:=(H1.out.below HB.out).at_ hlt
    obtain⟨b2,o2,rfl,_,g2⟩:=(H2.out.below HB.out).at_ hlt
    have HQ:=Zh hq
    clear hq
    by_cases hE:f j=g j
    ·have NE:Hid (∀ i,i<j+1→f i=g i):=fun i hi=>by
      by_cases e:i=j
      ·rw[e,hE]
      ·exact hR.out.1 i (by omega)
     rw[←hE]at g2
     generalize f j=x at *
     clear hE
     go_wp2_with fail
     go_quiet (fail)
     have NX:Hid ((∀ i,i<j+1→f i=g i)∧∃ q,wr.drewN nq=w.drewN q):=⟨NE.out,q+nq,by rw[HQ.out,drewN_drewN]⟩
     clear g1 g2
     go_wp2
     go_roundw
     case rel=>exact⟨j+1,by omega,by go_num,NX.out⟩
     case measure=>simp[intOf];omega
    ·have E:Hid (decide (n1=n2)=false):=by
      unfold Hid
      rw[decide_eq_false_iff_not]
      intro e
      rw[←S1.out,←S2.out]at e
      exact hE (S_inj H1.out.2.1 H2.out.2.1 e j hlt)
     have hb:((f j:Int) == (g j:Int))=false:=by rw[beq_eq_false_iff_ne];omega
     have hb':(f j == g j)=false:=by rw[beq_eq_false_iff_ne];exact hE
     generalize f j=x at *
     generalize g j=y at *
     clear hE
     go_wp2_with fail
     go_quiet (fail)
     go_wp2
     go_ret
     exact⟨by rw[E.out];rfl,q+nq,by rw[HQ.out,drewN_drewN]⟩
   ·obtain rfl:j=k1:=by omega
    have E:Hid (decide (n1=n2)=true):=by
     unfold Hid
     rw[decide_eq_true_iff,←S1.out,←S2.out]
     exact S_congr (fun i hi=>hR.out.1 i hi)
    go_wp2
    go_ret
    exact⟨by rw[E.out];rfl,hR.out.2⟩
 ·have hne:((k1:Int) == (k2:Int))=false:=by rw[beq_eq_false_iff_ne];omega
  have hne':(k1 == k2)=false:=by rw[beq_eq_false_iff_ne];exact hk
  have E:Hid (decide (n1=n2)=false):=by
   unfold Hid
   rw[decide_eq_false_iff_not]
   intro e
   subst e
   have l1:=h1.len h2.lt
   have l2:=h2.len h1.lt
   omega
  rw[E.out]
  clear h1 h2 hk
  go_enter Tryz.func156,Tryz.ntmps156
  go_wp2
  go_ret
  exact⟨rfl,0,rfl⟩
set_option maxHeartbeats 4000000 in
theorem Equal_c(b1 b2:Bool) (a1 a2:Option Addr) (k1 k2 c1 c2:Nat) (z1 z2:Int) (w:World) (h1:Zn w b1 a1 k1 c1 z1) (h2:Zn w b2 a2 k2 c2 z2) :
  Calls Tryz.prog 130 #[.agg #[.bool b1,.slice a1 k1 c1],.agg #[.bool b2,.slice a2 k2 c2]] w fun e w'=>e=.returned (.bool (decide (z1=z2)))∧Below w.heap.size w w':=by
 obtain⟨W0,hW0⟩:∃ W0,(w.alloc (.cells #[.bool b1,.slice a1 k1 c1] 107)).alloc (.cells #[.bool b2,.slice a2 k2 c2] 107)=W0:=⟨_,rfl⟩
 have B0:Hid (Below w.heap.size w W0):=by rw[←hW0];exact ((Below.refl _ _).alloc (Nat.le_refl _) _).alloc (by simp) _
 have X0:B2 W0 w.heap.size (.bool b1) (.slice a1 k1 c1):=by rw[←hW0];exact (B2.made w _ _ _).keep (bel_one _ _)
 have Y0:B2 W0 (w.heap.size+1) (.bool b2) (.slice a2 k2 c2):=by
  have s1:(w.alloc (.cells #[.bool b1,.slice a1 k1 c1] 107)).heap.size=w.heap.size+1:=by simp
  rw[←hW0,←s1];exact B2.made _ _ _ _
 obtain⟨x0,x1,_,_⟩:=X0
 obtain⟨y0,y1,_,_⟩:=Y0
 by_cases hb:b1=b2
 ·subst hb
  have HC:=Zh (equal_c a1 a2 k1 k2 c1 c2 _ _ W0 (h1.nm.below B0.out) (h2.nm.below B0.out))
  have HE:Hid (decide (z1.natAbs=z2.natAbs)=decide (z1=z2)):=by
   have e1:=h1.zv
   have e2:=h2.zv
   unfold Hid
   apply decide_eq_decide.2
   cases b1<;>simp only[zv,if_true,Bool.false_eq_true,if_false]at e1 e2<;>omega
  have hbe:(b1 == b1)=true:=by simp
  clear h1 h2
  go_enter Tryz.func130,Tryz.ntmps130
  go_wp2_with fail
  clear hW0
  refine HC.out.mono ?_
  rintro e w1 ⟨rfl,q,rfl⟩
  rw[HE.out]
  go_wp2
  go_ret
  exact⟨rfl,B0.out.trans ((bel_drewN W0 q).mono B0.out.size)⟩
 ·have hbe:(b1 == b2)=false:=by rw[beq_eq_false_iff_ne];exact hb
  have HE:Hid (decide (z1=z2)=false):=by
   unfold Hid
   rw[decide_eq_false_iff_not]
   intro e
   exact hb (by rw[h1.sign,h2.sign,e])
  rw[HE.out]
  clear h1 h2 hb
  go_enter Tryz.func130,Tryz.ntmps130
  go_wp2
  go_ret
  exact⟨rfl,B0.out⟩
set_option maxHeartbeats 4000000 in
theorem Of_c(z:Int) (w:World) (hl:-9223372036854775808≤z) (hh:z≤9223372036854775807) :
  Calls Tryz.prog 68 #[.int .i64 z] w (ZPost z w):=by
 rcases Int.lt_trichotomy z 0 with h|h|h
 ·obtain⟨n,rfl⟩:∃ n:Nat,z=-(n:Int):=⟨z.natAbs,by omega⟩
  have h1:((-(n:Int)) == 0)=false:=by rw[beq_eq_false_iff_ne];omega
  have h2:decide (-(n:Int)<0)=true:=by rw[decide_eq_true_iff];omega
  have h2':-(n:Int)<0:=by omega
  have h0:0<n:=by omega
  have hn:n≤9223372036854775808:=by omega
  obtain⟨m,hm⟩:∃ m:Nat,m=18446744073709551616-n:=⟨_,rfl⟩
  have hw:IntKind.u64.wrap (-(n:Int))=(m:Int):=by rw[IntKind.wrap_u64];omega
  have hw2:IntKind.u64.wrap (-(m:Int))=(n:Int):=by rw[IntKind.wrap_u64];omega
  have H0:=Zh h0
  have HN:=Zh hn
  have PP:=Zh (fun W T=>built_zn true W n T h0 (by omega))
  clear hm hl hh h hn h0
  obtain⟨W0,hW0⟩:∃ W0,w.alloc (.cells #[.bool false,.slice none 0 0] 107)=W0:=⟨_,rfl⟩
  have X0:B2 W0 w.heap.size (.bool false) (.slice none 0 0):=by rw[←hW0];exact B2.made _ _ _ _
  have B0:Below w.heap.size w W0:=by rw[←hW0];exact bel_one _ _
  obtain⟨W1,hW1⟩:∃ W1,W0.alloc (.cells #[.int .u64 (n:Int)] 144)=W1:=⟨_,rfl⟩
  have X1:B2 W1 w.heap.size (.bool false) (.slice none 0 0):=by rw[←hW1];exact X0.keep (bel_one _ _)
  have B1:Below w.heap.size w W1:=by rw[←hW1];exact B0.alloc B0.size _
  obtain⟨W2,hW2⟩:∃ W2,two W1 w.heap.size (.bool true) (.slice (some ⟨W0.heap.size,0,none⟩) 1 1)=W2:=⟨_,rfl⟩
  have X2:B2 W2 w.heap.size (.bool true) (.slice (some ⟨W0.heap.size,0,none⟩) 1 1):=by rw[←hW2];exact X1.set _ _
  have R:Hid (ZPost (-(n:Int)) w (.returned (.agg #[.bool true,.slice (some ⟨W0.heap.size,0,none⟩) 1 1])) W2):=by
   rw[←hW2]
   refine⟨_,_,_,_,rfl,?_,below_two B1 (Nat.le_refl _) _ _⟩
   rw[←hW1]
   rw[←hW1]at X1
   exact (PP.out W0 _).set2 X1 _ _
  have f0:=X1.fr 0
  have f1:=X1.fr 1
  obtain⟨x0,x1,_,_⟩:=X1
  obtain⟨r0,r1,_,_⟩:=X2
  clear PP X0 B0 B1
  unfold two at hW2
  go_enter Tryz.func68,Tryz.ntmps68
  go_wp2
  exact bodyPost_ret (v:=.agg #[.bool true,.slice (some ⟨W0.heap.size,0,none⟩) 1 1]) (by simp[results,Tryz.results68,go_sem,r0,r1]) rfl R.out
 ·subst h
  obtain⟨W0,hW0⟩:∃ W0,w.alloc (.cells #[.bool false,.slice none 0 0] 107)=W0:=⟨_,rfl⟩
  have X0:B2 W0 w.heap.size (.bool false) (.slice none 0 0):=by rw[←hW0];exact B2.made _ _ _ _
  have B0:Below w.heap.size w W0:=by rw[←hW0];exact bel_one _ _
  obtain⟨W2,hW2⟩:∃ W2,two W0 w.heap.size (.bool false) (.slice none 0 0)=W2:=⟨_,rfl⟩
  have X2:B2 W2 w.heap.size (.bool false) (.slice none 0 0):=by rw[←hW2];exact X0.set _ _
  have R:Hid (ZPost 0 w (.returned (.agg #[.bool false,.slice none 0 0])) W2):=by
   rw[←hW2]
   exact⟨_,_,_,_,rfl,⟨0,Nm.zero _ _ _ (by omega) Pl.none_,(fun e=>nomatch e),rfl⟩,below_two B0 (Nat.le_refl _) _ _⟩
  have f0:=X0.fr 0
  have f1:=X0.fr 1
  obtain⟨x0,x1,_,_⟩:=X0
  obtain⟨r0,r1,_,_⟩:=X2
  unfold two at hW2
  clear hl hh B0
  go_enter Tryz.func68,Tryz.ntmps68
  go_wp2
  exact bodyPost_ret (v:=.agg #[.bool false,.slice none 0 0]) (by simp[results,Tryz.results68,go_sem,r0,r1]) rfl R.out
 ·obtain⟨n,rfl⟩:∃ n:Nat,z=(n:Int):=⟨z.natAbs,by omega⟩
  have h1:((n:Int) == 0)=false:=by rw[beq_eq_false_iff_ne];omega
  have h1':(n == 0)=false:=by rw[beq_eq_false_iff_ne];omega
  have h2:decide ((n:Int)<0)=false:=by rw[decide_eq_false_iff_not];omega
  have h2':¬ (n:Int)<0:=by omega
  have h0:0<n:=by omega
  have hn:n≤9223372036854775807:=by omega
  have hw:IntKind.u64.wrap (n:Int)=(n:Int):=by rw[IntKind.wrap_u64];omega
  have PP:=Zh (fun W T=>built_zn false W n T h0 (by omega))
  clear hl hh h hn h0
  obtain⟨W0,hW0⟩:∃ W0,w.alloc (.cells #[.bool false,.slice none 0 0] 107)=W0:=⟨_,rfl⟩
  have X0:B2 W0 w.heap.size (.bool false) (.slice none 0 0):=by rw[←hW0];exact B2.made _ _ _ _
  have B0:Below w.heap.size w W0:=by rw[←hW0];exact bel_one _ _
  obtain⟨W1,hW1⟩:∃ W1,W0.alloc (.cells #[.int .u64 (n:Int)] 144)=W1:=⟨_,rfl⟩
  have X1:B2 W1 w.heap.size (.bool false) (.slice none 0 0):=by rw[←hW1];exact X0.keep (bel_one _ _)
  have B1:Below w.heap.size w W1:=by rw[←hW1];exact B0.alloc B0.size _
  obtain⟨W2,hW2⟩:∃ W2,two W1 w.heap.size (.bool false) (.slice (some ⟨W0.heap.size,0,none⟩) 1 1)=W2:=⟨_,rfl⟩
  have X2:B2 W2 w.heap.size (.bool false) (.slice (some ⟨W0.heap.size,0,none⟩) 1 1):=by rw[←hW2];exact X1.set _ _
  have R:Hid (ZPost (n:Int) w (.returned (.agg #[.bool false,.slice (some ⟨W0.heap.size,0,none⟩) 1 1])) W2):=by
   rw[←hW2]
   refine⟨_,_,_,_,rfl,?_,below_two B1 (Nat.le_refl _) _ _⟩
   rw[←hW1]
   rw[←hW1]at X1
   exact (PP.out W0 _).set2 X1 _ _
  have f0:=X1.fr 0
  have f1:=X1.fr 1
  obtain⟨x0,x1,_,_⟩:=X1
  obtain⟨r0,r1,_,_⟩:=X2
  clear PP X0 B0 B1
  unfold two at hW2
  go_enter Tryz.func68,Tryz.ntmps68
  go_wp2
  exact bodyPost_ret (v:=.agg #[.bool false,.slice (some ⟨W0.heap.size,0,none⟩) 1 1]) (by simp[results,Tryz.results68,go_sem,r0,r1]) rfl R.out
theorem zv_tdiv(b1 b2:Bool)(n1 n2:Nat):zv (b1 != b2) (n1 / n2)=(zv b1 n1).tdiv (zv b2 n2):=by
 cases b1<;>cases b2<;>simp[zv,Int.neg_tdiv,Int.tdiv_neg,Int.ofNat_tdiv]
theorem zv_tmod(b1 b2:Bool)(n1 n2:Nat):zv b1 (n1 % n2)=(zv b1 n1).tmod (zv b2 n2):=by
 cases b1<;>cases b2<;>simp[zv,Int.neg_tmod,Int.tmod_neg,Int.ofNat_tmod]<;>exact (Int.tmod_eq_emod_of_nonneg (by omega)).symm
structure I4 (w:World) (b1:Bool) (a1:Option Addr) (k1 c1:Nat) (b2:Bool) (a2:Option Addr) (k2 c2:Nat) (W:World):Prop where
 x:B2 W w.heap.size (.bool b1) (.slice a1 k1 c1)
 y:B2 W (w.heap.size+1) (.bool b2) (.slice a2 k2 c2)
 r:B2 W (w.heap.size+1+1) (.bool false) (.slice none 0 0)
 s:B2 W (w.heap.size+1+1+1) (.bool false) (.slice none 0 0)
 bel:Below w.heap.size w W
theorem I4.keep{w:World}{b1:Bool}{a1:Option Addr}{k1 c1:Nat}{b2:Bool}{a2:Option Addr}{k2 c2:Nat}{W W':World}(h:I4 w b1 a1 k1 c1 b2 a2 k2 c2 W)(hb:Below W.heap.size W W'):I4 w b1 a1 k1 c1 b2 a2 k2 c2 W':=
 ⟨h.x.keep hb,h.y.keep hb,h.r.keep hb,h.s.keep hb,h.bel.trans (hb.mono h.bel.size)⟩
theorem I4.made(w:World) (b1:Bool) (a1:Option Addr) (k1 c1:Nat) (b2:Bool) (a2:Option Addr) (k2 c2:Nat) (T1 T2 T3 T4:TypeId) :
  I4 w b1 a1 k1 c1 b2 a2 k2 c2 ((((w.alloc (.cells #[.bool b1,.slice a1 k1 c1] T1)).alloc (.cells #[.bool b2,.slice a2 k2 c2] T2)).alloc (.cells #[.bool false,.slice none 0 0] T3)).alloc (.cells #[.bool false,.slice none 0 0] T4)):=by
 have h:=I3.made w b1 a1 k1 c1 b2 a2 k2 c2 T1 T2 T3
 have s3:(((w.alloc (.cells #[.bool b1,.slice a1 k1 c1] T1)).alloc (.cells #[.bool b2,.slice a2 k2 c2] T2)).alloc (.cells #[.bool false,.slice none 0 0] T3)).heap.size=w.heap.size+1+1+1:=by simp
 have k:=h.keep (bel_one _ (.cells #[.bool false,.slice none 0 0] T4))
 refine⟨k.x,k.y,k.r,?_,k.bel⟩
 rw[←s3];exact B2.made _ _ _ T4
theorem I4.si{w:World}{b1:Bool}{a1:Option Addr}{k1 c1:Nat}{b2:Bool}{a2:Option Addr}{k2 c2:Nat}{W:World}(h:I4 w b1 a1 k1 c1 b2 a2 k2 c2 W):SI w.heap.size b1 a1 k1 c1 b2 a2 k2 c2 W:=⟨h.x.c0,h.x.c1,h.y.c0,h.y.c1⟩
def DvPost(q r:Int)(w:World)(e:Ending)(w':World):Prop:=
 ∃ b a k c b' a' k' c',e=.returned (.tuple #[.agg #[.bool b,.slice a k c],.agg #[.bool b',.slice a' k' c']])∧Zn w' b a k c q∧Zn w' b' a' k' c' r∧Below w.heap.size w w'
set_option maxHeartbeats 4000000 in
theorem Divide_c(b1 b2:Bool) (a1 a2:Option Addr) (k1 k2 c1 c2:Nat) (z1 z2:Int) (w:World) (h1:Zn w b1 a1 k1 c1 z1) (h2:Zn w b2 a2 k2 c2 z2) (hz:z2≠0) (n1:z1.natAbs<bp 4000) :
  Calls Tryz.prog 131 #[.agg #[.bool b1,.slice a1 k1 c1],.agg #[.bool b2,.slice a2 k2 c2]] w (DvPost (z1.tdiv z2) (z1.tmod z2) w):=by
 obtain⟨W0,hW0⟩:∃ W0,(((w.alloc (.cells #[.bool b1,.slice a1 k1 c1] 107)).alloc (.cells #[.bool b2,.slice a2 k2 c2] 107)).alloc (.cells #[.bool false,.slice none 0 0] 107)).alloc (.cells #[.bool false,.slice none 0 0] 107)=W0:=⟨_,rfl⟩
 have J0:Hid (I4 w b1 a1 k1 c1 b2 a2 k2 c2 W0):=by rw[←hW0];exact I4.made _ _ _ _ _ _ _ _ _ _ _ _ _
 have HC:=Zh (divide_c a1 a2 k1 k2 c1 c2 _ _ W0 (h1.nm.below J0.out.bel) (h2.nm.below J0.out.bel) (by omega) n1)
 have E1:=Zh h1.zv
 have E2:=Zh h2.zv
 clear h1 h2 n1 hz
 have x0:=J0.out.x.c0
 have x1:=J0.out.x.c1
 have y0:=J0.out.y.c0
 have y1:=J0.out.y.c1
 go_enter Tryz.func131,Tryz.ntmps131
 go_wp2_with fail
 clear hW0
 refine HC.out.mono ?_
 rintro e w1 ⟨qa,qk,qc,ra,rk,rc,rfl,l1,l2,b1'⟩
 have J1:=Zh (J0.out.keep b1')
 have L1:=Zh l1
 have L2:=Zh l2
 clear x0 x1 y0 y1 HC J0 l1 l2 b1'
 go_wp2_with fail
 refine wp_region_noPanic ?_
 refine wp_region_held_drew (S:=SI w.heap.size b1 a1 k1 c1 b2 a2 k2 c2) (by kernel_rfl) (J1.out.keep (Below.refl _ _).drew).si (fun hS=>?_)
 have J2:=Zh (J1.out.keep (Below.refl _ _).drew)
 have L1':=Zh (L1.out.below (Below.refl _ _).drew)
 have L2':=Zh (L2.out.below (Below.refl _ _).drew)
 clear L1 L2 J1
 refine Zt (i:=0) (v:=?v0z29) rfl (Or.inl ⟨by rfl,?hy0z29⟩) ?rest0z29
 case hy0z29=>
  intro w hSw
  dsimp only[SI]at hSw
  go_simp
  try with_reducible rfl
 simp only[Act.put,Zd,Ze,Zf,Za,Zb,Zc]
 refine Zt (i:=1) (v:=?v1z30) rfl (Or.inl ⟨by rfl,?hy1z30⟩) ?rest1z30
 case hy1z30=>
  intro w hSw
  dsimp only[SI]at hSw
  go_simp
  try with_reducible rfl
 simp only[Act.put,Zd,Ze,Zf,Za,Zb,Zc]
 refine Zt (i:=2) (v:=?v2z31) rfl (Or.inl ⟨by rfl,?hy2z31⟩) ?rest2z31
 case hy2z31=>
  intro w hSw
  dsimp only[SI]at hSw
  go_simp
  try with_reducible rfl
 simp only[Act.put,Zd,Ze,Zf,Za,Zb,Zc]
 refine Zt (i:=3) (v:=?v3z32) rfl (Or.inl ⟨by rfl,?hy3z32⟩) ?rest3z32
 case hy3z32=>
  intro w hSw
  dsimp only[SI]at hSw
  go_simp
  try with_reducible rfl
 simp only[Act.put,Zd,Ze,Zf,Za,Zb,Zc]
 refine Zt (i:=4) (v:=?v4z33) rfl (Or.inl ⟨by rfl,?hy4z33⟩) ?rest4z33
 case hy4z33=>
  intro w hSw
  dsimp only[SI]at hSw
  go_simp
  try with_reducible rfl
 simp only[Act.put,Zd,Ze,Zf,Za,Zb,Zc]
 refine Zt (i:=5) (v:=?v5z34) rfl (Or.inl ⟨by rfl,?hy5z34⟩) ?rest5z34
 case hy5z34=>
  intro w hSw
  dsimp only[SI]at hSw
  go_simp
  try with_reducible rfl
 simp only[Act.put,Zd,Ze,Zf,Za,Zb,Zc]
 refine Zt (i:=7) (v:=?v7z35) rfl (Or.inl ⟨by rfl,?hy7z35⟩) ?rest7z35
 case hy7z35=>
  intro w hSw
  dsimp only[SI]at hSw
  go_simp
  try with_reducible rfl
 simp only[Act.put,Zd,Ze,Zf,Za,Zb,Zc]
 refine Zt (i:=8) (v:=?v8z36) rfl (Or.inl ⟨by rfl,?hy8z36⟩) ?rest8z36
 case hy8z36=>
  intro w hSw
  dsimp only[SI]at hSw
  go_simp
  try with_reducible rfl
 simp only[Act.put,Zd,Ze,Zf,Za,Zb,Zc]
 refine Zt (i:=9) (v:=?v9z37) rfl (Or.inl ⟨by rfl,?hy9z37⟩) ?rest9z37
 case hy9z37=>
  intro w hSw
  dsimp only[SI]at hSw
  go_simp
  try with_reducible rfl
 simp only[Act.put,Zd,Ze,Zf,Za,Zb,Zc]
 refine wpAnyH_ready (rs:=[6]) (by kernel_rfl) (by simp) ?_
 refine AllReadyH.cons rfl (fun K hK=>?_) AllReadyH.nil
 go_simp
 refine (withSign_c (b1 != b2) qa qk qc _ _ L1'.out).mono ?_
 rintro e W3 ⟨b',rfl,hz,bc⟩
 try go_simp
 have J3:=Zh (J2.out.keep bc)
 have hT:=J3.out.si
 have HQ:Hid (Zn W3 b' qa qk qc (z1.tdiv z2)):=by
  rw[zv_tdiv,←E1.out,←E2.out]at hz
  exact hz
 have L2:=Zh (L2'.out.below bc)
 refine hK.out _ _ hT (fun _=>?_)
 clear hK K hS bc J2 hz L1' L2'
 have hS:=hT
 clear hT
 try simp only[Act.put,Za,Zb,Zc]
 refine wpAnyH_ready (rs:=[10]) (by kernel_rfl) (by simp) ?_
 refine AllReadyH.cons rfl (fun K hK=>?_) AllReadyH.nil
 go_simp
 refine (withSign_c b1 ra rk rc _ W3 L2.out).mono ?_
 rintro e W4 ⟨b'',rfl,hz,bc⟩
 try go_simp
 have J4:=Zh (J3.out.keep bc)
 have hT:=J4.out.si
 have HR:Hid (Zn W4 b'' ra rk rc (z1.tmod z2)):=by
  rw[zv_tmod b1 b2,←E1.out,←E2.out]at hz
  exact hz
 have HQ4:=Zh (HQ.out.below bc)
 refine hK.out _ _ hT (fun _=>?_)
 clear hK K hS bc J3 hz L2 HQ
 have hS:=hT
 clear hT
 try simp only[Act.put,Za,Zb,Zc]
 refine wpAnyH_ready (rs:=[11]) (by kernel_rfl) (by simp) ?_
 refine AllReadyH.cons rfl (fun K hK=>?_) AllReadyH.nil
 have q0:=J4.out.r.c0
 have q1:=J4.out.r.c1
 have g0:=J4.out.r.fr 0
 have g1:=J4.out.r.fr 1
 go_simp
 clear q0 q1 g0 g1
 obtain⟨W5,hW5⟩:∃ W5,two W4 (w.heap.size+1+1) (.bool b') (.slice qa qk qc)=W5:=⟨_,rfl⟩
 have R5:B2 W5 (w.heap.size+1+1) (.bool b') (.slice qa qk qc):=by rw[←hW5];exact J4.out.r.set _ _
 have S5:B2 W5 (w.heap.size+1+1+1) (.bool false) (.slice none 0 0):=by rw[←hW5];exact J4.out.s.other (by omega) _ _
 have hT:SI w.heap.size b1 a1 k1 c1 b2 a2 k2 c2 W5:=by rw[←hW5];exact⟨(J4.out.x.other (by omega) _ _).c0,(J4.out.x.other (by omega) _ _).c1,(J4.out.y.other (by omega) _ _).c0,(J4.out.y.other (by omega) _ _).c1⟩
 have hX:B2 W5 w.heap.size (.bool b1) (.slice a1 k1 c1):=by rw[←hW5];exact J4.out.x.other (by omega) _ _
 have hY:B2 W5 (w.heap.size+1) (.bool b2) (.slice a2 k2 c2):=by rw[←hW5];exact J4.out.y.other (by omega) _ _
 have HQ5:Hid (Zn W5 b' qa qk qc (z1.tdiv z2)):=by rw[←hW5];exact HQ4.out.set2 J4.out.r _ _
 have HR5:Hid (Zn W5 b'' ra rk rc (z1.tmod z2)):=by rw[←hW5];exact HR.out.set2 J4.out.r _ _
 have B5:Hid (Below w.heap.size w W5):=by rw[←hW5];exact below_two J4.out.bel (by omega) _ _
 unfold two at hW5
 rw[hW5]
 refine hK.out _ _ hT (fun _=>?_)
 clear hK K hS hW5 J4 HQ4 HR
 have hS:=hT
 clear hT
 try simp only[Act.put,Za,Zb,Zc]
 refine wpAnyH_ready (rs:=[12]) (by kernel_rfl) (by simp) ?_
 refine AllReadyH.cons rfl (fun K hK=>?_) AllReadyH.nil
 have q0:=S5.c0
 have q1:=S5.c1
 have g0:=S5.fr 0
 have g1:=S5.fr 1
 go_simp
 clear q0 q1 g0 g1
 obtain⟨W6,hW6⟩:∃ W6,two W5 (w.heap.size+1+1+1) (.bool b'') (.slice ra rk rc)=W6:=⟨_,rfl⟩
 have R6:B2 W6 (w.heap.size+1+1) (.bool b') (.slice qa qk qc):=by rw[←hW6];exact R5.other (by omega) _ _
 have S6:B2 W6 (w.heap.size+1+1+1) (.bool b'') (.slice ra rk rc):=by rw[←hW6];exact S5.set _ _
 have hT:SI w.heap.size b1 a1 k1 c1 b2 a2 k2 c2 W6:=by rw[←hW6];exact⟨(hX.other (by omega) _ _).c0,(hX.other (by omega) _ _).c1,(hY.other (by omega) _ _).c0,(hY.other (by omega) _ _).c1⟩
 have PP:Hid (DvPost (z1.tdiv z2) (z1.tmod z2) w (.returned (.tuple #[.agg #[.bool b',.slice qa qk qc],.agg #[.bool b'',.slice ra rk rc]])) W6):=by
  rw[←hW6]
  exact⟨_,_,_,_,_,_,_,_,rfl,HQ5.out.set2 S5 _ _,HR5.out.set2 S5 _ _,below_two B5.out (by omega) _ _⟩
 unfold two at hW6
 rw[hW6]
 refine hK.out _ _ hT (fun _=>?_)
 clear hK K hS hW6 R5 S5 hX hY
 try simp only[Act.put,Za,Zb,Zc]
 refine wpAnyH_done (by kernel_rfl) ?_ _
 refine NoPanic.normal ?_
 obtain⟨r0,r1,_,_⟩:=id R6
 obtain⟨s0,s1,_,_⟩:=id S6
 clear hT R6 S6
 go_wp2_with fail
 exact bodyPost_ret (v:=.tuple #[.agg #[.bool b',.slice qa qk qc],.agg #[.bool b'',.slice ra rk rc]]) (by simp[results,Tryz.results131,go_sem,r0,r1,s0,s1]) rfl PP.out
structure B4 (W:World) (g:Nat) (x0 x1 x2 x3:Value):Prop where
 c0:W.cell? ⟨g,0,none⟩=some x0
 c1:W.cell? ⟨g,1,none⟩=some x1
 c2:W.cell? ⟨g,2,none⟩=some x2
 c3:W.cell? ⟨g,3,none⟩=some x3
 fr:∀ o,W.frozen? ⟨g,o,none⟩=false
 lt:g<W.heap.size
theorem B4.keep{W W':World}{g:Nat}{x0 x1 x2 x3:Value}(h:B4 W g x0 x1 x2 x3)(hb:Below W.heap.size W W'):B4 W' g x0 x1 x2 x3:=by
 have c:=fun (o:Nat)=>hb.cell (p:=⟨g,o,none⟩) h.lt
 exact⟨(c 0).trans h.c0,(c 1).trans h.c1,(c 2).trans h.c2,(c 3).trans h.c3,fun o=>(hb.frozen (p:=⟨g,o,none⟩) h.lt).trans (h.fr o),Nat.lt_of_lt_of_le h.lt hb.size⟩
theorem B4.made(W:World)(x0 x1 x2 x3:Value)(T:TypeId):B4 (W.alloc (.cells #[x0,x1,x2,x3] T)) W.heap.size x0 x1 x2 x3:=by
 refine⟨?_,?_,?_,?_,fun o=>by simp,by simp⟩
 all_goals (rw[World.cell?_alloc_new];rfl)
def four(W:World)(g:Nat)(y0 y1 y2 y3:Value):World:=(((W.setCell ⟨g,0,none⟩ y0).setCell ⟨g,1,none⟩ y1).setCell ⟨g,2,none⟩ y2).setCell ⟨g,3,none⟩ y3
theorem four_size(W:World)(g:Nat)(y0 y1 y2 y3:Value):(four W g y0 y1 y2 y3).heap.size=W.heap.size:=by unfold four;simp
theorem addr_ne{g:Nat}{i j:Nat}(h:i≠j):(⟨g,i,none⟩:Addr)≠⟨g,j,none⟩:=fun e=>by injection e with _ e2;exact h e2
theorem addr_ne'{g h:Nat}{i j:Nat}(hn:h≠g):(⟨h,i,none⟩:Addr)≠⟨g,j,none⟩:=fun e=>by injection e with e1 _;exact hn e1
theorem B4.set{W:World}{g:Nat}{x0 x1 x2 x3:Value}(h:B4 W g x0 x1 x2 x3)(y0 y1 y2 y3:Value):B4 (four W g y0 y1 y2 y3) g y0 y1 y2 y3:=by
 unfold four
 refine⟨?_,?_,?_,?_,fun o=>by simp only[World.frozen?_setCell];exact h.fr o,by simpa using h.lt⟩
 ·rw[World.cell?_setCell_other _ _ _ _ (addr_ne (by decide)),World.cell?_setCell_other _ _ _ _ (addr_ne (by decide)),World.cell?_setCell_other _ _ _ _ (addr_ne (by decide)),World.cell?_setCell_same _ _ _ h.c0]
 ·rw[World.cell?_setCell_other _ _ _ _ (addr_ne (by decide)),World.cell?_setCell_other _ _ _ _ (addr_ne (by decide)),World.cell?_setCell_same _ _ _ (u:=x1) (by rw[World.cell?_setCell_other _ _ _ _ (addr_ne (by decide))];exact h.c1)]
 ·rw[World.cell?_setCell_other _ _ _ _ (addr_ne (by decide)),World.cell?_setCell_same _ _ _ (u:=x2) (by rw[World.cell?_setCell_other _ _ _ _ (addr_ne (by decide)),World.cell?_setCell_other _ _ _ _ (addr_ne (by decide))];exact h.c2)]
 ·rw[World.cell?_setCell_same _ _ _ (u:=x3) (by rw[World.cell?_setCell_other _ _ _ _ (addr_ne (by decide)),World.cell?_setCell_other _ _ _ _ (addr_ne (by decide)),World.cell?_setCell_other _ _ _ _ (addr_ne (by decide))];exact h.c3)]
theorem four_cell{W:World}{g h:Nat}(hne:h≠g)(y0 y1 y2 y3:Value)(o:Nat):(four W h y0 y1 y2 y3).cell? ⟨g,o,none⟩=W.cell? ⟨g,o,none⟩:=by
 unfold four
 rw[World.cell?_setCell_other _ _ _ _ (addr_ne' hne),World.cell?_setCell_other _ _ _ _ (addr_ne' hne),World.cell?_setCell_other _ _ _ _ (addr_ne' hne),World.cell?_setCell_other _ _ _ _ (addr_ne' hne)]
theorem two_cell{W:World}{g h:Nat}(hne:h≠g)(y0 y1:Value)(o:Nat):(two W h y0 y1).cell? ⟨g,o,none⟩=W.cell? ⟨g,o,none⟩:=by
 unfold two
 rw[World.cell?_setCell_other _ _ _ _ (addr_ne' hne),World.cell?_setCell_other _ _ _ _ (addr_ne' hne)]
theorem B4.other2{W:World}{g h:Nat}{x0 x1 x2 x3:Value}(hb:B4 W g x0 x1 x2 x3)(hne:h≠g)(y0 y1:Value):B4 (two W h y0 y1) g x0 x1 x2 x3:=
 ⟨(two_cell hne _ _ 0).trans hb.c0,(two_cell hne _ _ 1).trans hb.c1,(two_cell hne _ _ 2).trans hb.c2,(two_cell hne _ _ 3).trans hb.c3,fun o=>by unfold two;simp only[World.frozen?_setCell];exact hb.fr o,by rw[two_size];exact hb.lt⟩
theorem B4.other{W:World}{g h:Nat}{x0 x1 x2 x3:Value}(hb:B4 W g x0 x1 x2 x3)(hne:h≠g)(y0 y1 y2 y3:Value):B4 (four W h y0 y1 y2 y3) g x0 x1 x2 x3:=
 ⟨(four_cell hne _ _ _ _ 0).trans hb.c0,(four_cell hne _ _ _ _ 1).trans hb.c1,(four_cell hne _ _ _ _ 2).trans hb.c2,(four_cell hne _ _ _ _ 3).trans hb.c3,fun o=>by unfold four;simp only[World.frozen?_setCell];exact hb.fr o,by rw[four_size];exact hb.lt⟩
theorem below_four{W0 W:World}{g:Nat}(h:Below W0.heap.size W0 W)(hg:W0.heap.size≤g)(y0 y1 y2 y3:Value):Below W0.heap.size W0 (four W g y0 y1 y2 y3):=
 (((h.setCell (p:=⟨g,0,none⟩) hg y0).setCell (p:=⟨g,1,none⟩) hg y1).setCell (p:=⟨g,2,none⟩) hg y2).setCell (p:=⟨g,3,none⟩) hg y3
def NL(u:Value):Prop:=∀ m,u≠.int .u64 m
theorem NL.b(s:Bool):NL (.bool s):=fun m e=>by cases e
theorem NL.s(a:Option Addr)(k c:Nat):NL (.slice a k c):=fun m e=>by cases e
theorem Zn.set4{W:World}{b:Bool}{a:Option Addr}{k c:Nat}{z:Int}(h:Zn W b a k c z){g:Nat}{x0 x1 x2 x3:Value}(hb:B4 W g x0 x1 x2 x3)(l0:NL x0)(l1:NL x1)(l2:NL x2)(l3:NL x3)(y0 y1 y2 y3:Value):Zn (four W g y0 y1 y2 y3) b a k c z:=by
 obtain⟨n,h1,h2⟩:=h
 refine⟨n,?_,h2⟩
 unfold four
 refine (((h1.set hb.c0 l0 y0).set (u:=x1) ?_ l1 y1).set (u:=x2) ?_ l2 y2).set (u:=x3) ?_ l3 y3
 ·rw[World.cell?_setCell_other _ _ _ _ (addr_ne (by decide))];exact hb.c1
 ·rw[World.cell?_setCell_other _ _ _ _ (addr_ne (by decide)),World.cell?_setCell_other _ _ _ _ (addr_ne (by decide))];exact hb.c2
 ·rw[World.cell?_setCell_other _ _ _ _ (addr_ne (by decide)),World.cell?_setCell_other _ _ _ _ (addr_ne (by decide)),World.cell?_setCell_other _ _ _ _ (addr_ne (by decide))];exact hb.c3
def FrPost(n d:Int)(w:World)(e:Ending)(w':World):Prop:=
 ∃ b a k c b' a' k' c',e=.returned (.agg #[.bool b,.slice a k c,.bool b',.slice a' k' c'])∧Zn w' b a k c n∧Zn w' b' a' k' c' d∧Below w.heap.size w w'
structure Ov (w:World) (gd:Nat) (b1:Bool) (a1:Option Addr) (k1 c1:Nat) (b2:Bool) (a2:Option Addr) (k2 c2:Nat) (b3:Bool) (a3:Option Addr) (k3 c3:Nat) (W:World):Prop where
 x:B2 W w.heap.size (.bool b1) (.slice a1 k1 c1)
 y:B2 W (w.heap.size+1) (.bool b2) (.slice a2 k2 c2)
 r:B4 W (w.heap.size+1+1) (.bool false) (.slice none 0 0) (.bool false) (.slice none 0 0)
 d:B2 W gd (.bool b3) (.slice a3 k3 c3)
 hd:w.heap.size+1+1<gd
 bel:Below w.heap.size w W
theorem Ov.keep{w:World} {gd:Nat} {b1:Bool} {a1:Option Addr} {k1 c1:Nat} {b2:Bool} {a2:Option Addr} {k2 c2:Nat} {b3:Bool} {a3:Option Addr} {k3 c3:Nat} {W W':World} (h:Ov w gd b1 a1 k1 c1 b2 a2 k2 c2 b3 a3 k3 c3 W) (hb:Below W.heap.size W W') :
  Ov w gd b1 a1 k1 c1 b2 a2 k2 c2 b3 a3 k3 c3 W':=⟨h.x.keep hb,h.y.keep hb,h.r.keep hb,h.d.keep hb,h.hd,h.bel.trans (hb.mono h.bel.size)⟩
theorem Ov.setD{w:World} {gd:Nat} {b1:Bool} {a1:Option Addr} {k1 c1:Nat} {b2:Bool} {a2:Option Addr} {k2 c2:Nat} {b3:Bool} {a3:Option Addr} {k3 c3:Nat} {W:World} (h:Ov w gd b1 a1 k1 c1 b2 a2 k2 c2 b3 a3 k3 c3 W) (b:Bool) (a:Option Addr) (k c:Nat) :
  Ov w gd b1 a1 k1 c1 b2 a2 k2 c2 b a k c (two W gd (.bool b) (.slice a k c)):=
 have hd:=h.hd
 ⟨h.x.other (by omega) _ _,h.y.other (by omega) _ _,h.r.other2 (by omega) _ _,h.d.set _ _,h.hd,below_two h.bel (by omega) _ _⟩
def ovG(n d:Int):Int:=if d<0 then -(Int.gcd n d:Int) else Int.gcd n d
theorem ovG_abs(n d:Int):(ovG n d).natAbs=Int.gcd n d:=by unfold ovG;split<;>omega
theorem ovG_ne{n d:Int}(h:d≠0):ovG n d≠0:=by
 have:0<Int.gcd n d:=Int.gcd_pos_of_ne_zero_right n h
 intro e
 have:=ovG_abs n d
 rw[e]at this
 simp at this
 omega
end Go.Proofs.YtghgbhmiliiohaaGreatDoor
