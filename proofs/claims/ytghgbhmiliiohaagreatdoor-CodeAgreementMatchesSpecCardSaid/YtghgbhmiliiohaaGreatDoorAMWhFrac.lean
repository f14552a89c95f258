/-
  Fractions of whole numbers of any size: sums and products.
-/
import Derived.Test.YtghgbhmiliiohaaGreatDoorAMQ
import Derived.Test.YtghgbhmiliiohaaGreatDoorAM18
import Derived.Test.YtghgbhmiliiohaaGreatDoorAM28
import Derived.Test.YtghgbhmiliiohaaGreatDoorAM19
import Derived.RegionTactic
import Derived.BigRegion
import Derived.Outline
import Derived.Deep.RegionHeld3
set_option maxRecDepth 100000
namespace Go.Proofs.YtghgbhmiliiohaaGreatDoor
open Go.RowKit
theorem F3.two{w:World}{b1:Bool}{a1:Option Addr}{k1 c1:Nat}{d1:Bool}{e1:Option Addr}{m1 q1:Nat}{b2:Bool}{a2:Option Addr}{k2 c2:Nat}{d2:Bool}{e2:Option Addr}{m2 q2:Nat}{W:World}(h:F3 w b1 a1 k1 c1 d1 e1 m1 q1 b2 a2 k2 c2 d2 e2 m2 q2 W){g:Nat}(hg:w.heap.size+1+1<g)(y0 y1:Value):F3 w b1 a1 k1 c1 d1 e1 m1 q1 b2 a2 k2 c2 d2 e2 m2 q2 (two W g y0 y1):=
 ⟨h.x.other2 (by omega) _ _,h.y.other2 (by omega) _ _,h.r.other2 (by omega) _ _,below_two h.bel (by omega) _ _⟩
theorem F3.lo{w:World}{b1:Bool}{a1:Option Addr}{k1 c1:Nat}{d1:Bool}{e1:Option Addr}{m1 q1:Nat}{b2:Bool}{a2:Option Addr}{k2 c2:Nat}{d2:Bool}{e2:Option Addr}{m2 q2:Nat}{W:World}(h:F3 w b1 a1 k1 c1 d1 e1 m1 q1 b2 a2 k2 c2 d2 e2 m2 q2 W):w.heap.size+1+1<W.heap.size:=h.r.lt
theorem F3.far{w:World} {b1:Bool} {a1:Option Addr} {k1 c1:Nat} {d1:Bool} {e1:Option Addr} {m1 q1:Nat} {b2:Bool} {a2:Option Addr} {k2 c2:Nat} {d2:Bool} {e2:Option Addr} {m2 q2:Nat} {W:World} (h:F3 w b1 a1 k1 c1 d1 e1 m1 q1 b2 a2 k2 c2 d2 e2 m2 q2 W) (y0 y1 y2 y3:Value) :
  B4 (four W (w.heap.size+1+1) y0 y1 y2 y3) w.heap.size (.bool b1) (.slice a1 k1 c1) (.bool d1) (.slice e1 m1 q1)∧B4 (four W (w.heap.size+1+1) y0 y1 y2 y3) (w.heap.size+1) (.bool b2) (.slice a2 k2 c2) (.bool d2) (.slice e2 m2 q2):=
 ⟨h.x.other (by omega) _ _ _ _,h.y.other (by omega) _ _ _ _⟩
structure Ft (w:World) (b1:Bool) (a1:Option Addr) (k1 c1:Nat) (d1:Bool) (e1:Option Addr) (m1 q1:Nat) (b2:Bool) (a2:Option Addr) (k2 c2:Nat) (d2:Bool) (e2:Option Addr) (m2 q2:Nat) (g h:Nat) (pb:Bool) (pa:Option Addr) (pk pc:Nat) (ub:Bool) (ua:Option Addr) (uk uc:Nat) (W:World):Prop where
 j:F3 w b1 a1 k1 c1 d1 e1 m1 q1 b2 a2 k2 c2 d2 e2 m2 q2 W
 bg:B2 W g (.bool pb) (.slice pa pk pc)
 bh:B2 W h (.bool ub) (.slice ua uk uc)
 lg:w.heap.size+1+1<g
 lh:w.heap.size+1+1<h
theorem Ft.keep{w:World}{b1:Bool}{a1:Option Addr}{k1 c1:Nat}{d1:Bool}{e1:Option Addr}{m1 q1:Nat}{b2:Bool}{a2:Option Addr}{k2 c2:Nat}{d2:Bool}{e2:Option Addr}{m2 q2:Nat}{g h:Nat}{pb:Bool}{pa:Option Addr}{pk pc:Nat}{ub:Bool}{ua:Option Addr}{uk uc:Nat}{W W':World}(t:Ft w b1 a1 k1 c1 d1 e1 m1 q1 b2 a2 k2 c2 d2 e2 m2 q2 g h pb pa pk pc ub ua uk uc W)(hb:Below W.heap.size W W'):Ft w b1 a1 k1 c1 d1 e1 m1 q1 b2 a2 k2 c2 d2 e2 m2 q2 g h pb pa pk pc ub ua uk uc W':=⟨t.j.keep hb,t.bg.keep hb,t.bh.keep hb,t.lg,t.lh⟩
def SG(o:Nat)(b1:Bool)(a1:Option Addr)(k1 c1:Nat)(d1:Bool)(e1:Option Addr)(m1 q1:Nat)(b2:Bool)(a2:Option Addr)(k2 c2:Nat)(d2:Bool)(e2:Option Addr)(m2 q2:Nat)(g h:Nat)(pb:Bool)(pa:Option Addr)(pk pc:Nat)(ub:Bool)(ua:Option Addr)(uk uc:Nat)(W:World):Prop:=
 W.cell? ⟨o,0,none⟩=some (.bool b1)∧W.cell? ⟨o,1,none⟩=some (.slice a1 k1 c1)∧W.cell? ⟨o,2,none⟩=some (.bool d1)∧W.cell? ⟨o,3,none⟩=some (.slice e1 m1 q1) ∧
 W.cell? ⟨o+1,0,none⟩=some (.bool b2)∧W.cell? ⟨o+1,1,none⟩=some (.slice a2 k2 c2)∧W.cell? ⟨o+1,2,none⟩=some (.bool d2)∧W.cell? ⟨o+1,3,none⟩=some (.slice e2 m2 q2) ∧
 W.cell? ⟨g,0,none⟩=some (.bool pb)∧W.cell? ⟨g,1,none⟩=some (.slice pa pk pc)∧W.cell? ⟨h,0,none⟩=some (.bool ub)∧W.cell? ⟨h,1,none⟩=some (.slice ua uk uc)
theorem Ft.sg{w:World}{b1:Bool}{a1:Option Addr}{k1 c1:Nat}{d1:Bool}{e1:Option Addr}{m1 q1:Nat}{b2:Bool}{a2:Option Addr}{k2 c2:Nat}{d2:Bool}{e2:Option Addr}{m2 q2:Nat}{g h:Nat}{pb:Bool}{pa:Option Addr}{pk pc:Nat}{ub:Bool}{ua:Option Addr}{uk uc:Nat}{W:World}(t:Ft w b1 a1 k1 c1 d1 e1 m1 q1 b2 a2 k2 c2 d2 e2 m2 q2 g h pb pa pk pc ub ua uk uc W):SG w.heap.size b1 a1 k1 c1 d1 e1 m1 q1 b2 a2 k2 c2 d2 e2 m2 q2 g h pb pa pk pc ub ua uk uc W:=⟨t.j.x.c0,t.j.x.c1,t.j.x.c2,t.j.x.c3,t.j.y.c0,t.j.y.c1,t.j.y.c2,t.j.y.c3,t.bg.c0,t.bg.c1,t.bh.c0,t.bh.c1⟩
theorem Ft.done{w:World}{b1:Bool}{a1:Option Addr}{k1 c1:Nat}{d1:Bool}{e1:Option Addr}{m1 q1:Nat}{b2:Bool}{a2:Option Addr}{k2 c2:Nat}{d2:Bool}{e2:Option Addr}{m2 q2:Nat}{g h:Nat}{pb:Bool}{pa:Option Addr}{pk pc:Nat}{ub:Bool}{ua:Option Addr}{uk uc:Nat}{W:World}(t:Ft w b1 a1 k1 c1 d1 e1 m1 q1 b2 a2 k2 c2 d2 e2 m2 q2 g h pb pa pk pc ub ua uk uc W)(y0 y1 y2 y3:Value):SG w.heap.size b1 a1 k1 c1 d1 e1 m1 q1 b2 a2 k2 c2 d2 e2 m2 q2 g h pb pa pk pc ub ua uk uc (four W (w.heap.size+1+1) y0 y1 y2 y3):=by
 obtain⟨u,v⟩:=t.j.far y0 y1 y2 y3
 have lg:=t.lg
 have lh:=t.lh
 exact⟨u.c0,u.c1,u.c2,u.c3,v.c0,v.c1,v.c2,v.c3,(four_cell (by omega) _ _ _ _ 0).trans t.bg.c0,(four_cell (by omega) _ _ _ _ 1).trans t.bg.c1,(four_cell (by omega) _ _ _ _ 0).trans t.bh.c0,(four_cell (by omega) _ _ _ _ 1).trans t.bh.c1⟩
theorem tdiv_lt{x y:Int}{i:Nat}(h:x.natAbs<bp i):(x.tdiv y).natAbs<bp i:=by
 rw[Int.natAbs_tdiv]
 exact Nat.lt_of_le_of_lt (Nat.div_le_self _ _) h
set_option maxHeartbeats 4000000 in
theorem FTimes_c(b1:Bool) (a1:Option Addr) (k1 c1:Nat) (d1:Bool) (e1:Option Addr) (m1 q1:Nat) (b2:Bool) (a2:Option Addr) (k2 c2:Nat) (d2:Bool) (e2:Option Addr) (m2 q2:Nat) (z1 y1 z2 y2:Int) (w:World) (h1:Zn w b1 a1 k1 c1 z1) (g1:Zn w d1 e1 m1 q1 y1) (h2:Zn w b2 a2 k2 c2 z2) (g2:Zn w d2 e2 m2 q2 y2) (n1:z1.natAbs<bp 2000) (o1:y1.natAbs<bp 2000) (n2:z2.natAbs<bp 2000) (o2:y2.natAbs<bp 2000) (p1:0<y1) (p2:0<y2) (u1:Int.gcd z1 y1=1) (u2:Int.gcd z2 y2=1) :
  Calls Tryz.prog 118 #[.agg #[.bool b1,.slice a1 k1 c1,.bool d1,.slice e1 m1 q1],.agg #[.bool b2,.slice a2 k2 c2,.bool d2,.slice e2 m2 q2]] w (FrPost ((z1*z2).tdiv (ovG (z1*z2) (y1*y2))) ((y1*y2).tdiv (ovG (z1*z2) (y1*y2))) w):=by
 obtain⟨W0,hW0⟩:∃ W0,((w.alloc (.cells #[.bool b1,.slice a1 k1 c1,.bool d1,.slice e1 m1 q1] 109)).alloc (.cells #[.bool b2,.slice a2 k2 c2,.bool d2,.slice e2 m2 q2] 109)).alloc (.cells #[.bool false,.slice none 0 0,.bool false,.slice none 0 0] 109)=W0:=⟨_,rfl⟩
 have J0:Hid (F3 w b1 a1 k1 c1 d1 e1 m1 q1 b2 a2 k2 c2 d2 e2 m2 q2 W0):=by rw[←hW0];exact F3.made _ _ _ _ _ _ _ _ _ _ _ _ _ _ _ _ _ _ _ _
 have M1:=Zh (fun W (h:F3 w b1 a1 k1 c1 d1 e1 m1 q1 b2 a2 k2 c2 d2 e2 m2 q2 W)=>h1.below h.bel)
 have M2:=Zh (fun W (h:F3 w b1 a1 k1 c1 d1 e1 m1 q1 b2 a2 k2 c2 d2 e2 m2 q2 W)=>h2.below h.bel)
 have D1:=Zh (fun W (h:F3 w b1 a1 k1 c1 d1 e1 m1 q1 b2 a2 k2 c2 d2 e2 m2 q2 W)=>g1.below h.bel)
 have D2:=Zh (fun W (h:F3 w b1 a1 k1 c1 d1 e1 m1 q1 b2 a2 k2 c2 d2 e2 m2 q2 W)=>g2.below h.bel)
 have N1:=Zh n1
 have N2:=Zh n2
 have O1:=Zh o1
 have O2:=Zh o2
 have N14:=Zh (Nat.lt_of_lt_of_le n1 (bp_mono (show 2000≤4000 by decide)))
 have N24:=Zh (Nat.lt_of_lt_of_le n2 (bp_mono (show 2000≤4000 by decide)))
 have O14:=Zh (Nat.lt_of_lt_of_le o1 (bp_mono (show 2000≤4000 by decide)))
 have O24:=Zh (Nat.lt_of_lt_of_le o2 (bp_mono (show 2000≤4000 by decide)))
 have CG:=Zh (cross_gcd p1 p2 u1 u2)
 clear h1 h2 g1 g2 n1 n2 o1 o2 p1 p2 u1 u2
 go_enter Tryz.func118,Tryz.ntmps118
 go_upto_region 1 with fail
 clear hW0
 go_cut [5,6] from 7 to 16 (fun v5 v6 wx=>∃ (g h:Nat) (pb:Bool) (pa:Option Addr) (pk pc:Nat) (ub:Bool) (ua:Option Addr) (uk uc:Nat),v5=.pointer (some ⟨g,0,none⟩)∧v6=.pointer (some ⟨h,0,none⟩)∧Hid (Ft w b1 a1 k1 c1 d1 e1 m1 q1 b2 a2 k2 c2 d2 e2 m2 q2 g h pb pa pk pc ub ua uk uc wx)∧Hid (Zn wx pb pa pk pc ((Int.gcd z1 y2:Nat):Int))∧Hid (Zn wx ub ua uk uc ((Int.gcd z2 y1:Nat):Int)))
 case first=>
  refine wp_region_noPanic ?_
  refine wp_region_held_drew (S:=SF w.heap.size b1 a1 k1 c1 d1 e1 m1 q1 b2 a2 k2 c2 d2 e2 m2 q2) (by kernel_rfl) (J0.out.keep (Below.refl _ _).drew).si (fun hS=>?_)
  have J_0:=Zh (J0.out.keep (Below.refl _ _).drew)
  clear J0
  generalize W0.drew=WD at *
  refine Zt (i:=0) (v:=?v0z29) rfl (Or.inl ⟨by rfl,?hy0z29⟩) ?rest0z29
  case hy0z29=>
   intro w hSw
   dsimp only[SF]at hSw
   go_simp
   try with_reducible rfl
  simp only[Act.put,Zd,Ze,Zf,Za,Zb,Zc]
  refine Zt (i:=1) (v:=?v1z30) rfl (Or.inl ⟨by rfl,?hy1z30⟩) ?rest1z30
  case hy1z30=>
   intro w hSw
   dsimp only[SF]at hSw
   go_simp
   try with_reducible rfl
  simp only[Act.put,Zd,Ze,Zf,Za,Zb,Zc]
  refine Zt (i:=2) (v:=?v2z31) rfl (Or.inl ⟨by rfl,?hy2z31⟩) ?rest2z31
  case hy2z31=>
   intro w hSw
   dsimp only[SF]at hSw
   go_simp
   try with_reducible rfl
  simp only[Act.put,Zd,Ze,Zf,Za,Zb,Zc]
  refine Zt (i:=3) (v:=?v3z32) rfl (Or.inl ⟨by rfl,?hy3z32⟩) ?rest3z32
  case hy3z32=>
   intro w hSw
   dsimp only[SF]at hSw
   go_simp
   try with_reducible rfl
  simp only[Act.put,Zd,Ze,Zf,Za,Zb,Zc]
  refine Zt (i:=5) (v:=?v5z33) rfl (Or.inl ⟨by rfl,?hy5z33⟩) ?rest5z33
  case hy5z33=>
   intro w hSw
   dsimp only[SF]at hSw
   go_simp
   try with_reducible rfl
  simp only[Act.put,Zd,Ze,Zf,Za,Zb,Zc]
  refine Zt (i:=6) (v:=?v6z34) rfl (Or.inl ⟨by rfl,?hy6z34⟩) ?rest6z34
  case hy6z34=>
   intro w hSw
   dsimp only[SF]at hSw
   go_simp
   try with_reducible rfl
  simp only[Act.put,Zd,Ze,Zf,Za,Zb,Zc]
  refine Zt (i:=7) (v:=?v7z35) rfl (Or.inl ⟨by rfl,?hy7z35⟩) ?rest7z35
  case hy7z35=>
   intro w hSw
   dsimp only[SF]at hSw
   go_simp
   try with_reducible rfl
  simp only[Act.put,Zd,Ze,Zf,Za,Zb,Zc]
  refine Zt (i:=8) (v:=?v8z36) rfl (Or.inl ⟨by rfl,?hy8z36⟩) ?rest8z36
  case hy8z36=>
   intro w hSw
   dsimp only[SF]at hSw
   go_simp
   try with_reducible rfl
  simp only[Act.put,Zd,Ze,Zf,Za,Zb,Zc]
  refine wpAnyH_ready (rs:=[4,10,11]) (by kernel_rfl) (by simp) ?_
  refine AllReadyH.cons rfl (fun K hK=>?_) (AllReadyH.cons rfl (fun K hK=>?_) (AllReadyH.cons rfl (fun K hK=>?_) AllReadyH.nil))
  ·go_simp
   (refine (Common_c b1 d2 a1 e2 k1 m2 c1 q2 z1 y2 WD (M1.out _ J_0.out) (D2.out _ J_0.out) N1.out O2.out).mono ?_)
   rintro e W1 ⟨pb,pa,pk,pc,rfl,hn,bc⟩
   try go_simp
   have J_1:=Zh (J_0.out.keep bc)
   clear J_0
   have P_1:=Zh hn
   have hT:=J_1.out.si
   refine hK.out _ _ hT (fun _=>?_)
   clear hK K hS bc hn
   have hS:=hT
   clear hT
   try simp only[Act.put,Za,Zb,Zc]
   refine wpAnyH_ready (rs:=[9,10,11]) (by kernel_rfl) (by simp) ?_
   refine AllReadyH.cons rfl (fun K hK=>?_) (AllReadyH.cons rfl (fun K hK=>?_) (AllReadyH.cons rfl (fun K hK=>?_) AllReadyH.nil))
   ·go_simp
    (refine (Common_c b2 d1 a2 e1 k2 m1 c2 q1 z2 y1 W1 (M2.out _ J_1.out) (D1.out _ J_1.out) N2.out O1.out).mono ?_)
    rintro e W2 ⟨ub,ua,uk,uc,rfl,hn,bc⟩
    try go_simp
    have J_2:=Zh (J_1.out.keep bc)
    have P_2:=Zh (P_1.out.below bc)
    clear J_1 P_1
    have U_2:=Zh hn
    have hT:=J_2.out.si
    refine hK.out _ _ hT (fun _=>?_)
    clear hK K hS bc hn
    have hS:=hT
    clear hT
    try simp only[Act.put,Za,Zb,Zc]
    refine wpAnyH_ready (rs:=[10,11]) (by kernel_rfl) (by simp) ?_
    refine AllReadyH.cons rfl (fun K hK=>?_) (AllReadyH.cons rfl (fun K hK=>?_) AllReadyH.nil)
    ·go_simp
     have bc:=bel_one W2 (.cells #[.bool false,.slice none 0 0] 107)
     have LG:Hid (w.heap.size+1+1<W2.heap.size):=J_2.out.lo
     have J_3:=Zh (J_2.out.keep bc)
     have P_3:=Zh (P_2.out.below bc)
     have U_3:=Zh (U_2.out.below bc)
     clear J_2 P_2 U_2
     have G_3:Hid (B2 (W2.alloc (.cells #[.bool false,.slice none 0 0] 107)) W2.heap.size (.bool false) (.slice none 0 0)):=B2.made W2 _ _ _
     have hT:=J_3.out.si
     refine hK.out _ _ hT (fun _=>?_)
     clear hK K hS bc
     try simp only[Act.put,Za,Zb,Zc]
     generalize W2.alloc (.cells #[.bool false,.slice none 0 0] 107)=W3 at *
     generalize W2.heap.size=g at *
     have hS:=hT
     clear hT
     refine wpAnyH_ready (rs:=[11]) (by kernel_rfl) (by simp) ?_
     refine AllReadyH.cons rfl (fun K hK=>?_) AllReadyH.nil
     go_simp
     have bc:=bel_one W3 (.cells #[.bool false,.slice none 0 0] 107)
     have LH:Hid (w.heap.size+1+1<W3.heap.size):=J_3.out.lo
     have NE:Hid (g≠W3.heap.size):=by have:=G_3.out.lt;unfold Hid;omega
     have J_4:=Zh (J_3.out.keep bc)
     have P_4:=Zh (P_3.out.below bc)
     have U_4:=Zh (U_3.out.below bc)
     have G_4:=Zh (G_3.out.keep bc)
     clear J_3 P_3 U_3 G_3
     have H_4:Hid (B2 (W3.alloc (.cells #[.bool false,.slice none 0 0] 107)) W3.heap.size (.bool false) (.slice none 0 0)):=B2.made W3 _ _ _
     have hT:=J_4.out.si
     refine hK.out _ _ hT (fun _=>?_)
     clear hK K hS bc
     try simp only[Act.put,Za,Zb,Zc]
     generalize W3.alloc (.cells #[.bool false,.slice none 0 0] 107)=W4 at *
     generalize W3.heap.size=h at *
     have hS:=hT
     clear hT
     refine wpAnyH_ready (rs:=[12]) (by kernel_rfl) (by simp) ?_
     refine AllReadyH.cons rfl (fun K hK=>?_) AllReadyH.nil
     have q0:=G_4.out.c0
     have q1:=G_4.out.c1
     have g0:=G_4.out.fr 0
     have g1':=G_4.out.fr 1
     go_simp
     clear q0 q1 g0 g1'
     have x_J:=J_4.out.two LG.out (.bool pb) (.slice pa pk pc)
     have x_G:=G_4.out.set (.bool pb) (.slice pa pk pc)
     have x_P:=P_4.out.set2 G_4.out (.bool pb) (.slice pa pk pc)
     have x_U:=U_4.out.set2 G_4.out (.bool pb) (.slice pa pk pc)
     have x_H:=H_4.out.other (NE.out) (.bool pb) (.slice pa pk pc)
     have hT:=x_J.si
     clear J_4 P_4 U_4 G_4 H_4
     unfold two at x_J x_P x_U x_G x_H hT
     refine hK.out _ _ hT (fun _=>?_)
     clear hK K hS
     try simp only[Act.put,Za,Zb,Zc]
     generalize (W4.setCell ⟨g,0,none⟩ (.bool pb)).setCell ⟨g,1,none⟩ (.slice pa pk pc)=W5 at *
     have J_5:=Zh x_J
     have P_5:=Zh x_P
     have U_5:=Zh x_U
     have G_5:=Zh x_G
     have H_5:=Zh x_H
     clear x_J x_P x_U x_G x_H
     have hS:=hT
     clear hT
     refine wpAnyH_ready (rs:=[13]) (by kernel_rfl) (by simp) ?_
     refine AllReadyH.cons rfl (fun K hK=>?_) AllReadyH.nil
     have q0:=H_5.out.c0
     have q1:=H_5.out.c1
     have g0:=H_5.out.fr 0
     have g1':=H_5.out.fr 1
     go_simp
     clear q0 q1 g0 g1'
     have x_J:=J_5.out.two LH.out (.bool ub) (.slice ua uk uc)
     have x_H:=H_5.out.set (.bool ub) (.slice ua uk uc)
     have x_P:=P_5.out.set2 H_5.out (.bool ub) (.slice ua uk uc)
     have x_U:=U_5.out.set2 H_5.out (.bool ub) (.slice ua uk uc)
     have x_G:=G_5.out.other (NE.out.symm) (.bool ub) (.slice ua uk uc)
     have hT:=x_J.si
     clear J_5 P_5 U_5 G_5 H_5
     unfold two at x_J x_P x_U x_G x_H hT
     refine hK.out _ _ hT (fun _=>?_)
     clear hK K hS
     try simp only[Act.put,Za,Zb,Zc]
     generalize (W5.setCell ⟨h,0,none⟩ (.bool ub)).setCell ⟨h,1,none⟩ (.slice ua uk uc)=W6 at *
     have J_6:=Zh x_J
     have P_6:=Zh x_P
     have U_6:=Zh x_U
     have G_6:=Zh x_G
     have H_6:=Zh x_H
     clear x_J x_P x_U x_G x_H
     have hS:=hT
     clear hT
     refine wpAnyH_done (by kernel_rfl) ?_ _
     refine NoPanic.normal ?_
     have TT:Hid (Ft w b1 a1 k1 c1 d1 e1 m1 q1 b2 a2 k2 c2 d2 e2 m2 q2 g h pb pa pk pc ub ua uk uc W6):=⟨J_6.out,G_6.out,H_6.out,LG.out,LH.out⟩
     go_wp2_with fail
     go_meet
     case rel=>exact⟨g,h,pb,pa,pk,pc,ub,ua,uk,uc,rfl,rfl,TT.out,P_6.out,U_6.out⟩
    ·go_simp
     have bc:=bel_one W2 (.cells #[.bool false,.slice none 0 0] 107)
     have LH:Hid (w.heap.size+1+1<W2.heap.size):=J_2.out.lo
     have J_3:=Zh (J_2.out.keep bc)
     have P_3:=Zh (P_2.out.below bc)
     have U_3:=Zh (U_2.out.below bc)
     clear J_2 P_2 U_2
     have H_3:Hid (B2 (W2.alloc (.cells #[.bool false,.slice none 0 0] 107)) W2.heap.size (.bool false) (.slice none 0 0)):=B2.made W2 _ _ _
     have hT:=J_3.out.si
     refine hK.out _ _ hT (fun _=>?_)
     clear hK K hS bc
     try simp only[Act.put,Za,Zb,Zc]
     generalize W2.alloc (.cells #[.bool false,.slice none 0 0] 107)=W7 at *
     generalize W2.heap.size=h at *
     have hS:=hT
     clear hT
     refine wpAnyH_ready (rs:=[10]) (by kernel_rfl) (by simp) ?_
     refine AllReadyH.cons rfl (fun K hK=>?_) AllReadyH.nil
     go_simp
     have bc:=bel_one W7 (.cells #[.bool false,.slice none 0 0] 107)
     have LG:Hid (w.heap.size+1+1<W7.heap.size):=J_3.out.lo
     have NE:Hid (h≠W7.heap.size):=by have:=H_3.out.lt;unfold Hid;omega
     have J_4:=Zh (J_3.out.keep bc)
     have P_4:=Zh (P_3.out.below bc)
     have U_4:=Zh (U_3.out.below bc)
     have H_4:=Zh (H_3.out.keep bc)
     clear J_3 P_3 U_3 H_3
     have G_4:Hid (B2 (W7.alloc (.cells #[.bool false,.slice none 0 0] 107)) W7.heap.size (.bool false) (.slice none 0 0)):=B2.made W7 _ _ _
     have hT:=J_4.out.si
     refine hK.out _ _ hT (fun _=>?_)
     clear hK K hS bc
     try simp only[Act.put,Za,Zb,Zc]
     generalize W7.alloc (.cells #[.bool false,.slice none 0 0] 107)=W8 at *
     generalize W7.heap.size=g at *
     have hS:=hT
     clear hT
     refine wpAnyH_ready (rs:=[12]) (by kernel_rfl) (by simp) ?_
     refine AllReadyH.cons rfl (fun K hK=>?_) AllReadyH.nil
     have q0:=G_4.out.c0
     have q1:=G_4.out.c1
     have g0:=G_4.out.fr 0
     have g1':=G_4.out.fr 1
     go_simp
     clear q0 q1 g0 g1'
     have x_J:=J_4.out.two LG.out (.bool pb) (.slice pa pk pc)
     have x_G:=G_4.out.set (.bool pb) (.slice pa pk pc)
     have x_P:=P_4.out.set2 G_4.out (.bool pb) (.slice pa pk pc)
     have x_U:=U_4.out.set2 G_4.out (.bool pb) (.slice pa pk pc)
     have x_H:=H_4.out.other (NE.out.symm) (.bool pb) (.slice pa pk pc)
     have hT:=x_J.si
     clear J_4 P_4 U_4 H_4 G_4
     unfold two at x_J x_P x_U x_H x_G hT
     refine hK.out _ _ hT (fun _=>?_)
     clear hK K hS
     try simp only[Act.put,Za,Zb,Zc]
     generalize (W8.setCell ⟨g,0,none⟩ (.bool pb)).setCell ⟨g,1,none⟩ (.slice pa pk pc)=W9 at *
     have J_5:=Zh x_J
     have P_5:=Zh x_P
     have U_5:=Zh x_U
     have H_5:=Zh x_H
     have G_5:=Zh x_G
     clear x_J x_P x_U x_H x_G
     have hS:=hT
     clear hT
     refine wpAnyH_ready (rs:=[13]) (by kernel_rfl) (by simp) ?_
     refine AllReadyH.cons rfl (fun K hK=>?_) AllReadyH.nil
     have q0:=H_5.out.c0
     have q1:=H_5.out.c1
     have g0:=H_5.out.fr 0
     have g1':=H_5.out.fr 1
     go_simp
     clear q0 q1 g0 g1'
     have x_J:=J_5.out.two LH.out (.bool ub) (.slice ua uk uc)
     have x_H:=H_5.out.set (.bool ub) (.slice ua uk uc)
     have x_P:=P_5.out.set2 H_5.out (.bool ub) (.slice ua uk uc)
     have x_U:=U_5.out.set2 H_5.out (.bool ub) (.slice ua uk uc)
     have x_G:=G_5.out.other (NE.out) (.bool ub) (.slice ua uk uc)
     have hT:=x_J.si
     clear J_5 P_5 U_5 H_5 G_5
     unfold two at x_J x_P x_U x_H x_G hT
     refine hK.out _ _ hT (fun _=>?_)
     clear hK K hS
     try simp only[Act.put,Za,Zb,Zc]
     generalize (W9.setCell ⟨h,0,none⟩ (.bool ub)).setCell ⟨h,1,none⟩ (.slice ua uk uc)=W10 at *
     have J_6:=Zh x_J
     have P_6:=Zh x_P
     have U_6:=Zh x_U
     have H_6:=Zh x_H
     have G_6:=Zh x_G
     clear x_J x_P x_U x_H x_G
     have hS:=hT
     clear hT
     refine wpAnyH_done (by kernel_rfl) ?_ _
     refine NoPanic.normal ?_
     have TT:Hid (Ft w b1 a1 k1 c1 d1 e1 m1 q1 b2 a2 k2 c2 d2 e2 m2 q2 g h pb pa pk pc ub ua uk uc W10):=⟨J_6.out,G_6.out,H_6.out,LG.out,LH.out⟩
     go_wp2_with fail
     go_meet
     case rel=>exact⟨g,h,pb,pa,pk,pc,ub,ua,uk,uc,rfl,rfl,TT.out,P_6.out,U_6.out⟩
   ·go_simp
    have bc:=bel_one W1 (.cells #[.bool false,.slice none 0 0] 107)
    have LG:Hid (w.heap.size+1+1<W1.heap.size):=J_1.out.lo
    have J_2:=Zh (J_1.out.keep bc)
    have P_2:=Zh (P_1.out.below bc)
    clear J_1 P_1
    have G_2:Hid (B2 (W1.alloc (.cells #[.bool false,.slice none 0 0] 107)) W1.heap.size (.bool false) (.slice none 0 0)):=B2.made W1 _ _ _
    have hT:=J_2.out.si
    refine hK.out _ _ hT (fun _=>?_)
    clear hK K hS bc
    try simp only[Act.put,Za,Zb,Zc]
    generalize W1.alloc (.cells #[.bool false,.slice none 0 0] 107)=W11 at *
    generalize W1.heap.size=g at *
    have hS:=hT
    clear hT
    refine wpAnyH_ready (rs:=[9,11]) (by kernel_rfl) (by simp) ?_
    refine AllReadyH.cons rfl (fun K hK=>?_) (AllReadyH.cons rfl (fun K hK=>?_) AllReadyH.nil)
    ·go_simp
     (refine (Common_c b2 d1 a2 e1 k2 m1 c2 q1 z2 y1 W11 (M2.out _ J_2.out) (D1.out _ J_2.out) N2.out O1.out).mono ?_)
     rintro e W12 ⟨ub,ua,uk,uc,rfl,hn,bc⟩
     try go_simp
     have J_3:=Zh (J_2.out.keep bc)
     have P_3:=Zh (P_2.out.below bc)
     have G_3:=Zh (G_2.out.keep bc)
     clear J_2 P_2 G_2
     have U_3:=Zh hn
     have hT:=J_3.out.si
     refine hK.out _ _ hT (fun _=>?_)
     clear hK K hS bc hn
     have hS:=hT
     clear hT
     try simp only[Act.put,Za,Zb,Zc]
     refine wpAnyH_ready (rs:=[11]) (by kernel_rfl) (by simp) ?_
     refine AllReadyH.cons rfl (fun K hK=>?_) AllReadyH.nil
     go_simp
     have bc:=bel_one W12 (.cells #[.bool false,.slice none 0 0] 107)
     have LH:Hid (w.heap.size+1+1<W12.heap.size):=J_3.out.lo
     have NE:Hid (g≠W12.heap.size):=by have:=G_3.out.lt;unfold Hid;omega
     have J_4:=Zh (J_3.out.keep bc)
     have P_4:=Zh (P_3.out.below bc)
     have G_4:=Zh (G_3.out.keep bc)
     have U_4:=Zh (U_3.out.below bc)
     clear J_3 P_3 G_3 U_3
     have H_4:Hid (B2 (W12.alloc (.cells #[.bool false,.slice none 0 0] 107)) W12.heap.size (.bool false) (.slice none 0 0)):=B2.made W12 _ _ _
     have hT:=J_4.out.si
     refine hK.out _ _ hT (fun _=>?_)
     clear hK K hS bc
     try simp only[Act.put,Za,Zb,Zc]
     generalize W12.alloc (.cells #[.bool false,.slice none 0 0] 107)=W13 at *
     generalize W12.heap.size=h at *
     have hS:=hT
     clear hT
     refine wpAnyH_ready (rs:=[12]) (by kernel_rfl) (by simp) ?_
     refine AllReadyH.cons rfl (fun K hK=>?_) AllReadyH.nil
     have q0:=G_4.out.c0
     have q1:=G_4.out.c1
     have g0:=G_4.out.fr 0
     have g1':=G_4.out.fr 1
     go_simp
     clear q0 q1 g0 g1'
     have x_J:=J_4.out.two LG.out (.bool pb) (.slice pa pk pc)
     have x_G:=G_4.out.set (.bool pb) (.slice pa pk pc)
     have x_P:=P_4.out.set2 G_4.out (.bool pb) (.slice pa pk pc)
     have x_U:=U_4.out.set2 G_4.out (.bool pb) (.slice pa pk pc)
     have x_H:=H_4.out.other (NE.out) (.bool pb) (.slice pa pk pc)
     have hT:=x_J.si
     clear J_4 P_4 G_4 U_4 H_4
     unfold two at x_J x_P x_G x_U x_H hT
     refine hK.out _ _ hT (fun _=>?_)
     clear hK K hS
     try simp only[Act.put,Za,Zb,Zc]
     generalize (W13.setCell ⟨g,0,none⟩ (.bool pb)).setCell ⟨g,1,none⟩ (.slice pa pk pc)=W14 at *
     have J_5:=Zh x_J
     have P_5:=Zh x_P
     have G_5:=Zh x_G
     have U_5:=Zh x_U
     have H_5:=Zh x_H
     clear x_J x_P x_G x_U x_H
     have hS:=hT
     clear hT
     refine wpAnyH_ready (rs:=[13]) (by kernel_rfl) (by simp) ?_
     refine AllReadyH.cons rfl (fun K hK=>?_) AllReadyH.nil
     have q0:=H_5.out.c0
     have q1:=H_5.out.c1
     have g0:=H_5.out.fr 0
     have g1':=H_5.out.fr 1
     go_simp
     clear q0 q1 g0 g1'
     have x_J:=J_5.out.two LH.out (.bool ub) (.slice ua uk uc)
     have x_H:=H_5.out.set (.bool ub) (.slice ua uk uc)
     have x_P:=P_5.out.set2 H_5.out (.bool ub) (.slice ua uk uc)
     have x_G:=G_5.out.other (NE.out.symm) (.bool ub) (.slice ua uk uc)
     have x_U:=U_5.out.set2 H_5.out (.bool ub) (.slice ua uk uc)
     have hT:=x_J.si
     clear J_5 P_5 G_5 U_5 H_5
     unfold two at x_J x_P x_G x_U x_H hT
     refine hK.out _ _ hT (fun _=>?_)
     clear hK K hS
     try simp only[Act.put,Za,Zb,Zc]
     generalize (W14.setCell ⟨h,0,none⟩ (.bool ub)).setCell ⟨h,1,none⟩ (.slice ua uk uc)=W15 at *
     have J_6:=Zh x_J
     have P_6:=Zh x_P
     have G_6:=Zh x_G
     have U_6:=Zh x_U
     have H_6:=Zh x_H
     clear x_J x_P x_G x_U x_H
     have hS:=hT
     clear hT
     refine wpAnyH_done (by kernel_rfl) ?_ _
     refine NoPanic.normal ?_
     have TT:Hid (Ft w b1 a1 k1 c1 d1 e1 m1 q1 b2 a2 k2 c2 d2 e2 m2 q2 g h pb pa pk pc ub ua uk uc W15):=⟨J_6.out,G_6.out,H_6.out,LG.out,LH.out⟩
     go_wp2_with fail
     go_meet
     case rel=>exact⟨g,h,pb,pa,pk,pc,ub,ua,uk,uc,rfl,rfl,TT.out,P_6.out,U_6.out⟩
    ·go_simp
     have bc:=bel_one W11 (.cells #[.bool false,.slice none 0 0] 107)
     have LH:Hid (w.heap.size+1+1<W11.heap.size):=J_2.out.lo
     have NE:Hid (g≠W11.heap.size):=by have:=G_2.out.lt;unfold Hid;omega
     have J_3:=Zh (J_2.out.keep bc)
     have P_3:=Zh (P_2.out.below bc)
     have G_3:=Zh (G_2.out.keep bc)
     clear J_2 P_2 G_2
     have H_3:Hid (B2 (W11.alloc (.cells #[.bool false,.slice none 0 0] 107)) W11.heap.size (.bool false) (.slice none 0 0)):=B2.made W11 _ _ _
     have hT:=J_3.out.si
     refine hK.out _ _ hT (fun _=>?_)
     clear hK K hS bc
     try simp only[Act.put,Za,Zb,Zc]
     generalize W11.alloc (.cells #[.bool false,.slice none 0 0] 107)=W16 at *
     generalize W11.heap.size=h at *
     have hS:=hT
     clear hT
     refine wpAnyH_ready (rs:=[9]) (by kernel_rfl) (by simp) ?_
     refine AllReadyH.cons rfl (fun K hK=>?_) AllReadyH.nil
     go_simp
     (refine (Common_c b2 d1 a2 e1 k2 m1 c2 q1 z2 y1 W16 (M2.out _ J_3.out) (D1.out _ J_3.out) N2.out O1.out).mono ?_)
     rintro e W17 ⟨ub,ua,uk,uc,rfl,hn,bc⟩
     try go_simp
     have J_4:=Zh (J_3.out.keep bc)
     have P_4:=Zh (P_3.out.below bc)
     have G_4:=Zh (G_3.out.keep bc)
     have H_4:=Zh (H_3.out.keep bc)
     clear J_3 P_3 G_3 H_3
     have U_4:=Zh hn
     have hT:=J_4.out.si
     refine hK.out _ _ hT (fun _=>?_)
     clear hK K hS bc hn
     have hS:=hT
     clear hT
     try simp only[Act.put,Za,Zb,Zc]
     refine wpAnyH_ready (rs:=[12]) (by kernel_rfl) (by simp) ?_
     refine AllReadyH.cons rfl (fun K hK=>?_) AllReadyH.nil
     have q0:=G_4.out.c0
     have q1:=G_4.out.c1
     have g0:=G_4.out.fr 0
     have g1':=G_4.out.fr 1
     go_simp
     clear q0 q1 g0 g1'
     have x_J:=J_4.out.two LG.out (.bool pb) (.slice pa pk pc)
     have x_G:=G_4.out.set (.bool pb) (.slice pa pk pc)
     have x_P:=P_4.out.set2 G_4.out (.bool pb) (.slice pa pk pc)
     have x_H:=H_4.out.other (NE.out) (.bool pb) (.slice pa pk pc)
     have x_U:=U_4.out.set2 G_4.out (.bool pb) (.slice pa pk pc)
     have hT:=x_J.si
     clear J_4 P_4 G_4 H_4 U_4
     unfold two at x_J x_P x_G x_H x_U hT
     refine hK.out _ _ hT (fun _=>?_)
     clear hK K hS
     try simp only[Act.put,Za,Zb,Zc]
     generalize (W17.setCell ⟨g,0,none⟩ (.bool pb)).setCell ⟨g,1,none⟩ (.slice pa pk pc)=W18 at *
     have J_5:=Zh x_J
     have P_5:=Zh x_P
     have G_5:=Zh x_G
     have H_5:=Zh x_H
     have U_5:=Zh x_U
     clear x_J x_P x_G x_H x_U
     have hS:=hT
     clear hT
     refine wpAnyH_ready (rs:=[13]) (by kernel_rfl) (by simp) ?_
     refine AllReadyH.cons rfl (fun K hK=>?_) AllReadyH.nil
     have q0:=H_5.out.c0
     have q1:=H_5.out.c1
     have g0:=H_5.out.fr 0
     have g1':=H_5.out.fr 1
     go_simp
     clear q0 q1 g0 g1'
     have x_J:=J_5.out.two LH.out (.bool ub) (.slice ua uk uc)
     have x_H:=H_5.out.set (.bool ub) (.slice ua uk uc)
     have x_P:=P_5.out.set2 H_5.out (.bool ub) (.slice ua uk uc)
     have x_G:=G_5.out.other (NE.out.symm) (.bool ub) (.slice ua uk uc)
     have x_U:=U_5.out.set2 H_5.out (.bool ub) (.slice ua uk uc)
     have hT:=x_J.si
     clear J_5 P_5 G_5 H_5 U_5
     unfold two at x_J x_P x_G x_H x_U hT
     refine hK.out _ _ hT (fun _=>?_)
     clear hK K hS
     try simp only[Act.put,Za,Zb,Zc]
     generalize (W18.setCell ⟨h,0,none⟩ (.bool ub)).setCell ⟨h,1,none⟩ (.slice ua uk uc)=W19 at *
     have J_6:=Zh x_J
     have P_6:=Zh x_P
     have G_6:=Zh x_G
     have H_6:=Zh x_H
     have U_6:=Zh x_U
     clear x_J x_P x_G x_H x_U
     have hS:=hT
     clear hT
     refine wpAnyH_done (by kernel_rfl) ?_ _
     refine NoPanic.normal ?_
     have TT:Hid (Ft w b1 a1 k1 c1 d1 e1 m1 q1 b2 a2 k2 c2 d2 e2 m2 q2 g h pb pa pk pc ub ua uk uc W19):=⟨J_6.out,G_6.out,H_6.out,LG.out,LH.out⟩
     go_wp2_with fail
     go_meet
     case rel=>exact⟨g,h,pb,pa,pk,pc,ub,ua,uk,uc,rfl,rfl,TT.out,P_6.out,U_6.out⟩
   ·go_simp
    have bc:=bel_one W1 (.cells #[.bool false,.slice none 0 0] 107)
    have LH:Hid (w.heap.size+1+1<W1.heap.size):=J_1.out.lo
    have J_2:=Zh (J_1.out.keep bc)
    have P_2:=Zh (P_1.out.below bc)
    clear J_1 P_1
    have H_2:Hid (B2 (W1.alloc (.cells #[.bool false,.slice none 0 0] 107)) W1.heap.size (.bool false) (.slice none 0 0)):=B2.made W1 _ _ _
    have hT:=J_2.out.si
    refine hK.out _ _ hT (fun _=>?_)
    clear hK K hS bc
    try simp only[Act.put,Za,Zb,Zc]
    generalize W1.alloc (.cells #[.bool false,.slice none 0 0] 107)=W20 at *
    generalize W1.heap.size=h at *
    have hS:=hT
    clear hT
    refine wpAnyH_ready (rs:=[9,10]) (by kernel_rfl) (by simp) ?_
    refine AllReadyH.cons rfl (fun K hK=>?_) (AllReadyH.cons rfl (fun K hK=>?_) AllReadyH.nil)
    ·go_simp
     (refine (Common_c b2 d1 a2 e1 k2 m1 c2 q1 z2 y1 W20 (M2.out _ J_2.out) (D1.out _ J_2.out) N2.out O1.out).mono ?_)
     rintro e W21 ⟨ub,ua,uk,uc,rfl,hn,bc⟩
     try go_simp
     have J_3:=Zh (J_2.out.keep bc)
     have P_3:=Zh (P_2.out.below bc)
     have H_3:=Zh (H_2.out.keep bc)
     clear J_2 P_2 H_2
     have U_3:=Zh hn
     have hT:=J_3.out.si
     refine hK.out _ _ hT (fun _=>?_)
     clear hK K hS bc hn
     have hS:=hT
     clear hT
     try simp only[Act.put,Za,Zb,Zc]
     refine wpAnyH_ready (rs:=[10]) (by kernel_rfl) (by simp) ?_
     refine AllReadyH.cons rfl (fun K hK=>?_) AllReadyH.nil
     go_simp
     have bc:=bel_one W21 (.cells #[.bool false,.slice none 0 0] 107)
     have LG:Hid (w.heap.size+1+1<W21.heap.size):=J_3.out.lo
     have NE:Hid (h≠W21.heap.size):=by have:=H_3.out.lt;unfold Hid;omega
     have J_4:=Zh (J_3.out.keep bc)
     have P_4:=Zh (P_3.out.below bc)
     have H_4:=Zh (H_3.out.keep bc)
     have U_4:=Zh (U_3.out.below bc)
     clear J_3 P_3 H_3 U_3
     have G_4:Hid (B2 (W21.alloc (.cells #[.bool false,.slice none 0 0] 107)) W21.heap.size (.bool false) (.slice none 0 0)):=B2.made W21 _ _ _
     have hT:=J_4.out.si
     refine hK.out _ _ hT (fun _=>?_)
     clear hK K hS bc
     try simp only[Act.put,Za,Zb,Zc]
     generalize W21.alloc (.cells #[.bool false,.slice none 0 0] 107)=W22 at *
     generalize W21.heap.size=g at *
     have hS:=hT
     clear hT
     refine wpAnyH_ready (rs:=[12]) (by kernel_rfl) (by simp) ?_
     refine AllReadyH.cons rfl (fun K hK=>?_) AllReadyH.nil
     have q0:=G_4.out.c0
     have q1:=G_4.out.c1
     have g0:=G_4.out.fr 0
     have g1':=G_4.out.fr 1
     go_simp
     clear q0 q1 g0 g1'
     have x_J:=J_4.out.two LG.out (.bool pb) (.slice pa pk pc)
     have x_G:=G_4.out.set (.bool pb) (.slice pa pk pc)
     have x_P:=P_4.out.set2 G_4.out (.bool pb) (.slice pa pk pc)
     have x_H:=H_4.out.other (NE.out.symm) (.bool pb) (.slice pa pk pc)
     have x_U:=U_4.out.set2 G_4.out (.bool pb) (.slice pa pk pc)
     have hT:=x_J.si
     clear J_4 P_4 H_4 U_4 G_4
     unfold two at x_J x_P x_H x_U x_G hT
     refine hK.out _ _ hT (fun _=>?_)
     clear hK K hS
     try simp only[Act.put,Za,Zb,Zc]
     generalize (W22.setCell ⟨g,0,none⟩ (.bool pb)).setCell ⟨g,1,none⟩ (.slice pa pk pc)=W23 at *
     have J_5:=Zh x_J
     have P_5:=Zh x_P
     have H_5:=Zh x_H
     have U_5:=Zh x_U
     have G_5:=Zh x_G
     clear x_J x_P x_H x_U x_G
     have hS:=hT
     clear hT
     refine wpAnyH_ready (rs:=[13]) (by kernel_rfl) (by simp) ?_
     refine AllReadyH.cons rfl (fun K hK=>?_) AllReadyH.nil
     have q0:=H_5.out.c0
     have q1:=H_5.out.c1
     have g0:=H_5.out.fr 0
     have g1':=H_5.out.fr 1
     go_simp
     clear q0 q1 g0 g1'
     have x_J:=J_5.out.two LH.out (.bool ub) (.slice ua uk uc)
     have x_H:=H_5.out.set (.bool ub) (.slice ua uk uc)
     have x_P:=P_5.out.set2 H_5.out (.bool ub) (.slice ua uk uc)
     have x_U:=U_5.out.set2 H_5.out (.bool ub) (.slice ua uk uc)
     have x_G:=G_5.out.other (NE.out) (.bool ub) (.slice ua uk uc)
     have hT:=x_J.si
     clear J_5 P_5 H_5 U_5 G_5
     unfold two at x_J x_P x_H x_U x_G hT
     refine hK.out _ _ hT (fun _=>?_)
     clear hK K hS
     try simp only[Act.put,Za,Zb,Zc]
     generalize (W23.setCell ⟨h,0,none⟩ (.bool ub)).setCell ⟨h,1,none⟩ (.slice ua uk uc)=W24 at *
     have J_6:=Zh x_J
     have P_6:=Zh x_P
     have H_6:=Zh x_H
     have U_6:=Zh x_U
     have G_6:=Zh x_G
     clear x_J x_P x_H x_U x_G
     have hS:=hT
     clear hT
     refine wpAnyH_done (by kernel_rfl) ?_ _
     refine NoPanic.normal ?_
     have TT:Hid (Ft w b1 a1 k1 c1 d1 e1 m1 q1 b2 a2 k2 c2 d2 e2 m2 q2 g h pb pa pk pc ub ua uk uc W24):=⟨J_6.out,G_6.out,H_6.out,LG.out,LH.out⟩
     go_wp2_with fail
     go_meet
     case rel=>exact⟨g,h,pb,pa,pk,pc,ub,ua,uk,uc,rfl,rfl,TT.out,P_6.out,U_6.out⟩
    ·go_simp
     have bc:=bel_one W20 (.cells #[.bool false,.slice none 0 0] 107)
     have LG:Hid (w.heap.size+1+1<W20.heap.size):=J_2.out.lo
     have NE:Hid (h≠W20.heap.size):=by have:=H_2.out.lt;unfold Hid;omega
     have J_3:=Zh (J_2.out.keep bc)
     have P_3:=Zh (P_2.out.below bc)
     have H_3:=Zh (H_2.out.keep bc)
     clear J_2 P_2 H_2
     have G_3:Hid (B2 (W20.alloc (.cells #[.bool false,.slice none 0 0] 107)) W20.heap.size (.bool false) (.slice none 0 0)):=B2.made W20 _ _ _
     have hT:=J_3.out.si
     refine hK.out _ _ hT (fun _=>?_)
     clear hK K hS bc
     try simp only[Act.put,Za,Zb,Zc]
     generalize W20.alloc (.cells #[.bool false,.slice none 0 0] 107)=W25 at *
     generalize W20.heap.size=g at *
     have hS:=hT
     clear hT
     refine wpAnyH_ready (rs:=[9]) (by kernel_rfl) (by simp) ?_
     refine AllReadyH.cons rfl (fun K hK=>?_) AllReadyH.nil
     go_simp
     (refine (Common_c b2 d1 a2 e1 k2 m1 c2 q1 z2 y1 W25 (M2.out _ J_3.out) (D1.out _ J_3.out) N2.out O1.out).mono ?_)
     rintro e W26 ⟨ub,ua,uk,uc,rfl,hn,bc⟩
     try go_simp
     have J_4:=Zh (J_3.out.keep bc)
     have P_4:=Zh (P_3.out.below bc)
     have H_4:=Zh (H_3.out.keep bc)
     have G_4:=Zh (G_3.out.keep bc)
     clear J_3 P_3 H_3 G_3
     have U_4:=Zh hn
     have hT:=J_4.out.si
     refine hK.out _ _ hT (fun _=>?_)
     clear hK K hS bc hn
     have hS:=hT
     clear hT
     try simp only[Act.put,Za,Zb,Zc]
     refine wpAnyH_ready (rs:=[12]) (by kernel_rfl) (by simp) ?_
     refine AllReadyH.cons rfl (fun K hK=>?_) AllReadyH.nil
     have q0:=G_4.out.c0
     have q1:=G_4.out.c1
     have g0:=G_4.out.fr 0
     have g1':=G_4.out.fr 1
     go_simp
     clear q0 q1 g0 g1'
     have x_J:=J_4.out.two LG.out (.bool pb) (.slice pa pk pc)
     have x_G:=G_4.out.set (.bool pb) (.slice pa pk pc)
     have x_P:=P_4.out.set2 G_4.out (.bool pb) (.slice pa pk pc)
     have x_H:=H_4.out.other (NE.out.symm) (.bool pb) (.slice pa pk pc)
     have x_U:=U_4.out.set2 G_4.out (.bool pb) (.slice pa pk pc)
     have hT:=x_J.si
     clear J_4 P_4 H_4 G_4 U_4
     unfold two at x_J x_P x_H x_G x_U hT
     refine hK.out _ _ hT (fun _=>?_)
     clear hK K hS
     try simp only[Act.put,Za,Zb,Zc]
     generalize (W26.setCell ⟨g,0,none⟩ (.bool pb)).setCell ⟨g,1,none⟩ (.slice pa pk pc)=W27 at *
     have J_5:=Zh x_J
     have P_5:=Zh x_P
     have H_5:=Zh x_H
     have G_5:=Zh x_G
     have U_5:=Zh x_U
     clear x_J x_P x_H x_G x_U
     have hS:=hT
     clear hT
     refine wpAnyH_ready (rs:=[13]) (by kernel_rfl) (by simp) ?_
     refine AllReadyH.cons rfl (fun K hK=>?_) AllReadyH.nil
     have q0:=H_5.out.c0
     have q1:=H_5.out.c1
     have g0:=H_5.out.fr 0
     have g1':=H_5.out.fr 1
     go_simp
     clear q0 q1 g0 g1'
     have x_J:=J_5.out.two LH.out (.bool ub) (.slice ua uk uc)
     have x_H:=H_5.out.set (.bool ub) (.slice ua uk uc)
     have x_P:=P_5.out.set2 H_5.out (.bool ub) (.slice ua uk uc)
     have x_G:=G_5.out.other (NE.out) (.bool ub) (.slice ua uk uc)
     have x_U:=U_5.out.set2 H_5.out (.bool ub) (.slice ua uk uc)
     have hT:=x_J.si
     clear J_5 P_5 H_5 G_5 U_5
     unfold two at x_J x_P x_H x_G x_U hT
     refine hK.out _ _ hT (fun _=>?_)
     clear hK K hS
     try simp only[Act.put,Za,Zb,Zc]
     generalize (W27.setCell ⟨h,0,none⟩ (.bool ub)).setCell ⟨h,1,none⟩ (.slice ua uk uc)=W28 at *
     have J_6:=Zh x_J
     have P_6:=Zh x_P
     have H_6:=Zh x_H
     have G_6:=Zh x_G
     have U_6:=Zh x_U
     clear x_J x_P x_H x_G x_U
     have hS:=hT
     clear hT
     refine wpAnyH_done (by kernel_rfl) ?_ _
     refine NoPanic.normal ?_
     have TT:Hid (Ft w b1 a1 k1 c1 d1 e1 m1 q1 b2 a2 k2 c2 d2 e2 m2 q2 g h pb pa pk pc ub ua uk uc W28):=⟨J_6.out,G_6.out,H_6.out,LG.out,LH.out⟩
     go_wp2_with fail
     go_meet
     case rel=>exact⟨g,h,pb,pa,pk,pc,ub,ua,uk,uc,rfl,rfl,TT.out,P_6.out,U_6.out⟩
  ·go_simp
   have bc:=bel_one WD (.cells #[.bool false,.slice none 0 0] 107)
   have LG:Hid (w.heap.size+1+1<WD.heap.size):=J_0.out.lo
   have J_1:=Zh (J_0.out.keep bc)
   clear J_0
   have G_1:Hid (B2 (WD.alloc (.cells #[.bool false,.slice none 0 0] 107)) WD.heap.size (.bool false) (.slice none 0 0)):=B2.made WD _ _ _
   have hT:=J_1.out.si
   refine hK.out _ _ hT (fun _=>?_)
   clear hK K hS bc
   try simp only[Act.put,Za,Zb,Zc]
   generalize WD.alloc (.cells #[.bool false,.slice none 0 0] 107)=W29 at *
   generalize WD.heap.size=g at *
   have hS:=hT
   clear hT
   refine wpAnyH_ready (rs:=[4,11]) (by kernel_rfl) (by simp) ?_
   refine AllReadyH.cons rfl (fun K hK=>?_) (AllReadyH.cons rfl (fun K hK=>?_) AllReadyH.nil)
   ·go_simp
    (refine (Common_c b1 d2 a1 e2 k1 m2 c1 q2 z1 y2 W29 (M1.out _ J_1.out) (D2.out _ J_1.out) N1.out O2.out).mono ?_)
    rintro e W30 ⟨pb,pa,pk,pc,rfl,hn,bc⟩
    try go_simp
    have J_2:=Zh (J_1.out.keep bc)
    have G_2:=Zh (G_1.out.keep bc)
    clear J_1 G_1
    have P_2:=Zh hn
    have hT:=J_2.out.si
    refine hK.out _ _ hT (fun _=>?_)
    clear hK K hS bc hn
    have hS:=hT
    clear hT
    try simp only[Act.put,Za,Zb,Zc]
    refine wpAnyH_ready (rs:=[9,11]) (by kernel_rfl) (by simp) ?_
    refine AllReadyH.cons rfl (fun K hK=>?_) (AllReadyH.cons rfl (fun K hK=>?_) AllReadyH.nil)
    ·go_simp
     (refine (Common_c b2 d1 a2 e1 k2 m1 c2 q1 z2 y1 W30 (M2.out _ J_2.out) (D1.out _ J_2.out) N2.out O1.out).mono ?_)
     rintro e W31 ⟨ub,ua,uk,uc,rfl,hn,bc⟩
     try go_simp
     have J_3:=Zh (J_2.out.keep bc)
     have G_3:=Zh (G_2.out.keep bc)
     have P_3:=Zh (P_2.out.below bc)
     clear J_2 G_2 P_2
     have U_3:=Zh hn
     have hT:=J_3.out.si
     refine hK.out _ _ hT (fun _=>?_)
     clear hK K hS bc hn
     have hS:=hT
     clear hT
     try simp only[Act.put,Za,Zb,Zc]
     refine wpAnyH_ready (rs:=[11]) (by kernel_rfl) (by simp) ?_
     refine AllReadyH.cons rfl (fun K hK=>?_) AllReadyH.nil
     go_simp
     have bc:=bel_one W31 (.cells #[.bool false,.slice none 0 0] 107)
     have LH:Hid (w.heap.size+1+1<W31.heap.size):=J_3.out.lo
     have NE:Hid (g≠W31.heap.size):=by have:=G_3.out.lt;unfold Hid;omega
     have J_4:=Zh (J_3.out.keep bc)
     have G_4:=Zh (G_3.out.keep bc)
     have P_4:=Zh (P_3.out.below bc)
     have U_4:=Zh (U_3.out.below bc)
     clear J_3 G_3 P_3 U_3
     have H_4:Hid (B2 (W31.alloc (.cells #[.bool false,.slice none 0 0] 107)) W31.heap.size (.bool false) (.slice none 0 0)):=B2.made W31 _ _ _
     have hT:=J_4.out.si
     refine hK.out _ _ hT (fun _=>?_)
     clear hK K hS bc
     try simp only[Act.put,Za,Zb,Zc]
     generalize W31.alloc (.cells #[.bool false,.slice none 0 0] 107)=W32 at *
     generalize W31.heap.size=h at *
     have hS:=hT
     clear hT
     refine wpAnyH_ready (rs:=[12]) (by kernel_rfl) (by simp) ?_
     refine AllReadyH.cons rfl (fun K hK=>?_) AllReadyH.nil
     have q0:=G_4.out.c0
     have q1:=G_4.out.c1
     have g0:=G_4.out.fr 0
     have g1':=G_4.out.fr 1
     go_simp
     clear q0 q1 g0 g1'
     have x_J:=J_4.out.two LG.out (.bool pb) (.slice pa pk pc)
     have x_G:=G_4.out.set (.bool pb) (.slice pa pk pc)
     have x_P:=P_4.out.set2 G_4.out (.bool pb) (.slice pa pk pc)
     have x_U:=U_4.out.set2 G_4.out (.bool pb) (.slice pa pk pc)
     have x_H:=H_4.out.other (NE.out) (.bool pb) (.slice pa pk pc)
     have hT:=x_J.si
     clear J_4 G_4 P_4 U_4 H_4
     unfold two at x_J x_G x_P x_U x_H hT
     refine hK.out _ _ hT (fun _=>?_)
     clear hK K hS
     try simp only[Act.put,Za,Zb,Zc]
     generalize (W32.setCell ⟨g,0,none⟩ (.bool pb)).setCell ⟨g,1,none⟩ (.slice pa pk pc)=W33 at *
     have J_5:=Zh x_J
     have G_5:=Zh x_G
     have P_5:=Zh x_P
     have U_5:=Zh x_U
     have H_5:=Zh x_H
     clear x_J x_G x_P x_U x_H
     have hS:=hT
     clear hT
     refine wpAnyH_ready (rs:=[13]) (by kernel_rfl) (by simp) ?_
     refine AllReadyH.cons rfl (fun K hK=>?_) AllReadyH.nil
     have q0:=H_5.out.c0
     have q1:=H_5.out.c1
     have g0:=H_5.out.fr 0
     have g1':=H_5.out.fr 1
     go_simp
     clear q0 q1 g0 g1'
     have x_J:=J_5.out.two LH.out (.bool ub) (.slice ua uk uc)
     have x_H:=H_5.out.set (.bool ub) (.slice ua uk uc)
     have x_G:=G_5.out.other (NE.out.symm) (.bool ub) (.slice ua uk uc)
     have x_P:=P_5.out.set2 H_5.out (.bool ub) (.slice ua uk uc)
     have x_U:=U_5.out.set2 H_5.out (.bool ub) (.slice ua uk uc)
     have hT:=x_J.si
     clear J_5 G_5 P_5 U_5 H_5
     unfold two at x_J x_G x_P x_U x_H hT
     refine hK.out _ _ hT (fun _=>?_)
     clear hK K hS
     try simp only[Act.put,Za,Zb,Zc]
     generalize (W33.setCell ⟨h,0,none⟩ (.bool ub)).setCell ⟨h,1,none⟩ (.slice ua uk uc)=W34 at *
     have J_6:=Zh x_J
     have G_6:=Zh x_G
     have P_6:=Zh x_P
     have U_6:=Zh x_U
     have H_6:=Zh x_H
     clear x_J x_G x_P x_U x_H
     have hS:=hT
     clear hT
     refine wpAnyH_done (by kernel_rfl) ?_ _
     refine NoPanic.normal ?_
     have TT:Hid (Ft w b1 a1 k1 c1 d1 e1 m1 q1 b2 a2 k2 c2 d2 e2 m2 q2 g h pb pa pk pc ub ua uk uc W34):=⟨J_6.out,G_6.out,H_6.out,LG.out,LH.out⟩
     go_wp2_with fail
     go_meet
     case rel=>exact⟨g,h,pb,pa,pk,pc,ub,ua,uk,uc,rfl,rfl,TT.out,P_6.out,U_6.out⟩
    ·go_simp
     have bc:=bel_one W30 (.cells #[.bool false,.slice none 0 0] 107)
     have LH:Hid (w.heap.size+1+1<W30.heap.size):=J_2.out.lo
     have NE:Hid (g≠W30.heap.size):=by have:=G_2.out.lt;unfold Hid;omega
     have J_3:=Zh (J_2.out.keep bc)
     have G_3:=Zh (G_2.out.keep bc)
     have P_3:=Zh (P_2.out.below bc)
     clear J_2 G_2 P_2
     have H_3:Hid (B2 (W30.alloc (.cells #[.bool false,.slice none 0 0] 107)) W30.heap.size (.bool false) (.slice none 0 0)):=B2.made W30 _ _ _
     have hT:=J_3.out.si
     refine hK.out _ _ hT (fun _=>?_)
     clear hK K hS bc
     try simp only[Act.put,Za,Zb,Zc]
     generalize W30.alloc (.cells #[.bool false,.slice none 0 0] 107)=W35 at *
     generalize W30.heap.size=h at *
     have hS:=hT
     clear hT
     refine wpAnyH_ready (rs:=[9]) (by kernel_rfl) (by simp) ?_
     refine AllReadyH.cons rfl (fun K hK=>?_) AllReadyH.nil
     go_simp
     (refine (Common_c b2 d1 a2 e1 k2 m1 c2 q1 z2 y1 W35 (M2.out _ J_3.out) (D1.out _ J_3.out) N2.out O1.out).mono ?_)
     rintro e W36 ⟨ub,ua,uk,uc,rfl,hn,bc⟩
     try go_simp
     have J_4:=Zh (J_3.out.keep bc)
     have G_4:=Zh (G_3.out.keep bc)
     have P_4:=Zh (P_3.out.below bc)
     have H_4:=Zh (H_3.out.keep bc)
     clear J_3 G_3 P_3 H_3
     have U_4:=Zh hn
     have hT:=J_4.out.si
     refine hK.out _ _ hT (fun _=>?_)
     clear hK K hS bc hn
     have hS:=hT
     clear hT
     try simp only[Act.put,Za,Zb,Zc]
     refine wpAnyH_ready (rs:=[12]) (by kernel_rfl) (by simp) ?_
     refine AllReadyH.cons rfl (fun K hK=>?_) AllReadyH.nil
     have q0:=G_4.out.c0
     have q1:=G_4.out.c1
     have g0:=G_4.out.fr 0
     have g1':=G_4.out.fr 1
     go_simp
     clear q0 q1 g0 g1'
     have x_J:=J_4.out.two LG.out (.bool pb) (.slice pa pk pc)
     have x_G:=G_4.out.set (.bool pb) (.slice pa pk pc)
     have x_P:=P_4.out.set2 G_4.out (.bool pb) (.slice pa pk pc)
     have x_H:=H_4.out.other (NE.out) (.bool pb) (.slice pa pk pc)
     have x_U:=U_4.out.set2 G_4.out (.bool pb) (.slice pa pk pc)
     have hT:=x_J.si
     clear J_4 G_4 P_4 H_4 U_4
     unfold two at x_J x_G x_P x_H x_U hT
     refine hK.out _ _ hT (fun _=>?_)
     clear hK K hS
     try simp only[Act.put,Za,Zb,Zc]
     generalize (W36.setCell ⟨g,0,none⟩ (.bool pb)).setCell ⟨g,1,none⟩ (.slice pa pk pc)=W37 at *
     have J_5:=Zh x_J
     have G_5:=Zh x_G
     have P_5:=Zh x_P
     have H_5:=Zh x_H
     have U_5:=Zh x_U
     clear x_J x_G x_P x_H x_U
     have hS:=hT
     clear hT
     refine wpAnyH_ready (rs:=[13]) (by kernel_rfl) (by simp) ?_
     refine AllReadyH.cons rfl (fun K hK=>?_) AllReadyH.nil
     have q0:=H_5.out.c0
     have q1:=H_5.out.c1
     have g0:=H_5.out.fr 0
     have g1':=H_5.out.fr 1
     go_simp
     clear q0 q1 g0 g1'
     have x_J:=J_5.out.two LH.out (.bool ub) (.slice ua uk uc)
     have x_H:=H_5.out.set (.bool ub) (.slice ua uk uc)
     have x_G:=G_5.out.other (NE.out.symm) (.bool ub) (.slice ua uk uc)
     have x_P:=P_5.out.set2 H_5.out (.bool ub) (.slice ua uk uc)
     have x_U:=U_5.out.set2 H_5.out (.bool ub) (.slice ua uk uc)
     have hT:=x_J.si
     clear J_5 G_5 P_5 H_5 U_5
     unfold two at x_J x_G x_P x_H x_U hT
     refine hK.out _ _ hT (fun _=>?_)
     clear hK K hS
     try simp only[Act.put,Za,Zb,Zc]
     generalize (W37.setCell ⟨h,0,none⟩ (.bool ub)).setCell ⟨h,1,none⟩ (.slice ua uk uc)=W38 at *
     have J_6:=Zh x_J
     have G_6:=Zh x_G
     have P_6:=Zh x_P
     have H_6:=Zh x_H
     have U_6:=Zh x_U
     clear x_J x_G x_P x_H x_U
     have hS:=hT
     clear hT
     refine wpAnyH_done (by kernel_rfl) ?_ _
     refine NoPanic.normal ?_
     have TT:Hid (Ft w b1 a1 k1 c1 d1 e1 m1 q1 b2 a2 k2 c2 d2 e2 m2 q2 g h pb pa pk pc ub ua uk uc W38):=⟨J_6.out,G_6.out,H_6.out,LG.out,LH.out⟩
     go_wp2_with fail
     go_meet
     case rel=>exact⟨g,h,pb,pa,pk,pc,ub,ua,uk,uc,rfl,rfl,TT.out,P_6.out,U_6.out⟩
   ·go_simp
    have bc:=bel_one W29 (.cells #[.bool false,.slice none 0 0] 107)
    have LH:Hid (w.heap.size+1+1<W29.heap.size):=J_1.out.lo
    have NE:Hid (g≠W29.heap.size):=by have:=G_1.out.lt;unfold Hid;omega
    have J_2:=Zh (J_1.out.keep bc)
    have G_2:=Zh (G_1.out.keep bc)
    clear J_1 G_1
    have H_2:Hid (B2 (W29.alloc (.cells #[.bool false,.slice none 0 0] 107)) W29.heap.size (.bool false) (.slice none 0 0)):=B2.made W29 _ _ _
    have hT:=J_2.out.si
    refine hK.out _ _ hT (fun _=>?_)
    clear hK K hS bc
    try simp only[Act.put,Za,Zb,Zc]
    generalize W29.alloc (.cells #[.bool false,.slice none 0 0] 107)=W39 at *
    generalize W29.heap.size=h at *
    have hS:=hT
    clear hT
    refine wpAnyH_ready (rs:=[4]) (by kernel_rfl) (by simp) ?_
    refine AllReadyH.cons rfl (fun K hK=>?_) AllReadyH.nil
    go_simp
    (refine (Common_c b1 d2 a1 e2 k1 m2 c1 q2 z1 y2 W39 (M1.out _ J_2.out) (D2.out _ J_2.out) N1.out O2.out).mono ?_)
    rintro e W40 ⟨pb,pa,pk,pc,rfl,hn,bc⟩
    try go_simp
    have J_3:=Zh (J_2.out.keep bc)
    have G_3:=Zh (G_2.out.keep bc)
    have H_3:=Zh (H_2.out.keep bc)
    clear J_2 G_2 H_2
    have P_3:=Zh hn
    have hT:=J_3.out.si
    refine hK.out _ _ hT (fun _=>?_)
    clear hK K hS bc hn
    have hS:=hT
    clear hT
    try simp only[Act.put,Za,Zb,Zc]
    refine wpAnyH_ready (rs:=[9]) (by kernel_rfl) (by simp) ?_
    refine AllReadyH.cons rfl (fun K hK=>?_) AllReadyH.nil
    go_simp
    (refine (Common_c b2 d1 a2 e1 k2 m1 c2 q1 z2 y1 W40 (M2.out _ J_3.out) (D1.out _ J_3.out) N2.out O1.out).mono ?_)
    rintro e W41 ⟨ub,ua,uk,uc,rfl,hn,bc⟩
    try go_simp
    have J_4:=Zh (J_3.out.keep bc)
    have G_4:=Zh (G_3.out.keep bc)
    have H_4:=Zh (H_3.out.keep bc)
    have P_4:=Zh (P_3.out.below bc)
    clear J_3 G_3 H_3 P_3
    have U_4:=Zh hn
    have hT:=J_4.out.si
    refine hK.out _ _ hT (fun _=>?_)
    clear hK K hS bc hn
    have hS:=hT
    clear hT
    try simp only[Act.put,Za,Zb,Zc]
    refine wpAnyH_ready (rs:=[12]) (by kernel_rfl) (by simp) ?_
    refine AllReadyH.cons rfl (fun K hK=>?_) AllReadyH.nil
    have q0:=G_4.out.c0
    have q1:=G_4.out.c1
    have g0:=G_4.out.fr 0
    have g1':=G_4.out.fr 1
    go_simp
    clear q0 q1 g0 g1'
    have x_J:=J_4.out.two LG.out (.bool pb) (.slice pa pk pc)
    have x_G:=G_4.out.set (.bool pb) (.slice pa pk pc)
    have x_H:=H_4.out.other (NE.out) (.bool pb) (.slice pa pk pc)
    have x_P:=P_4.out.set2 G_4.out (.bool pb) (.slice pa pk pc)
    have x_U:=U_4.out.set2 G_4.out (.bool pb) (.slice pa pk pc)
    have hT:=x_J.si
    clear J_4 G_4 H_4 P_4 U_4
    unfold two at x_J x_G x_H x_P x_U hT
    refine hK.out _ _ hT (fun _=>?_)
    clear hK K hS
    try simp only[Act.put,Za,Zb,Zc]
    generalize (W41.setCell ⟨g,0,none⟩ (.bool pb)).setCell ⟨g,1,none⟩ (.slice pa pk pc)=W42 at *
    have J_5:=Zh x_J
    have G_5:=Zh x_G
    have H_5:=Zh x_H
    have P_5:=Zh x_P
    have U_5:=Zh x_U
    clear x_J x_G x_H x_P x_U
    have hS:=hT
    clear hT
    refine wpAnyH_ready (rs:=[13]) (by kernel_rfl) (by simp) ?_
    refine AllReadyH.cons rfl (fun K hK=>?_) AllReadyH.nil
    have q0:=H_5.out.c0
    have q1:=H_5.out.c1
    have g0:=H_5.out.fr 0
    have g1':=H_5.out.fr 1
    go_simp
    clear q0 q1 g0 g1'
    have x_J:=J_5.out.two LH.out (.bool ub) (.slice ua uk uc)
    have x_H:=H_5.out.set (.bool ub) (.slice ua uk uc)
    have x_G:=G_5.out.other (NE.out.symm) (.bool ub) (.slice ua uk uc)
    have x_P:=P_5.out.set2 H_5.out (.bool ub) (.slice ua uk uc)
    have x_U:=U_5.out.set2 H_5.out (.bool ub) (.slice ua uk uc)
    have hT:=x_J.si
    clear J_5 G_5 H_5 P_5 U_5
    unfold two at x_J x_G x_H x_P x_U hT
    refine hK.out _ _ hT (fun _=>?_)
    clear hK K hS
    try simp only[Act.put,Za,Zb,Zc]
    generalize (W42.setCell ⟨h,0,none⟩ (.bool ub)).setCell ⟨h,1,none⟩ (.slice ua uk uc)=W43 at *
    have J_6:=Zh x_J
    have G_6:=Zh x_G
    have H_6:=Zh x_H
    have P_6:=Zh x_P
    have U_6:=Zh x_U
    clear x_J x_G x_H x_P x_U
    have hS:=hT
    clear hT
    refine wpAnyH_done (by kernel_rfl) ?_ _
    refine NoPanic.normal ?_
    have TT:Hid (Ft w b1 a1 k1 c1 d1 e1 m1 q1 b2 a2 k2 c2 d2 e2 m2 q2 g h pb pa pk pc ub ua uk uc W43):=⟨J_6.out,G_6.out,H_6.out,LG.out,LH.out⟩
    go_wp2_with fail
    go_meet
    case rel=>exact⟨g,h,pb,pa,pk,pc,ub,ua,uk,uc,rfl,rfl,TT.out,P_6.out,U_6.out⟩
  ·go_simp
   have bc:=bel_one WD (.cells #[.bool false,.slice none 0 0] 107)
   have LH:Hid (w.heap.size+1+1<WD.heap.size):=J_0.out.lo
   have J_1:=Zh (J_0.out.keep bc)
   clear J_0
   have H_1:Hid (B2 (WD.alloc (.cells #[.bool false,.slice none 0 0] 107)) WD.heap.size (.bool false) (.slice none 0 0)):=B2.made WD _ _ _
   have hT:=J_1.out.si
   refine hK.out _ _ hT (fun _=>?_)
   clear hK K hS bc
   try simp only[Act.put,Za,Zb,Zc]
   generalize WD.alloc (.cells #[.bool false,.slice none 0 0] 107)=W44 at *
   generalize WD.heap.size=h at *
   have hS:=hT
   clear hT
   refine wpAnyH_ready (rs:=[4,10]) (by kernel_rfl) (by simp) ?_
   refine AllReadyH.cons rfl (fun K hK=>?_) (AllReadyH.cons rfl (fun K hK=>?_) AllReadyH.nil)
   ·go_simp
    (refine (Common_c b1 d2 a1 e2 k1 m2 c1 q2 z1 y2 W44 (M1.out _ J_1.out) (D2.out _ J_1.out) N1.out O2.out).mono ?_)
    rintro e W45 ⟨pb,pa,pk,pc,rfl,hn,bc⟩
    try go_simp
    have J_2:=Zh (J_1.out.keep bc)
    have H_2:=Zh (H_1.out.keep bc)
    clear J_1 H_1
    have P_2:=Zh hn
    have hT:=J_2.out.si
    refine hK.out _ _ hT (fun _=>?_)
    clear hK K hS bc hn
    have hS:=hT
    clear hT
    try simp only[Act.put,Za,Zb,Zc]
    refine wpAnyH_ready (rs:=[9,10]) (by kernel_rfl) (by simp) ?_
    refine AllReadyH.cons rfl (fun K hK=>?_) (AllReadyH.cons rfl (fun K hK=>?_) AllReadyH.nil)
    ·go_simp
     (refine (Common_c b2 d1 a2 e1 k2 m1 c2 q1 z2 y1 W45 (M2.out _ J_2.out) (D1.out _ J_2.out) N2.out O1.out).mono ?_)
     rintro e W46 ⟨ub,ua,uk,uc,rfl,hn,bc⟩
     try go_simp
     have J_3:=Zh (J_2.out.keep bc)
     have H_3:=Zh (H_2.out.keep bc)
     have P_3:=Zh (P_2.out.below bc)
     clear J_2 H_2 P_2
     have U_3:=Zh hn
     have hT:=J_3.out.si
     refine hK.out _ _ hT (fun _=>?_)
     clear hK K hS bc hn
     have hS:=hT
     clear hT
     try simp only[Act.put,Za,Zb,Zc]
     refine wpAnyH_ready (rs:=[10]) (by kernel_rfl) (by simp) ?_
     refine AllReadyH.cons rfl (fun K hK=>?_) AllReadyH.nil
     go_simp
     have bc:=bel_one W46 (.cells #[.bool false,.slice none 0 0] 107)
     have LG:Hid (w.heap.size+1+1<W46.heap.size):=J_3.out.lo
     have NE:Hid (h≠W46.heap.size):=by have:=H_3.out.lt;unfold Hid;omega
     have J_4:=Zh (J_3.out.keep bc)
     have H_4:=Zh (H_3.out.keep bc)
     have P_4:=Zh (P_3.out.below bc)
     have U_4:=Zh (U_3.out.below bc)
     clear J_3 H_3 P_3 U_3
     have G_4:Hid (B2 (W46.alloc (.cells #[.bool false,.slice none 0 0] 107)) W46.heap.size (.bool false) (.slice none 0 0)):=B2.made W46 _ _ _
     have hT:=J_4.out.si
     refine hK.out _ _ hT (fun _=>?_)
     clear hK K hS bc
     try simp only[Act.put,Za,Zb,Zc]
     generalize W46.alloc (.cells #[.bool false,.slice none 0 0] 107)=W47 at *
     generalize W46.heap.size=g at *
     have hS:=hT
     clear hT
     refine wpAnyH_ready (rs:=[12]) (by kernel_rfl) (by simp) ?_
     refine AllReadyH.cons rfl (fun K hK=>?_) AllReadyH.nil
     have q0:=G_4.out.c0
     have q1:=G_4.out.c1
     have g0:=G_4.out.fr 0
     have g1':=G_4.out.fr 1
     go_simp
     clear q0 q1 g0 g1'
     have x_J:=J_4.out.two LG.out (.bool pb) (.slice pa pk pc)
     have x_G:=G_4.out.set (.bool pb) (.slice pa pk pc)
     have x_H:=H_4.out.other (NE.out.symm) (.bool pb) (.slice pa pk pc)
     have x_P:=P_4.out.set2 G_4.out (.bool pb) (.slice pa pk pc)
     have x_U:=U_4.out.set2 G_4.out (.bool pb) (.slice pa pk pc)
     have hT:=x_J.si
     clear J_4 H_4 P_4 U_4 G_4
     unfold two at x_J x_H x_P x_U x_G hT
     refine hK.out _ _ hT (fun _=>?_)
     clear hK K hS
     try simp only[Act.put,Za,Zb,Zc]
     generalize (W47.setCell ⟨g,0,none⟩ (.bool pb)).setCell ⟨g,1,none⟩ (.slice pa pk pc)=W48 at *
     have J_5:=Zh x_J
     have H_5:=Zh x_H
     have P_5:=Zh x_P
     have U_5:=Zh x_U
     have G_5:=Zh x_G
     clear x_J x_H x_P x_U x_G
     have hS:=hT
     clear hT
     refine wpAnyH_ready (rs:=[13]) (by kernel_rfl) (by simp) ?_
     refine AllReadyH.cons rfl (fun K hK=>?_) AllReadyH.nil
     have q0:=H_5.out.c0
     have q1:=H_5.out.c1
     have g0:=H_5.out.fr 0
     have g1':=H_5.out.fr 1
     go_simp
     clear q0 q1 g0 g1'
     have x_J:=J_5.out.two LH.out (.bool ub) (.slice ua uk uc)
     have x_H:=H_5.out.set (.bool ub) (.slice ua uk uc)
     have x_P:=P_5.out.set2 H_5.out (.bool ub) (.slice ua uk uc)
     have x_U:=U_5.out.set2 H_5.out (.bool ub) (.slice ua uk uc)
     have x_G:=G_5.out.other (NE.out) (.bool ub) (.slice ua uk uc)
     have hT:=x_J.si
     clear J_5 H_5 P_5 U_5 G_5
     unfold two at x_J x_H x_P x_U x_G hT
     refine hK.out _ _ hT (fun _=>?_)
     clear hK K hS
     try simp only[Act.put,Za,Zb,Zc]
     generalize (W48.setCell ⟨h,0,none⟩ (.bool ub)).setCell ⟨h,1,none⟩ (.slice ua uk uc)=W49 at *
     have J_6:=Zh x_J
     have H_6:=Zh x_H
     have P_6:=Zh x_P
     have U_6:=Zh x_U
     have G_6:=Zh x_G
     clear x_J x_H x_P x_U x_G
     have hS:=hT
     clear hT
     refine wpAnyH_done (by kernel_rfl) ?_ _
     refine NoPanic.normal ?_
     have TT:Hid (Ft w b1 a1 k1 c1 d1 e1 m1 q1 b2 a2 k2 c2 d2 e2 m2 q2 g h pb pa pk pc ub ua uk uc W49):=⟨J_6.out,G_6.out,H_6.out,LG.out,LH.out⟩
     go_wp2_with fail
     go_meet
     case rel=>exact⟨g,h,pb,pa,pk,pc,ub,ua,uk,uc,rfl,rfl,TT.out,P_6.out,U_6.out⟩
    ·go_simp
     have bc:=bel_one W45 (.cells #[.bool false,.slice none 0 0] 107)
     have LG:Hid (w.heap.size+1+1<W45.heap.size):=J_2.out.lo
     have NE:Hid (h≠W45.heap.size):=by have:=H_2.out.lt;unfold Hid;omega
     have J_3:=Zh (J_2.out.keep bc)
     have H_3:=Zh (H_2.out.keep bc)
     have P_3:=Zh (P_2.out.below bc)
     clear J_2 H_2 P_2
     have G_3:Hid (B2 (W45.alloc (.cells #[.bool false,.slice none 0 0] 107)) W45.heap.size (.bool false) (.slice none 0 0)):=B2.made W45 _ _ _
     have hT:=J_3.out.si
     refine hK.out _ _ hT (fun _=>?_)
     clear hK K hS bc
     try simp only[Act.put,Za,Zb,Zc]
     generalize W45.alloc (.cells #[.bool false,.slice none 0 0] 107)=W50 at *
     generalize W45.heap.size=g at *
     have hS:=hT
     clear hT
     refine wpAnyH_ready (rs:=[9]) (by kernel_rfl) (by simp) ?_
     refine AllReadyH.cons rfl (fun K hK=>?_) AllReadyH.nil
     go_simp
     (refine (Common_c b2 d1 a2 e1 k2 m1 c2 q1 z2 y1 W50 (M2.out _ J_3.out) (D1.out _ J_3.out) N2.out O1.out).mono ?_)
     rintro e W51 ⟨ub,ua,uk,uc,rfl,hn,bc⟩
     try go_simp
     have J_4:=Zh (J_3.out.keep bc)
     have H_4:=Zh (H_3.out.keep bc)
     have P_4:=Zh (P_3.out.below bc)
     have G_4:=Zh (G_3.out.keep bc)
     clear J_3 H_3 P_3 G_3
     have U_4:=Zh hn
     have hT:=J_4.out.si
     refine hK.out _ _ hT (fun _=>?_)
     clear hK K hS bc hn
     have hS:=hT
     clear hT
     try simp only[Act.put,Za,Zb,Zc]
     refine wpAnyH_ready (rs:=[12]) (by kernel_rfl) (by simp) ?_
     refine AllReadyH.cons rfl (fun K hK=>?_) AllReadyH.nil
     have q0:=G_4.out.c0
     have q1:=G_4.out.c1
     have g0:=G_4.out.fr 0
     have g1':=G_4.out.fr 1
     go_simp
     clear q0 q1 g0 g1'
     have x_J:=J_4.out.two LG.out (.bool pb) (.slice pa pk pc)
     have x_G:=G_4.out.set (.bool pb) (.slice pa pk pc)
     have x_H:=H_4.out.other (NE.out.symm) (.bool pb) (.slice pa pk pc)
     have x_P:=P_4.out.set2 G_4.out (.bool pb) (.slice pa pk pc)
     have x_U:=U_4.out.set2 G_4.out (.bool pb) (.slice pa pk pc)
     have hT:=x_J.si
     clear J_4 H_4 P_4 G_4 U_4
     unfold two at x_J x_H x_P x_G x_U hT
     refine hK.out _ _ hT (fun _=>?_)
     clear hK K hS
     try simp only[Act.put,Za,Zb,Zc]
     generalize (W51.setCell ⟨g,0,none⟩ (.bool pb)).setCell ⟨g,1,none⟩ (.slice pa pk pc)=W52 at *
     have J_5:=Zh x_J
     have H_5:=Zh x_H
     have P_5:=Zh x_P
     have G_5:=Zh x_G
     have U_5:=Zh x_U
     clear x_J x_H x_P x_G x_U
     have hS:=hT
     clear hT
     refine wpAnyH_ready (rs:=[13]) (by kernel_rfl) (by simp) ?_
     refine AllReadyH.cons rfl (fun K hK=>?_) AllReadyH.nil
     have q0:=H_5.out.c0
     have q1:=H_5.out.c1
     have g0:=H_5.out.fr 0
     have g1':=H_5.out.fr 1
     go_simp
     clear q0 q1 g0 g1'
     have x_J:=J_5.out.two LH.out (.bool ub) (.slice ua uk uc)
     have x_H:=H_5.out.set (.bool ub) (.slice ua uk uc)
     have x_P:=P_5.out.set2 H_5.out (.bool ub) (.slice ua uk uc)
     have x_G:=G_5.out.other (NE.out) (.bool ub) (.slice ua uk uc)
     have x_U:=U_5.out.set2 H_5.out (.bool ub) (.slice ua uk uc)
     have hT:=x_J.si
     clear J_5 H_5 P_5 G_5 U_5
     unfold two at x_J x_H x_P x_G x_U hT
     refine hK.out _ _ hT (fun _=>?_)
     clear hK K hS
     try simp only[Act.put,Za,Zb,Zc]
     generalize (W52.setCell ⟨h,0,none⟩ (.bool ub)).setCell ⟨h,1,none⟩ (.slice ua uk uc)=W53 at *
     have J_6:=Zh x_J
     have H_6:=Zh x_H
     have P_6:=Zh x_P
     have G_6:=Zh x_G
     have U_6:=Zh x_U
     clear x_J x_H x_P x_G x_U
     have hS:=hT
     clear hT
     refine wpAnyH_done (by kernel_rfl) ?_ _
     refine NoPanic.normal ?_
     have TT:Hid (Ft w b1 a1 k1 c1 d1 e1 m1 q1 b2 a2 k2 c2 d2 e2 m2 q2 g h pb pa pk pc ub ua uk uc W53):=⟨J_6.out,G_6.out,H_6.out,LG.out,LH.out⟩
     go_wp2_with fail
     go_meet
     case rel=>exact⟨g,h,pb,pa,pk,pc,ub,ua,uk,uc,rfl,rfl,TT.out,P_6.out,U_6.out⟩
   ·go_simp
    have bc:=bel_one W44 (.cells #[.bool false,.slice none 0 0] 107)
    have LG:Hid (w.heap.size+1+1<W44.heap.size):=J_1.out.lo
    have NE:Hid (h≠W44.heap.size):=by have:=H_1.out.lt;unfold Hid;omega
    have J_2:=Zh (J_1.out.keep bc)
    have H_2:=Zh (H_1.out.keep bc)
    clear J_1 H_1
    have G_2:Hid (B2 (W44.alloc (.cells #[.bool false,.slice none 0 0] 107)) W44.heap.size (.bool false) (.slice none 0 0)):=B2.made W44 _ _ _
    have hT:=J_2.out.si
    refine hK.out _ _ hT (fun _=>?_)
    clear hK K hS bc
    try simp only[Act.put,Za,Zb,Zc]
    generalize W44.alloc (.cells #[.bool false,.slice none 0 0] 107)=W54 at *
    generalize W44.heap.size=g at *
    have hS:=hT
    clear hT
    refine wpAnyH_ready (rs:=[4]) (by kernel_rfl) (by simp) ?_
    refine AllReadyH.cons rfl (fun K hK=>?_) AllReadyH.nil
    go_simp
    (refine (Common_c b1 d2 a1 e2 k1 m2 c1 q2 z1 y2 W54 (M1.out _ J_2.out) (D2.out _ J_2.out) N1.out O2.out).mono ?_)
    rintro e W55 ⟨pb,pa,pk,pc,rfl,hn,bc⟩
    try go_simp
    have J_3:=Zh (J_2.out.keep bc)
    have H_3:=Zh (H_2.out.keep bc)
    have G_3:=Zh (G_2.out.keep bc)
    clear J_2 H_2 G_2
    have P_3:=Zh hn
    have hT:=J_3.out.si
    refine hK.out _ _ hT (fun _=>?_)
    clear hK K hS bc hn
    have hS:=hT
    clear hT
    try simp only[Act.put,Za,Zb,Zc]
    refine wpAnyH_ready (rs:=[9]) (by kernel_rfl) (by simp) ?_
    refine AllReadyH.cons rfl (fun K hK=>?_) AllReadyH.nil
    go_simp
    (refine (Common_c b2 d1 a2 e1 k2 m1 c2 q1 z2 y1 W55 (M2.out _ J_3.out) (D1.out _ J_3.out) N2.out O1.out).mono ?_)
    rintro e W56 ⟨ub,ua,uk,uc,rfl,hn,bc⟩
    try go_simp
    have J_4:=Zh (J_3.out.keep bc)
    have H_4:=Zh (H_3.out.keep bc)
    have G_4:=Zh (G_3.out.keep bc)
    have P_4:=Zh (P_3.out.below bc)
    clear J_3 H_3 G_3 P_3
    have U_4:=Zh hn
    have hT:=J_4.out.si
    refine hK.out _ _ hT (fun _=>?_)
    clear hK K hS bc hn
    have hS:=hT
    clear hT
    try simp only[Act.put,Za,Zb,Zc]
    refine wpAnyH_ready (rs:=[12]) (by kernel_rfl) (by simp) ?_
    refine AllReadyH.cons rfl (fun K hK=>?_) AllReadyH.nil
    have q0:=G_4.out.c0
    have q1:=G_4.out.c1
    have g0:=G_4.out.fr 0
    have g1':=G_4.out.fr 1
    go_simp
    clear q0 q1 g0 g1'
    have x_J:=J_4.out.two LG.out (.bool pb) (.slice pa pk pc)
    have x_G:=G_4.out.set (.bool pb) (.slice pa pk pc)
    have x_H:=H_4.out.other (NE.out.symm) (.bool pb) (.slice pa pk pc)
    have x_P:=P_4.out.set2 G_4.out (.bool pb) (.slice pa pk pc)
    have x_U:=U_4.out.set2 G_4.out (.bool pb) (.slice pa pk pc)
    have hT:=x_J.si
    clear J_4 H_4 G_4 P_4 U_4
    unfold two at x_J x_H x_G x_P x_U hT
    refine hK.out _ _ hT (fun _=>?_)
    clear hK K hS
    try simp only[Act.put,Za,Zb,Zc]
    generalize (W56.setCell ⟨g,0,none⟩ (.bool pb)).setCell ⟨g,1,none⟩ (.slice pa pk pc)=W57 at *
    have J_5:=Zh x_J
    have H_5:=Zh x_H
    have G_5:=Zh x_G
    have P_5:=Zh x_P
    have U_5:=Zh x_U
    clear x_J x_H x_G x_P x_U
    have hS:=hT
    clear hT
    refine wpAnyH_ready (rs:=[13]) (by kernel_rfl) (by simp) ?_
    refine AllReadyH.cons rfl (fun K hK=>?_) AllReadyH.nil
    have q0:=H_5.out.c0
    have q1:=H_5.out.c1
    have g0:=H_5.out.fr 0
    have g1':=H_5.out.fr 1
    go_simp
    clear q0 q1 g0 g1'
    have x_J:=J_5.out.two LH.out (.bool ub) (.slice ua uk uc)
    have x_H:=H_5.out.set (.bool ub) (.slice ua uk uc)
    have x_G:=G_5.out.other (NE.out) (.bool ub) (.slice ua uk uc)
    have x_P:=P_5.out.set2 H_5.out (.bool ub) (.slice ua uk uc)
    have x_U:=U_5.out.set2 H_5.out (.bool ub) (.slice ua uk uc)
    have hT:=x_J.si
    clear J_5 H_5 G_5 P_5 U_5
    unfold two at x_J x_H x_G x_P x_U hT
    refine hK.out _ _ hT (fun _=>?_)
    clear hK K hS
    try simp only[Act.put,Za,Zb,Zc]
    generalize (W57.setCell ⟨h,0,none⟩ (.bool ub)).setCell ⟨h,1,none⟩ (.slice ua uk uc)=W58 at *
    have J_6:=Zh x_J
    have H_6:=Zh x_H
    have G_6:=Zh x_G
    have P_6:=Zh x_P
    have U_6:=Zh x_U
    clear x_J x_H x_G x_P x_U
    have hS:=hT
    clear hT
    refine wpAnyH_done (by kernel_rfl) ?_ _
    refine NoPanic.normal ?_
    have TT:Hid (Ft w b1 a1 k1 c1 d1 e1 m1 q1 b2 a2 k2 c2 d2 e2 m2 q2 g h pb pa pk pc ub ua uk uc W58):=⟨J_6.out,G_6.out,H_6.out,LG.out,LH.out⟩
    go_wp2_with fail
    go_meet
    case rel=>exact⟨g,h,pb,pa,pk,pc,ub,ua,uk,uc,rfl,rfl,TT.out,P_6.out,U_6.out⟩
 case rest=>
  obtain⟨g,h,pb,pa,pk,pc,ub,ua,uk,uc,rfl,rfl,hF,hP,hU⟩:=hcut
  clear J0
  go_wp2_with fail
  refine wp_region_noPanic ?_
  refine wp_region_held_drew (S:=SG w.heap.size b1 a1 k1 c1 d1 e1 m1 q1 b2 a2 k2 c2 d2 e2 m2 q2 g h pb pa pk pc ub ua uk uc) (by kernel_rfl) (hF.out.keep (Below.refl _ _).drew).sg (fun hS=>?_)
  have T1:=Zh (hF.out.keep (Below.refl _ _).drew)
  have P1_:=Zh (hP.out.below (Below.refl _ _).drew)
  have U1_:=Zh (hU.out.below (Below.refl _ _).drew)
  clear hF hP hU
  refine Zt (i:=0) (v:=?v0z37) rfl (Or.inl ⟨by rfl,?hy0z37⟩) ?rest0z37
  case hy0z37=>
   intro w hSw
   dsimp only[SG]at hSw
   go_simp
   try with_reducible rfl
  simp only[Act.put,Zd,Ze,Zf,Za,Zb,Zc]
  refine Zt (i:=1) (v:=?v1z38) rfl (Or.inl ⟨by rfl,?hy1z38⟩) ?rest1z38
  case hy1z38=>
   intro w hSw
   dsimp only[SG]at hSw
   go_simp
   try with_reducible rfl
  simp only[Act.put,Zd,Ze,Zf,Za,Zb,Zc]
  refine Zt (i:=2) (v:=?v2z39) rfl (Or.inl ⟨by rfl,?hy2z39⟩) ?rest2z39
  case hy2z39=>
   intro w hSw
   dsimp only[SG]at hSw
   go_simp
   try with_reducible rfl
  simp only[Act.put,Zd,Ze,Zf,Za,Zb,Zc]
  refine Zt (i:=4) (v:=?v4z40) rfl (Or.inl ⟨by rfl,?hy4z40⟩) ?rest4z40
  case hy4z40=>
   intro w hSw
   dsimp only[SG]at hSw
   go_simp
   try with_reducible rfl
  simp only[Act.put,Zd,Ze,Zf,Za,Zb,Zc]
  refine Zt (i:=5) (v:=?v5z41) rfl (Or.inl ⟨by rfl,?hy5z41⟩) ?rest5z41
  case hy5z41=>
   intro w hSw
   dsimp only[SG]at hSw
   go_simp
   try with_reducible rfl
  simp only[Act.put,Zd,Ze,Zf,Za,Zb,Zc]
  refine Zt (i:=6) (v:=?v6z42) rfl (Or.inl ⟨by rfl,?hy6z42⟩) ?rest6z42
  case hy6z42=>
   intro w hSw
   dsimp only[SG]at hSw
   go_simp
   try with_reducible rfl
  simp only[Act.put,Zd,Ze,Zf,Za,Zb,Zc]
  refine Zt (i:=9) (v:=?v9z43) rfl (Or.inl ⟨by rfl,?hy9z43⟩) ?rest9z43
  case hy9z43=>
   intro w hSw
   dsimp only[SG]at hSw
   go_simp
   try with_reducible rfl
  simp only[Act.put,Zd,Ze,Zf,Za,Zb,Zc]
  refine Zt (i:=10) (v:=?v10z44) rfl (Or.inl ⟨by rfl,?hy10z44⟩) ?rest10z44
  case hy10z44=>
   intro w hSw
   dsimp only[SG]at hSw
   go_simp
   try with_reducible rfl
  simp only[Act.put,Zd,Ze,Zf,Za,Zb,Zc]
  refine Zt (i:=11) (v:=?v11z45) rfl (Or.inl ⟨by rfl,?hy11z45⟩) ?rest11z45
  case hy11z45=>
   intro w hSw
   dsimp only[SG]at hSw
   go_simp
   try with_reducible rfl
  simp only[Act.put,Zd,Ze,Zf,Za,Zb,Zc]
  refine Zt (i:=13) (v:=?v13z46) rfl (Or.inl ⟨by rfl,?hy13z46⟩) ?rest13z46
  case hy13z46=>
   intro w hSw
   dsimp only[SG]at hSw
   go_simp
   try with_reducible rfl
  simp only[Act.put,Zd,Ze,Zf,Za,Zb,Zc]
  refine Zt (i:=14) (v:=?v14z47) rfl (Or.inl ⟨by rfl,?hy14z47⟩) ?rest14z47
  case hy14z47=>
   intro w hSw
   dsimp only[SG]at hSw
   go_simp
   try with_reducible rfl
  simp only[Act.put,Zd,Ze,Zf,Za,Zb,Zc]
  refine Zt (i:=15) (v:=?v15z48) rfl (Or.inl ⟨by rfl,?hy15z48⟩) ?rest15z48
  case hy15z48=>
   intro w hSw
   dsimp only[SG]at hSw
   go_simp
   try with_reducible rfl
  simp only[Act.put,Zd,Ze,Zf,Za,Zb,Zc]
  refine wpAnyH_ready (rs:=[3]) (by kernel_rfl) (by simp) ?_
  refine AllReadyH.cons rfl (fun K hK=>?_) AllReadyH.nil
  go_simp
  refine (part_c b1 pb a1 pa k1 pk c1 pc z1 ((Int.gcd z1 y2:Nat):Int) _ (M1.out _ T1.out.j) P1_.out CG.out.1 N14.out).mono ?_
  rintro e W3 ⟨xb,xa,xk,xc,rfl,hn,bc⟩
  try go_simp
  have T3:=Zh (T1.out.keep bc)
  have hT:=T3.out.sg
  have X3:=Zh hn
  have P3_:=Zh (P1_.out.below bc)
  have U3_:=Zh (U1_.out.below bc)
  refine hK.out _ _ hT (fun _=>?_)
  clear hK K hS bc T1 hn P1_ U1_
  have hS:=hT
  clear hT
  try simp only[Act.put,Za,Zb,Zc]
  refine wpAnyH_ready (rs:=[7]) (by kernel_rfl) (by simp) ?_
  refine AllReadyH.cons rfl (fun K hK=>?_) AllReadyH.nil
  go_simp
  refine (part_c b2 ub a2 ua k2 uk c2 uc z2 ((Int.gcd z2 y1:Nat):Int) _ (M2.out _ T3.out.j) U3_.out CG.out.2.1 N24.out).mono ?_
  rintro e W4 ⟨yb,ya,yk,yc,rfl,hn,bc⟩
  try go_simp
  have T4:=Zh (T3.out.keep bc)
  have hT:=T4.out.sg
  have Y4:=Zh hn
  have X4:=Zh (X3.out.below bc)
  have P4_:=Zh (P3_.out.below bc)
  have U4_:=Zh (U3_.out.below bc)
  refine hK.out _ _ hT (fun _=>?_)
  clear hK K hS bc T3 hn X3 P3_ U3_
  have hS:=hT
  clear hT
  try simp only[Act.put,Za,Zb,Zc]
  refine wpAnyH_ready (rs:=[8]) (by kernel_rfl) (by simp) ?_
  refine AllReadyH.cons rfl (fun K hK=>?_) AllReadyH.nil
  go_simp
  refine (Times_c xb yb xa ya xk yk xc yc (z1.tdiv ((Int.gcd z1 y2:Nat):Int)) (z2.tdiv ((Int.gcd z2 y1:Nat):Int)) _ X4.out Y4.out (tdiv_lt N1.out) (tdiv_lt N2.out)).mono ?_
  rintro e W5 ⟨ob,oa,ok,oc,rfl,hn,bc⟩
  try go_simp
  have T5:=Zh (T4.out.keep bc)
  have hT:=T5.out.sg
  have NU5:=Zh hn
  have P5_:=Zh (P4_.out.below bc)
  have U5_:=Zh (U4_.out.below bc)
  refine hK.out _ _ hT (fun _=>?_)
  clear hK K hS bc T4 hn X4 Y4 P4_ U4_
  have hS:=hT
  clear hT
  try simp only[Act.put,Za,Zb,Zc]
  refine wpAnyH_ready (rs:=[12]) (by kernel_rfl) (by simp) ?_
  refine AllReadyH.cons rfl (fun K hK=>?_) AllReadyH.nil
  go_simp
  refine (part_c d1 ub e1 ua m1 uk q1 uc y1 ((Int.gcd z2 y1:Nat):Int) _ (D1.out _ T5.out.j) U5_.out CG.out.2.1 O14.out).mono ?_
  rintro e W6 ⟨xb,xa,xk,xc,rfl,hn,bc⟩
  try go_simp
  have T6:=Zh (T5.out.keep bc)
  have hT:=T6.out.sg
  have X6:=Zh hn
  have P6_:=Zh (P5_.out.below bc)
  have NU6:=Zh (NU5.out.below bc)
  refine hK.out _ _ hT (fun _=>?_)
  clear hK K hS bc T5 hn P5_ U5_ NU5
  have hS:=hT
  clear hT
  try simp only[Act.put,Za,Zb,Zc]
  refine wpAnyH_ready (rs:=[16]) (by kernel_rfl) (by simp) ?_
  refine AllReadyH.cons rfl (fun K hK=>?_) AllReadyH.nil
  go_simp
  refine (part_c d2 pb e2 pa m2 pk q2 pc y2 ((Int.gcd z1 y2:Nat):Int) _ (D2.out _ T6.out.j) P6_.out CG.out.1 O24.out).mono ?_
  rintro e W7 ⟨yb,ya,yk,yc,rfl,hn,bc⟩
  try go_simp
  have T7:=Zh (T6.out.keep bc)
  have hT:=T7.out.sg
  have Y7:=Zh hn
  have X7:=Zh (X6.out.below bc)
  have NU7:=Zh (NU6.out.below bc)
  refine hK.out _ _ hT (fun _=>?_)
  clear hK K hS bc T6 hn X6 P6_ NU6
  have hS:=hT
  clear hT
  try simp only[Act.put,Za,Zb,Zc]
  refine wpAnyH_ready (rs:=[17]) (by kernel_rfl) (by simp) ?_
  refine AllReadyH.cons rfl (fun K hK=>?_) AllReadyH.nil
  go_simp
  refine (Times_c xb yb xa ya xk yk xc yc (y1.tdiv ((Int.gcd z2 y1:Nat):Int)) (y2.tdiv ((Int.gcd z1 y2:Nat):Int)) _ X7.out Y7.out (tdiv_lt O1.out) (tdiv_lt O2.out)).mono ?_
  rintro e W8 ⟨ob',oa',ok',oc',rfl,hn,bc⟩
  try go_simp
  have T8:=Zh (T7.out.keep bc)
  have hT:=T8.out.sg
  have ON:Hid (Zn W8 ob oa ok oc ((z1*z2).tdiv (ovG (z1*z2) (y1*y2)))):=by
   unfold Hid;rw[←CG.out.2.2.1];exact NU7.out.below bc
  have OD:Hid (Zn W8 ob' oa' ok' oc' ((y1*y2).tdiv (ovG (z1*z2) (y1*y2)))):=by
   unfold Hid;rw[←CG.out.2.2.2];exact hn
  refine hK.out _ _ hT (fun _=>?_)
  clear hK K hS bc T7 hn X7 Y7 NU7
  have hS:=hT
  clear hT
  try simp only[Act.put,Za,Zb,Zc]
  refine Zt (i:=18) (v:=?v18z49) rfl (Or.inl ⟨by rfl,?hy18z49⟩) ?rest18z49
  case hy18z49=>
   intro w hSw
   dsimp only[SG]at hSw
   go_simp
   try with_reducible rfl
  simp only[Act.put,Zd,Ze,Zf,Za,Zb,Zc]
  refine wpAnyH_ready (rs:=[19]) (by kernel_rfl) (by simp) ?_
  refine AllReadyH.cons rfl (fun K hK=>?_) AllReadyH.nil
  have q0':=T8.out.j.r.c0
  have q1':=T8.out.j.r.c1
  have q2':=T8.out.j.r.c2
  have q3':=T8.out.j.r.c3
  have g0':=T8.out.j.r.fr 0
  have g1':=T8.out.j.r.fr 1
  have g2':=T8.out.j.r.fr 2
  have g3':=T8.out.j.r.fr 3
  go_simp
  clear q0' q1' q2' q3' g0' g1' g2' g3'
  have hT:=T8.out.done (.bool ob) (.slice oa ok oc) (.bool ob') (.slice oa' ok' oc')
  have R9:=T8.out.j.r.set (.bool ob) (.slice oa ok oc) (.bool ob') (.slice oa' ok' oc')
  have PP:Hid (FrPost ((z1*z2).tdiv (ovG (z1*z2) (y1*y2))) ((y1*y2).tdiv (ovG (z1*z2) (y1*y2))) w (.returned (.agg #[.bool ob,.slice oa ok oc,.bool ob',.slice oa' ok' oc'])) (four W8 (w.heap.size+1+1) (.bool ob) (.slice oa ok oc) (.bool ob') (.slice oa' ok' oc'))):=
   ⟨_,_,_,_,_,_,_,_,rfl,ON.out.set4 T8.out.j.r (NL.b _) (NL.s _ _ _) (NL.b _) (NL.s _ _ _) _ _ _ _,OD.out.set4 T8.out.j.r (NL.b _) (NL.s _ _ _) (NL.b _) (NL.s _ _ _) _ _ _ _,below_four T8.out.j.bel (by omega) _ _ _ _⟩
  unfold four at hT R9 PP
  refine hK.out _ _ hT (fun _=>?_)
  clear hK K hS
  try simp only[Act.put,Za,Zb,Zc]
  refine wpAnyH_done (by kernel_rfl) ?_ _
  refine NoPanic.normal ?_
  obtain⟨r0,r1,r2,r3,_,_⟩:=id R9
  clear hT R9
  go_wp2_with fail
  exact bodyPost_ret (v:=.agg #[.bool ob,.slice oa ok oc,.bool ob',.slice oa' ok' oc']) (by simp[results,Tryz.results118,go_sem,r0,r1,r2,r3]) rfl PP.out
end Go.Proofs.YtghgbhmiliiohaaGreatDoor
