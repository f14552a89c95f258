/-
  CodeAgreementMatchesSpec: how far two codes differ, in the program; the sum over a map of counts.
-/
import Derived.Test.YtghgbhmiliiohaaGreatDoorAMQ
import Derived.Test.YtghgbhmiliiohaaGreatDoorAMWhFrac
import Derived.Test.YtghgbhmiliiohaaGreatDoorAM28
import Derived.Test.YtghgbhmiliiohaaGreatDoorAM22
import Derived.Test.YtghgbhmiliiohaaGreatDoorAM27
import Derived.Test.YtghgbhmiliiohaaGreatDoorAM21
set_option maxRecDepth 100000
namespace Go.Proofs.YtghgbhmiliiohaaGreatDoor
open Go.RowKit
theorem Ft.lo{w:World}{b1:Bool}{a1:Option Addr}{k1 c1:Nat}{d1:Bool}{e1:Option Addr}{m1 q1:Nat}{b2:Bool}{a2:Option Addr}{k2 c2:Nat}{d2:Bool}{e2:Option Addr}{m2 q2:Nat}{g h:Nat}{pb:Bool}{pa:Option Addr}{pk pc:Nat}{ub:Bool}{ua:Option Addr}{uk uc:Nat}{W:World}(t:Ft w b1 a1 k1 c1 d1 e1 m1 q1 b2 a2 k2 c2 d2 e2 m2 q2 g h pb pa pk pc ub ua uk uc W):w.heap.size+1+1<W.heap.size∧g<W.heap.size∧h<W.heap.size:=⟨t.j.lo,t.bg.lt,t.bh.lt⟩
theorem Ft.two{w:World}{b1:Bool}{a1:Option Addr}{k1 c1:Nat}{d1:Bool}{e1:Option Addr}{m1 q1:Nat}{b2:Bool}{a2:Option Addr}{k2 c2:Nat}{d2:Bool}{e2:Option Addr}{m2 q2:Nat}{g h:Nat}{pb:Bool}{pa:Option Addr}{pk pc:Nat}{ub:Bool}{ua:Option Addr}{uk uc:Nat}{W:World}(t:Ft w b1 a1 k1 c1 d1 e1 m1 q1 b2 a2 k2 c2 d2 e2 m2 q2 g h pb pa pk pc ub ua uk uc W){i:Nat}(hi:w.heap.size+1+1<i∧g<i∧h<i)(y0 y1:Value):Ft w b1 a1 k1 c1 d1 e1 m1 q1 b2 a2 k2 c2 d2 e2 m2 q2 g h pb pa pk pc ub ua uk uc (two W i y0 y1):=
 ⟨t.j.two hi.1 _ _,t.bg.other (by omega) _ _,t.bh.other (by omega) _ _,t.lg,t.lh⟩
structure Fw3 (w:World) (b1:Bool) (a1:Option Addr) (k1 c1:Nat) (d1:Bool) (e1:Option Addr) (m1 q1:Nat) (b2:Bool) (a2:Option Addr) (k2 c2:Nat) (d2:Bool) (e2:Option Addr) (m2 q2:Nat) (g h:Nat) (pb:Bool) (pa:Option Addr) (pk pc:Nat) (ub:Bool) (ua:Option Addr) (uk uc:Nat) (i:Nat) (nb:Bool) (na:Option Addr) (nk nc:Nat) (W:World):Prop where
 t:Ft w b1 a1 k1 c1 d1 e1 m1 q1 b2 a2 k2 c2 d2 e2 m2 q2 g h pb pa pk pc ub ua uk uc W
 bi:B2 W i (.bool nb) (.slice na nk nc)
 li:w.heap.size+1+1<i∧g<i∧h<i
 gh:g<h
theorem Fw3.keep{w:World}{b1:Bool}{a1:Option Addr}{k1 c1:Nat}{d1:Bool}{e1:Option Addr}{m1 q1:Nat}{b2:Bool}{a2:Option Addr}{k2 c2:Nat}{d2:Bool}{e2:Option Addr}{m2 q2:Nat}{g h:Nat}{pb:Bool}{pa:Option Addr}{pk pc:Nat}{ub:Bool}{ua:Option Addr}{uk uc:Nat}{i:Nat}{nb:Bool}{na:Option Addr}{nk nc:Nat}{W W':World}(s:Fw3 w b1 a1 k1 c1 d1 e1 m1 q1 b2 a2 k2 c2 d2 e2 m2 q2 g h pb pa pk pc ub ua uk uc i nb na nk nc W)(hb:Below W.heap.size W W'):Fw3 w b1 a1 k1 c1 d1 e1 m1 q1 b2 a2 k2 c2 d2 e2 m2 q2 g h pb pa pk pc ub ua uk uc i nb na nk nc W':=⟨s.t.keep hb,s.bi.keep hb,s.li,s.gh⟩
theorem Fw3.setG{w:World} {b1:Bool} {a1:Option Addr} {k1 c1:Nat} {d1:Bool} {e1:Option Addr} {m1 q1:Nat} {b2:Bool} {a2:Option Addr} {k2 c2:Nat} {d2:Bool} {e2:Option Addr} {m2 q2:Nat} {g h:Nat} {pb:Bool} {pa:Option Addr} {pk pc:Nat} {ub:Bool} {ua:Option Addr} {uk uc:Nat} {i:Nat} {nb:Bool} {na:Option Addr} {nk nc:Nat} {W:World} (s:Fw3 w b1 a1 k1 c1 d1 e1 m1 q1 b2 a2 k2 c2 d2 e2 m2 q2 g h pb pa pk pc ub ua uk uc i nb na nk nc W) (b:Bool) (a:Option Addr) (k c:Nat) :
  Fw3 w b1 a1 k1 c1 d1 e1 m1 q1 b2 a2 k2 c2 d2 e2 m2 q2 g h b a k c ub ua uk uc i nb na nk nc (two W g (.bool b) (.slice a k c)):=by
 have l1:=s.li
 have l2:=s.gh
 exact⟨⟨s.t.j.two s.t.lg _ _,s.t.bg.set _ _,s.t.bh.other (by omega) _ _,s.t.lg,s.t.lh⟩,s.bi.other (by omega) _ _,s.li,s.gh⟩
def SH(o:Nat)(b1:Bool)(a1:Option Addr)(k1 c1:Nat)(d1:Bool)(e1:Option Addr)(m1 q1:Nat)(b2:Bool)(a2:Option Addr)(k2 c2:Nat)(d2:Bool)(e2:Option Addr)(m2 q2:Nat)(g h:Nat)(pb:Bool)(pa:Option Addr)(pk pc:Nat)(ub:Bool)(ua:Option Addr)(uk uc:Nat)(i:Nat)(nb:Bool)(na:Option Addr)(nk nc:Nat)(W:World):Prop:=
 W.cell? ⟨o,0,none⟩=some (.bool b1)∧W.cell? ⟨o,1,none⟩=some (.slice a1 k1 c1)∧W.cell? ⟨o,2,none⟩=some (.bool d1)∧W.cell? ⟨o,3,none⟩=some (.slice e1 m1 q1) ∧
 W.cell? ⟨o+1,0,none⟩=some (.bool b2)∧W.cell? ⟨o+1,1,none⟩=some (.slice a2 k2 c2)∧W.cell? ⟨o+1,2,none⟩=some (.bool d2)∧W.cell? ⟨o+1,3,none⟩=some (.slice e2 m2 q2) ∧
 W.cell? ⟨g,0,none⟩=some (.bool pb)∧W.cell? ⟨g,1,none⟩=some (.slice pa pk pc)∧W.cell? ⟨h,0,none⟩=some (.bool ub)∧W.cell? ⟨h,1,none⟩=some (.slice ua uk uc) ∧
 W.cell? ⟨i,0,none⟩=some (.bool nb)∧W.cell? ⟨i,1,none⟩=some (.slice na nk nc)
theorem Fw3.sh{w:World}{b1:Bool}{a1:Option Addr}{k1 c1:Nat}{d1:Bool}{e1:Option Addr}{m1 q1:Nat}{b2:Bool}{a2:Option Addr}{k2 c2:Nat}{d2:Bool}{e2:Option Addr}{m2 q2:Nat}{g h:Nat}{pb:Bool}{pa:Option Addr}{pk pc:Nat}{ub:Bool}{ua:Option Addr}{uk uc:Nat}{i:Nat}{nb:Bool}{na:Option Addr}{nk nc:Nat}{W:World}(s:Fw3 w b1 a1 k1 c1 d1 e1 m1 q1 b2 a2 k2 c2 d2 e2 m2 q2 g h pb pa pk pc ub ua uk uc i nb na nk nc W):SH w.heap.size b1 a1 k1 c1 d1 e1 m1 q1 b2 a2 k2 c2 d2 e2 m2 q2 g h pb pa pk pc ub ua uk uc i nb na nk nc W:=
 ⟨s.t.j.x.c0,s.t.j.x.c1,s.t.j.x.c2,s.t.j.x.c3,s.t.j.y.c0,s.t.j.y.c1,s.t.j.y.c2,s.t.j.y.c3,s.t.bg.c0,s.t.bg.c1,s.t.bh.c0,s.t.bh.c1,s.bi.c0,s.bi.c1⟩
theorem Fw3.done{w:World}{b1:Bool}{a1:Option Addr}{k1 c1:Nat}{d1:Bool}{e1:Option Addr}{m1 q1:Nat}{b2:Bool}{a2:Option Addr}{k2 c2:Nat}{d2:Bool}{e2:Option Addr}{m2 q2:Nat}{g h:Nat}{pb:Bool}{pa:Option Addr}{pk pc:Nat}{ub:Bool}{ua:Option Addr}{uk uc:Nat}{i:Nat}{nb:Bool}{na:Option Addr}{nk nc:Nat}{W:World}(s:Fw3 w b1 a1 k1 c1 d1 e1 m1 q1 b2 a2 k2 c2 d2 e2 m2 q2 g h pb pa pk pc ub ua uk uc i nb na nk nc W)(y0 y1 y2 y3:Value):SH w.heap.size b1 a1 k1 c1 d1 e1 m1 q1 b2 a2 k2 c2 d2 e2 m2 q2 g h pb pa pk pc ub ua uk uc i nb na nk nc (four W (w.heap.size+1+1) y0 y1 y2 y3):=by
 obtain⟨a0,a1,a2,a3,b0,b1,b2,b3,g0,g1,h0,h1⟩:=s.t.done y0 y1 y2 y3
 have l1:=s.li
 exact⟨a0,a1,a2,a3,b0,b1,b2,b3,g0,g1,h0,h1,(four_cell (by omega) _ _ _ _ 0).trans s.bi.c0,(four_cell (by omega) _ _ _ _ 1).trans s.bi.c1⟩
set_option maxHeartbeats 4000000 in
theorem FPlus_c(b1:Bool)(a1:Option Addr)(k1 c1:Nat)(d1:Bool)(e1:Option Addr)(m1 q1:Nat)(b2:Bool)(a2:Option Addr)(k2 c2:Nat)(d2:Bool)(e2:Option Addr)(m2 q2:Nat)(z1 y1 z2 y2:Int)(w:World)(h1:Zn w b1 a1 k1 c1 z1)(g1:Zn w d1 e1 m1 q1 y1)(h2:Zn w b2 a2 k2 c2 z2)(g2:Zn w d2 e2 m2 q2 y2)(n1:z1.natAbs<bp 2000)(o1:y1.natAbs<bp 2000)(n2:z2.natAbs<bp 2000)(o2:y2.natAbs<bp 2000)(p1:0<y1)(p2:0<y2)(u1:Int.gcd z1 y1=1)(u2:Int.gcd z2 y2=1)(la:(z1*y2.tdiv ((Int.gcd y1 y2:Nat):Int)).natAbs<bp 2000∧(z2*y1.tdiv ((Int.gcd y1 y2:Nat):Int)).natAbs<bp 2000∧(z1*y2.tdiv ((Int.gcd y1 y2:Nat):Int)+z2*y1.tdiv ((Int.gcd y1 y2:Nat):Int)).natAbs<bp 2000) :
  Calls Tryz.prog 117 #[.agg #[.bool b1,.slice a1 k1 c1,.bool d1,.slice e1 m1 q1],.agg #[.bool b2,.slice a2 k2 c2,.bool d2,.slice e2 m2 q2]] w (FrPost ((z1*y2+z2*y1).tdiv (ovG (z1*y2+z2*y1) (y1*y2))) ((y1*y2).tdiv (ovG (z1*y2+z2*y1) (y1*y2))) w):=by
 obtain⟨W0,hW0⟩:∃ W0,((w.alloc (.cells #[.bool b1,.slice a1 k1 c1,.bool d1,.slice e1 m1 q1] 109)).alloc (.cells #[.bool b2,.slice a2 k2 c2,.bool d2,.slice e2 m2 q2] 109)).alloc (.cells #[.bool false,.slice none 0 0,.bool false,.slice none 0 0] 109)=W0:=⟨_,rfl⟩
 have J0:Hid (F3 w b1 a1 k1 c1 d1 e1 m1 q1 b2 a2 k2 c2 d2 e2 m2 q2 W0):=by rw[←hW0];exact F3.made _ _ _ _ _ _ _ _ _ _ _ _ _ _ _ _ _ _ _ _
 have M1:=Zh (fun W (h:F3 w b1 a1 k1 c1 d1 e1 m1 q1 b2 a2 k2 c2 d2 e2 m2 q2 W)=>h1.below h.bel)
 have M2:=Zh (fun W (h:F3 w b1 a1 k1 c1 d1 e1 m1 q1 b2 a2 k2 c2 d2 e2 m2 q2 W)=>h2.below h.bel)
 have D1:=Zh (fun W (h:F3 w b1 a1 k1 c1 d1 e1 m1 q1 b2 a2 k2 c2 d2 e2 m2 q2 W)=>g1.below h.bel)
 have D2:=Zh (fun W (h:F3 w b1 a1 k1 c1 d1 e1 m1 q1 b2 a2 k2 c2 d2 e2 m2 q2 W)=>g2.below h.bel)
 have N1:=Zh n1
 have N2:=Zh n2
 have O1:=Zh o1
 have O2:=Zh o2
 have N14:=Zh (Nat.lt_of_lt_of_le n1 (bp_mono (show 2000≤4000 by decide)))
 have N24:=Zh (Nat.lt_of_lt_of_le n2 (bp_mono (show 2000≤4000 by decide)))
 have O14:=Zh (Nat.lt_of_lt_of_le o1 (bp_mono (show 2000≤4000 by decide)))
 have O24:=Zh (Nat.lt_of_lt_of_le o2 (bp_mono (show 2000≤4000 by decide)))
 have PG:=Zh (plus_gcd p1 p2 u1 u2 rfl rfl rfl rfl rfl)
 have GZ:Hid (((Int.gcd y1 y2:Nat):Int)≠0):=PG.out.1
 have LA:=Zh la
 have LD:Hid ((((Int.gcd y1 y2:Nat):Int)).natAbs<bp 2000):=by
  have h:=Int.gcd_dvd_left (a:=y1) (b:=y2)
  have:(((Int.gcd y1 y2:Nat):Int)).natAbs≤y1.natAbs:=by
   rw[Int.natAbs_natCast]
   exact Nat.le_of_dvd (by omega) (Int.ofNat_dvd_left.1 h)
  exact Nat.lt_of_le_of_lt this o1
 have HC:=Zh (Common_c d1 d2 e1 e2 m1 m2 q1 q2 y1 y2 W0 (D1.out _ J0.out) (D2.out _ J0.out) O1.out O2.out)
 clear h1 h2 g1 g2 n1 n2 o1 o2 p1 p2 u1 u2 la
 have x2:=J0.out.x.c2
 have x3:=J0.out.x.c3
 have y2':=J0.out.y.c2
 have y3:=J0.out.y.c3
 go_enter Tryz.func117,Tryz.ntmps117
 go_wp2_with fail
 clear hW0 x2 x3 y2' y3
 (with_reducible refine HC.out.mono ?_)
 rintro e V1 ⟨pb,pa,pk,pc,rfl,hp,bc⟩
 have J1:=Zh (J0.out.keep bc)
 have P1:=Zh hp
 clear bc hp HC J0
 obtain⟨V2,hV2⟩:∃ W,V1.alloc (.cells #[.bool false,.slice none 0 0] 107)=W:=⟨_,rfl⟩
 have B_V2:B2 V2 V1.heap.size (.bool false) (.slice none 0 0):=by rw[←hV2];exact B2.made _ _ _ _
 have b_V2:Below V1.heap.size V1 V2:=by rw[←hV2];exact bel_one _ _
 obtain⟨g,hg⟩:∃ g,V1.heap.size=g:=⟨_,rfl⟩
 rw[hg]at B_V2
 obtain⟨V3,hV3⟩:∃ W,two V2 g (.bool pb) (.slice pa pk pc)=W:=⟨_,rfl⟩
 have C_V3:B2 V3 g (.bool pb) (.slice pa pk pc):=by rw[←hV3];exact B_V2.set _ _
 have z0_V2:=B_V2.c0
 have z1_V2:=B_V2.c1
 have f0_V2:=B_V2.fr 0
 have f1_V2:=B_V2.fr 1
 have J3:Hid (F3 w b1 a1 k1 c1 d1 e1 m1 q1 b2 a2 k2 c2 d2 e2 m2 q2 V3):=by rw[←hV3];exact (J1.out.keep b_V2).two (by rw[←hg];exact J1.out.lo) _ _
 have P3:Hid (Zn V3 pb pa pk pc ((Int.gcd y1 y2:Nat):Int)):=by rw[←hV3];exact (P1.out.below b_V2).set2 B_V2 _ _
 have LG:Hid (w.heap.size+1+1<g):=by rw[←hg];exact J1.out.lo
 have HC:=Zh (part_c d1 pb e1 pa m1 pk q1 pc y1 ((Int.gcd y1 y2:Nat):Int) V3 (D1.out _ J3.out) P3.out GZ.out O14.out)
 have x2:=J3.out.x.c2
 have x3:=J3.out.x.c3
 have c0:=C_V3.c0
 have c1':=C_V3.c1
 have G3:=Zh C_V3
 clear B_V2 b_V2 C_V3 J1 P1
 unfold two at hV3
 go_wp2_with fail
 clear hV3 hV2 hg x2 x3 c0 c1' z0_V2 z1_V2 f0_V2 f1_V2
 (with_reducible refine HC.out.mono ?_)
 rintro e V4 ⟨ub,ua,uk,uc,rfl,hp,bc⟩
 have J4:=Zh (J3.out.keep bc)
 have G4:=Zh (G3.out.keep bc)
 have P4:=Zh (P3.out.below bc)
 have U4:=Zh hp
 clear bc hp HC J3 G3 P3
 obtain⟨V5,hV5⟩:∃ W,V4.alloc (.cells #[.bool false,.slice none 0 0] 107)=W:=⟨_,rfl⟩
 have B_V5:B2 V5 V4.heap.size (.bool false) (.slice none 0 0):=by rw[←hV5];exact B2.made _ _ _ _
 have b_V5:Below V4.heap.size V4 V5:=by rw[←hV5];exact bel_one _ _
 obtain⟨h,hh⟩:∃ g,V4.heap.size=g:=⟨_,rfl⟩
 rw[hh]at B_V5
 obtain⟨V6,hV6⟩:∃ W,two V5 h (.bool ub) (.slice ua uk uc)=W:=⟨_,rfl⟩
 have C_V6:B2 V6 h (.bool ub) (.slice ua uk uc):=by rw[←hV6];exact B_V5.set _ _
 have z0_V5:=B_V5.c0
 have z1_V5:=B_V5.c1
 have f0_V5:=B_V5.fr 0
 have f1_V5:=B_V5.fr 1
 have GH:Hid (g<h):=by rw[←hh];exact G4.out.lt
 have T6:Hid (Ft w b1 a1 k1 c1 d1 e1 m1 q1 b2 a2 k2 c2 d2 e2 m2 q2 g h pb pa pk pc ub ua uk uc V6):=by
  have hlo:=J4.out.lo
  rw[hh]at hlo
  rw[←hV6]
  refine⟨(J4.out.keep b_V5).two hlo _ _,(G4.out.keep b_V5).other (by have:=GH.out;omega) _ _,?_,LG.out,hlo⟩
  rw[hV6];exact C_V6
 have P6:Hid (Zn V6 pb pa pk pc ((Int.gcd y1 y2:Nat):Int)):=by rw[←hV6];exact (P4.out.below b_V5).set2 B_V5 _ _
 have U6:Hid (Zn V6 ub ua uk uc (y1.tdiv ((Int.gcd y1 y2:Nat):Int))):=by rw[←hV6];exact (U4.out.below b_V5).set2 B_V5 _ _
 clear B_V5 b_V5 C_V6 J4 G4 P4 U4 LG
 unfold two at hV6
 go_upto_region 3 with fail
 clear hV6 hV5 hh z0_V5 z1_V5 f0_V5 f1_V5
 go_cut [7] from 17 to 28 (fun v7 wx=>∃ (i:Nat) (nb:Bool) (na:Option Addr) (nk nc:Nat),v7=.pointer (some ⟨i,0,none⟩)∧Hid (Fw3 w b1 a1 k1 c1 d1 e1 m1 q1 b2 a2 k2 c2 d2 e2 m2 q2 g h pb pa pk pc ub ua uk uc i nb na nk nc wx)∧Hid (Zn wx pb pa pk pc ((Int.gcd y1 y2:Nat):Int))∧Hid (Zn wx ub ua uk uc (y1.tdiv ((Int.gcd y1 y2:Nat):Int)))∧Hid (Zn wx nb na nk nc (z1*y2.tdiv ((Int.gcd y1 y2:Nat):Int)+z2*y1.tdiv ((Int.gcd y1 y2:Nat):Int))))
 case first=>
  refine wp_region_noPanic ?_
  refine wp_region_held_drew (S:=SG w.heap.size b1 a1 k1 c1 d1 e1 m1 q1 b2 a2 k2 c2 d2 e2 m2 q2 g h pb pa pk pc ub ua uk uc) (by kernel_rfl) (T6.out.keep (Below.refl _ _).drew).sg (fun hS=>?_)
  have J_0:=Zh (T6.out.keep (Below.refl _ _).drew)
  have P_0:=Zh (P6.out.below (Below.refl _ _).drew)
  have U_0:=Zh (U6.out.below (Below.refl _ _).drew)
  clear T6 P6 U6
  generalize V6.drew=WD at *
  refine Zt (i:=0) (v:=?v0z50) rfl (Or.inl ⟨by rfl,?hy0z50⟩) ?rest0z50
  case hy0z50=>
   intro w hSw
   dsimp only[SG]at hSw
   go_simp
   try with_reducible rfl
  simp only[Act.put,Zd,Ze,Zf,Za,Zb,Zc]
  refine Zt (i:=1) (v:=?v1z51) rfl (Or.inl ⟨by rfl,?hy1z51⟩) ?rest1z51
  case hy1z51=>
   intro w hSw
   dsimp only[SG]at hSw
   go_simp
   try with_reducible rfl
  simp only[Act.put,Zd,Ze,Zf,Za,Zb,Zc]
  refine Zt (i:=2) (v:=?v2z52) rfl (Or.inl ⟨by rfl,?hy2z52⟩) ?rest2z52
  case hy2z52=>
   intro w hSw
   dsimp only[SG]at hSw
   go_simp
   try with_reducible rfl
  simp only[Act.put,Zd,Ze,Zf,Za,Zb,Zc]
  refine Zt (i:=3) (v:=?v3z53) rfl (Or.inl ⟨by rfl,?hy3z53⟩) ?rest3z53
  case hy3z53=>
   intro w hSw
   dsimp only[SG]at hSw
   go_simp
   try with_reducible rfl
  simp only[Act.put,Zd,Ze,Zf,Za,Zb,Zc]
  refine Zt (i:=4) (v:=?v4z54) rfl (Or.inl ⟨by rfl,?hy4z54⟩) ?rest4z54
  case hy4z54=>
   intro w hSw
   dsimp only[SG]at hSw
   go_simp
   try with_reducible rfl
  simp only[Act.put,Zd,Ze,Zf,Za,Zb,Zc]
  refine Zt (i:=7) (v:=?v7z55) rfl (Or.inl ⟨by rfl,?hy7z55⟩) ?rest7z55
  case hy7z55=>
   intro w hSw
   dsimp only[SG]at hSw
   go_simp
   try with_reducible rfl
  simp only[Act.put,Zd,Ze,Zf,Za,Zb,Zc]
  refine Zt (i:=8) (v:=?v8z56) rfl (Or.inl ⟨by rfl,?hy8z56⟩) ?rest8z56
  case hy8z56=>
   intro w hSw
   dsimp only[SG]at hSw
   go_simp
   try with_reducible rfl
  simp only[Act.put,Zd,Ze,Zf,Za,Zb,Zc]
  refine Zt (i:=9) (v:=?v9z57) rfl (Or.inl ⟨by rfl,?hy9z57⟩) ?rest9z57
  case hy9z57=>
   intro w hSw
   dsimp only[SG]at hSw
   go_simp
   try with_reducible rfl
  simp only[Act.put,Zd,Ze,Zf,Za,Zb,Zc]
  refine wpAnyH_ready (rs:=[5,12]) (by kernel_rfl) (by simp) ?_
  refine AllReadyH.cons rfl (fun K hK=>?_) (AllReadyH.cons rfl (fun K hK=>?_) AllReadyH.nil)
  ·go_simp
   (refine (part_c d2 pb e2 pa m2 pk q2 pc y2 ((Int.gcd y1 y2:Nat):Int) WD (D2.out _ J_0.out.j) P_0.out GZ.out O24.out).mono ?_)
   rintro e W59 ⟨tb,ta,tk,tc,rfl,hn,bc⟩
   try go_simp
   have J_1:=Zh (J_0.out.keep bc)
   have P_1:=Zh (P_0.out.below bc)
   have U_1:=Zh (U_0.out.below bc)
   clear J_0 P_0 U_0
   have T_1:=Zh hn
   have hT:=J_1.out.sg
   refine hK.out _ _ hT (fun _=>?_)
   clear hK K hS bc hn
   have hS:=hT
   clear hT
   try simp only[Act.put,Za,Zb,Zc]
   refine wpAnyH_ready (rs:=[6,12]) (by kernel_rfl) (by simp) ?_
   refine AllReadyH.cons rfl (fun K hK=>?_) (AllReadyH.cons rfl (fun K hK=>?_) AllReadyH.nil)
   ·go_simp
    (refine (Times_c b1 tb a1 ta k1 tk c1 tc z1 (y2.tdiv ((Int.gcd y1 y2:Nat):Int)) W59 (M1.out _ J_1.out.j) T_1.out N1.out (tdiv_lt O2.out)).mono ?_)
    rintro e W60 ⟨xb,xa,xk,xc,rfl,hn,bc⟩
    try go_simp
    have J_2:=Zh (J_1.out.keep bc)
    have P_2:=Zh (P_1.out.below bc)
    have U_2:=Zh (U_1.out.below bc)
    have T_2:=Zh (T_1.out.below bc)
    clear J_1 P_1 U_1 T_1
    have A_2:=Zh hn
    have hT:=J_2.out.sg
    refine hK.out _ _ hT (fun _=>?_)
    clear hK K hS bc hn
    have hS:=hT
    clear hT
    try simp only[Act.put,Za,Zb,Zc]
    refine wpAnyH_ready (rs:=[10,12]) (by kernel_rfl) (by simp) ?_
    refine AllReadyH.cons rfl (fun K hK=>?_) (AllReadyH.cons rfl (fun K hK=>?_) AllReadyH.nil)
    ·go_simp
     (refine (Times_c b2 ub a2 ua k2 uk c2 uc z2 (y1.tdiv ((Int.gcd y1 y2:Nat):Int)) W60 (M2.out _ J_2.out.j) U_2.out N2.out (tdiv_lt O1.out)).mono ?_)
     rintro e W61 ⟨yb,ya,yk,yc,rfl,hn,bc⟩
     try go_simp
     have J_3:=Zh (J_2.out.keep bc)
     have P_3:=Zh (P_2.out.below bc)
     have U_3:=Zh (U_2.out.below bc)
     have T_3:=Zh (T_2.out.below bc)
     have A_3:=Zh (A_2.out.below bc)
     clear J_2 P_2 U_2 T_2 A_2
     have B_3:=Zh hn
     have hT:=J_3.out.sg
     refine hK.out _ _ hT (fun _=>?_)
     clear hK K hS bc hn
     have hS:=hT
     clear hT
     try simp only[Act.put,Za,Zb,Zc]
     refine wpAnyH_ready (rs:=[11,12]) (by kernel_rfl) (by simp) ?_
     refine AllReadyH.cons rfl (fun K hK=>?_) (AllReadyH.cons rfl (fun K hK=>?_) AllReadyH.nil)
     ·go_simp
      (refine (Plus_c xb yb xa ya xk yk xc yc (z1*y2.tdiv ((Int.gcd y1 y2:Nat):Int)) (z2*y1.tdiv ((Int.gcd y1 y2:Nat):Int)) W61 A_3.out B_3.out LA.out.1 LA.out.2.1).mono ?_)
      rintro e W62 ⟨nb,na,nk,nc,rfl,hn,bc⟩
      try go_simp
      have J_4:=Zh (J_3.out.keep bc)
      have P_4:=Zh (P_3.out.below bc)
      have U_4:=Zh (U_3.out.below bc)
      have T_4:=Zh (T_3.out.below bc)
      have A_4:=Zh (A_3.out.below bc)
      have B_4:=Zh (B_3.out.below bc)
      clear J_3 P_3 U_3 T_3 A_3 B_3
      have S_4:=Zh hn
      have hT:=J_4.out.sg
      refine hK.out _ _ hT (fun _=>?_)
      clear hK K hS bc hn
      have hS:=hT
      clear hT
      try simp only[Act.put,Za,Zb,Zc]
      refine wpAnyH_ready (rs:=[12]) (by kernel_rfl) (by simp) ?_
      refine AllReadyH.cons rfl (fun K hK=>?_) AllReadyH.nil
      go_simp
      have bc:=bel_one W62 (.cells #[.bool false,.slice none 0 0] 107)
      have LI:Hid (w.heap.size+1+1<W62.heap.size∧g<W62.heap.size∧h<W62.heap.size):=J_4.out.lo
      have J_5:=Zh (J_4.out.keep bc)
      have P_5:=Zh (P_4.out.below bc)
      have U_5:=Zh (U_4.out.below bc)
      have T_5:=Zh (T_4.out.below bc)
      have A_5:=Zh (A_4.out.below bc)
      have B_5:=Zh (B_4.out.below bc)
      have S_5:=Zh (S_4.out.below bc)
      clear J_4 P_4 U_4 T_4 A_4 B_4 S_4
      have I_5:Hid (B2 (W62.alloc (.cells #[.bool false,.slice none 0 0] 107)) W62.heap.size (.bool false) (.slice none 0 0)):=B2.made W62 _ _ _
      have hT:=J_5.out.sg
      refine hK.out _ _ hT (fun _=>?_)
      clear hK K hS bc
      try simp only[Act.put,Za,Zb,Zc]
      generalize W62.alloc (.cells #[.bool false,.slice none 0 0] 107)=W63 at *
      generalize W62.heap.size=i at *
      have hS:=hT
      clear hT
      refine wpAnyH_ready (rs:=[13]) (by kernel_rfl) (by simp) ?_
      refine AllReadyH.cons rfl (fun K hK=>?_) AllReadyH.nil
      have q0:=I_5.out.c0
      have q1:=I_5.out.c1
      have g0:=I_5.out.fr 0
      have g1':=I_5.out.fr 1
      go_simp
      clear q0 q1 g0 g1'
      have x_J:=J_5.out.two LI.out (.bool nb) (.slice na nk nc)
      have x_I:=I_5.out.set (.bool nb) (.slice na nk nc)
      have x_P:=P_5.out.set2 I_5.out (.bool nb) (.slice na nk nc)
      have x_U:=U_5.out.set2 I_5.out (.bool nb) (.slice na nk nc)
      have x_T:=T_5.out.set2 I_5.out (.bool nb) (.slice na nk nc)
      have x_A:=A_5.out.set2 I_5.out (.bool nb) (.slice na nk nc)
      have x_B:=B_5.out.set2 I_5.out (.bool nb) (.slice na nk nc)
      have x_S:=S_5.out.set2 I_5.out (.bool nb) (.slice na nk nc)
      have hT:=x_J.sg
      clear J_5 P_5 U_5 T_5 A_5 B_5 S_5 I_5
      unfold two at x_J x_P x_U x_T x_A x_B x_S x_I hT
      refine hK.out _ _ hT (fun _=>?_)
      clear hK K hS
      try simp only[Act.put,Za,Zb,Zc]
      generalize (W63.setCell ⟨i,0,none⟩ (.bool nb)).setCell ⟨i,1,none⟩ (.slice na nk nc)=W64 at *
      have J_6:=Zh x_J
      have P_6:=Zh x_P
      have U_6:=Zh x_U
      have T_6:=Zh x_T
      have A_6:=Zh x_A
      have B_6:=Zh x_B
      have S_6:=Zh x_S
      have I_6:=Zh x_I
      clear x_J x_P x_U x_T x_A x_B x_S x_I
      have hS:=hT
      clear hT
      refine wpAnyH_done (by kernel_rfl) ?_ _
      refine NoPanic.normal ?_
      have TT:Hid (Fw3 w b1 a1 k1 c1 d1 e1 m1 q1 b2 a2 k2 c2 d2 e2 m2 q2 g h pb pa pk pc ub ua uk uc i nb na nk nc W64):=⟨J_6.out,I_6.out,LI.out,GH.out⟩
      go_wp2_with fail
      go_meet
      case rel=>exact⟨i,nb,na,nk,nc,rfl,TT.out,P_6.out,U_6.out,S_6.out⟩
     ·go_simp
      have bc:=bel_one W61 (.cells #[.bool false,.slice none 0 0] 107)
      have LI:Hid (w.heap.size+1+1<W61.heap.size∧g<W61.heap.size∧h<W61.heap.size):=J_3.out.lo
      have J_4:=Zh (J_3.out.keep bc)
      have P_4:=Zh (P_3.out.below bc)
      have U_4:=Zh (U_3.out.below bc)
      have T_4:=Zh (T_3.out.below bc)
      have A_4:=Zh (A_3.out.below bc)
      have B_4:=Zh (B_3.out.below bc)
      clear J_3 P_3 U_3 T_3 A_3 B_3
      have I_4:Hid (B2 (W61.alloc (.cells #[.bool false,.slice none 0 0] 107)) W61.heap.size (.bool false) (.slice none 0 0)):=B2.made W61 _ _ _
      have hT:=J_4.out.sg
      refine hK.out _ _ hT (fun _=>?_)
      clear hK K hS bc
      try simp only[Act.put,Za,Zb,Zc]
      generalize W61.alloc (.cells #[.bool false,.slice none 0 0] 107)=W65 at *
      generalize W61.heap.size=i at *
      have hS:=hT
      clear hT
      refine wpAnyH_ready (rs:=[11]) (by kernel_rfl) (by simp) ?_
      refine AllReadyH.cons rfl (fun K hK=>?_) AllReadyH.nil
      go_simp
      (refine (Plus_c xb yb xa ya xk yk xc yc (z1*y2.tdiv ((Int.gcd y1 y2:Nat):Int)) (z2*y1.tdiv ((Int.gcd y1 y2:Nat):Int)) W65 A_4.out B_4.out LA.out.1 LA.out.2.1).mono ?_)
      rintro e W66 ⟨nb,na,nk,nc,rfl,hn,bc⟩
      try go_simp
      have J_5:=Zh (J_4.out.keep bc)
      have P_5:=Zh (P_4.out.below bc)
      have U_5:=Zh (U_4.out.below bc)
      have T_5:=Zh (T_4.out.below bc)
      have A_5:=Zh (A_4.out.below bc)
      have B_5:=Zh (B_4.out.below bc)
      have I_5:=Zh (I_4.out.keep bc)
      clear J_4 P_4 U_4 T_4 A_4 B_4 I_4
      have S_5:=Zh hn
      have hT:=J_5.out.sg
      refine hK.out _ _ hT (fun _=>?_)
      clear hK K hS bc hn
      have hS:=hT
      clear hT
      try simp only[Act.put,Za,Zb,Zc]
      refine wpAnyH_ready (rs:=[13]) (by kernel_rfl) (by simp) ?_
      refine AllReadyH.cons rfl (fun K hK=>?_) AllReadyH.nil
      have q0:=I_5.out.c0
      have q1:=I_5.out.c1
      have g0:=I_5.out.fr 0
      have g1':=I_5.out.fr 1
      go_simp
      clear q0 q1 g0 g1'
      have x_J:=J_5.out.two LI.out (.bool nb) (.slice na nk nc)
      have x_I:=I_5.out.set (.bool nb) (.slice na nk nc)
      have x_P:=P_5.out.set2 I_5.out (.bool nb) (.slice na nk nc)
      have x_U:=U_5.out.set2 I_5.out (.bool nb) (.slice na nk nc)
      have x_T:=T_5.out.set2 I_5.out (.bool nb) (.slice na nk nc)
      have x_A:=A_5.out.set2 I_5.out (.bool nb) (.slice na nk nc)
      have x_B:=B_5.out.set2 I_5.out (.bool nb) (.slice na nk nc)
      have x_S:=S_5.out.set2 I_5.out (.bool nb) (.slice na nk nc)
      have hT:=x_J.sg
      clear J_5 P_5 U_5 T_5 A_5 B_5 I_5 S_5
      unfold two at x_J x_P x_U x_T x_A x_B x_I x_S hT
      refine hK.out _ _ hT (fun _=>?_)
      clear hK K hS
      try simp only[Act.put,Za,Zb,Zc]
      generalize (W66.setCell ⟨i,0,none⟩ (.bool nb)).setCell ⟨i,1,none⟩ (.slice na nk nc)=W67 at *
      have J_6:=Zh x_J
      have P_6:=Zh x_P
      have U_6:=Zh x_U
      have T_6:=Zh x_T
      have A_6:=Zh x_A
      have B_6:=Zh x_B
      have I_6:=Zh x_I
      have S_6:=Zh x_S
      clear x_J x_P x_U x_T x_A x_B x_I x_S
      have hS:=hT
      clear hT
      refine wpAnyH_done (by kernel_rfl) ?_ _
      refine NoPanic.normal ?_
      have TT:Hid (Fw3 w b1 a1 k1 c1 d1 e1 m1 q1 b2 a2 k2 c2 d2 e2 m2 q2 g h pb pa pk pc ub ua uk uc i nb na nk nc W67):=⟨J_6.out,I_6.out,LI.out,GH.out⟩
      go_wp2_with fail
      go_meet
      case rel=>exact⟨i,nb,na,nk,nc,rfl,TT.out,P_6.out,U_6.out,S_6.out⟩
    ·go_simp
     have bc:=bel_one W60 (.cells #[.bool false,.slice none 0 0] 107)
     have LI:Hid (w.heap.size+1+1<W60.heap.size∧g<W60.heap.size∧h<W60.heap.size):=J_2.out.lo
     have J_3:=Zh (J_2.out.keep bc)
     have P_3:=Zh (P_2.out.below bc)
     have U_3:=Zh (U_2.out.below bc)
     have T_3:=Zh (T_2.out.below bc)
     have A_3:=Zh (A_2.out.below bc)
     clear J_2 P_2 U_2 T_2 A_2
     have I_3:Hid (B2 (W60.alloc (.cells #[.bool false,.slice none 0 0] 107)) W60.heap.size (.bool false) (.slice none 0 0)):=B2.made W60 _ _ _
     have hT:=J_3.out.sg
     refine hK.out _ _ hT (fun _=>?_)
     clear hK K hS bc
     try simp only[Act.put,Za,Zb,Zc]
     generalize W60.alloc (.cells #[.bool false,.slice none 0 0] 107)=W68 at *
     generalize W60.heap.size=i at *
     have hS:=hT
     clear hT
     refine wpAnyH_ready (rs:=[10]) (by kernel_rfl) (by simp) ?_
     refine AllReadyH.cons rfl (fun K hK=>?_) AllReadyH.nil
     go_simp
     (refine (Times_c b2 ub a2 ua k2 uk c2 uc z2 (y1.tdiv ((Int.gcd y1 y2:Nat):Int)) W68 (M2.out _ J_3.out.j) U_3.out N2.out (tdiv_lt O1.out)).mono ?_)
     rintro e W69 ⟨yb,ya,yk,yc,rfl,hn,bc⟩
     try go_simp
     have J_4:=Zh (J_3.out.keep bc)
     have P_4:=Zh (P_3.out.below bc)
     have U_4:=Zh (U_3.out.below bc)
     have T_4:=Zh (T_3.out.below bc)
     have A_4:=Zh (A_3.out.below bc)
     have I_4:=Zh (I_3.out.keep bc)
     clear J_3 P_3 U_3 T_3 A_3 I_3
     have B_4:=Zh hn
     have hT:=J_4.out.sg
     refine hK.out _ _ hT (fun _=>?_)
     clear hK K hS bc hn
     have hS:=hT
     clear hT
     try simp only[Act.put,Za,Zb,Zc]
     refine wpAnyH_ready (rs:=[11]) (by kernel_rfl) (by simp) ?_
     refine AllReadyH.cons rfl (fun K hK=>?_) AllReadyH.nil
     go_simp
     (refine (Plus_c xb yb xa ya xk yk xc yc (z1*y2.tdiv ((Int.gcd y1 y2:Nat):Int)) (z2*y1.tdiv ((Int.gcd y1 y2:Nat):Int)) W69 A_4.out B_4.out LA.out.1 LA.out.2.1).mono ?_)
     rintro e W70 ⟨nb,na,nk,nc,rfl,hn,bc⟩
     try go_simp
     have J_5:=Zh (J_4.out.keep bc)
     have P_5:=Zh (P_4.out.below bc)
     have U_5:=Zh (U_4.out.below bc)
     have T_5:=Zh (T_4.out.below bc)
     have A_5:=Zh (A_4.out.below bc)
     have I_5:=Zh (I_4.out.keep bc)
     have B_5:=Zh (B_4.out.below bc)
     clear J_4 P_4 U_4 T_4 A_4 I_4 B_4
     have S_5:=Zh hn
     have hT:=J_5.out.sg
     refine hK.out _ _ hT (fun _=>?_)
     clear hK K hS bc hn
     have hS:=hT
     clear hT
     try simp only[Act.put,Za,Zb,Zc]
     refine wpAnyH_ready (rs:=[13]) (by kernel_rfl) (by simp) ?_
     refine AllReadyH.cons rfl (fun K hK=>?_) AllReadyH.nil
     have q0:=I_5.out.c0
     have q1:=I_5.out.c1
     have g0:=I_5.out.fr 0
     have g1':=I_5.out.fr 1
     go_simp
     clear q0 q1 g0 g1'
     have x_J:=J_5.out.two LI.out (.bool nb) (.slice na nk nc)
     have x_I:=I_5.out.set (.bool nb) (.slice na nk nc)
     have x_P:=P_5.out.set2 I_5.out (.bool nb) (.slice na nk nc)
     have x_U:=U_5.out.set2 I_5.out (.bool nb) (.slice na nk nc)
     have x_T:=T_5.out.set2 I_5.out (.bool nb) (.slice na nk nc)
     have x_A:=A_5.out.set2 I_5.out (.bool nb) (.slice na nk nc)
     have x_B:=B_5.out.set2 I_5.out (.bool nb) (.slice na nk nc)
     have x_S:=S_5.out.set2 I_5.out (.bool nb) (.slice na nk nc)
     have hT:=x_J.sg
     clear J_5 P_5 U_5 T_5 A_5 I_5 B_5 S_5
     unfold two at x_J x_P x_U x_T x_A x_I x_B x_S hT
     refine hK.out _ _ hT (fun _=>?_)
     clear hK K hS
     try simp only[Act.put,Za,Zb,Zc]
     generalize (W70.setCell ⟨i,0,none⟩ (.bool nb)).setCell ⟨i,1,none⟩ (.slice na nk nc)=W71 at *
     have J_6:=Zh x_J
     have P_6:=Zh x_P
     have U_6:=Zh x_U
     have T_6:=Zh x_T
     have A_6:=Zh x_A
     have I_6:=Zh x_I
     have B_6:=Zh x_B
     have S_6:=Zh x_S
     clear x_J x_P x_U x_T x_A x_I x_B x_S
     have hS:=hT
     clear hT
     refine wpAnyH_done (by kernel_rfl) ?_ _
     refine NoPanic.normal ?_
     have TT:Hid (Fw3 w b1 a1 k1 c1 d1 e1 m1 q1 b2 a2 k2 c2 d2 e2 m2 q2 g h pb pa pk pc ub ua uk uc i nb na nk nc W71):=⟨J_6.out,I_6.out,LI.out,GH.out⟩
     go_wp2_with fail
     go_meet
     case rel=>exact⟨i,nb,na,nk,nc,rfl,TT.out,P_6.out,U_6.out,S_6.out⟩
   ·go_simp
    have bc:=bel_one W59 (.cells #[.bool false,.slice none 0 0] 107)
    have LI:Hid (w.heap.size+1+1<W59.heap.size∧g<W59.heap.size∧h<W59.heap.size):=J_1.out.lo
    have J_2:=Zh (J_1.out.keep bc)
    have P_2:=Zh (P_1.out.below bc)
    have U_2:=Zh (U_1.out.below bc)
    have T_2:=Zh (T_1.out.below bc)
    clear J_1 P_1 U_1 T_1
    have I_2:Hid (B2 (W59.alloc (.cells #[.bool false,.slice none 0 0] 107)) W59.heap.size (.bool false) (.slice none 0 0)):=B2.made W59 _ _ _
    have hT:=J_2.out.sg
    refine hK.out _ _ hT (fun _=>?_)
    clear hK K hS bc
    try simp only[Act.put,Za,Zb,Zc]
    generalize W59.alloc (.cells #[.bool false,.slice none 0 0] 107)=W72 at *
    generalize W59.heap.size=i at *
    have hS:=hT
    clear hT
    refine wpAnyH_ready (rs:=[6]) (by kernel_rfl) (by simp) ?_
    refine AllReadyH.cons rfl (fun K hK=>?_) AllReadyH.nil
    go_simp
    (refine (Times_c b1 tb a1 ta k1 tk c1 tc z1 (y2.tdiv ((Int.gcd y1 y2:Nat):Int)) W72 (M1.out _ J_2.out.j) T_2.out N1.out (tdiv_lt O2.out)).mono ?_)
    rintro e W73 ⟨xb,xa,xk,xc,rfl,hn,bc⟩
    try go_simp
    have J_3:=Zh (J_2.out.keep bc)
    have P_3:=Zh (P_2.out.below bc)
    have U_3:=Zh (U_2.out.below bc)
    have T_3:=Zh (T_2.out.below bc)
    have I_3:=Zh (I_2.out.keep bc)
    clear J_2 P_2 U_2 T_2 I_2
    have A_3:=Zh hn
    have hT:=J_3.out.sg
    refine hK.out _ _ hT (fun _=>?_)
    clear hK K hS bc hn
    have hS:=hT
    clear hT
    try simp only[Act.put,Za,Zb,Zc]
    refine wpAnyH_ready (rs:=[10]) (by kernel_rfl) (by simp) ?_
    refine AllReadyH.cons rfl (fun K hK=>?_) AllReadyH.nil
    go_simp
    (refine (Times_c b2 ub a2 ua k2 uk c2 uc z2 (y1.tdiv ((Int.gcd y1 y2:Nat):Int)) W73 (M2.out _ J_3.out.j) U_3.out N2.out (tdiv_lt O1.out)).mono ?_)
    rintro e W74 ⟨yb,ya,yk,yc,rfl,hn,bc⟩
    try go_simp
    have J_4:=Zh (J_3.out.keep bc)
    have P_4:=Zh (P_3.out.below bc)
    have U_4:=Zh (U_3.out.below bc)
    have T_4:=Zh (T_3.out.below bc)
    have I_4:=Zh (I_3.out.keep bc)
    have A_4:=Zh (A_3.out.below bc)
    clear J_3 P_3 U_3 T_3 I_3 A_3
    have B_4:=Zh hn
    have hT:=J_4.out.sg
    refine hK.out _ _ hT (fun _=>?_)
    clear hK K hS bc hn
    have hS:=hT
    clear hT
    try simp only[Act.put,Za,Zb,Zc]
    refine wpAnyH_ready (rs:=[11]) (by kernel_rfl) (by simp) ?_
    refine AllReadyH.cons rfl (fun K hK=>?_) AllReadyH.nil
    go_simp
    (refine (Plus_c xb yb xa ya xk yk xc yc (z1*y2.tdiv ((Int.gcd y1 y2:Nat):Int)) (z2*y1.tdiv ((Int.gcd y1 y2:Nat):Int)) W74 A_4.out B_4.out LA.out.1 LA.out.2.1).mono ?_)
    rintro e W75 ⟨nb,na,nk,nc,rfl,hn,bc⟩
    try go_simp
    have J_5:=Zh (J_4.out.keep bc)
    have P_5:=Zh (P_4.out.below bc)
    have U_5:=Zh (U_4.out.below bc)
    have T_5:=Zh (T_4.out.below bc)
    have I_5:=Zh (I_4.out.keep bc)
    have A_5:=Zh (A_4.out.below bc)
    have B_5:=Zh (B_4.out.below bc)
    clear J_4 P_4 U_4 T_4 I_4 A_4 B_4
    have S_5:=Zh hn
    have hT:=J_5.out.sg
    refine hK.out _ _ hT (fun _=>?_)
    clear hK K hS bc hn
    have hS:=hT
    clear hT
    try simp only[Act.put,Za,Zb,Zc]
    refine wpAnyH_ready (rs:=[13]) (by kernel_rfl) (by simp) ?_
    refine AllReadyH.cons rfl (fun K hK=>?_) AllReadyH.nil
    have q0:=I_5.out.c0
    have q1:=I_5.out.c1
    have g0:=I_5.out.fr 0
    have g1':=I_5.out.fr 1
    go_simp
    clear q0 q1 g0 g1'
    have x_J:=J_5.out.two LI.out (.bool nb) (.slice na nk nc)
    have x_I:=I_5.out.set (.bool nb) (.slice na nk nc)
    have x_P:=P_5.out.set2 I_5.out (.bool nb) (.slice na nk nc)
    have x_U:=U_5.out.set2 I_5.out (.bool nb) (.slice na nk nc)
    have x_T:=T_5.out.set2 I_5.out (.bool nb) (.slice na nk nc)
    have x_A:=A_5.out.set2 I_5.out (.bool nb) (.slice na nk nc)
    have x_B:=B_5.out.set2 I_5.out (.bool nb) (.slice na nk nc)
    have x_S:=S_5.out.set2 I_5.out (.bool nb) (.slice na nk nc)
    have hT:=x_J.sg
    clear J_5 P_5 U_5 T_5 I_5 A_5 B_5 S_5
    unfold two at x_J x_P x_U x_T x_I x_A x_B x_S hT
    refine hK.out _ _ hT (fun _=>?_)
    clear hK K hS
    try simp only[Act.put,Za,Zb,Zc]
    generalize (W75.setCell ⟨i,0,none⟩ (.bool nb)).setCell ⟨i,1,none⟩ (.slice na nk nc)=W76 at *
    have J_6:=Zh x_J
    have P_6:=Zh x_P
    have U_6:=Zh x_U
    have T_6:=Zh x_T
    have I_6:=Zh x_I
    have A_6:=Zh x_A
    have B_6:=Zh x_B
    have S_6:=Zh x_S
    clear x_J x_P x_U x_T x_I x_A x_B x_S
    have hS:=hT
    clear hT
    refine wpAnyH_done (by kernel_rfl) ?_ _
    refine NoPanic.normal ?_
    have TT:Hid (Fw3 w b1 a1 k1 c1 d1 e1 m1 q1 b2 a2 k2 c2 d2 e2 m2 q2 g h pb pa pk pc ub ua uk uc i nb na nk nc W76):=⟨J_6.out,I_6.out,LI.out,GH.out⟩
    go_wp2_with fail
    go_meet
    case rel=>exact⟨i,nb,na,nk,nc,rfl,TT.out,P_6.out,U_6.out,S_6.out⟩
  ·go_simp
   have bc:=bel_one WD (.cells #[.bool false,.slice none 0 0] 107)
   have LI:Hid (w.heap.size+1+1<WD.heap.size∧g<WD.heap.size∧h<WD.heap.size):=J_0.out.lo
   have J_1:=Zh (J_0.out.keep bc)
   have P_1:=Zh (P_0.out.below bc)
   have U_1:=Zh (U_0.out.below bc)
   clear J_0 P_0 U_0
   have I_1:Hid (B2 (WD.alloc (.cells #[.bool false,.slice none 0 0] 107)) WD.heap.size (.bool false) (.slice none 0 0)):=B2.made WD _ _ _
   have hT:=J_1.out.sg
   refine hK.out _ _ hT (fun _=>?_)
   clear hK K hS bc
   try simp only[Act.put,Za,Zb,Zc]
   generalize WD.alloc (.cells #[.bool false,.slice none 0 0] 107)=W77 at *
   generalize WD.heap.size=i at *
   have hS:=hT
   clear hT
   refine wpAnyH_ready (rs:=[5]) (by kernel_rfl) (by simp) ?_
   refine AllReadyH.cons rfl (fun K hK=>?_) AllReadyH.nil
   go_simp
   (refine (part_c d2 pb e2 pa m2 pk q2 pc y2 ((Int.gcd y1 y2:Nat):Int) W77 (D2.out _ J_1.out.j) P_1.out GZ.out O24.out).mono ?_)
   rintro e W78 ⟨tb,ta,tk,tc,rfl,hn,bc⟩
   try go_simp
   have J_2:=Zh (J_1.out.keep bc)
   have P_2:=Zh (P_1.out.below bc)
   have U_2:=Zh (U_1.out.below bc)
   have I_2:=Zh (I_1.out.keep bc)
   clear J_1 P_1 U_1 I_1
   have T_2:=Zh hn
   have hT:=J_2.out.sg
   refine hK.out _ _ hT (fun _=>?_)
   clear hK K hS bc hn
   have hS:=hT
   clear hT
   try simp only[Act.put,Za,Zb,Zc]
   refine wpAnyH_ready (rs:=[6]) (by kernel_rfl) (by simp) ?_
   refine AllReadyH.cons rfl (fun K hK=>?_) AllReadyH.nil
   go_simp
   (refine (Times_c b1 tb a1 ta k1 tk c1 tc z1 (y2.tdiv ((Int.gcd y1 y2:Nat):Int)) W78 (M1.out _ J_2.out.j) T_2.out N1.out (tdiv_lt O2.out)).mono ?_)
   rintro e W79 ⟨xb,xa,xk,xc,rfl,hn,bc⟩
   try go_simp
   have J_3:=Zh (J_2.out.keep bc)
   have P_3:=Zh (P_2.out.below bc)
   have U_3:=Zh (U_2.out.below bc)
   have I_3:=Zh (I_2.out.keep bc)
   have T_3:=Zh (T_2.out.below bc)
   clear J_2 P_2 U_2 I_2 T_2
   have A_3:=Zh hn
   have hT:=J_3.out.sg
   refine hK.out _ _ hT (fun _=>?_)
   clear hK K hS bc hn
   have hS:=hT
   clear hT
   try simp only[Act.put,Za,Zb,Zc]
   refine wpAnyH_ready (rs:=[10]) (by kernel_rfl) (by simp) ?_
   refine AllReadyH.cons rfl (fun K hK=>?_) AllReadyH.nil
   go_simp
   (refine (Times_c b2 ub a2 ua k2 uk c2 uc z2 (y1.tdiv ((Int.gcd y1 y2:Nat):Int)) W79 (M2.out _ J_3.out.j) U_3.out N2.out (tdiv_lt O1.out)).mono ?_)
   rintro e W80 ⟨yb,ya,yk,yc,rfl,hn,bc⟩
   try go_simp
   have J_4:=Zh (J_3.out.keep bc)
   have P_4:=Zh (P_3.out.below bc)
   have U_4:=Zh (U_3.out.below bc)
   have I_4:=Zh (I_3.out.keep bc)
   have T_4:=Zh (T_3.out.below bc)
   have A_4:=Zh (A_3.out.below bc)
   clear J_3 P_3 U_3 I_3 T_3 A_3
   have B_4:=Zh hn
   have hT:=J_4.out.sg
   refine hK.out _ _ hT (fun _=>?_)
   clear hK K hS bc hn
   have hS:=hT
   clear hT
   try simp only[Act.put,Za,Zb,Zc]
   refine wpAnyH_ready (rs:=[11]) (by kernel_rfl) (by simp) ?_
   refine AllReadyH.cons rfl (fun K hK=>?_) AllReadyH.nil
   go_simp
   (refine (Plus_c xb yb xa ya xk yk xc yc (z1*y2.tdiv ((Int.gcd y1 y2:Nat):Int)) (z2*y1.tdiv ((Int.gcd y1 y2:Nat):Int)) W80 A_4.out B_4.out LA.out.1 LA.out.2.1).mono ?_)
   rintro e W81 ⟨nb,na,nk,nc,rfl,hn,bc⟩
   try go_simp
   have J_5:=Zh (J_4.out.keep bc)
   have P_5:=Zh (P_4.out.below bc)
   have U_5:=Zh (U_4.out.below bc)
   have I_5:=Zh (I_4.out.keep bc)
   have T_5:=Zh (T_4.out.below bc)
   have A_5:=Zh (A_4.out.below bc)
   have B_5:=Zh (B_4.out.below bc)
   clear J_4 P_4 U_4 I_4 T_4 A_4 B_4
   have S_5:=Zh hn
   have hT:=J_5.out.sg
   refine hK.out _ _ hT (fun _=>?_)
   clear hK K hS bc hn
   have hS:=hT
   clear hT
   try simp only[Act.put,Za,Zb,Zc]
   refine wpAnyH_ready (rs:=[13]) (by kernel_rfl) (by simp) ?_
   refine AllReadyH.cons rfl (fun K hK=>?_) AllReadyH.nil
   have q0:=I_5.out.c0
   have q1:=I_5.out.c1
   have g0:=I_5.out.fr 0
   have g1':=I_5.out.fr 1
   go_simp
   clear q0 q1 g0 g1'
   have x_J:=J_5.out.two LI.out (.bool nb) (.slice na nk nc)
   have x_I:=I_5.out.set (.bool nb) (.slice na nk nc)
   have x_P:=P_5.out.set2 I_5.out (.bool nb) (.slice na nk nc)
   have x_U:=U_5.out.set2 I_5.out (.bool nb) (.slice na nk nc)
   have x_T:=T_5.out.set2 I_5.out (.bool nb) (.slice na nk nc)
   have x_A:=A_5.out.set2 I_5.out (.bool nb) (.slice na nk nc)
   have x_B:=B_5.out.set2 I_5.out (.bool nb) (.slice na nk nc)
   have x_S:=S_5.out.set2 I_5.out (.bool nb) (.slice na nk nc)
   have hT:=x_J.sg
   clear J_5 P_5 U_5 I_5 T_5 A_5 B_5 S_5
   unfold two at x_J x_P x_U x_I x_T x_A x_B x_S hT
   refine hK.out _ _ hT (fun _=>?_)
   clear hK K hS
   try simp only[Act.put,Za,Zb,Zc]
   generalize (W81.setCell ⟨i,0,none⟩ (.bool nb)).setCell ⟨i,1,none⟩ (.slice na nk nc)=W82 at *
   have J_6:=Zh x_J
   have P_6:=Zh x_P
   have U_6:=Zh x_U
   have I_6:=Zh x_I
   have T_6:=Zh x_T
   have A_6:=Zh x_A
   have B_6:=Zh x_B
   have S_6:=Zh x_S
   clear x_J x_P x_U x_I x_T x_A x_B x_S
   have hS:=hT
   clear hT
   refine wpAnyH_done (by kernel_rfl) ?_ _
   refine NoPanic.normal ?_
   have TT:Hid (Fw3 w b1 a1 k1 c1 d1 e1 m1 q1 b2 a2 k2 c2 d2 e2 m2 q2 g h pb pa pk pc ub ua uk uc i nb na nk nc W82):=⟨J_6.out,I_6.out,LI.out,GH.out⟩
   go_wp2_with fail
   go_meet
   case rel=>exact⟨i,nb,na,nk,nc,rfl,TT.out,P_6.out,U_6.out,S_6.out⟩
 case rest=>
  obtain⟨i,nb,na,nk,nc,rfl,hF,hP,hU,hN⟩:=hcut
  clear T6 P6 U6
  have HC:=Zh (Common_c nb pb na pa nk pk nc pc (z1*y2.tdiv ((Int.gcd y1 y2:Nat):Int)+z2*y1.tdiv ((Int.gcd y1 y2:Nat):Int)) ((Int.gcd y1 y2:Nat):Int) _ hN.out hP.out LA.out.2.2 LD.out)
  have i0:=hF.out.bi.c0
  have i1:=hF.out.bi.c1
  have j0:=hF.out.t.bg.c0
  have j1:=hF.out.t.bg.c1
  go_wp2_with fail
  clear i0 i1 j0 j1
  (with_reducible refine HC.out.mono ?_)
  rintro e V8 ⟨eb,ea,ek,ec,rfl,hp,bc⟩
  have F8:=Zh (hF.out.keep bc)
  have U8:=Zh (hU.out.below bc)
  have N8:=Zh (hN.out.below bc)
  have E8:=Zh hp
  clear bc hp HC hF hU hN hP
  obtain⟨V9,hV9⟩:∃ W,two V8 g (.bool eb) (.slice ea ek ec)=W:=⟨_,rfl⟩
  have F9:Hid (Fw3 w b1 a1 k1 c1 d1 e1 m1 q1 b2 a2 k2 c2 d2 e2 m2 q2 g h eb ea ek ec ub ua uk uc i nb na nk nc V9):=by rw[←hV9];exact F8.out.setG _ _ _ _
  have U9:Hid (Zn V9 ub ua uk uc (y1.tdiv ((Int.gcd y1 y2:Nat):Int))):=by rw[←hV9];exact U8.out.set2 F8.out.t.bg _ _
  have N9:Hid (Zn V9 nb na nk nc (z1*y2.tdiv ((Int.gcd y1 y2:Nat):Int)+z2*y1.tdiv ((Int.gcd y1 y2:Nat):Int))):=by rw[←hV9];exact N8.out.set2 F8.out.t.bg _ _
  have E9:Hid (Zn V9 eb ea ek ec ((Int.gcd (z1*y2.tdiv ((Int.gcd y1 y2:Nat):Int)+z2*y1.tdiv ((Int.gcd y1 y2:Nat):Int)) ((Int.gcd y1 y2:Nat):Int):Nat):Int)):=by rw[←hV9];exact E8.out.set2 F8.out.t.bg _ _
  have j0:=F8.out.t.bg.c0
  have j1:=F8.out.t.bg.c1
  have jf0:=F8.out.t.bg.fr 0
  have jf1:=F8.out.t.bg.fr 1
  clear F8 U8 N8 E8
  unfold two at hV9
  go_wp2_with fail
  clear hV9 j0 j1 jf0 jf1
  refine wp_region_noPanic ?_
  refine wp_region_held_drew (S:=SH w.heap.size b1 a1 k1 c1 d1 e1 m1 q1 b2 a2 k2 c2 d2 e2 m2 q2 g h eb ea ek ec ub ua uk uc i nb na nk nc) (by kernel_rfl) (F9.out.keep (Below.refl _ _).drew).sh (fun hS=>?_)
  have T1:=Zh (F9.out.keep (Below.refl _ _).drew)
  have U1_:=Zh (U9.out.below (Below.refl _ _).drew)
  have N1_:=Zh (N9.out.below (Below.refl _ _).drew)
  have E1_:=Zh (E9.out.below (Below.refl _ _).drew)
  clear F9 U9 N9 E9
  refine Zt (i:=0) (v:=?v0z58) rfl (Or.inl ⟨by rfl,?hy0z58⟩) ?rest0z58
  case hy0z58=>
   intro w hSw
   dsimp only[SH]at hSw
   go_simp
   try with_reducible rfl
  simp only[Act.put,Zd,Ze,Zf,Za,Zb,Zc]
  refine Zt (i:=1) (v:=?v1z59) rfl (Or.inl ⟨by rfl,?hy1z59⟩) ?rest1z59
  case hy1z59=>
   intro w hSw
   dsimp only[SH]at hSw
   go_simp
   try with_reducible rfl
  simp only[Act.put,Zd,Ze,Zf,Za,Zb,Zc]
  refine Zt (i:=3) (v:=?v3z60) rfl (Or.inl ⟨by rfl,?hy3z60⟩) ?rest3z60
  case hy3z60=>
   intro w hSw
   dsimp only[SH]at hSw
   go_simp
   try with_reducible rfl
  simp only[Act.put,Zd,Ze,Zf,Za,Zb,Zc]
  refine Zt (i:=4) (v:=?v4z61) rfl (Or.inl ⟨by rfl,?hy4z61⟩) ?rest4z61
  case hy4z61=>
   intro w hSw
   dsimp only[SH]at hSw
   go_simp
   try with_reducible rfl
  simp only[Act.put,Zd,Ze,Zf,Za,Zb,Zc]
  refine Zt (i:=5) (v:=?v5z62) rfl (Or.inl ⟨by rfl,?hy5z62⟩) ?rest5z62
  case hy5z62=>
   intro w hSw
   dsimp only[SH]at hSw
   go_simp
   try with_reducible rfl
  simp only[Act.put,Zd,Ze,Zf,Za,Zb,Zc]
  refine Zt (i:=6) (v:=?v6z63) rfl (Or.inl ⟨by rfl,?hy6z63⟩) ?rest6z63
  case hy6z63=>
   intro w hSw
   dsimp only[SH]at hSw
   go_simp
   try with_reducible rfl
  simp only[Act.put,Zd,Ze,Zf,Za,Zb,Zc]
  refine wpAnyH_ready (rs:=[2]) (by kernel_rfl) (by simp) ?_
  refine AllReadyH.cons rfl (fun K hK=>?_) AllReadyH.nil
  go_simp
  refine (part_c nb eb na ea nk ek nc ec (z1*y2.tdiv ((Int.gcd y1 y2:Nat):Int)+z2*y1.tdiv ((Int.gcd y1 y2:Nat):Int)) ((Int.gcd (z1*y2.tdiv ((Int.gcd y1 y2:Nat):Int)+z2*y1.tdiv ((Int.gcd y1 y2:Nat):Int)) ((Int.gcd y1 y2:Nat):Int):Nat):Int) _ N1_.out E1_.out PG.out.2.1 (Nat.lt_of_lt_of_le LA.out.2.2 (bp_mono (by decide)))).mono ?_
  rintro e W3 ⟨ob,oa,ok,oc,rfl,hn,bc⟩
  try go_simp
  have T3:=Zh (T1.out.keep bc)
  have hT:=T3.out.sh
  have NU3:=Zh hn
  have U3_:=Zh (U1_.out.below bc)
  have E3_:=Zh (E1_.out.below bc)
  refine hK.out _ _ hT (fun _=>?_)
  clear hK K hS bc T1 hn U1_ N1_ E1_
  have hS:=hT
  clear hT
  try simp only[Act.put,Za,Zb,Zc]
  refine wpAnyH_ready (rs:=[7]) (by kernel_rfl) (by simp) ?_
  refine AllReadyH.cons rfl (fun K hK=>?_) AllReadyH.nil
  go_simp
  refine (part_c d2 eb e2 ea m2 ek q2 ec y2 ((Int.gcd (z1*y2.tdiv ((Int.gcd y1 y2:Nat):Int)+z2*y1.tdiv ((Int.gcd y1 y2:Nat):Int)) ((Int.gcd y1 y2:Nat):Int):Nat):Int) _ (D2.out _ T3.out.t.j) E3_.out PG.out.2.1 O24.out).mono ?_
  rintro e W4 ⟨yb,ya,yk,yc,rfl,hn,bc⟩
  try go_simp
  have T4:=Zh (T3.out.keep bc)
  have hT:=T4.out.sh
  have Y4:=Zh hn
  have NU4:=Zh (NU3.out.below bc)
  have U4_:=Zh (U3_.out.below bc)
  refine hK.out _ _ hT (fun _=>?_)
  clear hK K hS bc T3 hn NU3 U3_ E3_
  have hS:=hT
  clear hT
  try simp only[Act.put,Za,Zb,Zc]
  refine wpAnyH_ready (rs:=[8]) (by kernel_rfl) (by simp) ?_
  refine AllReadyH.cons rfl (fun K hK=>?_) AllReadyH.nil
  go_simp
  refine (Times_c ub yb ua ya uk yk uc yc (y1.tdiv ((Int.gcd y1 y2:Nat):Int)) (y2.tdiv ((Int.gcd (z1*y2.tdiv ((Int.gcd y1 y2:Nat):Int)+z2*y1.tdiv ((Int.gcd y1 y2:Nat):Int)) ((Int.gcd y1 y2:Nat):Int):Nat):Int)) _ U4_.out Y4.out (tdiv_lt O1.out) (tdiv_lt O2.out)).mono ?_
  rintro e W8 ⟨ob',oa',ok',oc',rfl,hn,bc⟩
  try go_simp
  have T8:=Zh (T4.out.keep bc)
  have hT:=T8.out.sh
  have ON:Hid (Zn W8 ob oa ok oc ((z1*y2+z2*y1).tdiv (ovG (z1*y2+z2*y1) (y1*y2)))):=by
   unfold Hid;rw[←PG.out.2.2.1];exact NU4.out.below bc
  have OD:Hid (Zn W8 ob' oa' ok' oc' ((y1*y2).tdiv (ovG (z1*y2+z2*y1) (y1*y2)))):=by
   unfold Hid;rw[←PG.out.2.2.2];exact hn
  refine hK.out _ _ hT (fun _=>?_)
  clear hK K hS bc T4 hn Y4 NU4 U4_
  have hS:=hT
  clear hT
  try simp only[Act.put,Za,Zb,Zc]
  refine Zt (i:=9) (v:=?v9z64) rfl (Or.inl ⟨by rfl,?hy9z64⟩) ?rest9z64
  case hy9z64=>
   intro w hSw
   dsimp only[SH]at hSw
   go_simp
   try with_reducible rfl
  simp only[Act.put,Zd,Ze,Zf,Za,Zb,Zc]
  refine wpAnyH_ready (rs:=[10]) (by kernel_rfl) (by simp) ?_
  refine AllReadyH.cons rfl (fun K hK=>?_) AllReadyH.nil
  have q0':=T8.out.t.j.r.c0
  have q1':=T8.out.t.j.r.c1
  have q2':=T8.out.t.j.r.c2
  have q3':=T8.out.t.j.r.c3
  have g0':=T8.out.t.j.r.fr 0
  have g1':=T8.out.t.j.r.fr 1
  have g2':=T8.out.t.j.r.fr 2
  have g3':=T8.out.t.j.r.fr 3
  go_simp
  clear q0' q1' q2' q3' g0' g1' g2' g3'
  have hT:=T8.out.done (.bool ob) (.slice oa ok oc) (.bool ob') (.slice oa' ok' oc')
  have R9:=T8.out.t.j.r.set (.bool ob) (.slice oa ok oc) (.bool ob') (.slice oa' ok' oc')
  have PP:Hid (FrPost ((z1*y2+z2*y1).tdiv (ovG (z1*y2+z2*y1) (y1*y2))) ((y1*y2).tdiv (ovG (z1*y2+z2*y1) (y1*y2))) w (.returned (.agg #[.bool ob,.slice oa ok oc,.bool ob',.slice oa' ok' oc'])) (four W8 (w.heap.size+1+1) (.bool ob) (.slice oa ok oc) (.bool ob') (.slice oa' ok' oc'))):=
   ⟨_,_,_,_,_,_,_,_,rfl,ON.out.set4 T8.out.t.j.r (NL.b _) (NL.s _ _ _) (NL.b _) (NL.s _ _ _) _ _ _ _,OD.out.set4 T8.out.t.j.r (NL.b _) (NL.s _ _ _) (NL.b _) (NL.s _ _ _) _ _ _ _,below_four T8.out.t.j.bel (by omega) _ _ _ _⟩
  unfold four at hT R9 PP
  refine hK.out _ _ hT (fun _=>?_)
  clear hK K hS
  try simp only[Act.put,Za,Zb,Zc]
  refine wpAnyH_done (by kernel_rfl) ?_ _
  refine NoPanic.normal ?_
  obtain⟨r0,r1,r2,r3,_,_⟩:=id R9
  clear hT R9
  go_wp2_with fail
  exact bodyPost_ret (v:=.agg #[.bool ob,.slice oa ok oc,.bool ob',.slice oa' ok' oc']) (by simp[results,Tryz.results117,go_sem,r0,r1,r2,r3]) rfl PP.out
def laid(W:World)(f h:Fq)(T:TypeId):World:=
 fourq (fourq ((W.alloc (.cells #[.bool false,.slice none 0 0,.bool false,.slice none 0 0] T)).alloc (.cells #[.bool false,.slice none 0 0,.bool false,.slice none 0 0] T)) W.heap.size f) (W.heap.size+1) h
theorem laid_is{W:World}(f h:Fq)(T:TypeId):Below W.heap.size W (laid W f h T)∧B4q (laid W f h T) W.heap.size f∧B4q (laid W f h T) (W.heap.size+1) h ∧
  (∀ q x y,Fi W q x y→Fi (laid W f h T) q x y):=by
 have s1:(W.alloc (.cells #[.bool false,.slice none 0 0,.bool false,.slice none 0 0] T)).heap.size=W.heap.size+1:=by simp
 have hb:Below W.heap.size W ((W.alloc (.cells #[.bool false,.slice none 0 0,.bool false,.slice none 0 0] T)).alloc (.cells #[.bool false,.slice none 0 0,.bool false,.slice none 0 0] T)):=((Below.refl _ _).alloc (Nat.le_refl _) _).alloc (by simp) _
 have d1:B4q ((W.alloc (.cells #[.bool false,.slice none 0 0,.bool false,.slice none 0 0] T)).alloc (.cells #[.bool false,.slice none 0 0,.bool false,.slice none 0 0] T)) W.heap.size Fq.z:=(B4.made W _ _ _ _ T).keep (bel_one _ _)
 have d2:B4q ((W.alloc (.cells #[.bool false,.slice none 0 0,.bool false,.slice none 0 0] T)).alloc (.cells #[.bool false,.slice none 0 0,.bool false,.slice none 0 0] T)) (W.heap.size+1) Fq.z:=by rw[←s1];exact B4.made _ _ _ _ _ T
 have d3:B4q (fourq ((W.alloc (.cells #[.bool false,.slice none 0 0,.bool false,.slice none 0 0] T)).alloc (.cells #[.bool false,.slice none 0 0,.bool false,.slice none 0 0] T)) W.heap.size f) (W.heap.size+1) Fq.z:=d2.other (by omega) _ _ _ _
 exact⟨below_four (below_four hb (Nat.le_refl _) _ _ _ _) (by omega) _ _ _ _,(d1.set _ _ _ _).other (by omega) _ _ _ _,d3.set _ _ _ _,fun q x y hq=>((hq.below hb).set d1 f).set d3 h⟩
theorem fSum_bd(x y x' y':Int)(n1:x.natAbs<bp 400)(o1:y.natAbs<bp 400)(n2:x'.natAbs<bp 400)(o2:y'.natAbs<bp 400):(fSum x y x' y').1.natAbs<bp 2000∧(fSum x y x' y').2.natAbs<bp 2000:=
 ⟨bpz_add (bpz_mul n1 o2 (show 400+400≤800 by decide)) (bpz_mul n2 o1 (show 400+400≤800 by decide)) (show 800+1≤2000 by decide),bpz_mul o1 o2 (show 400+400≤2000 by decide)⟩
theorem fMul_bd(x y x' y':Int)(n1:x.natAbs<bp 400)(o1:y.natAbs<bp 400)(n2:x'.natAbs<bp 400)(o2:y'.natAbs<bp 400):(fMul x y x' y').1.natAbs<bp 2000∧(fMul x y x' y').2.natAbs<bp 2000:=
 ⟨bpz_mul n1 n2 (show 400+400≤2000 by decide),bpz_mul o1 o2 (show 400+400≤2000 by decide)⟩
theorem la_of{x y x' y':Int} {d:Int} (n1:x.natAbs<bp 125) (o1:y.natAbs<bp 125) (n2:x'.natAbs<bp 125) (o2:y'.natAbs<bp 125) :
  (x*y'.tdiv d).natAbs<bp 2000∧(x'*y.tdiv d).natAbs<bp 2000∧(x*y'.tdiv d+x'*y.tdiv d).natAbs<bp 2000:=
 have a:=bpz_mul n1 (tdiv_lt (y:=d) o2) (show 125+125≤250 by decide)
 have b:=bpz_mul n2 (tdiv_lt (y:=d) o1) (show 125+125≤250 by decide)
 ⟨Nat.lt_of_lt_of_le a (bp_mono (by decide)),Nat.lt_of_lt_of_le b (bp_mono (by decide)),bpz_add a b (show 250+1≤2000 by decide)⟩
set_option maxHeartbeats 4000000 in
theorem Sum_c(s t s' t':ByteArray) (w:World) :
  Calls Tryz.prog 80 #[.agg #[.string s,.string t],.agg #[.string s',.string t']] w (OpPost (opS fSum s.data.toList t.data.toList s'.data.toList t'.data.toList) w):=by
 obtain⟨W0,hW0⟩:∃ W0,((w.alloc (.cells #[.string s,.string t] 32)).alloc (.cells #[.string s',.string t'] 32)).alloc (.cells #[.string ⟨#[]⟩,.string ⟨#[]⟩] 32)=W0:=⟨_,rfl⟩
 have J0:Hid (Sa w s t s' t' W0):=by rw[←hW0];exact Sa.made _ _ _ _ _ _ _ _
 have x0:=J0.out.x.c0
 have x1:=J0.out.x.c1
 have y0:=J0.out.y.c0
 have y1:=J0.out.y.c1
 have H1:=Zh (fun w=>fractionsOf_c s t s' t' w)
 go_enter Tryz.func80,Tryz.ntmps80
 go_wp2_with fail
 clear hW0 x0 x1 y0 y1
 refine (H1.out _).mono ?_
 rintro e w1 ⟨f,h,flt,rfl,b1,hpost⟩
 have P1:=Zh hpost
 have J1:=Zh (J0.out.keep b1)
 clear b1 hpost H1
 have LD:=laid_is (W:=w1) f h 109
 obtain⟨W5,hW5⟩:∃ W5,laid w1 f h 109=W5:=⟨_,rfl⟩
 rw[hW5]at LD
 have L5:=Zh LD
 clear LD
 -- the walk meets the two boxes one after the other
 obtain⟨WA,hWA⟩:∃ WA,(w1.alloc (.cells #[.bool false,.slice none 0 0,.bool false,.slice none 0 0] 109)).alloc (.cells #[.bool false,.slice none 0 0,.bool false,.slice none 0 0] 109)=WA:=⟨_,rfl⟩
 have s1:(w1.alloc (.cells #[.bool false,.slice none 0 0,.bool false,.slice none 0 0] 109)).heap.size=w1.heap.size+1:=by simp
 have D1:B4q WA w1.heap.size Fq.z:=by rw[←hWA];exact (B4.made _ _ _ _ _ _).keep (bel_one _ _)
 have D2:B4q WA (w1.heap.size+1) Fq.z:=by rw[←hWA,←s1];exact B4.made _ _ _ _ _ _
 have hW5':fourq (fourq WA w1.heap.size f) (w1.heap.size+1) h=W5:=by rw[←hW5,←hWA];rfl
 clear hW5 s1
 have a0:=D1.c0
 have a1:=D1.c1
 have a2:=D1.c2
 have a3:=D1.c3
 have af0:=D1.fr 0
 have af1:=D1.fr 1
 have af2:=D1.fr 2
 have af3:=D1.fr 3
 have b0:=D2.c0
 have b1:=D2.c1
 have b2:=D2.c2
 have b3:=D2.c3
 have bf0:=D2.fr 0
 have bf1:=D2.fr 1
 have bf2:=D2.fr 2
 have bf3:=D2.fr 3
 clear D1 D2
 simp only[Fq.z]at a0 a1 a2 a3 b0 b1 b2 b3
 unfold fourq four at hW5'
 by_cases hz:flt=0
 ·subst hz
  obtain⟨x,y,x',y',e1,e2,i1,i2⟩:=(P1.out.resolve_right (fun q=>q.1 rfl)).2
  have I1:=Zh (L5.out.2.2.2 f x y i1)
  have I2:=Zh (L5.out.2.2.2 h x' y' i2)
  have RS:Hid (opS fSum s.data.toList t.data.toList s'.data.toList t'.data.toList=raR (fSum x y x' y').1 (fSum x y x' y').2):=by unfold Hid opS;rw[e1,e2]
  have JB5:Hid (Below w.heap.size w W5):=J1.out.bel.trans (L5.out.1.mono J1.out.bel.size)
  have JR5:=Zh (J1.out.r.keep L5.out.1)
  have p0:=L5.out.2.1.c0
  have p1:=L5.out.2.1.c1
  have p2:=L5.out.2.1.c2
  have p3:=L5.out.2.1.c3
  have q0:=L5.out.2.2.1.c0
  have q1:=L5.out.2.2.1.c1
  have q2:=L5.out.2.2.1.c2
  have q3:=L5.out.2.2.1.c3
  clear e1 e2 i1 i2 P1
  have m4:bp 125≤bp 2000:=bp_mono (by decide)
  have HO:=Zh (FPlus_c f.b f.a f.k f.c f.b' f.a' f.k' f.c' h.b h.a h.k h.c h.b' h.a' h.k' h.c' x y x' y' W5 I1.out.n I1.out.d I2.out.n I2.out.d (Nat.lt_of_lt_of_le I1.out.nb m4) (Nat.lt_of_lt_of_le I1.out.db m4) (Nat.lt_of_lt_of_le I2.out.nb m4) (Nat.lt_of_lt_of_le I2.out.db m4) I1.out.pos I2.out.pos I1.out.one I2.out.one (la_of I1.out.nb I1.out.db I2.out.nb I2.out.db))
  clear m4
  go_wp2_with fail
  clear hW5' hWA a0 a1 a2 a3 af0 af1 af2 af3 b0 b1 b2 b3 bf0 bf1 bf2 bf3 p0 p1 p2 p3 q0 q1 q2 q3
  (refine HO.out.mono ?_)
  rintro e w6 ⟨ob,oa,ok,oc,ob',oa',ok',oc',rfl,hn,hd,b6⟩
  have JB6:=Zh (JB5.out.trans (b6.mono JB5.out.size))
  have JR6:=Zh (JR5.out.keep b6)
  have m5:bp 125≤bp 600:=bp_mono (by decide)
  have bnd:=fSum_bd x y x' y' (Nat.lt_of_lt_of_le I1.out.nb (bp_mono (by decide))) (Nat.lt_of_lt_of_le I1.out.db (bp_mono (by decide))) (Nat.lt_of_lt_of_le I2.out.nb (bp_mono (by decide))) (Nat.lt_of_lt_of_le I2.out.db (bp_mono (by decide)))
  have HRO:=Zh (ratioOf_c ob oa ok oc ob' oa' ok' oc' _ _ w6 hn hd (Nat.lt_of_le_of_lt (tdiv_abs_le _ _) bnd.1) (Nat.lt_of_le_of_lt (tdiv_abs_le _ _) bnd.2) (red_pos (n:=(fSum x y x' y').1) (d:=(fSum x y x' y').2) (Int.mul_ne_zero (by have:=I1.out.pos;omega) (by have:=I2.out.pos;omega))))
  clear hn hd b6 m5 bnd
  go_wp2_with fail
  (refine HRO.out.mono ?_)
  rintro e w7 ⟨rfl,b7⟩
  have JB7:=Zh (JB6.out.trans (b7.mono JB6.out.size))
  have JR7:=Zh (JR6.out.keep b7)
  obtain⟨rr,hrr⟩:∃ rr,ra ((x*y'+x'*y).tdiv (ovG (x*y'+x'*y) (y*y'))) ((y*y').tdiv (ovG (x*y'+x'*y) (y*y')))=rr:=⟨_,rfl⟩
  have RS2:Hid (opS fSum s.data.toList t.data.toList s'.data.toList t'.data.toList=rr):=by rw[←hrr];exact RS.out
  rw[hrr]
  clear b7 hrr HRO RS
  obtain⟨W9,hW9⟩:∃ W9,two w7 (w.heap.size+1+1) (.string rr.1) (.string rr.2.1)=W9:=⟨_,rfl⟩
  have R9:B2 W9 (w.heap.size+1+1) (.string rr.1) (.string rr.2.1):=by rw[←hW9];exact JR7.out.set _ _
  have PP:Hid (OpPost (opS fSum s.data.toList t.data.toList s'.data.toList t'.data.toList) w (.returned (.tuple #[.agg #[.string rr.1,.string rr.2.1],.int .i64 rr.2.2])) W9):=by
   rw[←hW9]
   exact⟨by rw[RS2.out],below_two JB7.out (by omega) _ _⟩
  have c0:=JR7.out.c0
  have c1:=JR7.out.c1
  have cf0:=JR7.out.fr 0
  have cf1:=JR7.out.fr 1
  obtain⟨r0,r1,_,_⟩:=id R9
  unfold two at hW9
  clear R9
  go_wp2_with fail
  exact bodyPost_ret (v:=.tuple #[.agg #[.string rr.1,.string rr.2.1],.int .i64 rr.2.2]) (by simp[results,Tryz.results80,go_sem,r0,r1]) rfl PP.out
 ·have hne:(flt == 0)=false:=by rw[beq_eq_false_iff_ne];exact hz
  have hne2:(flt != 0)=true:=by simp[hz]
  have RS2:Hid (opS fSum s.data.toList t.data.toList s'.data.toList t'.data.toList=(⟨#[]⟩,⟨#[]⟩,flt)):=by
   unfold Hid opS
   rcases (P1.out.resolve_left (fun q=>hz q.1)).2 with ⟨e1,e2⟩|⟨⟨p,e1⟩,e2,e3⟩
   ·rw[e1,e2]
   ·rw[e1,e2,e3]
  have JB7:Hid (Below w.heap.size w W5):=J1.out.bel.trans (L5.out.1.mono J1.out.bel.size)
  have JR7:=Zh (J1.out.r.keep L5.out.1)
  clear hz P1 L5 J1
  obtain⟨W9,hW9⟩:∃ W9,two W5 (w.heap.size+1+1) (.string ⟨#[]⟩) (.string ⟨#[]⟩)=W9:=⟨_,rfl⟩
  have R9:B2 W9 (w.heap.size+1+1) (.string ⟨#[]⟩) (.string ⟨#[]⟩):=by rw[←hW9];exact JR7.out.set _ _
  have PP:Hid (OpPost (opS fSum s.data.toList t.data.toList s'.data.toList t'.data.toList) w (.returned (.tuple #[.agg #[.string ⟨#[]⟩,.string ⟨#[]⟩],.int .i64 flt])) W9):=by
   rw[←hW9]
   exact⟨by rw[RS2.out],below_two JB7.out (by omega) _ _⟩
  have c0:=JR7.out.c0
  have c1:=JR7.out.c1
  have cf0:=JR7.out.fr 0
  have cf1:=JR7.out.fr 1
  obtain⟨r0,r1,_,_⟩:=id R9
  unfold two at hW9
  clear R9
  go_wp2_with fail
  exact bodyPost_ret (v:=.tuple #[.agg #[.string ⟨#[]⟩,.string ⟨#[]⟩],.int .i64 flt]) (by simp[results,Tryz.results80,go_sem,r0,r1]) rfl PP.out
set_option maxHeartbeats 4000000 in
theorem Product_c(s t s' t':ByteArray) (w:World) :
  Calls Tryz.prog 81 #[.agg #[.string s,.string t],.agg #[.string s',.string t']] w (OpPost (opS fMul s.data.toList t.data.toList s'.data.toList t'.data.toList) w):=by
 obtain⟨W0,hW0⟩:∃ W0,((w.alloc (.cells #[.string s,.string t] 32)).alloc (.cells #[.string s',.string t'] 32)).alloc (.cells #[.string ⟨#[]⟩,.string ⟨#[]⟩] 32)=W0:=⟨_,rfl⟩
 have J0:Hid (Sa w s t s' t' W0):=by rw[←hW0];exact Sa.made _ _ _ _ _ _ _ _
 have x0:=J0.out.x.c0
 have x1:=J0.out.x.c1
 have y0:=J0.out.y.c0
 have y1:=J0.out.y.c1
 have H1:=Zh (fun w=>fractionsOf_c s t s' t' w)
 go_enter Tryz.func81,Tryz.ntmps81
 go_wp2_with fail
 clear hW0 x0 x1 y0 y1
 refine (H1.out _).mono ?_
 rintro e w1 ⟨f,h,flt,rfl,b1,hpost⟩
 have P1:=Zh hpost
 have J1:=Zh (J0.out.keep b1)
 clear b1 hpost H1
 have LD:=laid_is (W:=w1) f h 109
 obtain⟨W5,hW5⟩:∃ W5,laid w1 f h 109=W5:=⟨_,rfl⟩
 rw[hW5]at LD
 have L5:=Zh LD
 clear LD
 -- the walk meets the two boxes one after the other
 obtain⟨WA,hWA⟩:∃ WA,(w1.alloc (.cells #[.bool false,.slice none 0 0,.bool false,.slice none 0 0] 109)).alloc (.cells #[.bool false,.slice none 0 0,.bool false,.slice none 0 0] 109)=WA:=⟨_,rfl⟩
 have s1:(w1.alloc (.cells #[.bool false,.slice none 0 0,.bool false,.slice none 0 0] 109)).heap.size=w1.heap.size+1:=by simp
 have D1:B4q WA w1.heap.size Fq.z:=by rw[←hWA];exact (B4.made _ _ _ _ _ _).keep (bel_one _ _)
 have D2:B4q WA (w1.heap.size+1) Fq.z:=by rw[←hWA,←s1];exact B4.made _ _ _ _ _ _
 have hW5':fourq (fourq WA w1.heap.size f) (w1.heap.size+1) h=W5:=by rw[←hW5,←hWA];rfl
 clear hW5 s1
 have a0:=D1.c0
 have a1:=D1.c1
 have a2:=D1.c2
 have a3:=D1.c3
 have af0:=D1.fr 0
 have af1:=D1.fr 1
 have af2:=D1.fr 2
 have af3:=D1.fr 3
 have b0:=D2.c0
 have b1:=D2.c1
 have b2:=D2.c2
 have b3:=D2.c3
 have bf0:=D2.fr 0
 have bf1:=D2.fr 1
 have bf2:=D2.fr 2
 have bf3:=D2.fr 3
 clear D1 D2
 simp only[Fq.z]at a0 a1 a2 a3 b0 b1 b2 b3
 unfold fourq four at hW5'
 by_cases hz:flt=0
 ·subst hz
  obtain⟨x,y,x',y',e1,e2,i1,i2⟩:=(P1.out.resolve_right (fun q=>q.1 rfl)).2
  have I1:=Zh (L5.out.2.2.2 f x y i1)
  have I2:=Zh (L5.out.2.2.2 h x' y' i2)
  have RS:Hid (opS fMul s.data.toList t.data.toList s'.data.toList t'.data.toList=raR (fMul x y x' y').1 (fMul x y x' y').2):=by unfold Hid opS;rw[e1,e2]
  have JB5:Hid (Below w.heap.size w W5):=J1.out.bel.trans (L5.out.1.mono J1.out.bel.size)
  have JR5:=Zh (J1.out.r.keep L5.out.1)
  have p0:=L5.out.2.1.c0
  have p1:=L5.out.2.1.c1
  have p2:=L5.out.2.1.c2
  have p3:=L5.out.2.1.c3
  have q0:=L5.out.2.2.1.c0
  have q1:=L5.out.2.2.1.c1
  have q2:=L5.out.2.2.1.c2
  have q3:=L5.out.2.2.1.c3
  clear e1 e2 i1 i2 P1
  have m4:bp 125≤bp 2000:=bp_mono (by decide)
  have HO:=Zh (FTimes_c f.b f.a f.k f.c f.b' f.a' f.k' f.c' h.b h.a h.k h.c h.b' h.a' h.k' h.c' x y x' y' W5 I1.out.n I1.out.d I2.out.n I2.out.d (Nat.lt_of_lt_of_le I1.out.nb m4) (Nat.lt_of_lt_of_le I1.out.db m4) (Nat.lt_of_lt_of_le I2.out.nb m4) (Nat.lt_of_lt_of_le I2.out.db m4) I1.out.pos I2.out.pos I1.out.one I2.out.one)
  clear m4
  go_wp2_with fail
  clear hW5' hWA a0 a1 a2 a3 af0 af1 af2 af3 b0 b1 b2 b3 bf0 bf1 bf2 bf3 p0 p1 p2 p3 q0 q1 q2 q3
  (refine HO.out.mono ?_)
  rintro e w6 ⟨ob,oa,ok,oc,ob',oa',ok',oc',rfl,hn,hd,b6⟩
  have JB6:=Zh (JB5.out.trans (b6.mono JB5.out.size))
  have JR6:=Zh (JR5.out.keep b6)
  have m5:bp 125≤bp 600:=bp_mono (by decide)
  have bnd:=fMul_bd x y x' y' (Nat.lt_of_lt_of_le I1.out.nb (bp_mono (by decide))) (Nat.lt_of_lt_of_le I1.out.db (bp_mono (by decide))) (Nat.lt_of_lt_of_le I2.out.nb (bp_mono (by decide))) (Nat.lt_of_lt_of_le I2.out.db (bp_mono (by decide)))
  have HRO:=Zh (ratioOf_c ob oa ok oc ob' oa' ok' oc' _ _ w6 hn hd (Nat.lt_of_le_of_lt (tdiv_abs_le _ _) bnd.1) (Nat.lt_of_le_of_lt (tdiv_abs_le _ _) bnd.2) (red_pos (n:=(fMul x y x' y').1) (d:=(fMul x y x' y').2) (Int.mul_ne_zero (by have:=I1.out.pos;omega) (by have:=I2.out.pos;omega))))
  clear hn hd b6 m5 bnd
  go_wp2_with fail
  (refine HRO.out.mono ?_)
  rintro e w7 ⟨rfl,b7⟩
  have JB7:=Zh (JB6.out.trans (b7.mono JB6.out.size))
  have JR7:=Zh (JR6.out.keep b7)
  obtain⟨rr,hrr⟩:∃ rr,ra ((x*x').tdiv (ovG (x*x') (y*y'))) ((y*y').tdiv (ovG (x*x') (y*y')))=rr:=⟨_,rfl⟩
  have RS2:Hid (opS fMul s.data.toList t.data.toList s'.data.toList t'.data.toList=rr):=by rw[←hrr];exact RS.out
  rw[hrr]
  clear b7 hrr HRO RS
  obtain⟨W9,hW9⟩:∃ W9,two w7 (w.heap.size+1+1) (.string rr.1) (.string rr.2.1)=W9:=⟨_,rfl⟩
  have R9:B2 W9 (w.heap.size+1+1) (.string rr.1) (.string rr.2.1):=by rw[←hW9];exact JR7.out.set _ _
  have PP:Hid (OpPost (opS fMul s.data.toList t.data.toList s'.data.toList t'.data.toList) w (.returned (.tuple #[.agg #[.string rr.1,.string rr.2.1],.int .i64 rr.2.2])) W9):=by
   rw[←hW9]
   exact⟨by rw[RS2.out],below_two JB7.out (by omega) _ _⟩
  have c0:=JR7.out.c0
  have c1:=JR7.out.c1
  have cf0:=JR7.out.fr 0
  have cf1:=JR7.out.fr 1
  obtain⟨r0,r1,_,_⟩:=id R9
  unfold two at hW9
  clear R9
  go_wp2_with fail
  exact bodyPost_ret (v:=.tuple #[.agg #[.string rr.1,.string rr.2.1],.int .i64 rr.2.2]) (by simp[results,Tryz.results81,go_sem,r0,r1]) rfl PP.out
 ·have hne:(flt == 0)=false:=by rw[beq_eq_false_iff_ne];exact hz
  have hne2:(flt != 0)=true:=by simp[hz]
  have RS2:Hid (opS fMul s.data.toList t.data.toList s'.data.toList t'.data.toList=(⟨#[]⟩,⟨#[]⟩,flt)):=by
   unfold Hid opS
   rcases (P1.out.resolve_left (fun q=>hz q.1)).2 with ⟨e1,e2⟩|⟨⟨p,e1⟩,e2,e3⟩
   ·rw[e1,e2]
   ·rw[e1,e2,e3]
  have JB7:Hid (Below w.heap.size w W5):=J1.out.bel.trans (L5.out.1.mono J1.out.bel.size)
  have JR7:=Zh (J1.out.r.keep L5.out.1)
  clear hz P1 L5 J1
  obtain⟨W9,hW9⟩:∃ W9,two W5 (w.heap.size+1+1) (.string ⟨#[]⟩) (.string ⟨#[]⟩)=W9:=⟨_,rfl⟩
  have R9:B2 W9 (w.heap.size+1+1) (.string ⟨#[]⟩) (.string ⟨#[]⟩):=by rw[←hW9];exact JR7.out.set _ _
  have PP:Hid (OpPost (opS fMul s.data.toList t.data.toList s'.data.toList t'.data.toList) w (.returned (.tuple #[.agg #[.string ⟨#[]⟩,.string ⟨#[]⟩],.int .i64 flt])) W9):=by
   rw[←hW9]
   exact⟨by rw[RS2.out],below_two JB7.out (by omega) _ _⟩
  have c0:=JR7.out.c0
  have c1:=JR7.out.c1
  have cf0:=JR7.out.fr 0
  have cf1:=JR7.out.fr 1
  obtain⟨r0,r1,_,_⟩:=id R9
  unfold two at hW9
  clear R9
  go_wp2_with fail
  exact bodyPost_ret (v:=.tuple #[.agg #[.string ⟨#[]⟩,.string ⟨#[]⟩],.int .i64 flt]) (by simp[results,Tryz.results81,go_sem,r0,r1]) rfl PP.out
set_option maxHeartbeats 4000000 in
theorem plus_a(n d x y:Int) (w:World) (hd:d≠0) (hy:y≠0) (h:(raR n d).2.2=0) (h2:(raR x y).2.2=0)
  (x0:-9223372036854775808≤x) (x1:x≤9223372036854775807) (y0:-9223372036854775808≤y) (y1:y≤9223372036854775807) :
  Calls Tryz.prog 51 #[.agg #[.string (raR n d).1,.string (raR n d).2.1],.int .i64 x,.int .i64 y] w (OpPost (raR (n*y+x*d) (d*y)) w):=by
 have SR:=sum_ra hd hy h h2
 have HK:=Zh (fun W=>RatioOf_c x y W x0 x1 y0 y1)
 have RO:roS x y=raR x y:=by unfold roS;rw[if_neg hy]
 rw[RO]at HK
 obtain⟨p,hp⟩:∃ p,raR n d=p:=⟨_,rfl⟩
 obtain⟨q,hq⟩:∃ q,raR x y=q:=⟨_,rfl⟩
 obtain⟨r,hr⟩:∃ r,raR (n*y+x*d) (d*y)=r:=⟨_,rfl⟩
 rw[hr]at SR ⊢
 rw[hp]at SR ⊢
 rw[hq]at SR HK h2
 clear hp hq hr RO h hd hy
 obtain⟨s,t,f0⟩:=p
 obtain⟨s',t',f⟩:=q
 dsimp only at SR HK h2 ⊢
 subst h2
 have HS:=Zh (fun W=>Sum_c s t s' t' W)
 rw[SR]at HS
 clear SR f0
 obtain⟨W0,hW0⟩:∃ W0,(w.alloc (.cells #[.string s,.string t] 32)).alloc (.cells #[.string ⟨#[]⟩,.string ⟨#[]⟩] 32)=W0:=⟨_,rfl⟩
 have J0:Hid (B2 W0 w.heap.size (.string s) (.string t)):=by rw[←hW0];exact (B2.made _ _ _ _).keep (bel_one _ _)
 have R0:Hid (B2 W0 (w.heap.size+1) (.string ⟨#[]⟩) (.string ⟨#[]⟩)):=by
  rw[←hW0]
  have:=B2.made (w.alloc (.cells #[.string s,.string t] 32)) (.string ⟨#[]⟩) (.string ⟨#[]⟩) 32
  rw[World.size_alloc]at this
  exact this
 have BW0:Hid (Below w.heap.size w W0):=by rw[←hW0];exact (bel_one _ _).trans ((bel_one _ _).mono (by simp))
 have HK0:=Zh (HK.out W0)
 go_enter Tryz.func51,Tryz.ntmps51
 go_wp2_with fail
 (with_reducible refine HK0.out.mono ?_)
 rintro e W1 ⟨rfl,b1⟩
 have J1:=Zh (J0.out.keep b1)
 have R1:=Zh (R0.out.keep b1)
 have BW1:=Zh (BW0.out.trans (b1.mono BW0.out.size))
 clear b1 HK HK0 J0 R0 BW0 hW0
 dsimp only
 obtain⟨W2,hW2⟩:∃ W2,W1.alloc (.cells #[.string s',.string t'] 32)=W2:=⟨_,rfl⟩
 have b2:Below W1.heap.size W1 W2:=by rw[←hW2];exact bel_one _ _
 have D2:B2 W2 W1.heap.size (.string s') (.string t'):=by rw[←hW2];exact B2.made _ _ _ _
 have J2:=J1.out.keep b2
 have R2:=Zh (R1.out.keep b2)
 have BW2:=Zh (BW1.out.trans (b2.mono BW1.out.size))
 have j0:=J2.c0
 have j1:=J2.c1
 have d0:=D2.c0
 have d1:=D2.c1
 have HS2:=Zh (HS.out W2)
 clear b2 D2 J2 J1 R1 BW1 HS
 go_wp2_with fail
 (with_reducible refine HS2.out.mono ?_)
 rintro e W5 ⟨rfl,b5⟩
 have J5:=Zh (R2.out.keep b5)
 have BW5:=Zh (BW2.out.trans (b5.mono BW2.out.size))
 clear b5 HS2 j0 j1 d0 d1 R2 BW2 hW2
 obtain⟨W9,hW9⟩:∃ W9,two W5 (w.heap.size+1) (.string r.1) (.string r.2.1)=W9:=⟨_,rfl⟩
 have R9:B2 W9 (w.heap.size+1) (.string r.1) (.string r.2.1):=by rw[←hW9];exact J5.out.set _ _
 have PP:Hid (OpPost r w (.returned (.tuple #[.agg #[.string r.1,.string r.2.1],.int .i64 r.2.2])) W9):=by
  rw[←hW9]
  exact⟨rfl,below_two BW5.out (by omega) _ _⟩
 have q0:=J5.out.c0
 have q1:=J5.out.c1
 have g0:=J5.out.fr 0
 have g1:=J5.out.fr 1
 obtain⟨r0,r1,_,_⟩:=id R9
 unfold two at hW9
 clear R9
 go_wp2_with fail
 exact bodyPost_ret (v:=.tuple #[.agg #[.string r.1,.string r.2.1],.int .i64 r.2.2]) (by simp[results,Tryz.results51,go_sem,r0,r1]) rfl PP.out
set_option maxHeartbeats 4000000 in
theorem alphaBy_c(ob all ex:Nat) (w:World) (ha:all≤20000) (hx:0<ex) (hx9:ex≤102400000000) (ho:ob≤102400000000*LM) :
  Calls Tryz.prog 52 #[.agg #[.string (raR ob LM).1,.string (raR ob LM).2.1],.int .i64 (all:Nat),.int .i64 (ex:Nat)] w (OpPost (alR all ex ob) w):=by
 have hex:(ex:Int)≠0:=by omega
 have hlm:(LM:Int)≠0:=by decide
 have big:102400000000*LM*102400000000<10 ^ 100:=by decide
 have hob:(raR ob LM).2.2=0:=raR_fits (by rw[Int.natAbs_natCast];exact Nat.lt_of_le_of_lt ho (by decide)) (by decide)
 have hfa:(raR (1-(all:Int)) ex).2.2=0:=raR_fits (Nat.lt_of_le_of_lt (show (1-(all:Int)).natAbs≤20001 by omega) (by decide)) (by rw[Int.natAbs_natCast];exact Nat.lt_of_le_of_lt hx9 (by decide))
 have hpr:(raR ((ob:Int)*(1-(all:Int))) ((LM:Int)*ex)).2.2=0:=by
  refine raR_fits ?_ ?_
  ·rw[Int.natAbs_mul,Int.natAbs_natCast]
   exact Nat.lt_of_le_of_lt (Nat.mul_le_mul ho (show (1-(all:Int)).natAbs≤20001 by omega)) (by decide)
  ·rw[Int.natAbs_mul,Int.natAbs_natCast,Int.natAbs_natCast]
   exact Nat.lt_of_le_of_lt (Nat.mul_le_mul_left _ hx9) (by decide)
 have hpd:(LM:Int)*ex≠0:=Int.mul_ne_zero hlm hex
 have AL:alR all ex ob=raR ((ob:Int)*(1-(all:Int))*1+1*((LM:Int)*ex)) ((LM:Int)*ex*1):=by
  unfold alR
  rw[if_neg (by omega)]
  have:((ex*LM:Nat):Int)=(LM:Int)*ex:=by rw[Int.natCast_mul,Int.mul_comm]
  rw[this]
  refine raR_eq hpd (by rw[Int.mul_one];exact hpd) ?_
  grind
 have HK:=Zh (fun W=>RatioOf_c (1-(all:Int)) ex W (by omega) (by omega) (by omega) (by omega))
 have RO:roS (1-(all:Int)) ex=raR (1-(all:Int)) ex:=by unfold roS;rw[if_neg hex]
 rw[RO]at HK
 have SR:=mul_ra hlm hex hob hfa
 have HP:=Zh (fun W=>plus_a ((ob:Int)*(1-(all:Int))) ((LM:Int)*ex) 1 1 W hpd (by decide) hpr (by rw[raR_one]) (by decide) (by decide) (by decide) (by decide))
 rw[←AL]at HP
 obtain⟨m,hm⟩:∃ m,raR ((ob:Int)*(1-(all:Int))) ((LM:Int)*ex)=m:=⟨_,rfl⟩
 rw[hm]at HP SR hpr
 obtain⟨p,hp⟩:∃ p,raR (ob:Int) (LM:Int)=p:=⟨_,rfl⟩
 obtain⟨q,hq⟩:∃ q,raR (1-(all:Int)) (ex:Int)=q:=⟨_,rfl⟩
 obtain⟨r,hr⟩:∃ r,alR all ex ob=r:=⟨_,rfl⟩
 rw[hr]at HP ⊢
 rw[hp]at SR ⊢
 rw[hq]at SR HK hfa
 clear hp hq hr hm RO hob hpd AL hlm hex big ho hx hx9
 obtain⟨s,t,f0⟩:=p
 obtain⟨s',t',f⟩:=q
 obtain⟨s3,t3,f3⟩:=m
 dsimp only at SR HK hfa hpr HP ⊢
 subst hfa
 subst hpr
 have HS:=Zh (fun W=>Product_c s t s' t' W)
 rw[SR]at HS
 clear SR f0
 obtain⟨W0,hW0⟩:∃ W0,(w.alloc (.cells #[.string s,.string t] 32)).alloc (.cells #[.string ⟨#[]⟩,.string ⟨#[]⟩] 32)=W0:=⟨_,rfl⟩
 have J0:Hid (B2 W0 w.heap.size (.string s) (.string t)):=by rw[←hW0];exact (B2.made _ _ _ _).keep (bel_one _ _)
 have R0:Hid (B2 W0 (w.heap.size+1) (.string ⟨#[]⟩) (.string ⟨#[]⟩)):=by
  rw[←hW0]
  have:=B2.made (w.alloc (.cells #[.string s,.string t] 32)) (.string ⟨#[]⟩) (.string ⟨#[]⟩) 32
  rw[World.size_alloc]at this
  exact this
 have BW0:Hid (Below w.heap.size w W0):=by rw[←hW0];exact (bel_one _ _).trans ((bel_one _ _).mono (by simp))
 have HK0:=Zh (HK.out W0)
 go_enter Tryz.func52,Tryz.ntmps52
 go_wp2_with fail
 (with_reducible refine HK0.out.mono ?_)
 rintro e W1 ⟨rfl,b1⟩
 have J1:=Zh (J0.out.keep b1)
 have R1:=Zh (R0.out.keep b1)
 have BW1:=Zh (BW0.out.trans (b1.mono BW0.out.size))
 clear b1 HK HK0 J0 R0 BW0 hW0
 dsimp only
 obtain⟨W2,hW2⟩:∃ W2,W1.alloc (.cells #[.string s',.string t'] 32)=W2:=⟨_,rfl⟩
 have b2:Below W1.heap.size W1 W2:=by rw[←hW2];exact bel_one _ _
 have D2:B2 W2 W1.heap.size (.string s') (.string t'):=by rw[←hW2];exact B2.made _ _ _ _
 have J2:=J1.out.keep b2
 have R2:=Zh (R1.out.keep b2)
 have BW2:=Zh (BW1.out.trans (b2.mono BW1.out.size))
 have j0:=J2.c0
 have j1:=J2.c1
 have d0:=D2.c0
 have d1:=D2.c1
 have HS2:=Zh (HS.out W2)
 clear b2 D2 J2 J1 R1 BW1 HS
 go_wp2_with fail
 (with_reducible refine HS2.out.mono ?_)
 rintro e W3 ⟨rfl,b3⟩
 have R3:=Zh (R2.out.keep b3)
 have BW3:=Zh (BW2.out.trans (b3.mono BW2.out.size))
 clear b3 HS2 j0 j1 d0 d1 R2 BW2 hW2
 dsimp only
 obtain⟨W4,hW4⟩:∃ W4,W3.alloc (.cells #[.string s3,.string t3] 32)=W4:=⟨_,rfl⟩
 have b4:Below W3.heap.size W3 W4:=by rw[←hW4];exact bel_one _ _
 have D4:B2 W4 W3.heap.size (.string s3) (.string t3):=by rw[←hW4];exact B2.made _ _ _ _
 have R4:=Zh (R3.out.keep b4)
 have BW4:=Zh (BW3.out.trans (b4.mono BW3.out.size))
 have d0:=D4.c0
 have d1:=D4.c1
 have HP4:=Zh (HP.out W4)
 clear b4 D4 R3 BW3 HP
 go_wp2_with fail
 (with_reducible refine HP4.out.mono ?_)
 rintro e W5 ⟨rfl,b5⟩
 have J5:=Zh (R4.out.keep b5)
 have BW5:=Zh (BW4.out.trans (b5.mono BW4.out.size))
 clear b5 HP4 d0 d1 R4 BW4 hW4
 obtain⟨W9,hW9⟩:∃ W9,two W5 (w.heap.size+1) (.string r.1) (.string r.2.1)=W9:=⟨_,rfl⟩
 have R9:B2 W9 (w.heap.size+1) (.string r.1) (.string r.2.1):=by rw[←hW9];exact J5.out.set _ _
 have PP:Hid (OpPost r w (.returned (.tuple #[.agg #[.string r.1,.string r.2.1],.int .i64 r.2.2])) W9):=by
  rw[←hW9]
  exact⟨rfl,below_two BW5.out (by omega) _ _⟩
 have q0:=J5.out.c0
 have q1:=J5.out.c1
 have g0:=J5.out.fr 0
 have g1:=J5.out.fr 1
 obtain⟨r0,r1,_,_⟩:=id R9
 unfold two at hW9
 clear R9
 go_wp2_with fail
 exact bodyPost_ret (v:=.tuple #[.agg #[.string r.1,.string r.2.1],.int .i64 r.2.2]) (by simp[results,Tryz.results52,go_sem,r0,r1]) rfl PP.out
open Go.WideMaps Go.Maps
set_option maxHeartbeats 4000000 in
theorem dif1_c(l:List Nd) (F:Fr l) (t:Bool) (x y fb tb a b:Nat) (w:World) (hx:Arr w x (par l)) (hy:Arr w y (lev l)) (ha:Has l a) (hb:Has l b)
  (c0:w.cell? ⟨fb,0,none⟩=some (row x)) (c1:w.cell? ⟨fb,1,none⟩=some (row y)) (ct:w.cell? ⟨tb,0,none⟩=some (.bool t)) (ht:tb<w.heap.size) :
  Calls Tryz.prog 53 #[.int .i64 (a:Nat),.int .i64 (b:Nat),.pointer (some ⟨fb,0,none⟩),.pointer (some ⟨tb,0,none⟩)] w (IntP (dlS l t a b:Nat) w):=by
 have HM:=Zh (meeting_c x y (par l) (lev l) (Has l) F.tree a b w hx hy (Or.inr ha) (Or.inr hb) (fun c h=>⟨(has_pos F.ord h).2,(F.lev h).2.2.1⟩))
 have MI:=mtS_is F ha hb
 have hz:=F.tree.meetZero (Or.inr ha) (Or.inr hb) MI
 have DL:=dlS_is F t ha hb
 have D16:=mtS_le F ha hb
 have e:mtF (par l) (lev l) (lev l a+lev l b) a b=mtS l a b:=rfl
 rw[e]at HM
 obtain⟨M,hM⟩:∃ M,mtS l a b=M:=⟨_,rfl⟩
 rw[hM]at HM MI hz DL D16
 clear hM e MI hx hy ha hb F
 obtain⟨m,d⟩:=M
 dsimp only at HM hz DL D16
 obtain⟨s,hs⟩:∃ s,d*d=s:=⟨_,rfl⟩
 have hmul:(d:Int)*(d:Int)=(s:Int):=by rw[←hs];simp
 have hs9:s≤256:=by rw[←hs];exact Nat.mul_le_mul D16 D16
 have KB:=Zh (fun W (h:Below w.heap.size w W)=>(h.cell (p:=⟨tb,0,none⟩) ht).trans ct)
 by_cases hd:d=0
 ·have hab:=hz.1 hd
  have DS:Hid (dlS l t a b=0):=by unfold Hid;rw[DL];unfold farD;rw[if_pos hab]
  obtain rfl:s=0:=by rw[←hs,hd]
  have hg:decide ((0:Int)<(d:Int))=false:=by rw[decide_eq_false_iff_not];omega
  have hd0:(d:Int)=0:=by omega
  clear hz DL hab ct hs
  subst hd
  cases t
  ·go_enter Tryz.func53,Tryz.ntmps53
   go_wp2_with fail
   (with_reducible refine HM.out.mono ?_)
   rintro e W2 ⟨rfl,b2⟩
   have k:=KB.out W2 b2
   have B:=Zh b2
   clear b2
   go_wp2_with fail
   go_ret
   exact⟨by rw[DS.out];rfl,B.out⟩
  ·go_enter Tryz.func53,Tryz.ntmps53
   go_wp2_with fail
   (with_reducible refine HM.out.mono ?_)
   rintro e W2 ⟨rfl,b2⟩
   have k:=KB.out W2 b2
   have B:=Zh b2
   clear b2
   go_wp2_with fail
   go_ret
   exact⟨by rw[DS.out];rfl,B.out⟩
 ·have hab:a≠b:=fun h=>hd (hz.2 h)
  have hg:decide ((0:Int)<(d:Int))=true:=by rw[decide_eq_true_iff];omega
  have hg2:(0:Int)<(d:Int):=by omega
  clear hz ct
  cases t
  ·have DS:Hid (dlS l false a b=1):=by unfold Hid;rw[DL];unfold farD;rw[if_neg hab];rfl
   clear DL hab hd
   go_enter Tryz.func53,Tryz.ntmps53
   go_wp2_with fail
   (with_reducible refine HM.out.mono ?_)
   rintro e W2 ⟨rfl,b2⟩
   have k:=KB.out W2 b2
   have B:=Zh b2
   clear b2
   go_wp2_with fail
   go_ret
   exact⟨by rw[DS.out];rfl,B.out⟩
  ·have DS:Hid (dlS l true a b=s):=by unfold Hid;rw[DL];unfold farD;rw[if_neg hab,if_pos rfl,hs]
   clear DL hab hd
   go_enter Tryz.func53,Tryz.ntmps53
   go_wp2_with fail
   (with_reducible refine HM.out.mono ?_)
   rintro e W2 ⟨rfl,b2⟩
   have k:=KB.out W2 b2
   have B:=Zh b2
   clear b2
   go_wp2_with fail
   go_ret
   exact⟨by rw[DS.out];rfl,B.out⟩
abbrev dfv(fb tb:Nat):Value:=.func (.func 53) #[] #[.pointer (some ⟨fb,0,none⟩),.pointer (some ⟨tb,0,none⟩)]
def DifOk(l:List Nd)(t:Bool)(fb tb:Nat)(w:World):Prop:=∀ W,Below w.heap.size w W→∀ a b:Nat,Has l a→Has l b →
 Calls Tryz.prog 53 #[.int .i64 (a:Nat),.int .i64 (b:Nat),.pointer (some ⟨fb,0,none⟩),.pointer (some ⟨tb,0,none⟩)] W (IntP (dlS l t a b:Nat) W)
theorem DifOk.below{l:List Nd}{t:Bool}{fb tb:Nat}{w w':World}(h:DifOk l t fb tb w)(hb:Below w.heap.size w w'):DifOk l t fb tb w':=
 fun W hW a b ha hbb=>h W (hb.trans (hW.mono hb.size)) a b ha hbb
theorem rw_scale(dl:Int→Int→Nat)(g:Int→Nat)(f:Nat)(a:Int):sumN (fun b=>g b*(f*dl a b)) 1000=f*rwS dl g a:=by
 unfold rwS
 rw[Nat.mul_comm,←sumN_mul]
 exact sumN_congr fun b _=>by simp only[Nat.mul_comm,Nat.mul_left_comm]
structure InDf (w wr:World) (mp n:Nat) (D:DataW Value) (g:Int→Nat) (dl:Int→Int→Nat) (left:Lit→Bool) (cnt c:Nat):Prop where
 rg:wr.ranges Tryz.prog 3 asIs mp w.heap.size n D left cnt
 bel:Below w.heap.size w wr
 lf:∀ z,left z=true→Maps.has D z=true
 sum:c=chL g (rwS dl g) left
structure InDg (w wr:World) (mp r2 n:Nat) (D:DataW Value) (g h:Int→Nat) (left1 left:Lit→Bool) (cnt1 cnt c0 c:Nat):Prop where
 rg1:wr.ranges Tryz.prog 3 asIs mp w.heap.size n D left1 cnt1
 rg:wr.ranges Tryz.prog 3 asIs mp r2 n D left cnt
 bel:Below w.heap.size w wr
 lo:w.heap.size<r2
 lf:∀ z,left z=true→Maps.has D z=true
 sum:c=c0+chL g h left
set_option maxHeartbeats 4000000 in
theorem differences_c(l:List Nd) (t:Bool) (fb tb mp n:Nat) (X:List Int) (w:World) (hm:CtIs w mp n (nC X)) (F:Ord l) (hX:InLd l X) (hn:X.length≤20000) (hdk:DifOk l t fb tb w) :
  Calls Tryz.prog 50 #[.map (some mp),dfv fb tb] w (IntP (dfS (dlS l t) (nC X):Nat) w):=by
 have HDK:=Zh hdk
 have HX:=Zh hX
 have FO:=Zh F
 have HC:=Zh (hX.codes F)
 have BD:Hid (dfS (dlS l t) (nC X)≤102400000000):=Nat.le_trans (dfS_le HC.out (dlS_le l t)) (Nat.mul_le_mul hn (Nat.mul_le_mul_right 256 hn))
 have NL:Hid (∀ s,nC X s≤20000):=fun s=>Nat.le_trans (nC_le X s) hn
 have HH:Hid (∀ s,nC X s≠0→∃ c:Nat,s=c∧c<1000∧Has l c):=fun s h=>by
  have:=List.countP_pos_iff.1 (Nat.pos_of_ne_zero h)
  obtain⟨pp,h1,h2⟩:=this
  obtain⟨c,e1,e2⟩:=HX.out pp h1
  have:=has_pos FO.out e2
  exact⟨c,by rw[beq_iff_eq]at h2;omega,by omega,e2⟩
 have ML:=Zh (MapIs.lt hm)
 obtain⟨dl,hdl⟩:∃ dl,dlS l t=dl:=⟨_,rfl⟩
 have DE:=Zh hdl
 rw[hdl]at BD ⊢
 obtain⟨gg,hgg⟩:∃ gg,nC X=gg:=⟨_,rfl⟩
 rw[hgg]at hm BD NL HH ⊢
 clear hdl hgg hX F hdk HX HC FO hn
 obtain⟨D,hown,hD⟩:=hm
 have HD:Hid (∀ s,Maps.has D (.int .i64 s)=((ctF gg s).map (Value.int .i64)).isSome∧∀ z,D.atKey (.int .i64 s) (.held z)=.held (((ctF gg s).map (Value.int .i64)).getD z)):=hD.2
 have HN:Hid (∀ s:Nat,Maps.has D (.int .i64 (s:Int))=false→gg s=0):=fun s hs=>by
  rw[(HD.out s).1]at hs
  unfold ctF at hs
  by_cases e:gg (s:Int)=0
  ·exact e
  ·rw[if_neg e]at hs;simp at hs
 have KV:Hid (∀ (s:Int) (left:Lit→Bool) (cv:Value),(∀ z,left z=true→Maps.has D z=true)→left (.int .i64 s)=true→(∀ zd,D.atKey (.int .i64 s) zd=.held cv)→cv=.int .i64 (gg s:Nat)∧∃ c:Nat,s=c∧c<1000∧Has l c):=fun s left cv h1 h2 hat=>by
  have hhas:=h1 _ h2
  rw[(HD.out s).1]at hhas
  have hf:gg s≠0:=by
   intro e
   unfold ctF at hhas
   rw[if_pos e]at hhas
   simp at hhas
  refine⟨?_,HH.out s hf⟩
  have:=hat (.held (.int .i64 0))
  rw[(HD.out s).2]at this
  unfold ctF at this
  rw[if_neg hf]at this
  simpa using this.symm
 clear hD HD HH
 go_enter Tryz.func50,Tryz.ntmps50
 go_wp2_with (first
  | (at_range;refine wpList_range_own _ rfl _ 80 rfl 3 3 lawI Tryz.underlying80 asIs mp n D rfl hown ?_;intro w0 hrg0 hg0 hs0)
  | go_in)
 go_frame
 have R0:Hid (InDf w w0 mp n D gg dl (Maps.has D) (Maps.size D) 0):=
  ⟨hrg0,(Below.refl _ _).grown hg0 (Nat.le_refl _) (fun j hj=>by cases hj),fun z h=>h,(chL_none HN.out).symm⟩
 clear hrg0 hg0 hs0 hown
 go_loopw [5] (fun cv wr=>∃ (left:Lit→Bool) (cnt c:Nat),cv=.int .i64 (c:Nat)∧Hid (InDf w wr mp n D gg dl left cnt c)) (fun _ wr=>wr.rangeLeft mp w.heap.size)
 case atStart=>exact⟨_,_,0,rfl,R0.out⟩
 case round=>
  clear R0
  obtain⟨left,cnt,c,rfl,hS⟩:=hrel
  obtain⟨wo,hwo⟩:∃ x:World,x=wr:=⟨wr,rfl⟩
  subst hwo
  have hrg:=hS.out.rg
  go_wp2_with (first
   | (at_next;refine next_nums rfl _ rfl 3 lawI Tryz.underlying3 mp w.heap.size n D left cnt rfl hrg ?_ ?_)
   | go_in)
  ·intro _ hl0
   have EC:Hid (dfS dl gg=c):=by unfold Hid;rw[hS.out.sum];exact (chL_all (fun s=>hl0 _)).symm
   have BE:=Zh hS.out.bel
   clear hS hrg hl0
   go_wp2_with fail
   go_ret
   exact⟨by rw[EC.out];rfl,BE.out⟩
  ·intro s cv w1 cnt1 hlk hat hrg1 hlt hg1 hs1 hen
   obtain⟨rfl,sn,rfl,hsn,hsh⟩:=KV.out s left cv hS.out.lf hlk hat
   have SH:=Zh hsh
   have ST:=Zh (chL_step (g1:=gg) (g2:=rwS dl gg) (left:=left) (s:=sn) hsn hlk)
   have LT:Hid (cnt1<wo.rangeLeft mp w.heap.size):=by unfold Hid;rw[hrg.left_eq];exact hlt
   obtain⟨left1,hl1⟩:∃ left1:Lit→Bool,(fun z=>left z && !z.sameKey (.int .i64 (sn:Int)))=left1:=⟨_,rfl⟩
   have LF1:Hid (∀ z,left1 z=true→Maps.has D z=true):=fun z h=>hS.out.lf z (Bool.and_eq_true_iff.1 (show (left z && !z.sameKey (.int .i64 (sn:Int)))=true from by rw[←hl1]at h;exact h)).1
   rw[hl1]at hrg1 ST
   have B1:=Zh (hS.out.bel.grown hg1 hS.out.bel.size (fun j hj=>by cases hj;exact Nat.le_refl _))
   have SUM0:=Zh hS.out.sum
   have NX1:Hid (chL gg (rwS dl gg) left1≤102400000000):=Nat.le_trans chL_le BD.out
   rw[←SUM0.out]at ST
   obtain⟨f,hf⟩:∃ f,gg (sn:Int)=f:=⟨_,rfl⟩
   have FL:Hid (f≤20000):=by unfold Hid;rw[←hf];exact NL.out _
   have RS:=Zh (rw_scale dl gg f (sn:Int))
   rw[hf]at ST hen ⊢
   have hlo:w.heap.size≤w1.heap.size:=B1.out.size
   have hown1:=hrg1.owns
   have hlo2:=hrg1.lt
   have RG1:=Zh hrg1
   clear hf hl1 hS hrg hlk hat hg1 hs1 hrg1 hlt hsh
   obtain⟨r2,hr2⟩:∃ r,w1.heap.size=r:=⟨_,rfl⟩
   go_wp2_with (first
    | (at_range;refine wpList_range_own _ rfl _ 80 rfl 3 3 lawI Tryz.underlying80 asIs mp n D rfl hown1 ?_;intro w2 hrg2 hg2 hs2)
    | go_in)
   go_frame
   have R2:Hid (InDg w w2 mp w1.heap.size n D gg (fun b=>f*dl sn b) left1 (Maps.has D) cnt1 (Maps.size D) c c):=
    ⟨RG1.out.kept hg2 (by simp) (by simp),hrg2,B1.out.grown hg2 B1.out.size (fun j hj=>by cases hj),hlo2,fun z h=>h,by rw[chL_none HN.out,Nat.add_zero]⟩
   rw[hr2]at R2
   rw[hr2]
   clear hrg2 hg2 hs2 hown1 RG1 B1 hlo hlo2 hr2 hen
   go_loopw [5] (fun cv wr=>∃ (left:Lit→Bool) (cnt cc:Nat),cv=.int .i64 (cc:Nat)∧Hid (InDg w wr mp r2 n D gg (fun b=>f*dl sn b) left1 left cnt1 cnt c cc)) (fun _ wr=>wr.rangeLeft mp r2)
   case atStart=>exact⟨_,_,c,rfl,R2.out⟩
   case round=>
    clear R2
    obtain⟨left2,cnt2,c2,rfl,hS⟩:=hrel
    have hrg:=hS.out.rg
    go_wp2_with (first
     | (at_next;refine next_nums rfl _ rfl 3 lawI Tryz.underlying3 mp r2 n D left2 cnt2 rfl hrg ?_ ?_)
     | go_in)
    ·intro _ hl0
     have NX:Hid (InDf w wr mp n D gg dl left1 cnt1 c2):=by
      refine⟨hS.out.rg1,hS.out.bel,LF1.out,?_⟩
      rw[hS.out.sum,chL_all (fun s=>hl0 _),RS.out,ST.out]
     have ME:Hid (wr.rangeLeft mp w.heap.size<wo.rangeLeft mp w.heap.size):=by
      unfold Hid;rw[hS.out.rg1.left_eq];exact LT.out
     clear hS hrg hl0
     go_wp2_with fail
     go_roundw
     case rel=>exact⟨_,_,c2,rfl,NX.out⟩
     case measure=>exact ME.out
    ·intro s cv w3 cnt3 hlk hat hrg3 hlt hg3 hs3 hen
     obtain⟨rfl,sm,rfl,hsm,hsh⟩:=KV.out s left2 cv hS.out.lf hlk hat
     have ST2:=chL_step (g1:=gg) (g2:=fun b=>f*dl sn b) (left:=left2) (s:=sm) hsm hlk
     have LT2:Hid (cnt3<wr.rangeLeft mp r2):=by unfold Hid;rw[hrg.left_eq];exact hlt
     obtain⟨left3,hl3⟩:∃ left3:Lit→Bool,(fun z=>left2 z && !z.sameKey (.int .i64 (sm:Int)))=left3:=⟨_,rfl⟩
     have LF3:∀ z,left3 z=true→Maps.has D z=true:=fun z h=>hS.out.lf z (Bool.and_eq_true_iff.1 (show (left2 z && !z.sameKey (.int .i64 (sm:Int)))=true from by rw[←hl3]at h;exact h)).1
     rw[hl3]at hrg3 ST2
     have B3:=hS.out.bel.grown hg3 hS.out.bel.size (fun j hj=>by cases hj;have:=hS.out.lo;omega)
     have HCL:=HDK.out w3 B3 sn sm SH.out hsh
     rw[DE.out]at HCL
     have NXR:Hid (InDg w w3 mp r2 n D gg (fun b=>f*dl sn b) left1 left3 cnt1 cnt3 c (c+chL gg (fun b=>f*dl sn b) left3)):=
      ⟨hS.out.rg1.kept hg3 (by intro e;injection e with e;exact hrg.ne e.symm) (by intro e;injection e with e;have:=hS.out.lo;omega),hrg3,B3,hS.out.lo,LF3,rfl⟩
     have BX:chL gg (fun b=>f*dl sn b) left3≤f*rwS dl gg sn:=by rw[←RS.out];exact chL_le
     have BY:c+f*rwS dl gg sn≤102400000000:=by have:=NX1.out;rw[ST.out]at this;exact this
     have ML2:=LT2
     obtain⟨m,hmm⟩:∃ m,gg (sm:Int)=m:=⟨_,rfl⟩
     have hml:m≤20000:=by rw[←hmm];exact NL.out _
     obtain⟨d,hd⟩:∃ d,dl (sn:Int) (sm:Int)=d:=⟨_,rfl⟩
     have hdl9:d≤256:=by rw[←hd,←DE.out];exact dlS_le l t _ _
     rw[hmm,hd]at ST2
     rw[hd]at HCL
     rw[hmm]at hen ⊢
     have hc2:=hS.out.sum
     obtain⟨c3,hc3⟩:∃ c3,c+chL gg (fun b=>f*dl sn b) left3=c3:=⟨_,rfl⟩
     rw[hc3]at NXR
     obtain⟨p1,hp1⟩:∃ p,f*m=p:=⟨_,rfl⟩
     obtain⟨p2,hp2⟩:∃ p,p1*d=p:=⟨_,rfl⟩
     have hm1:(f:Int)*(m:Int)=(p1:Int):=by rw[←hp1];simp
     have hm2:(p1:Int)*(d:Int)=(p2:Int):=by rw[←hp2];simp
     have e2:m*(f*d)=p2:=by rw[←hp2,←hp1];simp only[Nat.mul_comm,Nat.mul_left_comm]
     rw[e2]at ST2
     have l1:p1≤400000000:=by rw[←hp1];exact Nat.mul_le_mul FL.out hml
     have l2:p2≤102400000000:=by rw[←hp2];exact Nat.mul_le_mul l1 hdl9
     have hsum:(c2:Int)+(p2:Int)=(c3:Int):=by omega
     have l3:(c3:Int)≤102400000000:=by omega
     have l4:(c2:Int)≤102400000000:=by omega
     have l5:(p1:Int)≤400000000:=by omega
     have l6:(p2:Int)≤102400000000:=by omega
     have l7:(f:Int)≤20000:=by have:=FL.out;omega
     have l8:(m:Int)≤20000:=by omega
     have l9:(d:Int)≤256:=by omega
     have HCL:=Zh HCL
     clear hS hrg hlk hat hg3 hs3 hrg3 hlt hsh hmm hd hc2 hc3 hp1 hp2 e2 BX BY ST2 l1 l2 B3 LF3 hl3 hml hdl9
     go_wp2_with fail
     (with_reducible refine HCL.out.mono ?_)
     rintro e W5 ⟨rfl,b5⟩
     have NX:Hid (InDg w W5 mp r2 n D gg (fun b=>f*dl sn b) left1 left3 cnt1 cnt3 c c3):=
      ⟨NXR.out.rg1.kept (below_grow b5) (by simp) (by simp),NXR.out.rg.kept (below_grow b5) (by simp) (by simp),NXR.out.bel.trans (b5.mono NXR.out.bel.size),NXR.out.lo,NXR.out.lf,NXR.out.sum⟩
     have ME:Hid (W5.rangeLeft mp r2<wr.rangeLeft mp r2):=by unfold Hid;rw[NX.out.rg.left_eq];exact LT2.out
     clear b5 HCL NXR hen
     go_wp2_with fail
     go_roundw
     case rel=>exact⟨left3,cnt3,c3,rfl,NX.out⟩
     case measure=>exact ME.out
end Go.Proofs.YtghgbhmiliiohaaGreatDoor
