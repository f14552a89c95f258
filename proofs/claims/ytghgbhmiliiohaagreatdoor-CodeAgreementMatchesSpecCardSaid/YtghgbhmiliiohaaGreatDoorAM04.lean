/-
  Package code: frameFor, CheckFrame, CheckCodings.
-/
import Derived.Test.YtghgbhmiliiohaaGreatDoorAM03
import Derived.Test.YtghgbhmiliiohaaGreatDoorAM02
import Derived.Test.YtghgbhmiliiohaaGreatDoorAMQ
set_option maxRecDepth 100000
namespace Go.Proofs.YtghgbhmiliiohaaGreatDoor
open Go.RowKit Go.WideMaps Go.Maps
def hasS(l:List Nd)(c:Int):Bool:=hasB (lev l) c
theorem hasS_iff{l:List Nd}(h:Fr l){c:Int}:hasS l c=true↔∃ k:Nat,c=k∧Has l k:=by
 unfold hasS hasB
 rw[Bool.and_eq_true,Bool.and_eq_true,decide_eq_true_iff,decide_eq_true_iff,decide_eq_true_iff]
 constructor
 ·rintro⟨h1,h2,h3⟩
  refine⟨c.toNat,by omega,?_⟩
  by_cases hh:Has l c.toNat
  ·exact hh
  ·rw[lev_no hh]at h3;omega
 ·rintro⟨k,rfl,hk⟩
  have a:=has_pos h.ord hk
  have b:=h.lev hk
  rw[Int.toNat_natCast]
  exact⟨by omega,by omega,by omega⟩
def FwP(l:List Nd)(f:Int)(w:World)(e:Ending)(w':World):Prop:=
 (f=0∧∃ x y,e=.returned (.tuple #[fv x y,.int .i64 0])∧Arr w' x (par l)∧Arr w' y (lev l)∧Below w.heap.size w w'∧w.heap.size<x∧w.heap.size<y) ∨
 (f≠0∧e=.returned (.tuple #[.agg #[.slice none 0 0,.slice none 0 0],.int .i64 f])∧Below w.heap.size w w')
theorem frame_ok{l:List Nd}{w w':World}{e:Ending}(h:FrP l w e w')(hz:frS l=0):∃ x y,e=.returned (.tuple #[fv x y,.int .i64 0])∧Arr w' x (par l)∧Arr w' y (lev l)∧Below w.heap.size w w'∧w.heap.size<x∧w.heap.size<y:=by
 rcases h with ⟨_,h⟩|⟨h,_⟩
 ·exact h
 ·exact absurd hz h
theorem frame_no{l:List Nd}{w w':World}{e:Ending}(h:FrP l w e w')(hz:frS l≠0):e=.returned (.tuple #[.agg #[.slice none 0 0,.slice none 0 0],.int .i64 (frS l)])∧Below w.heap.size w w':=by
 rcases h with ⟨h,_⟩|⟨_,h⟩
 ·exact absurd h hz
 ·exact h
structure CqB3 (W:World) (g:Nat) (x0 x1 x2:Value):Prop where
 c0:W.cell? ⟨g,0,none⟩=some x0
 c1:W.cell? ⟨g,1,none⟩=some x1
 c2:W.cell? ⟨g,2,none⟩=some x2
 fr:∀ o,W.frozen? ⟨g,o,none⟩=false
 lt:g<W.heap.size
theorem CqB3.keep{W W':World}{g:Nat}{x0 x1 x2:Value}(h:CqB3 W g x0 x1 x2)(hb:Below W.heap.size W W'):CqB3 W' g x0 x1 x2:=
 ⟨(hb.cell (p:=⟨g,0,none⟩) h.lt).trans h.c0,(hb.cell (p:=⟨g,1,none⟩) h.lt).trans h.c1,(hb.cell (p:=⟨g,2,none⟩) h.lt).trans h.c2,fun o=>(hb.frozen (p:=⟨g,o,none⟩) h.lt).trans (h.fr o),Nat.lt_of_lt_of_le h.lt hb.size⟩
theorem CqB3.made(W:World)(x0 x1 x2:Value)(T:TypeId):CqB3 (W.alloc (.cells #[x0,x1,x2] T)) W.heap.size x0 x1 x2:=by
 refine⟨?_,?_,?_,fun o=>by simp,by simp⟩
 all_goals (rw[World.cell?_alloc_new];rfl)
def Cqthree(W:World)(g:Nat)(y0 y1 y2:Value):World:=((W.setCell ⟨g,0,none⟩ y0).setCell ⟨g,1,none⟩ y1).setCell ⟨g,2,none⟩ y2
theorem Cqthree_size(W:World)(g:Nat)(y0 y1 y2:Value):(Cqthree W g y0 y1 y2).heap.size=W.heap.size:=by unfold Cqthree;simp
theorem Cqthree_cell{W:World}{g h:Nat}(hne:h≠g)(y0 y1 y2:Value)(o:Nat):(Cqthree W h y0 y1 y2).cell? ⟨g,o,none⟩=W.cell? ⟨g,o,none⟩:=by
 unfold Cqthree
 rw[set_cell hne,set_cell hne,set_cell hne]
theorem CqB3.set{W:World}{g:Nat}{x0 x1 x2:Value}(h:CqB3 W g x0 x1 x2)(y0 y1 y2:Value):CqB3 (Cqthree W g y0 y1 y2) g y0 y1 y2:=by
 have hne:∀ {i j:Nat},i≠j→(⟨g,i,none⟩:Addr)≠⟨g,j,none⟩:=fun h e=>by injection e with _ e2;exact h e2
 unfold Cqthree
 refine⟨?_,?_,?_,fun o=>by simp only[World.frozen?_setCell];exact h.fr o,by simpa using h.lt⟩
 ·rw[World.cell?_setCell_other _ _ _ _ (hne (by decide)),World.cell?_setCell_other _ _ _ _ (hne (by decide)),World.cell?_setCell_same _ _ _ h.c0]
 ·rw[World.cell?_setCell_other _ _ _ _ (hne (by decide)),World.cell?_setCell_same _ _ _ (u:=x1) (by rw[World.cell?_setCell_other _ _ _ _ (hne (by decide))];exact h.c1)]
 ·rw[World.cell?_setCell_same _ _ _ (u:=x2) (by rw[World.cell?_setCell_other _ _ _ _ (hne (by decide)),World.cell?_setCell_other _ _ _ _ (hne (by decide))];exact h.c2)]
theorem Cqbelow_three{W0 W:World}{B g:Nat}(h:Below B W0 W)(hg:B≤g)(y0 y1 y2:Value):Below B W0 (Cqthree W g y0 y1 y2):=
 ((h.setCell (p:=⟨g,0,none⟩) hg y0).setCell (p:=⟨g,1,none⟩) hg y1).setCell (p:=⟨g,2,none⟩) hg y2
def lst(C:List Cg)(k:Nat):Cg:=if k=0 then cg0 else cg C (k-1)
def cgE(h:Int→Bool)(C:List Cg)(k:Nat):Int:=
 if (cg C k).ca<1∨(cg C k).co<1∨50<(cg C k).co then 1
 else if h (cg C k).cd=false then 5
 else if (cg C k).ca<(lst C k).ca∨((cg C k).ca=(lst C k).ca∧(cg C k).co<(lst C k).co) then 7
 else if (cg C k).ca=(lst C k).ca∧(cg C k).co=(lst C k).co then 6 else 0
def cgsS(h:Int→Bool)(C:List Cg):Int:=if 20000<C.length then 2 else fe (cgE h C) C.length
theorem isCoder_c(n:Int)(w:World):Calls Tryz.prog 33 #[.int .i64 n] w fun e w'=>e=.returned (.bool (decide (1≤n∧n≤50)))∧w'=w:=by
 by_cases h1:1≤n
 ·by_cases h2:n≤50
  ·have e:Hid (decide (1≤n∧n≤50)=true):=decide_eq_true ⟨h1,h2⟩
   go_enter Tryz.func33,Tryz.ntmps33
   go_wp2
   go_ret
   exact⟨by rw[e.out];rfl,rfl⟩
  ·have e:Hid (decide (1≤n∧n≤50)=false):=decide_eq_false (fun h=>h2 h.2)
   have h2':decide (n≤50)=false:=decide_eq_false h2
   clear h2
   go_enter Tryz.func33,Tryz.ntmps33
   go_wp2
   go_ret
   exact⟨by rw[e.out];rfl,rfl⟩
 ·have e:Hid (decide (1≤n∧n≤50)=false):=decide_eq_false (fun h=>h1 h.1)
  have h1':decide (1≤n)=false:=decide_eq_false h1
  clear h1
  go_enter Tryz.func33,Tryz.ntmps33
  go_wp2
  go_ret
  exact⟨by rw[e.out];rfl,rfl⟩
structure InC (w wr:World) (x y:Nat) (C:List Cg) (k:Nat):Prop where
 box:CqB2 wr w.heap.size (row x) (row y)
 last:CqB3 wr (w.heap.size+1) (.int .i64 (lst C k).ca) (.int .i64 (lst C k).co) (.int .i64 (lst C k).cd)
 bel:Below w.heap.size w wr
theorem InC.keep{w wr W:World}{x y:Nat}{C:List Cg}{k:Nat}(h:InC w wr x y C k)(hb:Below wr.heap.size wr W):InC w W x y C k:=
 ⟨h.box.keep hb,h.last.keep hb,h.bel.trans (hb.mono h.bel.size)⟩
theorem InC.next{w wr:World}{x y:Nat}{C:List Cg}{k:Nat}(h:InC w wr x y C k):InC w (Cqthree wr (w.heap.size+1) (.int .i64 (cg C k).ca) (.int .i64 (cg C k).co) (.int .i64 (cg C k).cd)) x y C (k+1):=by
 have hn:w.heap.size+1≠w.heap.size:=by omega
 refine⟨⟨(Cqthree_cell hn _ _ _ _).trans h.box.c0,(Cqthree_cell hn _ _ _ _).trans h.box.c1,fun o=>by unfold Cqthree;simp only[World.frozen?_setCell];exact h.box.fr o,by rw[Cqthree_size];exact h.box.lt⟩,?_,Cqbelow_three h.bel (by omega) _ _ _⟩
 have e:lst C (k+1)=cg C k:=by unfold lst;rw[if_neg (by omega)];rfl
 rw[e]
 exact h.last.set _ _ _
def CodB(wr W1:World)(u:Cg):Prop:=Below wr.heap.size wr W1∧CqB3 W1 wr.heap.size (.int .i64 u.ca) (.int .i64 u.co) (.int .i64 u.cd)
theorem cod_b(wr:World)(u:Cg):CodB wr (wr.alloc (.cells #[.int .i64 u.ca,.int .i64 u.co,.int .i64 u.cd] 69)) u:=⟨Cqbel_one _ _,CqB3.made _ _ _ _ _⟩
section
variable {h:Int→Bool} {C:List Cg} {k:Nat}
theorem cgE_1(a:(cg C k).ca<1∨(cg C k).co<1∨50<(cg C k).co):cgE h C k=1:=by unfold cgE;rw[if_pos a]
theorem cgE_5(a:¬ ((cg C k).ca<1∨(cg C k).co<1∨50<(cg C k).co))(b:h (cg C k).cd=false):cgE h C k=5:=by unfold cgE;rw[if_neg a,if_pos b]
theorem cgE_r(a:¬ ((cg C k).ca<1∨(cg C k).co<1∨50<(cg C k).co))(b:¬ h (cg C k).cd=false):cgE h C k=if (cg C k).ca<(lst C k).ca∨((cg C k).ca=(lst C k).ca∧(cg C k).co<(lst C k).co) then 7
 else if (cg C k).ca=(lst C k).ca∧(cg C k).co=(lst C k).co then 6 else 0:=by unfold cgE;rw[if_neg a,if_neg b]
end
set_option maxHeartbeats 4000000 in
theorem checkCodings_c(bp bl:Nat) (lv:Nat→Nat) (a:Option Addr) (c:Nat) (C:List Cg) (w:World) (hl:Arr w bl lv) (hC:RdC w a C) :
  Calls Tryz.prog 48 #[fv bp bl,.slice a C.length c] w (IntP (cgsS (hasB lv) C) w):=by
 have h9:=hC.1
 by_cases h2:20000<C.length
 ·have R:Hid (cgsS (hasB lv) C=2):=by unfold Hid cgsS;rw[if_pos h2]
  have h2':(20000:Int)<(C.length:Int):=by omega
  clear hl hC h2
  go_enter Tryz.func48,Tryz.ntmps48
  go_wp2
  go_ret
  exact⟨by rw[R.out];rfl,Cqbel_one _ _⟩
 have h2':¬ (20000:Int)<(C.length:Int):=by omega
 have HAT:Hid (cgsS (hasB lv) C=fe (cgE (hasB lv) C) C.length):=by unfold Hid cgsS;rw[if_neg h2]
 have HL:=Zh hl
 have HC:=Zh hC
 have S0:Hid (InC w ((w.alloc (.cells #[row bp,row bl] 57)).alloc (.cells #[.int .i64 0,.int .i64 0,.int .i64 0] 69)) bp bl C 0):=by
  refine⟨(CqB2.made _ _ _ _).keep (Cqbel_one _ _),?_,(Cqbel_one _ _).trans ((Cqbel_one _ _).mono (by simp))⟩
  have e:=CqB3.made (w.alloc (.cells #[row bp,row bl] 57)) (.int .i64 0) (.int .i64 0) (.int .i64 0) 69
  have hs:(w.alloc (.cells #[row bp,row bl] 57)).heap.size=w.heap.size+1:=by simp
  rw[hs]at e
  exact e
 clear hl hC h2
 go_enter Tryz.func48,Tryz.ntmps48
 go_wp2
 go_loopw [4,13] (fun fl i wr=>∃ k:Nat,k≤C.length∧i=.int .i64 k∧fl=.int .i64 0∧Hid (InC w wr bp bl C k∧fe (cgE (hasB lv) C) k=0)) (fun _ i _=>C.length-(intOf i).toNat)
 case atStart=>exact⟨0,Nat.zero_le _,rfl,rfl,S0.out,rfl⟩
 case round=>
  clear S0
  obtain⟨k,hk,rfl,rfl,hS⟩:=hrel
  by_cases hlt:k<C.length
  ·obtain⟨b',off,rfl,u0,u1,u2⟩:=(HC.out.below hS.out.1.bel).at_ hlt
   have hlt':(k:Int)<(C.length:Int):=by omega
   have hF:Hid (cgE (hasB lv) C k≠0→cgsS (hasB lv) C=cgE (hasB lv) C k):=fun h=>by rw[HAT.out,fe_at hlt hS.out.2 h]
   have hN:Hid (fe (cgE (hasB lv) C) (k+1)=cgE (hasB lv) C k):=fe_next hS.out.2
   obtain⟨W1,hW1⟩:∃ W1,wr.alloc (.cells #[.int .i64 (cg C k).ca,.int .i64 (cg C k).co,.int .i64 (cg C k).cd] 69)=W1:=⟨_,rfl⟩
   have N1:Hid (CodB wr W1 (cg C k)):=by unfold Hid;rw[←hW1];exact cod_b _ _
   have S1:=Zh (hS.out.1.keep N1.out.1)
   have v0:=N1.out.2.c0
   have v1:=N1.out.2.c1
   have v2:=N1.out.2.c2
   have b0:=S1.out.box.c0
   have b1:=S1.out.box.c1
   have HI:=Zh (isCoder_c (cg C k).co W1)
   have HH:=Zh (has_c bp bl lv (cg C k).cd W1 (HL.out.below S1.out.bel))
   clear hS
   by_cases g1:(cg C k).ca<1
   ·have hE:cgE (hasB lv) C k=1:=cgE_1 (Or.inl g1)
    have R:Hid (cgsS (hasB lv) C=1):=by unfold Hid;rw[hF.out (by rw[hE];decide),hE]
    clear hE hF hN HI HH
    go_wp2
    go_ret
    exact⟨by rw[R.out];rfl,S1.out.bel⟩
   have g1':decide ((cg C k).ca<1)=false:=decide_eq_false g1
   by_cases g2:1≤(cg C k).co∧(cg C k).co≤50
   rotate_left
   ·have hE:cgE (hasB lv) C k=1:=cgE_1 (Or.inr (by omega))
    have R:Hid (cgsS (hasB lv) C=1):=by unfold Hid;rw[hF.out (by rw[hE];decide),hE]
    rw[decide_eq_false g2]at HI
    clear hE hF hN HH g1 g2
    go_wp2_with fail
    (with_reducible refine HI.out.mono ?_)
    rintro e w' ⟨rfl,hw⟩
    have hw:=hw.symm
    subst hw
    go_wp2
    go_ret
    exact⟨by rw[R.out];rfl,S1.out.bel⟩
   have gr:Hid (¬ ((cg C k).ca<1∨(cg C k).co<1∨50<(cg C k).co)):=by unfold Hid;omega
   rw[decide_eq_true g2]at HI
   by_cases g3:hasB lv (cg C k).cd=false
   ·have hE:cgE (hasB lv) C k=5:=cgE_5 gr.out g3
    have R:Hid (cgsS (hasB lv) C=5):=by unfold Hid;rw[hF.out (by rw[hE];decide),hE]
    rw[g3]at HH
    go_wp2_with fail
    (with_reducible refine HI.out.mono ?_)
    rintro e w' ⟨rfl,hw⟩
    have hw:=hw.symm
    subst hw
    go_wp2_with fail
    (with_reducible refine HH.out.mono ?_)
    rintro e w4 ⟨rfl,b4⟩
    have S4:=Zh (S1.out.keep b4)
    have N4:=Zh (N1.out.2.keep b4)
    clear b4 v0 v1 v2 b0 b1 u0 u1 u2 hW1 HH HI
    clear hE hF hN g1 g2 g3
    go_wp2
    go_ret
    exact⟨by rw[R.out];rfl,S4.out.bel⟩
   have g3':hasB lv (cg C k).cd=true:=by simpa using g3
   have hR:=Zh (cgE_r (h:=hasB lv) gr.out g3)
   rw[g3']at HH
   go_wp2_with fail
   (with_reducible refine HI.out.mono ?_)
   rintro e w' ⟨rfl,hw⟩
   have hw:=hw.symm
   subst hw
   go_wp2_with fail
   (with_reducible refine HH.out.mono ?_)
   rintro e w4 ⟨rfl,b4⟩
   have S4:=Zh (S1.out.keep b4)
   have N4:=Zh (N1.out.2.keep b4)
   clear b4 v0 v1 v2 b0 b1 u0 u1 u2 hW1 HH HI
   clear g1 g2 g3 g3' g1'
   have t0:=N4.out.c0
   have t1:=N4.out.c1
   have t2:=N4.out.c2
   have s0:=S4.out.last.c0
   have s1:=S4.out.last.c1
   have s2:=S4.out.last.c2
   by_cases q1:(cg C k).ca<(lst C k).ca
   ·have hE:cgE (hasB lv) C k=7:=by rw[hR.out,if_pos (Or.inl q1)]
    have R:Hid (cgsS (hasB lv) C=7):=by unfold Hid;rw[hF.out (by rw[hE];decide),hE]
    clear hE hF hN
    go_wp2
    go_ret
    exact⟨by rw[R.out];rfl,S4.out.bel⟩
   by_cases q2:(cg C k).ca=(lst C k).ca
   rotate_left
   ·have hz:Hid (fe (cgE (hasB lv) C) (k+1)=0):=by unfold Hid;rw[hN.out,hR.out,if_neg (fun h=>h.elim q1 fun h=>q2 h.1),if_neg fun h=>q2 h.1]
    have d1:decide ((cg C k).ca<(lst C k).ca)=false:=decide_eq_false q1
    have d2:((cg C k).ca == (lst C k).ca)=false:=by rw[beq_eq_false_iff_ne];exact q2
    have f0:=S4.out.last.fr 0
    have f1:=S4.out.last.fr 1
    have f2:=S4.out.last.fr 2
    obtain⟨W9,hW9⟩:∃ W9,Cqthree w4 (w.heap.size+1) (.int .i64 (cg C k).ca) (.int .i64 (cg C k).co) (.int .i64 (cg C k).cd)=W9:=⟨_,rfl⟩
    have NX:Hid (InC w W9 bp bl C (k+1)∧fe (cgE (hasB lv) C) (k+1)=0):=by rw[←hW9];exact⟨S4.out.next,hz.out⟩
    unfold Cqthree at hW9
    clear hF hN q1 q2
    go_wp2
    go_roundw
    case rel=>exact⟨k+1,by omega,by go_num,rfl,NX.out⟩
    case measure=>simp[intOf];omega
   have d1:decide ((cg C k).ca<(lst C k).ca)=false:=decide_eq_false q1
   have d2:((cg C k).ca == (lst C k).ca)=true:=by rw[beq_iff_eq];exact q2
   by_cases q3:(cg C k).co<(lst C k).co
   ·have hE:cgE (hasB lv) C k=7:=by rw[hR.out,if_pos (Or.inr ⟨q2,q3⟩)]
    have R:Hid (cgsS (hasB lv) C=7):=by unfold Hid;rw[hF.out (by rw[hE];decide),hE]
    clear hE hF hN q1 q2
    go_wp2
    go_ret
    exact⟨by rw[R.out];rfl,S4.out.bel⟩
   have d3:decide ((cg C k).co<(lst C k).co)=false:=decide_eq_false q3
   by_cases q4:(cg C k).co=(lst C k).co
   ·have hE:cgE (hasB lv) C k=6:=by rw[hR.out,if_neg (fun h=>h.elim q1 fun h=>q3 h.2),if_pos ⟨q2,q4⟩]
    have R:Hid (cgsS (hasB lv) C=6):=by unfold Hid;rw[hF.out (by rw[hE];decide),hE]
    have d4:((cg C k).co == (lst C k).co)=true:=by rw[beq_iff_eq];exact q4
    clear hE hF hN q1 q2 q3 q4
    go_wp2
    go_ret
    exact⟨by rw[R.out];rfl,S4.out.bel⟩
   have d4:((cg C k).co == (lst C k).co)=false:=by rw[beq_eq_false_iff_ne];exact q4
   have hz:Hid (fe (cgE (hasB lv) C) (k+1)=0):=by unfold Hid;rw[hN.out,hR.out,if_neg (fun h=>h.elim q1 fun h=>q3 h.2),if_neg fun h=>q4 h.2]
   have f0:=S4.out.last.fr 0
   have f1:=S4.out.last.fr 1
   have f2:=S4.out.last.fr 2
   obtain⟨W9,hW9⟩:∃ W9,Cqthree w4 (w.heap.size+1) (.int .i64 (cg C k).ca) (.int .i64 (cg C k).co) (.int .i64 (cg C k).cd)=W9:=⟨_,rfl⟩
   have NX:Hid (InC w W9 bp bl C (k+1)∧fe (cgE (hasB lv) C) (k+1)=0):=by rw[←hW9];exact⟨S4.out.next,hz.out⟩
   unfold Cqthree at hW9
   clear hF hN q1 q2 q3 q4
   go_wp2
   go_roundw
   case rel=>exact⟨k+1,by omega,by go_num,rfl,NX.out⟩
   case measure=>simp[intOf];omega
  ·obtain rfl:k=C.length:=by omega
   have R:Hid (cgsS (hasB lv) C=0):=by unfold Hid;rw[HAT.out,hS.out.2]
   clear hlt
   go_wp2
   go_ret
   exact⟨by rw[R.out];rfl,hS.out.1.bel⟩
def forS(l:List Nd)(C:List Cg):Int:=if frS l≠0 then frS l else cgsS (hasB (lev l)) C
set_option maxHeartbeats 4000000 in
theorem frameFor_c(a:Option Addr) (c:Nat) (l:List Nd) (a2:Option Addr) (c2:Nat) (C:List Cg) (w:World) (hl:RdN w a l) (hf:Fits l) (hcs:RdC w a2 C) :
  Calls Tryz.prog 21 #[.slice a l.length c,.slice a2 C.length c2] w (FwP l (forS l C) w):=by
 have h9:=hl.1
 have h8:=hcs.1
 obtain⟨W1,hW1⟩:∃ W1,w.alloc (.cells #[.slice none 0 0,.slice none 0 0] 57)=W1:=⟨_,rfl⟩
 have B1:Hid (Below w.heap.size w W1):=by rw[←hW1];exact Cqbel_one _ _
 have R1:Hid (CqB2 W1 w.heap.size (.slice none 0 0) (.slice none 0 0)):=by rw[←hW1];exact CqB2.made _ _ _ _
 have HC:=Zh (frameOf_c a c l W1 (hl.below B1.out) hf)
 have HCS:=Zh hcs
 clear hl hf hcs
 by_cases hz:frS l≠0
 ·have HP:Hid (forS l C=frS l):=by unfold Hid forS;rw[if_pos hz]
  have HZ:=Zh hz
  obtain⟨f,hfl⟩:∃ f,frS l=f:=⟨_,rfl⟩
  have HFL:=Zh hfl
  rw[hfl]at hz
  have f1:(f == 0)=false:=by rw[beq_eq_false_iff_ne];exact hz
  have f2:(f != 0)=true:=by rw[bne,f1];rfl
  clear hfl hz
  go_enter Tryz.func21,Tryz.ntmps21
  go_wp2_with fail
  (with_reducible refine HC.out.mono ?_)
  intro e W2 he
  obtain⟨rfl,b2⟩:=frame_no he HZ.out
  rw[HFL.out]
  have R2:=R1.out.keep b2
  have BW2:=B1.out.trans (b2.mono B1.out.size)
  have b3:Below W2.heap.size W2 (W2.alloc (.cells #[.slice none 0 0,.slice none 0 0] 57)):=Cqbel_one _ _
  have R3:=R2.keep b3
  have BW3:=BW2.trans (b3.mono BW2.size)
  obtain⟨W9,hW9⟩:∃ W9,Cqtwo (W2.alloc (.cells #[.slice none 0 0,.slice none 0 0] 57)) w.heap.size (.slice none 0 0) (.slice none 0 0)=W9:=⟨_,rfl⟩
  have R9:CqB2 W9 w.heap.size (.slice none 0 0) (.slice none 0 0):=by rw[←hW9];exact R3.set _ _
  have PP:Hid (FwP l (forS l C) w (.returned (.tuple #[.agg #[.slice none 0 0,.slice none 0 0],.int .i64 f])) W9):=by
   rw[←hW9,HP.out]
   exact Or.inr ⟨HZ.out,by rw[HFL.out],Cqbelow_two BW3 (Nat.le_refl _) _ _⟩
  have q0:=R3.c0
  have q1:=R3.c1
  have g0:=R3.fr 0
  have g1:=R3.fr 1
  obtain⟨r0,r1,_,_⟩:=id R9
  unfold Cqtwo at hW9
  clear R9 R3 b3 R2 b2 BW2 BW3 hW1 R1
  go_wp2_with fail
  exact bodyPost_ret (v:=.tuple #[.agg #[.slice none 0 0,.slice none 0 0],.int .i64 f]) (by simp[results,Tryz.results21,go_sem,r0,r1]) rfl PP.out
 have hz:frS l=0:=by omega
 have HP:Hid (forS l C=cgsS (hasB (lev l)) C):=by unfold Hid forS;rw[if_neg (by simpa using hz)]
 have HZ:=Zh hz
 clear hz
 go_enter Tryz.func21,Tryz.ntmps21
 go_wp2_with fail
 (with_reducible refine HC.out.mono ?_)
 intro e W2 he
 obtain⟨x,y,rfl,hx,hy,b2,lx,ly⟩:=frame_ok he HZ.out
 have R2:=R1.out.keep b2
 have BW2:=B1.out.trans (b2.mono B1.out.size)
 obtain⟨W3,hW3⟩:∃ W3,W2.alloc (.cells #[row x,row y] 57)=W3:=⟨_,rfl⟩
 have b3:Below W2.heap.size W2 W3:=by rw[←hW3];exact Cqbel_one _ _
 have R3:=Zh (R2.keep b3)
 have BW3:=Zh (BW2.trans (b3.mono BW2.size))
 have D3:Hid (CqB2 W3 W2.heap.size (row x) (row y)):=by rw[←hW3];exact CqB2.made _ _ _ _
 have X3:=Zh (hx.below b3)
 have Y3:=Zh (hy.below b3)
 have hW3':Hid (w.heap.size<W2.heap.size):=R2.lt
 have LXY:Hid (w.heap.size<x∧w.heap.size<y):=by have:=R1.out.lt;exact⟨by omega,by omega⟩
 clear R2 b2 BW2 hx hy b3 hW1 R1 HC he lx ly
 have d0:=D3.out.c0
 have d1:=D3.out.c1
 have HK:=Zh (checkCodings_c x y (lev l) a2 c2 C W3 Y3.out (HCS.out.below BW3.out))
 obtain⟨f,hfl⟩:∃ f,cgsS (hasB (lev l)) C=f:=⟨_,rfl⟩
 rw[hfl]at HK HP
 clear hfl
 go_wp2_with fail
 clear hW3 d0 d1
 (with_reducible refine HK.out.mono ?_)
 rintro e W4 ⟨rfl,b4⟩
 have R4:=Zh (R3.out.keep b4)
 have B4:=Zh (BW3.out.trans (b4.mono BW3.out.size))
 have D4:=Zh (D3.out.keep b4)
 have X4:=Zh (X3.out.below b4)
 have Y4:=Zh (Y3.out.below b4)
 clear b4
 by_cases hz:f=0
 ·subst hz
  have d0:=D4.out.c0
  have d1:=D4.out.c1
  obtain⟨W9,hW9⟩:∃ W9,Cqtwo W4 w.heap.size (row x) (row y)=W9:=⟨_,rfl⟩
  have R9:CqB2 W9 w.heap.size (row x) (row y):=by rw[←hW9];exact R4.out.set _ _
  have PP:Hid (FwP l (forS l C) w (.returned (.tuple #[fv x y,.int .i64 0])) W9):=by
   rw[←hW9,HP.out]
   have hx:=X4.out
   have hy:=Y4.out
   have lx:=LXY.out.1
   have ly:=LXY.out.2
   refine Or.inl ⟨rfl,x,y,rfl,⟨by rw[Cqtwo_size];exact hx.1,fun j hj=>by rw[Cqtwo_cell (by omega)];exact hx.2 j hj⟩,⟨by rw[Cqtwo_size];exact hy.1,fun j hj=>by rw[Cqtwo_cell (by omega)];exact hy.2 j hj⟩,Cqbelow_two B4.out (Nat.le_refl _) _ _,lx,ly⟩
  have q0:=R4.out.c0
  have q1:=R4.out.c1
  have g0:=R4.out.fr 0
  have g1:=R4.out.fr 1
  obtain⟨r0,r1,_,_⟩:=id R9
  unfold Cqtwo at hW9
  clear R9
  go_wp2_with fail
  exact bodyPost_ret (v:=.tuple #[fv x y,.int .i64 0]) (by simp[results,Tryz.results21,go_sem,r0,r1]) rfl PP.out
 ·have f1:(f == 0)=false:=by rw[beq_eq_false_iff_ne];exact hz
  have f2:(f != 0)=true:=by rw[bne,f1];rfl
  have HZ2:=Zh hz
  clear hz
  obtain⟨W9,hW9⟩:∃ W9,Cqtwo W4 w.heap.size (.slice none 0 0) (.slice none 0 0)=W9:=⟨_,rfl⟩
  have R9:CqB2 W9 w.heap.size (.slice none 0 0) (.slice none 0 0):=by rw[←hW9];exact R4.out.set _ _
  have PP:Hid (FwP l (forS l C) w (.returned (.tuple #[.agg #[.slice none 0 0,.slice none 0 0],.int .i64 f])) W9):=by
   rw[←hW9,HP.out]
   exact Or.inr ⟨HZ2.out,rfl,Cqbelow_two B4.out (Nat.le_refl _) _ _⟩
  have q0:=R4.out.c0
  have q1:=R4.out.c1
  have g0:=R4.out.fr 0
  have g1:=R4.out.fr 1
  obtain⟨r0,r1,_,_⟩:=id R9
  unfold Cqtwo at hW9
  clear R9
  go_wp2_with fail
  exact bodyPost_ret (v:=.tuple #[.agg #[.slice none 0 0,.slice none 0 0],.int .i64 f]) (by simp[results,Tryz.results21,go_sem,r0,r1]) rfl PP.out
end Go.Proofs.YtghgbhmiliiohaaGreatDoor
