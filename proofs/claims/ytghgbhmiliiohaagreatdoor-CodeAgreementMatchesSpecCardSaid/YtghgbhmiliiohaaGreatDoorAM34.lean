/-
  The reference's exact fractions: Plus.
-/
import Derived.Test.YtghgbhmiliiohaaGreatDoorAMQ
import Derived.Test.YtghgbhmiliiohaaGreatDoorAM33
import Derived.Test.YtghgbhmiliiohaaGreatDoorAM17
set_option maxRecDepth 100000
namespace Go.Proofs.YtghgbhmiliiohaaGreatDoor
open Go.RowKit
def DvP(q r:Nat)(w:World)(e:Ending)(w':World):Prop:=∃ qa qk qc ra rk rc,e=.returned (.tuple #[.slice qa qk qc,.slice ra rk rc])∧Nt w' qa qk qc q∧Nt w' ra rk rc r∧Below w.heap.size w w'
theorem Bt.other{W W':World}{h K g:Nat}{f:Nat→Nat}(hb:Bt W h K f)(hg:W.grownBy W' (some g))(hne:h≠g):Bt W' h K f:=by
 have e:W'.heap[h]?=W.heap[h]?:=hg.block h hb.1 (by intro e;injection e with e;exact hne e)
 exact⟨Nat.lt_of_lt_of_le hb.1 hg.size,hb.2.1,fun j hj=>⟨(World.cell?_of_block (a:=⟨h,j,none⟩) e).trans (hb.2.2 j hj).1,(World.frozen?_of_block (a:=⟨h,j,none⟩) e).trans (hb.2.2 j hj).2⟩⟩
theorem Bt.belowX{W W':World}{g K:Nat}{f:Nat→Nat}(h:Bt W g K f)(hb:Below W.heap.size W W'):Bt W' g K f:=
 ⟨Nat.lt_of_lt_of_le h.1 hb.size,h.2.1,fun j hj=>⟨(hb.cell (p:=⟨g,j,none⟩) h.1).trans (h.2.2 j hj).1,(hb.frozen (p:=⟨g,j,none⟩) h.1).trans (h.2.2 j hj).2⟩⟩
theorem Dg.block{B:Nat}{w0 w:World}{f:Nat→Nat}{j:Nat}{v:Value}(h:Dg B w0 f j v w)(hl:Ld f j)(hj:0<j):∃ g cap,v=.slice (Option.some ⟨g,0,none⟩) j cap∧B≤g∧j≤cap∧cap≤9223372036854775807∧Bt w g j f:=by
 rcases h.row.2 with ⟨_,h3⟩|⟨g,cap,cur,rfl,h3,h4,h5,h6,h7,h8⟩
 ·omega
 ·refine⟨g,cap,rfl,h3,h5,by unfold maxLen at h6;omega,lt_of_block h4,hl,fun i hi=>⟨?_,World.ownsRow.frozenAt h.row i⟩⟩
  have:=World.ownsRow.cellAt h.row i (by omega)
  rw[this]
  simp[dvals,hi]
theorem grows_below{W W':World}{row:Option Nat}(h:Below W.heap.size W W'):W.grownBy W' row:=⟨h.os,h.tape,h.output,h.size,fun i hi _=>h.block i hi⟩
theorem own_keepJ{W W':World}{base:Nat}{e:TypeId}{size:Nat}{v:Value}{n:Nat}{xs:List Value}(h:W.ownsRow base e size v n xs)(hb:Below W.heap.size W W'):W'.ownsRow base e size v n xs:=by
 refine h.kept (row:=none) (grows_below hb) ?_
 cases v.ownBlock with
 | none=>exact .inl rfl
 | some _=>exact .inr (by simp)
structure Lt (w3:World) (gx go K L d A:Nat) (p:Nat) (F G:Nat→Nat) (W:World):Prop where
 rest:Bt W gx K F
 quo:Bt W go L G
 grw:w3.grownBy W (some gx)
 sum:Tn F K+d*(tp p*Tn (from_ G p) (L-p))=A
 low:Tn (from_ F p) (K-p)<d
theorem Lt.keep{w3:World}{gx go K L d A p:Nat}{F G:Nat→Nat}{W W':World}(h:Lt w3 gx go K L d A p F G W)(hb:Below W.heap.size W W'):Lt w3 gx go K L d A p F G W':=
 ⟨h.rest.belowX hb,h.quo.belowX hb,h.grw.trans (grows_below hb),h.sum,h.low⟩
theorem put_put(f:Nat→Nat)(i x y:Nat):put (put f i x) i y=put f i y:=by
 funext j;unfold put;split<;>rfl
theorem grows_set{a w:World}{row:Option Nat}{g i:Nat}{v:Value}(h:a.grownBy w row)(hg:a.heap.size≤g):a.grownBy (w.setCell ⟨g,i,none⟩ v) row:=by
 refine⟨h.os,h.tape,h.output,by have:=h.size;simpa using this,fun k hk hne=>?_⟩
 rw[Below.heap_setCell _ _ _ _ (fun e=>by subst e;omega)]
 exact h.block k hk hne
theorem tdiv_nat{a b q:Nat}(h:q=a / b):(a:Int).tdiv (b:Int)=(q:Int):=by
 rw[Int.tdiv_eq_ediv_of_nonneg (by omega),h];exact (Int.natCast_ediv a b).symm
theorem tdiv_z{z:Int}{a b q:Nat}(hz:z=(a:Int))(h:q=a / b):z.tdiv (b:Int)=(q:Int):=by
 subst hz;exact tdiv_nat h
theorem tdiv_lit{b q:Nat}(h:q=1000000000 / b):(1000000000:Int).tdiv (b:Int)=(q:Int):=tdiv_z (Int.ofNat_eq_natCast 1000000000) h
theorem factor_ok{t n2 m x:Nat}(ht:0<t)(h1:t*tp m≤n2)(h2:n2<(t+1)*tp m)(hx:x=1000000000 / (t+1))(ht9:t<1000000000):0<x∧x≤500000000∧n2*x<tp (m+1)∧tp m≤n2*x:=by
 have e1:x*(t+1)≤1000000000:=by rw[hx];exact Nat.div_mul_le_self _ _
 have e2:0<x:=by rw[hx];exact Nat.div_pos (by omega) (by omega)
 refine⟨e2,?_,?_,?_⟩
 ·have:x*2≤x*(t+1):=Nat.mul_le_mul_left _ (by omega)
  omega
 ·have h3:n2*x<(t+1)*tp m*x:=Nat.mul_lt_mul_of_pos_right h2 e2
  have h4:(t+1)*tp m*x=x*(t+1)*tp m:=by rw[Nat.mul_right_comm,Nat.mul_comm (t+1) x]
  have h5:x*(t+1)*tp m≤1000000000*tp m:=Nat.mul_le_mul_right _ e1
  rw[tp_succ]
  omega
 ·have h3:1*tp m≤t*tp m:=Nat.mul_le_mul_right _ ht
  have h4:n2*1≤n2*x:=Nat.mul_le_mul_left _ e2
  omega
set_option maxHeartbeats 4000000 in
theorem divide_small(a1 a2:Option Addr) (k1 c1 c2 n1 n2:Nat) (w:World) (h1:Nt w a1 k1 c1 n1) (h2:Nt w a2 1 c2 n2) (hle:n2≤n1) :
  Calls Tryz.prog 70 #[.slice a1 k1 c1,.slice a2 1 c2] w (DvP (n1 / n2) (n1 % n2) w):=by
 have HO:=Zh (norder_c a1 a2 k1 1 c1 c2 n1 n2 w h1 h2)
 obtain⟨f2,r2,_,_,t2,s2,_⟩:=h2
 obtain⟨b2,o2,rfl,_,g2⟩:=r2.at_ (show 0<1 by omega)
 have d2:=r2.2.1 0 (by omega)
 have e2:f2 0=n2:=by rw[←s2,Tn_one]
 rw[e2,Nat.add_zero]at g2
 rw[e2]at d2
 have hn2:0<n2:=by
  rcases t2 with e|e
  ·omega
  ·simp at e;omega
 have hsg:¬ sgn n1 n2<0:=by unfold sgn;split<;>(try split)<;>omega
 obtain⟨sv,hsv⟩:∃ sv,sgn n1 n2=sv:=⟨_,rfl⟩
 rw[hsv]at HO hsg
 have HS:=Zh (fun W (hb:Below w.heap.size w W)=>short_c a1 k1 c1 n1 n2 W (h1.below hb) hn2 d2)
 have hmod:n1 % n2<1000000000:=Nat.lt_trans (Nat.mod_lt _ hn2) d2
 have HN:=Zh (fun W=>nsmall_c (n1 % n2) W (by omega))
 clear h1 r2 t2 s2 hsv hle
 go_enter Tryz.func70,Tryz.ntmps70
 go_wp2_with fail
 refine HO.out.mono ?_
 rintro e w1 ⟨rfl,q1,rfl⟩
 have B1:Hid (Below w.heap.size w (w.drewN q1)):=bel_drewN w q1
 go_wp2_with fail
 refine (HS.out _ B1.out).mono ?_
 rintro e w2 ⟨qa,qk,qc,rfl,hQ,b2⟩
 have HQ:=Zh hQ
 have B2:=Zh (B1.out.trans (b2.mono B1.out.size))
 clear hQ b2
 go_wp2_with fail
 refine (HN.out w2).mono ?_
 rintro e w3 ⟨ra,rk,rc,rfl,hR,b3⟩
 have R:Hid (DvP (n1 / n2) (n1 % n2) w (.returned (.tuple #[.slice qa qk qc,.slice ra rk rc])) w3):=⟨_,_,_,_,_,_,rfl,HQ.out.below b3,hR,B2.out.trans (b3.mono B2.out.size)⟩
 clear hR b3
 go_wp2
 go_ret2
 exact R.out
set_option maxHeartbeats 4000000 in
theorem divide_less(a1 a2:Option Addr) (k1 k2 c1 c2 n1 n2:Nat) (w:World) (h1:Nt w a1 k1 c1 n1) (h2:Nt w a2 k2 c2 n2) (hlt:n1<n2) :
  Calls Tryz.prog 70 #[.slice a1 k1 c1,.slice a2 k2 c2] w (DvP (n1 / n2) (n1 % n2) w):=by
 have HO:=Zh (norder_c a1 a2 k1 k2 c1 c2 n1 n2 w h1 h2)
 have hsg:sgn n1 n2<0:=by unfold sgn;split<;>(try split)<;>omega
 obtain⟨sv,hsv⟩:∃ sv,sgn n1 n2=sv:=⟨_,rfl⟩
 rw[hsv]at HO hsg
 rw[Nat.div_eq_of_lt hlt,Nat.mod_eq_of_lt hlt]
 have H1:=Zh h1
 clear h1 h2 hsv hlt
 go_enter Tryz.func70,Tryz.ntmps70
 go_wp2_with fail
 refine HO.out.mono ?_
 rintro e w1 ⟨rfl,q1,rfl⟩
 have R:Hid (DvP 0 n1 w (.returned (.tuple #[.slice none 0 0,.slice a1 k1 c1])) (w.drewN q1)):=⟨_,_,_,_,_,_,rfl,Nt.zero _ _ _ (by omega) Pl.none_,H1.out.below (bel_drewN w q1),bel_drewN w q1⟩
 go_wp2
 go_ret2
 exact R.out
structure S9z (w:World) (B0:Nat) (w0:World) (ya:Option Addr) (n:Nat) (gy:Nat→Nat) (X j:Nat) (g:Nat→Nat) (v:Value) (wr:World):Prop where
 dg:Dg B0 w0 g j v wr
 ld:Ld g j
 sm:Tn g j=X
 ry:Rj wr ya n gy
 ap:∀ q,v.ownBlock=some q→Apart ya n q
 bel:Below w.heap.size w wr
theorem Rj.grownN{W W':World}{a:Option Addr}{k:Nat}{f:Nat→Nat}{row:Option Nat}(h:Rj W a k f)(hg:W.grownBy W' row)(hne:∀ q,row=some q→Apart a k q):Rj W' a k f:=by
 refine⟨h.1,h.2.1,fun h0=>?_⟩
 obtain⟨b,off,e,hl,hc⟩:=h.2.2 h0
 refine⟨b,off,e,Nat.lt_of_lt_of_le hl hg.size,fun j hj=>?_⟩
 rw[World.cell?_of_block (a:=⟨b,off+j,none⟩) (hg.block b hl (fun e2=>hne b e2.symm h0 b off e rfl))]
 exact hc j hj
theorem S9z.step{w w0 wr w':World} {B0 n X j:Nat} {ya:Option Addr} {gy g:Nat→Nat} {v v':Value} (h:S9z w B0 w0 ya n gy X j g v wr) (hB:w.heap.size≤B0) (o:Obj)
  (hown:w'.ownsRow B0 3 1 v' (j+1) (dvals g j ++ [.int .i64 ((0:Nat):Int)])) (hg:(wr.alloc o).grownBy w' v.ownBlock) (hloc:v'.ownBlock=v.ownBlock∨v'.ownBlock=some (wr.heap.size+1)) :
  S9z w B0 w0 ya n gy X (j+1) (put g j 0) v' w':=by
 have ra:=h.ry.below (bel_one wr o)
 refine⟨h.dg.more 0 hown o hg,ld_more h.ld (by decide),by rw[Tn_put,h.sm,Nat.zero_mul,Nat.add_zero],ra.grownN hg h.ap,fun q hq=>?_,?_⟩
 ·rcases hloc with e|e
  ·exact h.ap q (e.symm.trans hq)
  ·rw[e]at hq
   injection hq with hq
   intro h0 b off e2
   obtain⟨b',off',e',hl,_⟩:=h.ry.2.2 h0
   rw[e2]at e'
   injection e' with e'
   injection e' with e1 _
   omega
 ·exact (h.bel.alloc h.bel.size o).grown hg (by have:=h.bel.size;simp;omega) (fun q hq=>by have:=(h.dg.row.lt q hq).1;omega)
theorem from_zeroT(f:Nat→Nat):from_ f 0=f:=by funext j;unfold from_;rw[Nat.zero_add]
theorem top_ok{x0 x1 x2 y1 y2 P W d rw rd:Nat} (hW:W=((x0*1000000000+x1)*1000000000+x2)*P+rw) (hd:d=(y1*1000000000+y2)*P+rd) (hrd:rd<P) (hy2:y2<1000000000) (hlt:W<1000000000*d) :
  x0*1000000000+x1<(y1+1)*1000000000:=by
 obtain⟨T,hT⟩:∃ T,x0*1000000000+x1=T:=⟨_,rfl⟩
 rw[hT]at hW ⊢
 obtain⟨Y,hY⟩:∃ Y,y1*1000000000+y2=Y:=⟨_,rfl⟩
 rw[hY]at hd
 have e1:T*1000000000*P≤W:=by rw[hW,Nat.add_mul];omega
 have e2:d<(Y+1)*P:=by rw[hd,Nat.add_mul];omega
 have e3:T*1000000000*P<1000000000*((Y+1)*P):=Nat.lt_of_le_of_lt e1 (Nat.lt_trans hlt (Nat.mul_lt_mul_of_pos_left e2 (by decide)))
 have e4:T*1000000000*P=1000000000*(T*P):=by rw[Nat.mul_comm T,Nat.mul_assoc]
 rw[e4]at e3
 have e5:T*P<(Y+1)*P:=Nat.lt_of_mul_lt_mul_left e3
 have e6:T<Y+1:=Nat.lt_of_mul_lt_mul_right e5
 omega
set_option maxHeartbeats 8000000 in
theorem divide_long(a1 a2:Option Addr) (k1 m c1 c2 n1 n2:Nat) (w:World) (h1:Nt w a1 k1 c1 n1) (h2:Nt w a2 (m+2) c2 n2) (hle:n2≤n1) (hk9:k1≤90000) :
  Calls Tryz.prog 70 #[.slice a1 k1 c1,.slice a2 (m+2) c2] w (DvP (n1 / n2) (n1 % n2) w):=by
 obtain⟨i0,hi,hz0,hz1,hz2⟩:=info_int
 have HO:=Zh (norder_c a1 a2 k1 (m+2) c1 c2 n1 n2 w h1 h2)
 have hmk1:m+2≤k1:=by
  have e1:=h2.pos (show 0<m+2 by omega)
  have e2:=h1.lt
  have:=tp_lt (Nat.lt_of_le_of_lt (Nat.le_trans e1 hle) e2)
  omega
 have N1B:Hid (n1<tp k1∧tp (k1-1)≤n1):=⟨h1.lt,h1.pos (by omega)⟩
 have N2B:Hid (n2<tp (m+2)∧tp (m+1)≤n2):=⟨h2.lt,h2.pos (by omega)⟩
 have H1:=Zh h1
 have H2:=Zh h2
 obtain⟨f2,r2,_,_,t2,s2,_⟩:=h2
 obtain⟨b2,o2,rfl,_,g2⟩:=r2.at_ (show m+1<m+2 by omega)
 have d2:=r2.2.1 (m+1) (by omega)
 have htop:0<f2 (m+1):=by
  rcases t2 with e|e
  ·omega
  ·simp at e;omega
 obtain⟨fc,hfc⟩:∃ x,x=1000000000 / (f2 (m+1)+1):=⟨_,rfl⟩
 have FC:Hid (0<fc∧fc≤500000000∧n2*fc<tp (m+1+1)∧tp (m+1)≤n2*fc):=by
  have e:Tn f2 (m+1)+f2 (m+1)*tp (m+1)=n2:=by rw[←s2];exact (Tn_succ f2 (m+1)).symm
  have l:=Tn_lt (f:=f2) (k:=m+1) (fun j hj=>r2.2.1 j (by omega))
  exact factor_ok htop (by omega) (by rw[Nat.add_mul,Nat.one_mul];omega) hfc d2
 obtain⟨top,htp⟩:∃ t,f2 (m+1)=t:=⟨_,rfl⟩
 rw[htp]at g2 d2 hfc
 obtain⟨m1,hm1⟩:∃ m1,m+1=m1:=⟨_,rfl⟩
 rw[hm1]at g2
 have em1:(m:Int)+2-1=(m1:Int):=by omega
 have lm1:(m1:Int)<(m:Int)+2:=by omega
 have et:(top:Int)+1=((top+1:Nat):Int):=by omega
 obtain⟨top1,htp1⟩:∃ t,top+1=t:=⟨_,rfl⟩
 rw[htp1]at et hfc
 have e1:(1000000000:Int).tdiv (top1:Int)=(fc:Int):=tdiv_lit hfc
 have ht1:(top1:Int)≠0:=by omega
 have ht19:top1≤1000000000:=by omega
 have hsg:¬ sgn n1 n2<0:=by unfold sgn;split<;>(try split)<;>omega
 obtain⟨sv,hsv⟩:∃ sv,sgn n1 n2=sv:=⟨_,rfl⟩
 rw[hsv]at HO hsg
 have hfc9:fc≤1000000000:=by have:=FC.out.2.1;omega
 have HX:=Zh (fun W (hb:Below w.heap.size w W)=>scaled_c a1 k1 c1 n1 fc W (H1.out.below hb) hfc9 (by omega))
 have HY:=Zh (fun W (hb:Below w.heap.size w W)=>scaled_c (some ⟨b2,o2,none⟩) (m+2) c2 n2 fc W (H2.out.below hb) hfc9 (by omega))
 have hk1:((m:Int)+2 == 1)=false:=by rw[beq_eq_false_iff_ne];omega
 have hfw:=(wrap_lo (Nat.le_trans hfc9 (by decide))).1
 have hfw2:=(wrap_lo (Nat.le_trans hfc9 (by decide))).2
 clear h1 r2 t2 s2 hsv htop hfc htp htp1 hm1 H1 H2
 go_enter Tryz.func70,Tryz.ntmps70
 go_wp2_with fail
 refine HO.out.mono ?_
 rintro e w1 ⟨rfl,q1,rfl⟩
 have B1:Hid (Below w.heap.size w (w.drewN q1)):=bel_drewN w q1
 go_wp2_with fail
 refine (HX.out _ B1.out).mono ?_
 rintro e w2 ⟨xa,xk,xc,gx,rfl,dx,lx,tx,sx,hxk⟩
 have b2':=dx.bel
 have DX:=Zh dx
 have LX:=Zh lx
 have SX:=Zh sx
 have TX:=Zh tx
 have B2:=Zh (B1.out.trans (b2'.mono B1.out.size))
 clear dx lx sx tx b2' HX
 go_wp2_with fail
 refine (HY.out _ B2.out).mono ?_
 rintro e w3 ⟨ya,yk,yc,gy,rfl,dy,ly,ty,sy,hyk⟩
 obtain⟨ya',yc',e,hry,_,_,_⟩:=dy.reads (by omega) ly
 injection e with e9 _ e10
 subst e9 e10
 have hymk:yk=m+2:=by
  have h1:=tod_len (K:=m+1+1) ty (by rw[sy];exact FC.out.2.2.1)
  have h2:=tp_lt (Nat.lt_of_le_of_lt FC.out.2.2.2 (by rw[←sy];exact Tn_lt ly))
  omega
 subst hymk
 have b3':=dy.bel
 have YF:=Zh dy.fresh
 have RY:=Zh hry
 have LY:=Zh ly
 have SY:=Zh sy
 have TY:Hid (0<gy (m+1)):=by
  rcases ty with e|e
  ·omega
  ·simp at e;unfold Hid;omega
 have B3:=Zh (B2.out.trans (b3'.mono B2.out.size))
 have B3S:=Zh b3'.size
 have DX2:=Zh DX.out
 have DX3:Hid (Dg (w.drewN q1).heap.size (w.drewN q1) gx xk (.slice xa xk xc) w3):=⟨own_keepJ DX.out.row b3',DX.out.bel.trans (b3'.mono DX.out.size),Nat.le_trans DX.out.size b3'.size⟩
 clear dy hry ly sy ty b3' DX HY
 have XK:Hid (k1≤xk∧xk≤k1+1):=by
  have e1:n1*fc<tp (k1+1):=by
   rw[tp_succ]
   exact Nat.lt_of_lt_of_le (Nat.mul_lt_mul_of_pos_right N1B.out.1 FC.out.1) (Nat.mul_le_mul_left _ hfc9)
  have e2:tp (k1-1)≤n1*fc:=Nat.le_trans N1B.out.2 (Nat.le_mul_of_pos_right _ FC.out.1)
  have h1:=tod_len (K:=k1+1) TX.out (by rw[SX.out];exact e1)
  have h2:=tp_lt (Nat.lt_of_le_of_lt e2 (by rw[←SX.out];exact Tn_lt LX.out))
  constructor<;>omega
 obtain⟨D,hD⟩:∃ D,n2*fc=D:=⟨_,rfl⟩
 obtain⟨X,hX⟩:∃ X,n1*fc=X:=⟨_,rfl⟩
 have HD:=Zh hD
 have HX:=Zh hX
 have FC9:Hid (fc≤500000000):=FC.out.2.1
 have DB:Hid (D<tp (m+2)∧tp (m+1)≤D∧Tn gy (m+2)=D∧X<D*tp (k1-(m+1))∧0<fc):=by
  have h:=FC.out
  rw[hD]at h
  refine⟨h.2.2.1,h.2.2.2,by rw[←hD];exact SY.out,?_,h.1⟩
  rw[←hD,←hX]
  have e1:tp k1=tp (m+1)*tp (k1-(m+1)):=by rw[←tp_add];congr 1;omega
  have e2:n1<n2*tp (k1-(m+1)):=by
   have h1:=N1B.out.1
   rw[e1]at h1
   exact Nat.lt_of_lt_of_le h1 (Nat.mul_le_mul_right _ N2B.out.2)
  rw[Nat.mul_right_comm]
  exact Nat.mul_lt_mul_of_pos_right e2 h.1
 have YB:Hid (Rj w3 ya (m+2) gy∧w2.heap.size≤w3.heap.size):=⟨RY.out,B3S.out⟩
 have Z0:Hid (S9z w (w.drewN q1).heap.size (w.drewN q1) ya (m+2) gy X xk gx (.slice xa xk xc) w3):=by
  refine⟨DX3.out,LX.out,by rw[←hX];exact SX.out,RY.out,fun q hq h0 b off e=>?_,B3.out⟩
  have h1:=(DX2.out.row.lt q hq).2
  have h2:=YF.out b off e
  omega
 have XK':=XK.out
 have hwB:w.heap.size≤(w.drewN q1).heap.size:=B1.out.size
 generalize (w.drewN q1).heap.size=B0 at Z0 hwB
 generalize w.drewN q1=w00 at Z0
 clear DX3 DX2 LX SX SY TX FC XK hD hX hfc9 e1 ht1 ht19 hfw hfw2 hsg hk1 HO et lm1 em1 g2 YB YF RY B3S B3 B2 B1
 go_wp2_with fail
 go_loopw [9] (fun v wr=>∃ (j:Nat) (g:Nat→Nat),k1≤j∧j≤k1+1∧Hid (S9z w B0 w00 ya (m+2) gy X j g v wr)) (fun v _=>k1+1-(match v with | .slice _ n _=>n | _=>0))
 case atStart=>exact⟨xk,gx,XK'.1,XK'.2,Z0.out⟩
 case round=>
  clear Z0 XK'
  obtain⟨j,g,hj1,hj2,hR⟩:=hrel
  obtain⟨va,vc,hv,hrj,_,_,_⟩:=hR.out.dg.reads (by omega) hR.out.ld
  subst hv
  by_cases hlt:j≤k1
  ·obtain rfl:j=k1:=by omega
   clear hrj
   go_wp2_with (at_builtin;refine wpList_append_own_at _ rfl _ _ 49 rfl B0 3 i0 (.int .i64 0) 1 8 Tryz.underlying49 hi hz0 hz1 hz2 rfl (by decide) _ _ _ rfl (hR.out.dg.row.alloc _) ⟨wr.heap.size,0,none⟩ 1 1 [.int .i64 0] rfl rfl ?c1A ?c2A ?c3A ?c4A ?c5A ?_)
   try
    case c1A=>
     intro i u hu
     match i,hu with
     | 0,hu=>simp at hu;subst hu;simp[Addr.add]
   try (case c2A=>first | (intro u hu;simp at hu;subst hu;rfl) | rfl)
   try (case c3A=>unfold maxLen;omega)
   try (case c4A=>omega)
   try (case c5A=>have:=hR.out.dg.size;simp;omega)
   intro v' w1 hown' hgrow _ hloc
   have NX:Hid (S9z w B0 w00 ya (m+2) gy X (j+1) (put g j 0) v' w1):=hR.out.step hwB _ hown' hgrow (by simpa using hloc)
   obtain⟨va',vc',hv',_⟩:=NX.out.dg.reads (by omega) NX.out.ld
   subst hv'
   clear hown' hgrow hloc hR
   go_wp2
   go_roundw
   case rel=>exact⟨j+1,put g j 0,by omega,by omega,NX.out⟩
   case measure=>first | (simp;done) | (simp;omega)
  ·obtain rfl:j=k1+1:=by omega
   have hlt':¬ ((k1:Int)+1)≤(k1:Int):=by omega
   obtain⟨gx,cap,hv,hgB,hcap,hcap9,hBt⟩:=hR.out.dg.block hR.out.ld (by omega)
   injection hv with hv1 _ hv2
   subst hv1 hv2
   have AP:Hid (Apart ya (m+2) gx):=hR.out.ap gx rfl
   obtain⟨L,hL⟩:∃ L,k1-(m+1)=L:=⟨_,rfl⟩
   have hLk:L+(m+1)=k1:=by omega
   have eL:(k1:Int)+1-((m:Int)+2)=(L:Int):=by omega
   have hL9:L≤100000:=by omega
   have hLp:0<L:=by omega
   have hmk:=fun w=>mk_digits L hL9 w
   have BTX:=Zh hBt
   have RYR:=Zh hR.out.ry
   have BLR:=Zh hR.out.bel
   have SMX:=Zh hR.out.sm
   have GXB:Hid (w.heap.size≤gx∧gx<wr.heap.size):=⟨by omega,hBt.1⟩
   rw[hL]at DB
   have hdb:=DB.out.2.2.1
   clear hBt hrj hR hlt
   go_wp2_with fail
   obtain⟨wB,hwB'⟩:∃ x:World,x=wr:=⟨_,rfl⟩
   subst hwB'
   have B4:Hid (Below wB.heap.size wB (wB.alloc (.cells (madeCells #[.int .i64 0] L) 3))):=bel_one _ _
   have BM:=Zh (Bt.made wB L 3)
   have BX4:=Zh (BTX.out.belowX B4.out)
   obtain⟨go,hgo⟩:∃ go,wB.heap.size=go:=⟨_,rfl⟩
   have GO:Hid (wB.heap.size≤go∧gx≠go):=by have:=GXB.out.2;unfold Hid;omega
   rw[hgo]at BM
   generalize hW4:wB.alloc (.cells (madeCells #[.int .i64 0] L) 3)=w4 at *
   rw[hgo]
   have HA:Hid (Lt wB gx go (k1+1) L D X L g (fun _=>0) w4):=by
    refine⟨BX4.out,BM.out,grows_below B4.out,?_,?_⟩
    ·rw[Nat.sub_self,Tn_zero,Nat.mul_zero,Nat.mul_zero,Nat.add_zero];exact SMX.out
    ·have h:=Tn_at g L (k1+1-L)
     rw[show L+(k1+1-L)=k1+1 by omega,SMX.out]at h
     have h2:=DB.out.2.2.2.1
     have h3:tp L*Tn (from_ g L) (k1+1-L)<tp L*D:=by rw[Nat.mul_comm (tp L) D];omega
     exact Nat.lt_of_mul_lt_mul_left h3
   clear hW4 hmk B4 BM BX4 hgo BTX
   have TY':=TY.out
   go_loopw [13] (fun i wx=>∃ (j:Nat) (F G:Nat→Nat),j≤L∧i=.int .i64 ((j:Int)-1)∧Hid (Lt wB gx go (k1+1) L D X j F G wx)) (fun i _=>(intOf i+1).toNat)
   case atStart=>exact⟨L,g,fun _=>0,Nat.le_refl _,rfl,HA.out⟩
   case round=>
    clear HA
    obtain⟨j,F,G,hj,rfl,hR⟩:=hrel
    rcases Nat.eq_zero_or_pos j with e|e
    ·subst e
     have E:Hid (Tn G L=n1 / n2∧Tn F (k1+1) / fc=n1 % n2):=by
      have hs1:=hR.out.sum
      have hs2:=hR.out.low
      rw[from_zeroT,Nat.sub_zero,tp_zero,Nat.one_mul]at hs1
      rw[from_zeroT,Nat.sub_zero]at hs2
      refine unscale DB.out.2.2.2.2 ?_ (by rw[HD.out];exact hs2)
      rw[HD.out,HX.out]
      exact hs1
     have RR:=Zh hR.out
     clear hR
     have BW:Hid (Below w.heap.size w wr):=BLR.out.grown RR.out.grw BLR.out.size (fun q hq=>by cases hq;exact GXB.out.1)
     have HT:=Zh (ntrim_c (some ⟨gx,0,none⟩) (k1+1) vc F wr (RR.out.rest.rj (by omega)) hcap (by omega) (Pl.some_ _ _))
     go_wp2_with fail
     refine HT.out.mono ?_
     rintro e w5 ⟨mr,rfl,hN,rfl⟩
     have HSH:=Zh (short_c (some ⟨gx,0,none⟩) mr vc (Tn F (k1+1)) fc wr hN DB.out.2.2.2.2 (by have:=FC9.out;omega))
     clear hN HT
     go_wp2_with fail
     refine HSH.out.mono ?_
     rintro e w6 ⟨ra,rk,rc,rfl,hN,b6⟩
     rw[E.out.2]at hN
     have RN:=Zh hN
     have B6:=Zh b6
     have HQ:=Zh (ntrim_c (some ⟨go,0,none⟩) L L G w6 ((RR.out.quo.belowX b6).rj hL9) (Nat.le_refl _) (by omega) (Pl.some_ _ _))
     clear hN b6 HSH
     go_wp2_with fail
     refine HQ.out.mono ?_
     rintro e w7 ⟨mq,rfl,hN,rfl⟩
     rw[E.out.1]at hN
     have R:Hid (DvP (n1 / n2) (n1 % n2) w (.returned (.tuple #[.slice (some ⟨go,0,none⟩) mq L,.slice ra rk rc])) w6):=⟨_,_,_,_,_,_,rfl,hN,RN.out,BW.out.trans (B6.out.mono BW.out.size)⟩
     clear hN HQ
     go_wp2
     go_ret2
     exact R.out
    ·obtain⟨p,rfl⟩:∃ p,j=p+1:=⟨j-1,by omega⟩
     have ei:((p+1:Nat):Int)-1=(p:Int):=by omega
     rw[ei]
     have hpL:p<L:=by omega
     have hpL':(p:Int)<(L:Int):=by omega
     have RYP:=Zh (RYR.out.grown hR.out.grw AP.out)
     have hpK:p+(m+2+1)≤k1+1:=by omega
     have hFp:=hR.out.rest.2.1 p (by omega)
     have WIN:Hid (Tn (from_ F p) (m+2+1)<1000000000*D):=tlong_win hpK DB.out.1 hFp hR.out.low
     obtain⟨rw0,hrw,hW3⟩:=top3 (f:=F) (p:=p) (m:=m) (fun i hi=>hR.out.rest.2.1 _ (by omega))
     obtain⟨rd0,hrd,hD3⟩:=top2 (f:=gy) (m:=m) (fun i hi=>LY.out i (by omega))
     rw[hdb]at hD3
     have hyd:=LY.out m (by omega)
     have GS:=Zh (guess_c (k1+1) vc p m yc (some ⟨gx,0,none⟩) ya F gy wr (hR.out.rest.rj (by omega)) RYP.out (by omega) TY' (top_ok hW3 hD3 hrd hyd WIN.out))
     have GD:Hid (∀ q,Gu (F (p+m+2)*1000000000+F (p+m+1)) (F (p+m)) (gy (m+1)) (gy m) q→q<1000000000∧q*D<Tn (from_ F p) (m+2+1)+D∧Tn (from_ F p) (m+2+1)<(q+1)*D):=fun q hg=>⟨hg.lt,gu_digit hg (tp_pos m) hW3 hrw hD3 hrd TY' WIN.out⟩
     clear hFp hrw hW3 hrd hD3 hyd
     go_wp2_with fail
     refine GS.out.mono ?_
     rintro e w1 ⟨q0,rfl,hgu,nk,rfl⟩
     have GQ:=Zh (GD.out q0 hgu)
     have hq0:=GQ.out.1
     have LW:=Zh (hR.out.keep (bel_drewN wr nk))
     clear hgu GS GD hR RYP WIN
     generalize wr.drewN nk=W1 at *
     have hBj:=LW.out.quo.2.2 p hpL
     have c1:=hBj.1
     have f1:=hBj.2
     obtain⟨W2,hW2⟩:∃ W2,W1.setCell ⟨go,p,none⟩ (.int .i64 (q0:Int))=W2:=⟨_,rfl⟩
     have gr2:wB.grownBy W2 (some gx):=by rw[←hW2];exact grows_set LW.out.grw GO.out.1
     have rest2:Bt W2 gx (k1+1) F:=by rw[←hW2];exact LW.out.rest.other (grown_put (World.grownBy.refl W1 (some go))) GO.out.2
     have quo2:Bt W2 go L (put G p q0):=by rw[←hW2];exact LW.out.quo.put hpL hq0
     have c2:W2.cell? ⟨go,p,none⟩=some (.int .i64 (q0:Int)):=by have:=(quo2.2.2 p hpL).1;rw[put_same]at this;exact this
     have TK:=Zh (take_c gx (k1+1) vc p (m+2) yc q0 ya F gy W2 rest2 (RYR.out.grown gr2 AP.out) AP.out hpK (by omega) hq0)
     have GR2:=Zh gr2
     have QU2:=Zh quo2
     clear hBj gr2 rest2 quo2
     go_wp2_with fail
     clear hW2 c1 f1 c2
     refine TK.out.mono ?_
     rintro e W3 ⟨F1,b,rfl,hWt,hs1⟩
     rw[hdb]at hs1
     have WT:=Zh hWt
     have HS1:=Zh hs1
     have GR3:=Zh (GR2.out.trans hWt.grw)
     have QU3:=Zh (QU2.out.other hWt.grw (fun e=>GO.out.2 e.symm))
     have LT1:Hid (Tn (from_ F1 p) (m+2+1)<tp (m+2+1)):=Tn_lt fun i hi=>hWt.bf.2.1 _ (by omega)
     have DLT:Hid (D<tp (m+2+1)):=Nat.lt_of_lt_of_le DB.out.1 (tp_mono (Nat.le_succ _))
     have hq3:=(QU3.out.2.2 p hpL)
     rw[put_same]at hq3
     have c3:=hq3.1
     have f3:=hq3.2
     clear hWt hs1 TK GR2 QU2 hq3
     by_cases hb:0<b
     ·obtain⟨q',rfl⟩:∃ q',q0=q'+1:=⟨q0-1,by
       rcases Nat.eq_zero_or_pos q0 with e|e
       ·subst e
        have h1:=HS1.out
        have h2:=LT1.out
        have h3:=Nat.mul_le_mul_right (tp (m+2+1)) (show 1≤b from hb)
        rw[Nat.zero_mul]at h1
        omega
       ·omega⟩
      have hd1:decide (0<b)=true:=decide_eq_true hb
      rw[hd1]
      have eq':((q'+1:Nat):Int)-1=(q':Int):=by omega
      obtain⟨qq,hqq⟩:∃ qq:Int,((q'+1:Nat):Int)=qq:=⟨_,rfl⟩
      have hqqb:1≤qq∧qq≤1000000000:=by omega
      rw[hqq]at eq' c3
      clear hqq hd1
      obtain⟨W4,hW4⟩:∃ W4,W3.setCell ⟨go,p,none⟩ (.int .i64 (q':Int))=W4:=⟨_,rfl⟩
      have gr4:wB.grownBy W4 (some gx):=by rw[←hW4];exact grows_set GR3.out GO.out.1
      have rest4:Bt W4 gx (k1+1) F1:=by rw[←hW4];exact WT.out.bf.other (grown_put (World.grownBy.refl W3 (some go))) GO.out.2
      have quo4:Bt W4 go L (put G p q'):=by
       have:=QU3.out.put hpL (show q' < 1000000000 by omega)
       rw[put_put,hW4]at this
       exact this
      have GV:=Zh (give_c gx (k1+1) vc p (m+2) yc ya F1 gy W4 rest4 (RYR.out.grown gr4 AP.out) AP.out hpK (by omega))
      have GR4:=Zh gr4
      have QU4:=Zh quo4
      have HBT:=Zh hb
      clear gr4 rest4 quo4 hb
      go_wp2_with fail
      clear hW4 c3 f3
      refine GV.out.mono ?_
      rintro e W5 ⟨F2,y,hy1,rfl,hWt2,hs2⟩
      rw[hdb]at hs2
      have NX:Hid (Lt wB gx go (k1+1) L D X p F2 (put G p q') W5):=by
       have hF2:Tn (from_ F2 p) (m+2+1)<tp (m+2+1):=Tn_lt fun i hi=>hWt2.bf.2.1 _ (by omega)
       have hb:0<b:=HBT.out
       have ty:=take_yes HS1.out hs2 hF2 DLT.out LT1.out hb GQ.out.2.1
       rw[Nat.add_sub_cancel]at ty
       have hlt:Tn (from_ F2 p) (m+2+1)<D:=by
        have h1:=HS1.out
        have h3:=GQ.out.2.1
        have h4:=ty.2
        have h5:=GQ.out.2.2
        have h6:=LT1.out
        have hbB:tp (m+2+1)≤b*tp (m+2+1):=Nat.le_mul_of_pos_left _ hb
        rw[Nat.add_mul,Nat.one_mul]at h1 h3
        omega
       have tn:=tlong_next hpK hpL DB.out.1 LW.out.sum LW.out.low (fun i hi=>(hWt2.out i hi).trans (WT.out.out i hi)) ty.2 hlt
       exact⟨hWt2.bf,QU4.out.other hWt2.grw (fun e=>GO.out.2 e.symm),GR4.out.trans hWt2.grw,tn.1,tn.2⟩
      clear hWt2 hs2 GV
      go_wp2
      go_roundw
      case rel=>exact⟨p,F2,put G p q',by omega,by go_num,NX.out⟩
      case measure=>first | (simp[intOf];done) | (simp[intOf];omega)
     ·have hd1:decide (0<b)=false:=decide_eq_false hb
      rw[hd1]
      have NX:Hid (Lt wB gx go (k1+1) L D X p F1 (put G p q0) W3):=by
       have tk:=take_no HS1.out LT1.out hb
       have hlt:Tn (from_ F1 p) (m+2+1)<D:=by
        have h2:=GQ.out.2.2
        rw[Nat.add_mul,Nat.one_mul]at h2
        omega
       have tn:=tlong_next hpK hpL DB.out.1 LW.out.sum LW.out.low WT.out.out tk hlt
       exact⟨WT.out.bf,QU3.out,GR3.out,tn.1,tn.2⟩
      clear hd1 hb c3 f3
      go_wp2
      go_roundw
      case rel=>exact⟨p,F1,put G p q0,by omega,by go_num,NX.out⟩
      case measure=>first | (simp[intOf];done) | (simp[intOf];omega)
theorem rdivide_c(a1 a2:Option Addr) (k1 k2 c1 c2 n1 n2:Nat) (w:World) (h1:Nt w a1 k1 c1 n1) (h2:Nt w a2 k2 c2 n2) (hd:0<n2) (hk9:k1≤90000) :
  Calls Tryz.prog 70 #[.slice a1 k1 c1,.slice a2 k2 c2] w (DvP (n1 / n2) (n1 % n2) w):=by
 have hk:=h2.one hd
 rcases Nat.lt_or_ge n1 n2 with l|l
 ·exact divide_less a1 a2 k1 k2 c1 c2 n1 n2 w h1 h2 l
 ·rcases Nat.lt_or_ge k2 2 with e|e
  ·obtain rfl:k2=1:=by omega
   exact divide_small a1 a2 k1 c1 c2 n1 n2 w h1 h2 l
  ·obtain⟨m,rfl⟩:∃ m,k2=m+2:=⟨k2-2,by omega⟩
   exact divide_long a1 a2 k1 m c1 c2 n1 n2 w h1 h2 l hk9
def dgAt(W:World)(p:Addr):Nat:=match W.cell? p with
 | some (.int _ n)=>n.toNat
 | _=>0
def nmAt(W:World)(v:Value):Nat:=match v with
 | .slice (some ⟨b,off,_⟩) k _=>Tn (fun j=>dgAt W ⟨b,off+j,none⟩) k
 | _=>0
theorem Nt.nmAt{W:World}{a:Option Addr}{k c n:Nat}(h:Nt W a k c n):nmAt W (.slice a k c)=n:=by
 obtain⟨f,h1,_,_,_,hs,hp⟩:=h
 rcases Nat.eq_zero_or_pos k with e|e
 ·subst e
  rw[Tn_zero]at hs
  subst hs
  rcases hp with ⟨rfl,_⟩|⟨b,off,rfl⟩
  ·rfl
  ·rfl
 ·obtain⟨b,off,rfl,_,hc⟩:=h1.2.2 e
  show Tn (fun j=>dgAt W ⟨b,off+j,none⟩) k=n
  rw[←hs]
  exact Tn_congr fun j hj=>by unfold dgAt;rw[hc j hj];simp
set_option maxHeartbeats 2000000 in
theorem divisor_c(a1 a2:Option Addr) (c1 c2 k1 k2 n m:Nat) (w:World) (h1:Nt w a1 k1 c1 n) (h2:Nt w a2 k2 c2 m) (hk1:n<tp 90000) (hk2:m<tp 90000) :
  Calls Tryz.prog 69 #[.slice a1 k1 c1,.slice a2 k2 c2] w (NtPost (Nat.gcd n m) w):=by
 have H1:=Zh h1
 have H2:=Zh h2
 have K1:=Zh hk1
 have K2:=Zh hk2
 clear h1 h2 hk1 hk2
 go_enter Tryz.func69,Tryz.ntmps69
 go_wp2
 go_loopw [0,1] (fun u v wr=>∃ a k c x b k2 c2 y,u=.slice a k c∧v=.slice b k2 c2∧Hid (Nt wr a k c x∧Nt wr b k2 c2 y∧Nat.gcd x y=Nat.gcd n m∧Below w.heap.size w wr∧x<tp 90000∧y<tp 90000)) (fun _ v wr=>nmAt wr v)
 case atStart=>exact⟨_,_,_,n,_,_,_,m,rfl,rfl,H1.out,H2.out,rfl,Below.refl _ _,K1.out,K2.out⟩
 case round=>
  obtain⟨a,k,c,x,b,k2,c2,y,rfl,rfl,hS⟩:=hrel
  rcases Nat.eq_zero_or_pos y with hy|hy
  ·subst hy
   obtain rfl:=hS.out.2.1.nul
   go_wp2
   go_ret
   exact⟨a,k,c,rfl,by have h:=hS.out.2.2.1;rw[Nat.gcd_zero_right]at h;rw[←h];exact hS.out.1,hS.out.2.2.2.1⟩
  ·have hk:=hS.out.2.1.one hy
   have hk':(0:Int)<(k2:Int):=by omega
   have hkx:k≤90000:=hS.out.1.len hS.out.2.2.2.2.1
   have HDV:=Zh (rdivide_c a b k k2 c c2 x y wr hS.out.1 hS.out.2.1 hy hkx)
   have HY:=Zh hy
   have MO:=Zh (hS.out.2.1.nmAt)
   clear hy hk
   go_wp2_with fail
   refine HDV.out.mono ?_
   rintro e w3 ⟨a3,k3,c3,a4,k4,c4,rfl,l3,l4,b3⟩
   have HF:Hid (Nt w3 b k2 c2 y∧Nt w3 a4 k4 c4 (x % y)∧Nat.gcd y (x % y)=Nat.gcd n m∧Below w.heap.size w w3∧y<tp 90000∧x % y<tp 90000):=
    ⟨hS.out.2.1.below b3,l4,by rw[←hS.out.2.2.1,Nat.gcd_comm x y,Nat.gcd_rec y x,Nat.gcd_comm],hS.out.2.2.2.1.trans (b3.mono hS.out.2.2.2.1.size),hS.out.2.2.2.2.2,Nat.lt_trans (Nat.mod_lt x HY.out) hS.out.2.2.2.2.2⟩
   have HM:Hid (nmAt w3 (.slice a4 k4 c4)<nmAt wr (.slice b k2 c2)):=by
    unfold Hid
    rw[l4.nmAt,MO.out]
    exact Nat.mod_lt x HY.out
   clear l3 l4 b3 HDV
   go_wp2
   exact⟨⟨_,_,_,y,_,_,_,x % y,rfl,rfl,HF⟩,HM.out⟩
theorem Nt.setx{W:World}{a:Option Addr}{k c n:Nat}(h:Nt W a k c n){p:Addr}{u:Value}(hu:W.cell? p=some u)(hne:∀ m,u≠.int .i64 m)(x:Value):Nt (W.setCell p x) a k c n:=by
 obtain⟨f,h1,h2⟩:=h
 refine⟨f,⟨h1.1,h1.2.1,fun h0=>?_⟩,h2⟩
 obtain⟨b,off,e,hl,hc⟩:=h1.2.2 h0
 refine⟨b,off,e,by simpa using hl,fun j hj=>?_⟩
 rw[World.cell?_setCell_other _ _ _ _ (by intro e;subst e;rw[hc j hj]at hu;injection hu with hu;exact hne _ hu.symm)]
 exact hc j hj
structure Q3 (W:World) (g:Nat) (x0 x1 x2:Value):Prop where
 c0:W.cell? ⟨g,0,none⟩=some x0
 c1:W.cell? ⟨g,1,none⟩=some x1
 c2:W.cell? ⟨g,2,none⟩=some x2
 fr:∀ o,W.frozen? ⟨g,o,none⟩=false
 lt:g<W.heap.size
theorem Q3.keep{W W':World}{g:Nat}{x0 x1 x2:Value}(h:Q3 W g x0 x1 x2)(hb:Below W.heap.size W W'):Q3 W' g x0 x1 x2:=by
 have c:=fun (o:Nat)=>hb.cell (p:=⟨g,o,none⟩) h.lt
 exact⟨(c 0).trans h.c0,(c 1).trans h.c1,(c 2).trans h.c2,fun o=>(hb.frozen (p:=⟨g,o,none⟩) h.lt).trans (h.fr o),Nat.lt_of_lt_of_le h.lt hb.size⟩
theorem Q3.made(W:World)(x0 x1 x2:Value)(T:TypeId):Q3 (W.alloc (.cells #[x0,x1,x2] T)) W.heap.size x0 x1 x2:=by
 refine⟨?_,?_,?_,fun o=>by simp,by simp⟩
 all_goals (rw[World.cell?_alloc_new];rfl)
def trio(W:World)(g:Nat)(y0 y1 y2:Value):World:=((W.setCell ⟨g,0,none⟩ y0).setCell ⟨g,1,none⟩ y1).setCell ⟨g,2,none⟩ y2
theorem qne{g i j:Nat}(h:i≠j):(⟨g,i,none⟩:Addr)≠⟨g,j,none⟩:=fun e=>by injection e with _ e2;exact h e2
theorem Q3.set{W:World}{g:Nat}{x0 x1 x2:Value}(h:Q3 W g x0 x1 x2)(y0 y1 y2:Value):Q3 (trio W g y0 y1 y2) g y0 y1 y2:=by
 unfold trio
 refine⟨?_,?_,?_,fun o=>by simp only[World.frozen?_setCell];exact h.fr o,by simpa using h.lt⟩
 ·rw[World.cell?_setCell_other _ _ _ _ (qne (by decide)),World.cell?_setCell_other _ _ _ _ (qne (by decide)),World.cell?_setCell_same _ _ _ h.c0]
 ·rw[World.cell?_setCell_other _ _ _ _ (qne (by decide)),World.cell?_setCell_same _ _ _ (u:=x1) (by rw[World.cell?_setCell_other _ _ _ _ (qne (by decide))];exact h.c1)]
 ·rw[World.cell?_setCell_same _ _ _ (u:=x2) (by rw[World.cell?_setCell_other _ _ _ _ (qne (by decide)),World.cell?_setCell_other _ _ _ _ (qne (by decide))];exact h.c2)]
def NI(u:Value):Prop:=∀ m,u≠.int .i64 m
theorem NI.b(s:Bool):NI (.bool s):=fun m e=>by cases e
theorem NI.s(a:Option Addr)(k c:Nat):NI (.slice a k c):=fun m e=>by cases e
theorem Nt.trio{W:World}{a:Option Addr}{k c n:Nat}(h:Nt W a k c n){g:Nat}{x0 x1 x2:Value}(hb:Q3 W g x0 x1 x2)(l0:NI x0)(l1:NI x1)(l2:NI x2)(y0 y1 y2:Value):Nt (trio W g y0 y1 y2) a k c n:=by
 unfold Go.Proofs.YtghgbhmiliiohaaGreatDoor.trio
 refine ((h.setx hb.c0 l0 y0).setx (u:=x1) ?_ l1 y1).setx (u:=x2) ?_ l2 y2
 ·rw[World.cell?_setCell_other _ _ _ _ (qne (by decide))];exact hb.c1
 ·rw[World.cell?_setCell_other _ _ _ _ (qne (by decide)),World.cell?_setCell_other _ _ _ _ (qne (by decide))];exact hb.c2
theorem below_trio{B:Nat}{W0 W:World}{g:Nat}(h:Below B W0 W)(hg:B≤g)(y0 y1 y2:Value):Below B W0 (trio W g y0 y1 y2):=
 ((h.setCell (p:=⟨g,0,none⟩) hg y0).setCell (p:=⟨g,1,none⟩) hg y1).setCell (p:=⟨g,2,none⟩) hg y2
def FqP(b:Bool)(n d:Nat)(w:World)(e:Ending)(w':World):Prop:=
 ∃ a k c a' k' c',e=.returned (.agg #[.bool b,.slice a k c,.slice a' k' c'])∧Nt w' a k c n∧Nt w' a' k' c' d∧Below w.heap.size w w'
structure Lo (w:World) (b:Bool) (a1:Option Addr) (k1 c1:Nat) (a2:Option Addr) (k2 c2:Nat) (W:World):Prop where
 x:Q3 W w.heap.size (.bool b) (.slice a1 k1 c1) (.slice a2 k2 c2)
 r:Q3 W (w.heap.size+1) (.bool false) (.slice none 0 0) (.slice none 0 0)
 bel:Below w.heap.size w W
theorem Lo.keep{w:World}{b:Bool}{a1:Option Addr}{k1 c1:Nat}{a2:Option Addr}{k2 c2:Nat}{W W':World}(h:Lo w b a1 k1 c1 a2 k2 c2 W)(hb:Below W.heap.size W W'):Lo w b a1 k1 c1 a2 k2 c2 W':=
 ⟨h.x.keep hb,h.r.keep hb,h.bel.trans (hb.mono h.bel.size)⟩
theorem Lo.made(w:World) (b:Bool) (a1:Option Addr) (k1 c1:Nat) (a2:Option Addr) (k2 c2:Nat) (T1 T2:TypeId) :
  Lo w b a1 k1 c1 a2 k2 c2 ((w.alloc (.cells #[.bool b,.slice a1 k1 c1,.slice a2 k2 c2] T1)).alloc (.cells #[.bool false,.slice none 0 0,.slice none 0 0] T2)):=by
 have s1:(w.alloc (.cells #[.bool b,.slice a1 k1 c1,.slice a2 k2 c2] T1)).heap.size=w.heap.size+1:=by simp
 refine⟨(Q3.made w _ _ _ T1).keep (bel_one _ _),?_,((Below.refl _ _).alloc (Nat.le_refl _) _).alloc (by simp) _⟩
 rw[←s1];exact Q3.made _ _ _ _ T2
set_option maxHeartbeats 4000000 in
theorem lowest_c(b:Bool) (a1 a2:Option Addr) (c1 c2 k1 k2 n d:Nat) (w:World) (h1:Nt w a1 k1 c1 n) (h2:Nt w a2 k2 c2 d) (hd:0<d) (hn9:n<tp 90000) (hd9:d<tp 90000) :
  Calls Tryz.prog 42 #[.agg #[.bool b,.slice a1 k1 c1,.slice a2 k2 c2]] w (FqP (b && decide (0<n)) (n / Nat.gcd n d) (d / Nat.gcd n d) w):=by
 have HG:Hid (0<Nat.gcd n d):=Nat.gcd_pos_of_pos_right _ hd
 have HN:Hid (decide (0<n)=decide (0<n / Nat.gcd n d)):=by
  apply decide_eq_decide.2
  constructor
  ·intro h;exact Nat.div_pos (Nat.le_of_dvd h (Nat.gcd_dvd_left _ _)) HG.out
  ·intro h
   rcases Nat.eq_zero_or_pos n with e|e
   ·subst e;rw[Nat.zero_div]at h;omega
   ·exact e
 obtain⟨sb,hsb0⟩:∃ sb,(b && decide (0<n))=sb:=⟨_,rfl⟩
 rw[hsb0]
 have HSB:Hid ((b && decide (0<n / Nat.gcd n d))=sb):=by unfold Hid;rw[←HN.out,hsb0]
 clear hsb0
 obtain⟨W0,hW0⟩:∃ W0,(w.alloc (.cells #[.bool b,.slice a1 k1 c1,.slice a2 k2 c2] 51)).alloc (.cells #[.bool false,.slice none 0 0,.slice none 0 0] 51)=W0:=⟨_,rfl⟩
 have J0:Hid (Lo w b a1 k1 c1 a2 k2 c2 W0):=by rw[←hW0];exact Lo.made _ _ _ _ _ _ _ _ _ _
 have L1:=Zh (h1.below J0.out.bel)
 have L2:=Zh (h2.below J0.out.bel)
 have KN:Hid (k1≤90000∧k2≤90000):=⟨h1.len hn9,h2.len hd9⟩
 have DV:=Zh (divisor_c a2 a1 c2 c1 k2 k1 d n W0 L2.out L1.out hd9 hn9)
 have x0:=J0.out.x.c0
 have x1:=J0.out.x.c1
 have x2:=J0.out.x.c2
 clear h1 h2 hd hn9 hd9 HN
 go_enter Tryz.func42,Tryz.ntmps42
 go_wp2_with fail
 clear hW0 x0 x1 x2
 refine DV.out.mono ?_
 rintro e w2 ⟨ga,gk,gc,rfl,lg,b2⟩
 rw[Nat.gcd_comm d n]at lg
 have J2:=Zh (J0.out.keep b2)
 have LG:=Zh lg
 have L12:=Zh (L1.out.below b2)
 have L22:=Zh (L2.out.below b2)
 clear lg b2 J0 L1 L2 DV
 generalize Nat.gcd n d=gg at *
 have x0:=J2.out.x.c0
 have x1:=J2.out.x.c1
 have x2:=J2.out.x.c2
 go_wp2_with fail
 clear x0 x1 x2
 refine (rdivide_c a1 ga k1 gk c1 gc n gg w2 L12.out LG.out HG.out KN.out.1).mono ?_
 rintro e w4 ⟨qa,qk,qc,ra,rk,rc,rfl,l4,_,b4⟩
 have J4:=Zh (J2.out.keep b4)
 have L4:=Zh l4
 have LG4:=Zh (LG.out.below b4)
 have L24:=Zh (L22.out.below b4)
 clear LG L12 L22 J2 l4 b4
 have x0:=J4.out.x.c0
 have x1:=J4.out.x.c1
 have x2:=J4.out.x.c2
 go_wp2_with fail
 clear x0 x1 x2
 refine (rdivide_c a2 ga k2 gk c2 gc d gg w4 L24.out LG4.out HG.out KN.out.2).mono ?_
 rintro e w6 ⟨pa,pk,pc,sa,sk,sc,rfl,l6,_,b6⟩
 have J6:=Zh (J4.out.keep b6)
 have L6:=Zh l6
 have L46:=Zh (L4.out.below b6)
 clear LG4 L24 J4 l6 b6 L4
 have hqk:decide (0<n / gg)=decide (0<qk):=by
  apply decide_eq_decide.2
  constructor
  ·intro h;exact L46.out.one h
  ·intro h
   rcases Nat.eq_zero_or_pos (n / gg) with e|e
   ·have h2:=L46.out
    rw[e]at h2
    have:=h2.nul
    omega
   ·exact e
 have hsb:(b && decide (0<qk))=sb:=by rw[←hqk];exact HSB.out
 obtain⟨WX,hWX⟩:∃ WX,trio w6 (w.heap.size+1) (.bool sb) (.slice qa qk qc) (.slice pa pk pc)=WX:=⟨_,rfl⟩
 have RX:Q3 WX (w.heap.size+1) (.bool sb) (.slice qa qk qc) (.slice pa pk pc):=by rw[←hWX];exact J6.out.r.set _ _ _
 have PP:Hid (FqP sb (n / gg) (d / gg) w (.returned (.agg #[.bool sb,.slice qa qk qc,.slice pa pk pc])) WX):=by
  rw[←hWX]
  exact⟨_,_,_,_,_,_,rfl,L46.out.trio J6.out.r (NI.b _) (NI.s _ _ _) (NI.s _ _ _) _ _ _,L6.out.trio J6.out.r (NI.b _) (NI.s _ _ _) (NI.s _ _ _) _ _ _,below_trio J6.out.bel (Nat.le_succ _) _ _ _⟩
 have x0:=J6.out.x.c0
 obtain⟨r0,r1,r2,rf,_⟩:=J6.out.r
 have rf0:=rf 0
 have rf1:=rf 1
 have rf2:=rf 2
 obtain⟨t0,t1,t2,_,_⟩:=id RX
 clear RX rf hqk
 unfold trio at hWX
 cases b
 ·obtain rfl:sb=false:=by rw[←hsb];rfl
  clear hsb
  go_wp2_with fail
  exact bodyPost_ret (v:=.agg #[.bool false,.slice qa qk qc,.slice pa pk pc]) (by simp[results,Tryz.results42,go_sem,t0,t1,t2]) rfl PP.out
 ·obtain rfl:sb=decide (0<qk):=by rw[←hsb];rfl
  clear hsb
  go_wp2_with fail
  exact bodyPost_ret (v:=.agg #[.bool (decide (0<qk)),.slice qa qk qc,.slice pa pk pc]) (by simp[results,Tryz.results42,go_sem,t0,t1,t2]) rfl PP.out
def sg(b:Bool)(n:Nat):Int:=if b then -(n:Int) else (n:Int)
def FvP(x:Int)(y:Nat)(w:World)(e:Ending)(w':World):Prop:=
 ∃ b n d,FqP b n d w e w'∧0<d∧sg b n*(y:Int)=x*(d:Int)∧((n<tp 12∧d<tp 12)∨Nat.gcd n d=1)
theorem sg_low(b:Bool){n d:Nat}(hd:0<d):sg (b && decide (0<n)) (n / Nat.gcd n d)*(d:Int)=sg b n*((d / Nat.gcd n d:Nat):Int)∧0<d / Nat.gcd n d∧Nat.gcd (n / Nat.gcd n d) (d / Nat.gcd n d)=1:=by
 have hg:0<Nat.gcd n d:=Nat.gcd_pos_of_pos_right _ hd
 refine⟨?_,Nat.div_pos (Nat.le_of_dvd hd (Nat.gcd_dvd_right _ _)) hg,Nat.coprime_div_gcd_div_gcd hg⟩
 have key:n / Nat.gcd n d*d=n*(d / Nat.gcd n d):=by
  obtain⟨p,hp⟩:=Nat.gcd_dvd_left n d
  obtain⟨q,hq⟩:=Nat.gcd_dvd_right n d
  generalize Nat.gcd n d=g at *
  subst hp hq
  rw[Nat.mul_div_cancel_left p hg,Nat.mul_div_cancel_left q hg,Nat.mul_left_comm,Nat.mul_comm g,Nat.mul_assoc,Nat.mul_comm g p,Nat.mul_assoc]
  first | rfl | (congr 1;exact Nat.mul_comm _ _) | (rw[Nat.mul_left_comm]) | grind
 have keyI:((n / Nat.gcd n d:Nat):Int)*(d:Int)=(n:Int)*((d / Nat.gcd n d:Nat):Int):=by
  rw[←Int.natCast_mul,←Int.natCast_mul,key]
 cases b
 ·simpa[sg] using keyI
 ·rcases Nat.eq_zero_or_pos n with e|e
  ·subst e;simp[sg]
  ·simp only[sg,Bool.true_and,decide_eq_true e,if_true,Int.neg_mul,keyI]
theorem low_c(b:Bool) (a1 a2:Option Addr) (c1 c2 k1 k2 n d:Nat) (w:World) (h1:Nt w a1 k1 c1 n) (h2:Nt w a2 k2 c2 d) (hd:0<d) (hn9:n<tp 90000) (hd9:d<tp 90000) :
  Calls Tryz.prog 42 #[.agg #[.bool b,.slice a1 k1 c1,.slice a2 k2 c2]] w (FvP (sg b n) d w):=
 (lowest_c b a1 a2 c1 c2 k1 k2 n d w h1 h2 hd hn9 hd9).mono fun e w' h=>⟨_,_,_,h,(sg_low b hd).2.1,(sg_low b hd).1,.inr (sg_low b hd).2.2⟩
set_option maxHeartbeats 4000000 in
theorem reduced_c(b:Bool) (a1 a2:Option Addr) (c1 c2 k1 k2 n d:Nat) (w:World) (h1:Nt w a1 k1 c1 n) (h2:Nt w a2 k2 c2 d) (hd:0<d) (hn9:n<tp 90000) (hd9:d<tp 90000) :
  Calls Tryz.prog 46 #[.agg #[.bool b,.slice a1 k1 c1,.slice a2 k2 c2]] w (FvP (sg b n) d w):=by
 obtain⟨W0,hW0⟩:∃ W0,(w.alloc (.cells #[.bool b,.slice a1 k1 c1,.slice a2 k2 c2] 51)).alloc (.cells #[.bool false,.slice none 0 0,.slice none 0 0] 51)=W0:=⟨_,rfl⟩
 have J0:Hid (Lo w b a1 k1 c1 a2 k2 c2 W0):=by rw[←hW0];exact Lo.made _ _ _ _ _ _ _ _ _ _
 have L1:=Zh (h1.below J0.out.bel)
 have L2:=Zh (h2.below J0.out.bel)
 have KB:k1≤90000∧k2≤90000:=⟨h1.len hn9,h2.len hd9⟩
 have HL:=Zh (low_c b a1 a2 c1 c2 k1 k2 n d W0 L1.out L2.out hd hn9 hd9)
 have x0:=J0.out.x.c0
 have x1:=J0.out.x.c1
 have x2:=J0.out.x.c2
 by_cases hk:k1+k2<12
 ·have hkI:(k1:Int)+(k2:Int)<12:=by omega
  have SZ:Hid (n<tp 12∧d<tp 12):=⟨Nat.lt_of_lt_of_le h1.lt (tp_mono (by omega)),Nat.lt_of_lt_of_le h2.lt (tp_mono (by omega))⟩
  obtain⟨WX,hWX⟩:∃ WX,trio W0 (w.heap.size+1) (.bool b) (.slice a1 k1 c1) (.slice a2 k2 c2)=WX:=⟨_,rfl⟩
  have RX:Q3 WX (w.heap.size+1) (.bool b) (.slice a1 k1 c1) (.slice a2 k2 c2):=by rw[←hWX];exact J0.out.r.set _ _ _
  have PP:Hid (FvP (sg b n) d w (.returned (.agg #[.bool b,.slice a1 k1 c1,.slice a2 k2 c2])) WX):=by
   rw[←hWX]
   exact⟨b,n,d,⟨_,_,_,_,_,_,rfl,L1.out.trio J0.out.r (NI.b _) (NI.s _ _ _) (NI.s _ _ _) _ _ _,L2.out.trio J0.out.r (NI.b _) (NI.s _ _ _) (NI.s _ _ _) _ _ _,below_trio J0.out.bel (Nat.le_succ _) _ _ _⟩,hd,rfl,.inl SZ.out⟩
  obtain⟨r0,r1,r2,rf,_⟩:=J0.out.r
  have rf0:=rf 0
  have rf1:=rf 1
  have rf2:=rf 2
  obtain⟨t0,t1,t2,_,_⟩:=id RX
  clear RX rf h1 h2 hd hn9 hd9 HL hk
  unfold trio at hWX
  go_enter Tryz.func46,Tryz.ntmps46
  go_wp2_with fail
  exact bodyPost_ret (v:=.agg #[.bool b,.slice a1 k1 c1,.slice a2 k2 c2]) (by simp[results,Tryz.results46,go_sem,t0,t1,t2]) rfl PP.out
 ·have hkI:¬ (k1:Int)+(k2:Int)<12:=by omega
  clear h1 h2 hd hn9 hd9 L1 L2
  go_enter Tryz.func46,Tryz.ntmps46
  go_wp2_with fail
  clear hW0 x0 x1 x2
  refine HL.out.mono ?_
  rintro e w2 ⟨sb,n',d',⟨qa,qk,qc,pa,pk,pc,rfl,l1,l2,b2⟩,hd',hv,hsz⟩
  have J2:=J0.out.keep b2
  obtain⟨WX,hWX⟩:∃ WX,trio w2 (w.heap.size+1) (.bool sb) (.slice qa qk qc) (.slice pa pk pc)=WX:=⟨_,rfl⟩
  have RX:Q3 WX (w.heap.size+1) (.bool sb) (.slice qa qk qc) (.slice pa pk pc):=by rw[←hWX];exact J2.r.set _ _ _
  have PP:Hid (FvP (sg b n) d w (.returned (.agg #[.bool sb,.slice qa qk qc,.slice pa pk pc])) WX):=by
   rw[←hWX]
   exact⟨sb,n',d',⟨_,_,_,_,_,_,rfl,l1.trio J2.r (NI.b _) (NI.s _ _ _) (NI.s _ _ _) _ _ _,l2.trio J2.r (NI.b _) (NI.s _ _ _) (NI.s _ _ _) _ _ _,below_trio J2.bel (Nat.le_succ _) _ _ _⟩,hd',hv,hsz⟩
  obtain⟨r0,r1,r2,rf,_⟩:=J2.r
  have rf0:=rf 0
  have rf1:=rf 1
  have rf2:=rf 2
  obtain⟨t0,t1,t2,_,_⟩:=id RX
  clear RX rf J2 l1 l2 b2 hd' hv hsz HL J0
  unfold trio at hWX
  go_wp2_with fail
  exact bodyPost_ret (v:=.agg #[.bool sb,.slice qa qk qc,.slice pa pk pc]) (by simp[results,Tryz.results46,go_sem,t0,t1,t2]) rfl PP.out
structure Fa where
 b:Bool
 a:Option Addr
 k:Nat
 c:Nat
 a':Option Addr
 k':Nat
 c':Nat
structure Fn (W:World) (f:Fa) (x y:Nat):Prop where
 n:Nt W f.a f.k f.c x
 d:Nt W f.a' f.k' f.c' y
 pos:0<y
 ln:x<tp 40000
 ld:y<tp 40000
theorem Fn.below{W W':World}{f:Fa}{n d:Nat}(h:Fn W f n d)(hb:Below W.heap.size W W'):Fn W' f n d:=⟨h.n.below hb,h.d.below hb,h.pos,h.ln,h.ld⟩
theorem Fn.kn{W:World}{f:Fa}{n d:Nat}(h:Fn W f n d):f.k≤40000:=h.n.len h.ln
theorem Fn.kd{W:World}{f:Fa}{n d:Nat}(h:Fn W f n d):f.k'≤40000:=h.d.len h.ld
theorem tp_prod{a b:Nat}(ha:a<tp 40000)(hb:b<tp 40000):a*b<tp 80000:=by
 have e:tp 80000=tp 40000*tp 40000:=tp_add 40000 40000
 rw[e]
 exact Nat.mul_lt_mul_of_lt_of_le ha (Nat.le_of_lt hb) (tp_pos _)
structure Ar (w:World) (f q:Fa) (W:World):Prop where
 x:Q3 W w.heap.size (.bool f.b) (.slice f.a f.k f.c) (.slice f.a' f.k' f.c')
 y:Q3 W (w.heap.size+1) (.bool q.b) (.slice q.a q.k q.c) (.slice q.a' q.k' q.c')
 r:Q3 W (w.heap.size+1+1) (.bool false) (.slice none 0 0) (.slice none 0 0)
 bel:Below w.heap.size w W
theorem Ar.keep{w:World}{f q:Fa}{W W':World}(h:Ar w f q W)(hb:Below W.heap.size W W'):Ar w f q W':=
 ⟨h.x.keep hb,h.y.keep hb,h.r.keep hb,h.bel.trans (hb.mono h.bel.size)⟩
theorem Ar.made(w:World) (f q:Fa) (T1 T2 T3:TypeId) :
  Ar w f q (((w.alloc (.cells #[.bool f.b,.slice f.a f.k f.c,.slice f.a' f.k' f.c'] T1)).alloc (.cells #[.bool q.b,.slice q.a q.k q.c,.slice q.a' q.k' q.c'] T2)).alloc (.cells #[.bool false,.slice none 0 0,.slice none 0 0] T3)):=by
 have s1:(w.alloc (.cells #[.bool f.b,.slice f.a f.k f.c,.slice f.a' f.k' f.c'] T1)).heap.size=w.heap.size+1:=by simp
 have s2:((w.alloc (.cells #[.bool f.b,.slice f.a f.k f.c,.slice f.a' f.k' f.c'] T1)).alloc (.cells #[.bool q.b,.slice q.a q.k q.c,.slice q.a' q.k' q.c'] T2)).heap.size=w.heap.size+1+1:=by simp
 refine⟨((Q3.made w _ _ _ T1).keep (bel_one _ _)).keep (bel_one _ _),?_,?_,(((Below.refl _ _).alloc (Nat.le_refl _) _).alloc (by simp) _).alloc (by simp;omega) _⟩
 ·rw[←s1];exact (Q3.made _ _ _ _ T2).keep (bel_one _ _)
 ·rw[←s2];exact Q3.made _ _ _ _ T3
def S6f(g:Nat)(f q:Fa)(W:World):Prop:=
 W.cell? ⟨g,0,none⟩=some (.bool f.b)∧W.cell? ⟨g,1,none⟩=some (.slice f.a f.k f.c)∧W.cell? ⟨g,2,none⟩=some (.slice f.a' f.k' f.c') ∧
 W.cell? ⟨g+1,0,none⟩=some (.bool q.b)∧W.cell? ⟨g+1,1,none⟩=some (.slice q.a q.k q.c)∧W.cell? ⟨g+1,2,none⟩=some (.slice q.a' q.k' q.c')
theorem Ar.s6{w:World}{f q:Fa}{W:World}(h:Ar w f q W):S6f w.heap.size f q W:=⟨h.x.c0,h.x.c1,h.x.c2,h.y.c0,h.y.c1,h.y.c2⟩
theorem trio_other{W:World}{g h:Nat}(hne:h≠g)(y0 y1 y2:Value)(o:Nat):(trio W h y0 y1 y2).cell? ⟨g,o,none⟩=W.cell? ⟨g,o,none⟩:=by
 unfold trio
 have e:∀ i,(⟨g,o,none⟩:Addr)≠⟨h,i,none⟩:=fun i e=>by injection e with e1 _;exact hne e1.symm
 rw[World.cell?_setCell_other _ _ _ _ (by first | exact e _ | exact (e _).symm),World.cell?_setCell_other _ _ _ _ (by first | exact e _ | exact (e _).symm),World.cell?_setCell_other _ _ _ _ (by first | exact e _ | exact (e _).symm)]
theorem Ar.done{w:World}{f q:Fa}{W:World}(h:Ar w f q W)(y0 y1 y2:Value):S6f w.heap.size f q (trio W (w.heap.size+1+1) y0 y1 y2):=by
 obtain⟨c0,c1,c2,d0,d1,d2⟩:=h.s6
 exact⟨(trio_other (by omega) _ _ _ _).trans c0,(trio_other (by omega) _ _ _ _).trans c1,(trio_other (by omega) _ _ _ _).trans c2,(trio_other (by omega) _ _ _ _).trans d0,(trio_other (by omega) _ _ _ _).trans d1,(trio_other (by omega) _ _ _ _).trans d2⟩
set_option maxHeartbeats 4000000 in
theorem times_c(f q:Fa) (n1 d1 n2 d2:Nat) (w:World) (h1:Fn w f n1 d1) (h2:Fn w q n2 d2) :
  Calls Tryz.prog 31 #[.agg #[.bool f.b,.slice f.a f.k f.c,.slice f.a' f.k' f.c'],.agg #[.bool q.b,.slice q.a q.k q.c,.slice q.a' q.k' q.c']] w (FvP (sg (f.b != q.b) (n1*n2)) (d1*d2) w):=by
 obtain⟨W0,hW0⟩:∃ W0,((w.alloc (.cells #[.bool f.b,.slice f.a f.k f.c,.slice f.a' f.k' f.c'] 51)).alloc (.cells #[.bool q.b,.slice q.a q.k q.c,.slice q.a' q.k' q.c'] 51)).alloc (.cells #[.bool false,.slice none 0 0,.slice none 0 0] 51)=W0:=⟨_,rfl⟩
 have J0:Hid (Ar w f q W0):=by rw[←hW0];exact Ar.made _ _ _ _ _ _
 have L1:=Zh (h1.below J0.out.bel)
 have L2:=Zh (h2.below J0.out.bel)
 have BN:Hid (n1*n2<tp 80000∧d1*d2<tp 80000∧0<d1*d2):=⟨tp_prod h1.ln h2.ln,tp_prod h1.ld h2.ld,Nat.mul_pos h1.pos h2.pos⟩
 clear h1 h2
 go_enter Tryz.func31,Tryz.ntmps31
 go_wp2_with fail
 clear hW0
 refine wp_region_noPanic ?_
 refine wp_region_held_drew (S:=S6f w.heap.size f q) (by kernel_rfl) (J0.out.keep (Below.refl _ _).drew).s6 (fun hS=>?_)
 have J1:=Zh (J0.out.keep (Below.refl _ _).drew)
 have M1:=Zh (L1.out.below (Below.refl _ _).drew)
 have M2:=Zh (L2.out.below (Below.refl _ _).drew)
 clear J0 L1 L2
 refine Zt (i:=0) (v:=?v0z1) rfl (Or.inl ⟨by rfl,?hy0z1⟩) ?rest0z1
 case hy0z1=>
  intro w hSw
  dsimp only[S6f]at hSw
  go_simp
  try with_reducible rfl
 simp only[Act.put,Zd,Ze,Zf,Za,Zb,Zc]
 refine Zt (i:=1) (v:=?v1z2) rfl (Or.inl ⟨by rfl,?hy1z2⟩) ?rest1z2
 case hy1z2=>
  intro w hSw
  dsimp only[S6f]at hSw
  go_simp
  try with_reducible rfl
 simp only[Act.put,Zd,Ze,Zf,Za,Zb,Zc]
 refine Zt (i:=2) (v:=?v2z3) rfl (Or.inl ⟨by rfl,?hy2z3⟩) ?rest2z3
 case hy2z3=>
  intro w hSw
  dsimp only[S6f]at hSw
  go_simp
  try with_reducible rfl
 simp only[Act.put,Zd,Ze,Zf,Za,Zb,Zc]
 refine Zt (i:=3) (v:=?v3z4) rfl (Or.inl ⟨by rfl,?hy3z4⟩) ?rest3z4
 case hy3z4=>
  intro w hSw
  dsimp only[S6f]at hSw
  go_simp
  try with_reducible rfl
 simp only[Act.put,Zd,Ze,Zf,Za,Zb,Zc]
 refine Zt (i:=4) (v:=?v4z5) rfl (Or.inl ⟨by rfl,?hy4z5⟩) ?rest4z5
 case hy4z5=>
  intro w hSw
  dsimp only[S6f]at hSw
  go_simp
  try with_reducible rfl
 simp only[Act.put,Zd,Ze,Zf,Za,Zb,Zc]
 refine Zt (i:=5) (v:=?v5z6) rfl (Or.inl ⟨by rfl,?hy5z6⟩) ?rest5z6
 case hy5z6=>
  intro w hSw
  dsimp only[S6f]at hSw
  go_simp
  try with_reducible rfl
 simp only[Act.put,Zd,Ze,Zf,Za,Zb,Zc]
 refine Zt (i:=6) (v:=?v6z7) rfl (Or.inl ⟨by rfl,?hy6z7⟩) ?rest6z7
 case hy6z7=>
  intro w hSw
  dsimp only[S6f]at hSw
  go_simp
  try with_reducible rfl
 simp only[Act.put,Zd,Ze,Zf,Za,Zb,Zc]
 refine Zt (i:=7) (v:=?v7z8) rfl (Or.inl ⟨by rfl,?hy7z8⟩) ?rest7z8
 case hy7z8=>
  intro w hSw
  dsimp only[S6f]at hSw
  go_simp
  try with_reducible rfl
 simp only[Act.put,Zd,Ze,Zf,Za,Zb,Zc]
 refine Zt (i:=8) (v:=?v8z9) rfl (Or.inl ⟨by rfl,?hy8z9⟩) ?rest8z9
 case hy8z9=>
  intro w hSw
  dsimp only[S6f]at hSw
  go_simp
  try with_reducible rfl
 simp only[Act.put,Zd,Ze,Zf,Za,Zb,Zc]
 refine Zt (i:=10) (v:=?v10z10) rfl (Or.inl ⟨by rfl,?hy10z10⟩) ?rest10z10
 case hy10z10=>
  intro w hSw
  dsimp only[S6f]at hSw
  go_simp
  try with_reducible rfl
 simp only[Act.put,Zd,Ze,Zf,Za,Zb,Zc]
 refine Zt (i:=11) (v:=?v11z11) rfl (Or.inl ⟨by rfl,?hy11z11⟩) ?rest11z11
 case hy11z11=>
  intro w hSw
  dsimp only[S6f]at hSw
  go_simp
  try with_reducible rfl
 simp only[Act.put,Zd,Ze,Zf,Za,Zb,Zc]
 refine Zt (i:=12) (v:=?v12z12) rfl (Or.inl ⟨by rfl,?hy12z12⟩) ?rest12z12
 case hy12z12=>
  intro w hSw
  dsimp only[S6f]at hSw
  go_simp
  try with_reducible rfl
 simp only[Act.put,Zd,Ze,Zf,Za,Zb,Zc]
 refine Zt (i:=13) (v:=?v13z13) rfl (Or.inl ⟨by rfl,?hy13z13⟩) ?rest13z13
 case hy13z13=>
  intro w hSw
  dsimp only[S6f]at hSw
  go_simp
  try with_reducible rfl
 simp only[Act.put,Zd,Ze,Zf,Za,Zb,Zc]
 refine wpAnyH_ready (rs:=[9]) (by kernel_rfl) (by simp) ?_
 refine AllReadyH.cons rfl (fun K hK=>?_) AllReadyH.nil
 go_simp
 (refine (ntimes_c f.a q.a f.k q.k f.c q.c _ _ _ M1.out.n M2.out.n (by have:=M1.out.kn;have:=M2.out.kn;omega)).mono ?_)
 rintro e V9J2 ⟨na,nk,nc,rfl,hn,bc⟩
 try go_simp
 have J2:=Zh (J1.out.keep bc)
 have A1:=Zh (M1.out.below bc)
 have A2:=Zh (M2.out.below bc)
 have N2:=Zh hn
 have hT:=J2.out.s6
 refine hK.out _ _ hT (fun _=>?_)
 clear hK K hS bc J1 M1 M2 hn
 have hS:=hT
 clear hT
 try simp only[Act.put,Za,Zb,Zc]
 refine wpAnyH_ready (rs:=[14]) (by kernel_rfl) (by simp) ?_
 refine AllReadyH.cons rfl (fun K hK=>?_) AllReadyH.nil
 go_simp
 (refine (ntimes_c f.a' q.a' f.k' q.k' f.c' q.c' _ _ _ A1.out.d A2.out.d (by have:=A1.out.kd;have:=A2.out.kd;omega)).mono ?_)
 rintro e V14J3 ⟨da,dk,dc,rfl,hd,bc⟩
 try go_simp
 have J3:=Zh (J2.out.keep bc)
 have N3:=Zh (N2.out.below bc)
 have D3:=Zh hd
 have hT:=J3.out.s6
 refine hK.out _ _ hT (fun _=>?_)
 clear hK K hS bc J2 N2 hd
 have hS:=hT
 clear hT
 try simp only[Act.put,Za,Zb,Zc]
 clear A1 A2
 refine Zt (i:=15) (v:=?v15z14) rfl (Or.inl ⟨by rfl,?hy15z14⟩) ?rest15z14
 case hy15z14=>
  intro w hSw
  dsimp only[S6f]at hSw
  go_simp
  try with_reducible rfl
 simp only[Act.put,Zd,Ze,Zf,Za,Zb,Zc]
 refine wpAnyH_ready (rs:=[16]) (by kernel_rfl) (by simp) ?_
 refine AllReadyH.cons rfl (fun K hK=>?_) AllReadyH.nil
 go_simp
 (refine (reduced_c (f.b != q.b) na da nc dc nk dk (n1*n2) (d1*d2) _ N3.out D3.out BN.out.2.2 (Nat.lt_of_lt_of_le BN.out.1 (tp_mono (by omega))) (Nat.lt_of_lt_of_le BN.out.2.1 (tp_mono (by omega)))).mono ?_)
 rintro e V16J4 ⟨sb,n',d',⟨qa,qk,qc,pa,pk,pc,rfl,rn,rd,bc⟩,hd',hv,hsz⟩
 try go_simp
 have J4:=Zh (J3.out.keep bc)
 have RN:=Zh rn
 have RD:=Zh rd
 have RV:=Zh (And.intro hd' (And.intro hv hsz))
 have hT:=J4.out.s6
 refine hK.out _ _ hT (fun _=>?_)
 clear hK K hS bc J3  rn rd
 have hS:=hT
 clear hT
 try simp only[Act.put,Za,Zb,Zc]
 clear N3 D3
 refine wpAnyH_ready (rs:=[17]) (by kernel_rfl) (by simp) ?_
 refine AllReadyH.cons rfl (fun K hK=>?_) AllReadyH.nil
 have q0:=J4.out.r.c0
 have q1:=J4.out.r.c1
 have q2:=J4.out.r.c2
 have g0:=J4.out.r.fr 0
 have g1:=J4.out.r.fr 1
 have g2:=J4.out.r.fr 2
 go_simp
 clear q0 q1 q2 g0 g1 g2
 have hT:=J4.out.done (.bool sb) (.slice qa qk qc) (.slice pa pk pc)
 have R9:=J4.out.r.set (.bool sb) (.slice qa qk qc) (.slice pa pk pc)
 have PP:Hid (FvP (sg (f.b != q.b) (n1*n2)) (d1*d2) w (.returned (.agg #[.bool sb,.slice qa qk qc,.slice pa pk pc])) (trio _ (w.heap.size+1+1) (.bool sb) (.slice qa qk qc) (.slice pa pk pc))):=
  ⟨sb,n',d',⟨_,_,_,_,_,_,rfl,RN.out.trio J4.out.r (NI.b _) (NI.s _ _ _) (NI.s _ _ _) _ _ _,RD.out.trio J4.out.r (NI.b _) (NI.s _ _ _) (NI.s _ _ _) _ _ _,below_trio J4.out.bel (by omega) _ _ _⟩,RV.out.1,RV.out.2.1,RV.out.2.2⟩
 clear RN RD RV
 unfold trio at hT R9 PP
 refine hK.out _ _ hT (fun _=>?_)
 clear hK K hS
 try simp only[Act.put,Za,Zb,Zc]
 refine wpAnyH_done (by kernel_rfl) ?_ _
 refine NoPanic.normal ?_
 obtain⟨r0,r1,r2,_,_⟩:=id R9
 clear hT R9
 go_wp2_with fail
 exact bodyPost_ret (v:=.agg #[.bool sb,.slice qa qk qc,.slice pa pk pc]) (by simp[results,Tryz.results31,go_sem,r0,r1,r2]) rfl PP.out
set_option maxHeartbeats 4000000 in
theorem over_c(f q:Fa) (n1 d1 n2 d2:Nat) (w:World) (h1:Fn w f n1 d1) (h2:Fn w q n2 d2) (hp:0<n2) :
  Calls Tryz.prog 20 #[.agg #[.bool f.b,.slice f.a f.k f.c,.slice f.a' f.k' f.c'],.agg #[.bool q.b,.slice q.a q.k q.c,.slice q.a' q.k' q.c']] w (FvP (sg (f.b != q.b) (n1*d2)) (d1*n2) w):=by
 obtain⟨W0,hW0⟩:∃ W0,((w.alloc (.cells #[.bool f.b,.slice f.a f.k f.c,.slice f.a' f.k' f.c'] 51)).alloc (.cells #[.bool q.b,.slice q.a q.k q.c,.slice q.a' q.k' q.c'] 51)).alloc (.cells #[.bool false,.slice none 0 0,.slice none 0 0] 51)=W0:=⟨_,rfl⟩
 have J0:Hid (Ar w f q W0):=by rw[←hW0];exact Ar.made _ _ _ _ _ _
 have L1:=Zh (h1.below J0.out.bel)
 have L2:=Zh (h2.below J0.out.bel)
 have BN:Hid (n1*d2<tp 80000∧d1*n2<tp 80000∧0<d1*n2):=⟨tp_prod h1.ln h2.ld,tp_prod h1.ld h2.ln,Nat.mul_pos h1.pos hp⟩
 clear h1 h2 hp
 go_enter Tryz.func20,Tryz.ntmps20
 go_wp2_with fail
 clear hW0
 refine wp_region_noPanic ?_
 refine wp_region_held_drew (S:=S6f w.heap.size f q) (by kernel_rfl) (J0.out.keep (Below.refl _ _).drew).s6 (fun hS=>?_)
 have J1:=Zh (J0.out.keep (Below.refl _ _).drew)
 have M1:=Zh (L1.out.below (Below.refl _ _).drew)
 have M2:=Zh (L2.out.below (Below.refl _ _).drew)
 clear J0 L1 L2
 refine Zt (i:=0) (v:=?v0z15) rfl (Or.inl ⟨by rfl,?hy0z15⟩) ?rest0z15
 case hy0z15=>
  intro w hSw
  dsimp only[S6f]at hSw
  go_simp
  try with_reducible rfl
 simp only[Act.put,Zd,Ze,Zf,Za,Zb,Zc]
 refine Zt (i:=1) (v:=?v1z16) rfl (Or.inl ⟨by rfl,?hy1z16⟩) ?rest1z16
 case hy1z16=>
  intro w hSw
  dsimp only[S6f]at hSw
  go_simp
  try with_reducible rfl
 simp only[Act.put,Zd,Ze,Zf,Za,Zb,Zc]
 refine Zt (i:=2) (v:=?v2z17) rfl (Or.inl ⟨by rfl,?hy2z17⟩) ?rest2z17
 case hy2z17=>
  intro w hSw
  dsimp only[S6f]at hSw
  go_simp
  try with_reducible rfl
 simp only[Act.put,Zd,Ze,Zf,Za,Zb,Zc]
 refine Zt (i:=3) (v:=?v3z18) rfl (Or.inl ⟨by rfl,?hy3z18⟩) ?rest3z18
 case hy3z18=>
  intro w hSw
  dsimp only[S6f]at hSw
  go_simp
  try with_reducible rfl
 simp only[Act.put,Zd,Ze,Zf,Za,Zb,Zc]
 refine Zt (i:=4) (v:=?v4z19) rfl (Or.inl ⟨by rfl,?hy4z19⟩) ?rest4z19
 case hy4z19=>
  intro w hSw
  dsimp only[S6f]at hSw
  go_simp
  try with_reducible rfl
 simp only[Act.put,Zd,Ze,Zf,Za,Zb,Zc]
 refine Zt (i:=5) (v:=?v5z20) rfl (Or.inl ⟨by rfl,?hy5z20⟩) ?rest5z20
 case hy5z20=>
  intro w hSw
  dsimp only[S6f]at hSw
  go_simp
  try with_reducible rfl
 simp only[Act.put,Zd,Ze,Zf,Za,Zb,Zc]
 refine Zt (i:=6) (v:=?v6z21) rfl (Or.inl ⟨by rfl,?hy6z21⟩) ?rest6z21
 case hy6z21=>
  intro w hSw
  dsimp only[S6f]at hSw
  go_simp
  try with_reducible rfl
 simp only[Act.put,Zd,Ze,Zf,Za,Zb,Zc]
 refine Zt (i:=7) (v:=?v7z22) rfl (Or.inl ⟨by rfl,?hy7z22⟩) ?rest7z22
 case hy7z22=>
  intro w hSw
  dsimp only[S6f]at hSw
  go_simp
  try with_reducible rfl
 simp only[Act.put,Zd,Ze,Zf,Za,Zb,Zc]
 refine Zt (i:=8) (v:=?v8z23) rfl (Or.inl ⟨by rfl,?hy8z23⟩) ?rest8z23
 case hy8z23=>
  intro w hSw
  dsimp only[S6f]at hSw
  go_simp
  try with_reducible rfl
 simp only[Act.put,Zd,Ze,Zf,Za,Zb,Zc]
 refine Zt (i:=10) (v:=?v10z24) rfl (Or.inl ⟨by rfl,?hy10z24⟩) ?rest10z24
 case hy10z24=>
  intro w hSw
  dsimp only[S6f]at hSw
  go_simp
  try with_reducible rfl
 simp only[Act.put,Zd,Ze,Zf,Za,Zb,Zc]
 refine Zt (i:=11) (v:=?v11z25) rfl (Or.inl ⟨by rfl,?hy11z25⟩) ?rest11z25
 case hy11z25=>
  intro w hSw
  dsimp only[S6f]at hSw
  go_simp
  try with_reducible rfl
 simp only[Act.put,Zd,Ze,Zf,Za,Zb,Zc]
 refine Zt (i:=12) (v:=?v12z26) rfl (Or.inl ⟨by rfl,?hy12z26⟩) ?rest12z26
 case hy12z26=>
  intro w hSw
  dsimp only[S6f]at hSw
  go_simp
  try with_reducible rfl
 simp only[Act.put,Zd,Ze,Zf,Za,Zb,Zc]
 refine Zt (i:=13) (v:=?v13z27) rfl (Or.inl ⟨by rfl,?hy13z27⟩) ?rest13z27
 case hy13z27=>
  intro w hSw
  dsimp only[S6f]at hSw
  go_simp
  try with_reducible rfl
 simp only[Act.put,Zd,Ze,Zf,Za,Zb,Zc]
 refine wpAnyH_ready (rs:=[9]) (by kernel_rfl) (by simp) ?_
 refine AllReadyH.cons rfl (fun K hK=>?_) AllReadyH.nil
 go_simp
 (refine (ntimes_c f.a q.a' f.k q.k' f.c q.c' _ _ _ M1.out.n M2.out.d (by have:=M1.out.kn;have:=M2.out.kd;omega)).mono ?_)
 rintro e V9J2 ⟨na,nk,nc,rfl,hn,bc⟩
 try go_simp
 have J2:=Zh (J1.out.keep bc)
 have A1:=Zh (M1.out.below bc)
 have A2:=Zh (M2.out.below bc)
 have N2:=Zh hn
 have hT:=J2.out.s6
 refine hK.out _ _ hT (fun _=>?_)
 clear hK K hS bc J1 M1 M2 hn
 have hS:=hT
 clear hT
 try simp only[Act.put,Za,Zb,Zc]
 refine wpAnyH_ready (rs:=[14]) (by kernel_rfl) (by simp) ?_
 refine AllReadyH.cons rfl (fun K hK=>?_) AllReadyH.nil
 go_simp
 (refine (ntimes_c f.a' q.a f.k' q.k f.c' q.c _ _ _ A1.out.d A2.out.n (by have:=A1.out.kd;have:=A2.out.kn;omega)).mono ?_)
 rintro e V14J3 ⟨da,dk,dc,rfl,hd,bc⟩
 try go_simp
 have J3:=Zh (J2.out.keep bc)
 have N3:=Zh (N2.out.below bc)
 have D3:=Zh hd
 have hT:=J3.out.s6
 refine hK.out _ _ hT (fun _=>?_)
 clear hK K hS bc J2 N2 hd
 have hS:=hT
 clear hT
 try simp only[Act.put,Za,Zb,Zc]
 clear A1 A2
 refine Zt (i:=15) (v:=?v15z28) rfl (Or.inl ⟨by rfl,?hy15z28⟩) ?rest15z28
 case hy15z28=>
  intro w hSw
  dsimp only[S6f]at hSw
  go_simp
  try with_reducible rfl
 simp only[Act.put,Zd,Ze,Zf,Za,Zb,Zc]
 refine wpAnyH_ready (rs:=[16]) (by kernel_rfl) (by simp) ?_
 refine AllReadyH.cons rfl (fun K hK=>?_) AllReadyH.nil
 go_simp
 (refine (reduced_c (f.b != q.b) na da nc dc nk dk (n1*d2) (d1*n2) _ N3.out D3.out BN.out.2.2 (Nat.lt_of_lt_of_le BN.out.1 (tp_mono (by omega))) (Nat.lt_of_lt_of_le BN.out.2.1 (tp_mono (by omega)))).mono ?_)
 rintro e V16J4 ⟨sb,n',d',⟨qa,qk,qc,pa,pk,pc,rfl,rn,rd,bc⟩,hd',hv,hsz⟩
 try go_simp
 have J4:=Zh (J3.out.keep bc)
 have RN:=Zh rn
 have RD:=Zh rd
 have RV:=Zh (And.intro hd' (And.intro hv hsz))
 have hT:=J4.out.s6
 refine hK.out _ _ hT (fun _=>?_)
 clear hK K hS bc J3  rn rd
 have hS:=hT
 clear hT
 try simp only[Act.put,Za,Zb,Zc]
 clear N3 D3
 refine wpAnyH_ready (rs:=[17]) (by kernel_rfl) (by simp) ?_
 refine AllReadyH.cons rfl (fun K hK=>?_) AllReadyH.nil
 have q0:=J4.out.r.c0
 have q1:=J4.out.r.c1
 have q2:=J4.out.r.c2
 have g0:=J4.out.r.fr 0
 have g1:=J4.out.r.fr 1
 have g2:=J4.out.r.fr 2
 go_simp
 clear q0 q1 q2 g0 g1 g2
 have hT:=J4.out.done (.bool sb) (.slice qa qk qc) (.slice pa pk pc)
 have R9:=J4.out.r.set (.bool sb) (.slice qa qk qc) (.slice pa pk pc)
 have PP:Hid (FvP (sg (f.b != q.b) (n1*d2)) (d1*n2) w (.returned (.agg #[.bool sb,.slice qa qk qc,.slice pa pk pc])) (trio _ (w.heap.size+1+1) (.bool sb) (.slice qa qk qc) (.slice pa pk pc))):=
  ⟨sb,n',d',⟨_,_,_,_,_,_,rfl,RN.out.trio J4.out.r (NI.b _) (NI.s _ _ _) (NI.s _ _ _) _ _ _,RD.out.trio J4.out.r (NI.b _) (NI.s _ _ _) (NI.s _ _ _) _ _ _,below_trio J4.out.bel (by omega) _ _ _⟩,RV.out.1,RV.out.2.1,RV.out.2.2⟩
 clear RN RD RV
 unfold trio at hT R9 PP
 refine hK.out _ _ hT (fun _=>?_)
 clear hK K hS
 try simp only[Act.put,Za,Zb,Zc]
 refine wpAnyH_done (by kernel_rfl) ?_ _
 refine NoPanic.normal ?_
 obtain⟨r0,r1,r2,_,_⟩:=id R9
 clear hT R9
 go_wp2_with fail
 exact bodyPost_ret (v:=.agg #[.bool sb,.slice qa qk qc,.slice pa pk pc]) (by simp[results,Tryz.results20,go_sem,r0,r1,r2]) rfl PP.out
theorem sg_same(b:Bool)(n1 n2:Nat):sg b (n1+n2)=sg b n1+sg b n2:=by
 cases b
 ·simp[sg]
 ·simp only[sg,if_true];omega
theorem sg_diff{b1 b2:Bool}(h:b1≠b2){n1 n2:Nat}(hle:n2≤n1):sg b1 (n1-n2)=sg b1 n1+sg b2 n2:=by
 cases b1<;>cases b2<;>first | exact absurd rfl h | (simp[sg];omega)
theorem tp_sumX{a b i:Nat}(ha:a<tp i)(hb:b<tp i):a+b<tp (i+1):=by
 rw[tp_succ]
 omega
set_option maxHeartbeats 4000000 in
theorem plus_c(f q:Fa) (n1 d1 n2 d2:Nat) (w:World) (h1:Fn w f n1 d1) (h2:Fn w q n2 d2) :
  Calls Tryz.prog 30 #[.agg #[.bool f.b,.slice f.a f.k f.c,.slice f.a' f.k' f.c'],.agg #[.bool q.b,.slice q.a q.k q.c,.slice q.a' q.k' q.c']] w (FvP (sg f.b (n1*d2)+sg q.b (n2*d1)) (d1*d2) w):=by
 obtain⟨W0,hW0⟩:∃ W0,((w.alloc (.cells #[.bool f.b,.slice f.a f.k f.c,.slice f.a' f.k' f.c'] 51)).alloc (.cells #[.bool q.b,.slice q.a q.k q.c,.slice q.a' q.k' q.c'] 51)).alloc (.cells #[.bool false,.slice none 0 0,.slice none 0 0] 51)=W0:=⟨_,rfl⟩
 have J0:Hid (Ar w f q W0):=by rw[←hW0];exact Ar.made _ _ _ _ _ _
 have L1:=Zh (h1.below J0.out.bel)
 have L2:=Zh (h2.below J0.out.bel)
 have lp:Hid (n1*d2<tp 80000):=tp_prod h1.ln h2.ld
 have lq:Hid (n2*d1<tp 80000):=tp_prod h2.ln h1.ld
 have ld:Hid (d1*d2<tp 80000∧0<d1*d2):=⟨tp_prod h1.ld h2.ld,Nat.mul_pos h1.pos h2.pos⟩
 clear h1 h2
 go_enter Tryz.func30,Tryz.ntmps30
 go_wp2_with fail
 clear hW0
 refine wp_region_noPanic ?_
 refine wp_region_held_drew (S:=S6f w.heap.size f q) (by kernel_rfl) (J0.out.keep (Below.refl _ _).drew).s6 (fun hS=>?_)
 have J1:=Zh (J0.out.keep (Below.refl _ _).drew)
 have M1:=Zh (L1.out.below (Below.refl _ _).drew)
 have M2:=Zh (L2.out.below (Below.refl _ _).drew)
 clear J0 L1 L2
 refine Zt (i:=0) (v:=?v0z29) rfl (Or.inl ⟨by rfl,?hy0z29⟩) ?rest0z29
 case hy0z29=>
  intro w hSw
  dsimp only[S6f]at hSw
  go_simp
  try with_reducible rfl
 simp only[Act.put,Zd,Ze,Zf,Za,Zb,Zc]
 refine Zt (i:=1) (v:=?v1z30) rfl (Or.inl ⟨by rfl,?hy1z30⟩) ?rest1z30
 case hy1z30=>
  intro w hSw
  dsimp only[S6f]at hSw
  go_simp
  try with_reducible rfl
 simp only[Act.put,Zd,Ze,Zf,Za,Zb,Zc]
 refine Zt (i:=2) (v:=?v2z31) rfl (Or.inl ⟨by rfl,?hy2z31⟩) ?rest2z31
 case hy2z31=>
  intro w hSw
  dsimp only[S6f]at hSw
  go_simp
  try with_reducible rfl
 simp only[Act.put,Zd,Ze,Zf,Za,Zb,Zc]
 refine Zt (i:=3) (v:=?v3z32) rfl (Or.inl ⟨by rfl,?hy3z32⟩) ?rest3z32
 case hy3z32=>
  intro w hSw
  dsimp only[S6f]at hSw
  go_simp
  try with_reducible rfl
 simp only[Act.put,Zd,Ze,Zf,Za,Zb,Zc]
 refine Zt (i:=5) (v:=?v5z33) rfl (Or.inl ⟨by rfl,?hy5z33⟩) ?rest5z33
 case hy5z33=>
  intro w hSw
  dsimp only[S6f]at hSw
  go_simp
  try with_reducible rfl
 simp only[Act.put,Zd,Ze,Zf,Za,Zb,Zc]
 refine Zt (i:=6) (v:=?v6z34) rfl (Or.inl ⟨by rfl,?hy6z34⟩) ?rest6z34
 case hy6z34=>
  intro w hSw
  dsimp only[S6f]at hSw
  go_simp
  try with_reducible rfl
 simp only[Act.put,Zd,Ze,Zf,Za,Zb,Zc]
 refine Zt (i:=7) (v:=?v7z35) rfl (Or.inl ⟨by rfl,?hy7z35⟩) ?rest7z35
 case hy7z35=>
  intro w hSw
  dsimp only[S6f]at hSw
  go_simp
  try with_reducible rfl
 simp only[Act.put,Zd,Ze,Zf,Za,Zb,Zc]
 refine Zt (i:=8) (v:=?v8z36) rfl (Or.inl ⟨by rfl,?hy8z36⟩) ?rest8z36
 case hy8z36=>
  intro w hSw
  dsimp only[S6f]at hSw
  go_simp
  try with_reducible rfl
 simp only[Act.put,Zd,Ze,Zf,Za,Zb,Zc]
 refine wpAnyH_ready (rs:=[4]) (by kernel_rfl) (by simp) ?_
 refine AllReadyH.cons rfl (fun K hK=>?_) AllReadyH.nil
 go_simp
 (refine (ntimes_c f.a q.a' f.k q.k' f.c q.c' _ _ _ M1.out.n M2.out.d (by have:=M1.out.kn;have:=M2.out.kd;omega)).mono ?_)
 rintro e V4J2 ⟨pa,pk,pc,rfl,hp,bc⟩
 try go_simp
 have J2:=Zh (J1.out.keep bc)
 have A1:=Zh (M1.out.below bc)
 have A2:=Zh (M2.out.below bc)
 have P2:=Zh hp
 have hT:=J2.out.s6
 refine hK.out _ _ hT (fun _=>?_)
 clear hK K hS bc J1 M1 M2 hp
 have hS:=hT
 clear hT
 try simp only[Act.put,Za,Zb,Zc]
 refine wpAnyH_ready (rs:=[9]) (by kernel_rfl) (by simp) ?_
 refine AllReadyH.cons rfl (fun K hK=>?_) AllReadyH.nil
 go_simp
 (refine (ntimes_c q.a f.a' q.k f.k' q.c f.c' _ _ _ A2.out.n A1.out.d (by have:=A2.out.kn;have:=A1.out.kd;omega)).mono ?_)
 rintro e V9J3 ⟨qa,qk,qc,rfl,hq,bc⟩
 try go_simp
 have J3:=Zh (J2.out.keep bc)
 have E1:=Zh (A1.out.below bc)
 have E2:=Zh (A2.out.below bc)
 have P3:=Zh (P2.out.below bc)
 have Q3_:=Zh hq
 have hT:=J3.out.s6
 refine hK.out _ _ hT (fun _=>?_)
 clear hK K hS bc J2 A1 A2 P2 hq
 have hS:=hT
 clear hT
 try simp only[Act.put,Za,Zb,Zc]
 refine Zt (i:=10) (v:=?v10z37) rfl (Or.inl ⟨by rfl,?hy10z37⟩) ?rest10z37
 case hy10z37=>
  intro w hSw
  dsimp only[S6f]at hSw
  go_simp
  try with_reducible rfl
 simp only[Act.put,Zd,Ze,Zf,Za,Zb,Zc]
 refine Zt (i:=11) (v:=?v11z38) rfl (Or.inl ⟨by rfl,?hy11z38⟩) ?rest11z38
 case hy11z38=>
  intro w hSw
  dsimp only[S6f]at hSw
  go_simp
  try with_reducible rfl
 simp only[Act.put,Zd,Ze,Zf,Za,Zb,Zc]
 refine wpAnyH_done (by kernel_rfl) ?_ _
 refine NoPanic.normal ?_
 clear hS
 have HD:=Zh (ntimes_c f.a' q.a' f.k' q.k' f.c' q.c' _ _ _ E1.out.d E2.out.d (by have:=E1.out.kd;have:=E2.out.kd;omega))
 have x2:=J3.out.x.c2
 have y2:=J3.out.y.c2
 go_wp2_with fail
 clear x2 y2
 (with_reducible refine HD.out.mono ?_)
 rintro e w6 ⟨da,dk,dc,rfl,hd,b6⟩
 have J6:=Zh (J3.out.keep b6)
 have P6:=Zh (P3.out.below b6)
 have Q6:=Zh (Q3_.out.below b6)
 have D6:=Zh hd
 clear hd b6 HD J3 P3 Q3_ E1 E2
 have c0:=J6.out.x.c0
 have d0:=J6.out.y.c0
 by_cases hb:f.b=q.b
 ·have hbq:(f.b == q.b)=true:=by rw[hb];simp
  have HB:=Zh hb
  clear hb
  go_wp2_with fail
  clear hbq c0 d0
  refine wp_region_noPanic ?_
  refine wp_region_held_drew (S:=S6f w.heap.size f q) (by kernel_rfl) (J6.out.keep (Below.refl _ _).drew).s6 (fun hS=>?_)
  have J_0:=Zh (J6.out.keep (Below.refl _ _).drew)
  have D_0:=Zh (D6.out.below (Below.refl _ _).drew)
  have P_0:=Zh (P6.out.below (Below.refl _ _).drew)
  have Q_0:=Zh (Q6.out.below (Below.refl _ _).drew)
  clear J6 D6 P6 Q6
  refine Zt (i:=0) (v:=?v0z39) rfl (Or.inl ⟨by rfl,?hy0z39⟩) ?rest0z39
  case hy0z39=>
   intro w hSw
   dsimp only[S6f]at hSw
   go_simp
   try with_reducible rfl
  simp only[Act.put,Zd,Ze,Zf,Za,Zb,Zc]
  refine Zt (i:=1) (v:=?v1z40) rfl (Or.inl ⟨by rfl,?hy1z40⟩) ?rest1z40
  case hy1z40=>
   intro w hSw
   dsimp only[S6f]at hSw
   go_simp
   try with_reducible rfl
  simp only[Act.put,Zd,Ze,Zf,Za,Zb,Zc]
  refine Zt (i:=2) (v:=?v2z41) rfl (Or.inl ⟨by rfl,?hy2z41⟩) ?rest2z41
  case hy2z41=>
   intro w hSw
   dsimp only[S6f]at hSw
   go_simp
   try with_reducible rfl
  simp only[Act.put,Zd,Ze,Zf,Za,Zb,Zc]
  refine Zt (i:=3) (v:=?v3z42) rfl (Or.inl ⟨by rfl,?hy3z42⟩) ?rest3z42
  case hy3z42=>
   intro w hSw
   dsimp only[S6f]at hSw
   go_simp
   try with_reducible rfl
  simp only[Act.put,Zd,Ze,Zf,Za,Zb,Zc]
  refine Zt (i:=5) (v:=?v5z43) rfl (Or.inl ⟨by rfl,?hy5z43⟩) ?rest5z43
  case hy5z43=>
   intro w hSw
   dsimp only[S6f]at hSw
   go_simp
   try with_reducible rfl
  simp only[Act.put,Zd,Ze,Zf,Za,Zb,Zc]
  refine wpAnyH_ready (rs:=[4]) (by kernel_rfl) (by simp) ?_
  refine AllReadyH.cons rfl (fun K hK=>?_) AllReadyH.nil
  go_simp
  (refine (nplus_c pa qa pk qk pc qc _ _ _ P_0.out Q_0.out (by have:=P_0.out.len lp.out;omega) (by have:=Q_0.out.len lq.out;omega)).mono ?_)
  rintro e V4J_1 ⟨na,nk,nc,rfl,hn,bc⟩
  try go_simp
  have J_1:=Zh (J_0.out.keep bc)
  have D_1:=Zh (D_0.out.below bc)
  have N_1:=Zh hn
  have hT:=J_1.out.s6
  refine hK.out _ _ hT (fun _=>?_)
  clear hK K hS bc J_0 D_0 hn
  have hS:=hT
  clear hT
  try simp only[Act.put,Za,Zb,Zc]
  clear P_0 Q_0
  refine Zt (i:=6) (v:=?v6z44) rfl (Or.inl ⟨by rfl,?hy6z44⟩) ?rest6z44
  case hy6z44=>
   intro w hSw
   dsimp only[S6f]at hSw
   go_simp
   try with_reducible rfl
  simp only[Act.put,Zd,Ze,Zf,Za,Zb,Zc]
  have HR:=fun W (x1:Nt W na nk nc (n1*d2+n2*d1)) (x2:Nt W da dk dc (d1*d2))=>reduced_c f.b na da nc dc nk dk (n1*d2+n2*d1) (d1*d2) W x1 x2 ld.out.2 (Nat.lt_of_lt_of_le (tp_sumX lp.out lq.out) (tp_mono (by omega))) (Nat.lt_of_lt_of_le ld.out.1 (tp_mono (by omega)))
  have ev:sg f.b (n1*d2+n2*d1)=sg f.b (n1*d2)+sg q.b (n2*d1):=by rw[sg_same,HB.out]
  rw[ev]at HR
  have HR:=Zh HR
  clear ev
  refine wpAnyH_ready (rs:=[7]) (by kernel_rfl) (by simp) ?_
  refine AllReadyH.cons rfl (fun K hK=>?_) AllReadyH.nil
  go_simp
  (refine (HR.out _ N_1.out D_1.out).mono ?_)
  rintro e V7J_2 ⟨sb,n',d',⟨qa,qk,qc,pa,pk,pc,rfl,rn,rd,bc⟩,hd',hv,hsz⟩
  try go_simp
  have J_2:=Zh (J_1.out.keep bc)
  have RN:=Zh rn
  have RD:=Zh rd
  have RV:=Zh (And.intro hd' (And.intro hv hsz))
  have hT:=J_2.out.s6
  refine hK.out _ _ hT (fun _=>?_)
  clear hK K hS bc J_1  rn rd
  have hS:=hT
  clear hT
  try simp only[Act.put,Za,Zb,Zc]
  clear N_1 D_1 HR
  refine wpAnyH_ready (rs:=[8]) (by kernel_rfl) (by simp) ?_
  refine AllReadyH.cons rfl (fun K hK=>?_) AllReadyH.nil
  have q0:=J_2.out.r.c0
  have q1:=J_2.out.r.c1
  have q2:=J_2.out.r.c2
  have g0:=J_2.out.r.fr 0
  have g1:=J_2.out.r.fr 1
  have g2:=J_2.out.r.fr 2
  go_simp
  clear q0 q1 q2 g0 g1 g2
  have hT:=J_2.out.done (.bool sb) (.slice qa qk qc) (.slice pa pk pc)
  have R9:=J_2.out.r.set (.bool sb) (.slice qa qk qc) (.slice pa pk pc)
  have PP:Hid (FvP (sg f.b (n1*d2)+sg q.b (n2*d1)) (d1*d2) w (.returned (.agg #[.bool sb,.slice qa qk qc,.slice pa pk pc])) (trio _ (w.heap.size+1+1) (.bool sb) (.slice qa qk qc) (.slice pa pk pc))):=
   ⟨sb,n',d',⟨_,_,_,_,_,_,rfl,RN.out.trio J_2.out.r (NI.b _) (NI.s _ _ _) (NI.s _ _ _) _ _ _,RD.out.trio J_2.out.r (NI.b _) (NI.s _ _ _) (NI.s _ _ _) _ _ _,below_trio J_2.out.bel (by omega) _ _ _⟩,RV.out.1,RV.out.2.1,RV.out.2.2⟩
  clear RN RD RV
  unfold trio at hT R9 PP
  refine hK.out _ _ hT (fun _=>?_)
  clear hK K hS
  try simp only[Act.put,Za,Zb,Zc]
  refine wpAnyH_done (by kernel_rfl) ?_ _
  refine NoPanic.normal ?_
  obtain⟨r0,r1,r2,_,_⟩:=id R9
  clear hT R9
  go_wp2_with fail
  exact bodyPost_ret (v:=.agg #[.bool sb,.slice qa qk qc,.slice pa pk pc]) (by simp[results,Tryz.results30,go_sem,r0,r1,r2]) rfl PP.out
 ·have hbq:(f.b == q.b)=false:=by rw[beq_eq_false_iff_ne];exact hb
  have HB:=Zh hb
  clear hb
  have HO:=Zh (norder_c pa qa pk qk pc qc _ _ w6 P6.out Q6.out)
  by_cases hle:n2*d1≤n1*d2
  ·have HLE:=Zh hle
   obtain⟨so,hso⟩:∃ so,sgn (n1*d2) (n2*d1)=so:=⟨_,rfl⟩
   have hs0:0≤so:=by rw[←hso];unfold sgn;split<;>(try split)<;>omega
   rw[hso]at HO
   clear hso hle
   go_wp2_with fail
   clear hbq c0 d0
   (with_reducible refine HO.out.mono ?_)
   rintro e w8 ⟨rfl,m,rfl⟩
   have b8:=bel_drewN w6 m
   have J7:=Zh (J6.out.keep b8)
   have D7:=Zh (D6.out.below b8)
   have P7:=Zh (P6.out.below b8)
   have Q7:=Zh (Q6.out.below b8)
   clear J6 D6 P6 Q6 b8 HO
   generalize w6.drewN m=W7 at *
   go_wp2_with fail
   clear hs0
   refine wp_region_noPanic ?_
   refine wp_region_held_drew (S:=S6f w.heap.size f q) (by kernel_rfl) (J7.out.keep (Below.refl _ _).drew).s6 (fun hS=>?_)
   have J_0:=Zh (J7.out.keep (Below.refl _ _).drew)
   have D_0:=Zh (D7.out.below (Below.refl _ _).drew)
   have P_0:=Zh (P7.out.below (Below.refl _ _).drew)
   have Q_0:=Zh (Q7.out.below (Below.refl _ _).drew)
   clear J7 D7 P7 Q7
   refine Zt (i:=0) (v:=?v0z45) rfl (Or.inl ⟨by rfl,?hy0z45⟩) ?rest0z45
   case hy0z45=>
    intro w hSw
    dsimp only[S6f]at hSw
    go_simp
    try with_reducible rfl
   simp only[Act.put,Zd,Ze,Zf,Za,Zb,Zc]
   refine Zt (i:=1) (v:=?v1z46) rfl (Or.inl ⟨by rfl,?hy1z46⟩) ?rest1z46
   case hy1z46=>
    intro w hSw
    dsimp only[S6f]at hSw
    go_simp
    try with_reducible rfl
   simp only[Act.put,Zd,Ze,Zf,Za,Zb,Zc]
   refine Zt (i:=2) (v:=?v2z47) rfl (Or.inl ⟨by rfl,?hy2z47⟩) ?rest2z47
   case hy2z47=>
    intro w hSw
    dsimp only[S6f]at hSw
    go_simp
    try with_reducible rfl
   simp only[Act.put,Zd,Ze,Zf,Za,Zb,Zc]
   refine Zt (i:=3) (v:=?v3z48) rfl (Or.inl ⟨by rfl,?hy3z48⟩) ?rest3z48
   case hy3z48=>
    intro w hSw
    dsimp only[S6f]at hSw
    go_simp
    try with_reducible rfl
   simp only[Act.put,Zd,Ze,Zf,Za,Zb,Zc]
   refine Zt (i:=5) (v:=?v5z49) rfl (Or.inl ⟨by rfl,?hy5z49⟩) ?rest5z49
   case hy5z49=>
    intro w hSw
    dsimp only[S6f]at hSw
    go_simp
    try with_reducible rfl
   simp only[Act.put,Zd,Ze,Zf,Za,Zb,Zc]
   refine wpAnyH_ready (rs:=[4]) (by kernel_rfl) (by simp) ?_
   refine AllReadyH.cons rfl (fun K hK=>?_) AllReadyH.nil
   go_simp
   (refine (nminus_c pa qa pk qk pc qc _ _ _ P_0.out Q_0.out HLE.out (by have:=P_0.out.len lp.out;omega)).mono ?_)
   rintro e V4J_1 ⟨na,nk,nc,rfl,hn,bc⟩
   try go_simp
   have J_1:=Zh (J_0.out.keep bc)
   have D_1:=Zh (D_0.out.below bc)
   have N_1:=Zh hn
   have hT:=J_1.out.s6
   refine hK.out _ _ hT (fun _=>?_)
   clear hK K hS bc J_0 D_0 hn
   have hS:=hT
   clear hT
   try simp only[Act.put,Za,Zb,Zc]
   clear P_0 Q_0
   refine Zt (i:=6) (v:=?v6z50) rfl (Or.inl ⟨by rfl,?hy6z50⟩) ?rest6z50
   case hy6z50=>
    intro w hSw
    dsimp only[S6f]at hSw
    go_simp
    try with_reducible rfl
   simp only[Act.put,Zd,Ze,Zf,Za,Zb,Zc]
   have HR:=fun W (x1:Nt W na nk nc (n1*d2-n2*d1)) (x2:Nt W da dk dc (d1*d2))=>reduced_c f.b na da nc dc nk dk (n1*d2-n2*d1) (d1*d2) W x1 x2 ld.out.2 (Nat.lt_of_lt_of_le (Nat.lt_of_le_of_lt (Nat.sub_le _ _) lp.out) (tp_mono (by omega))) (Nat.lt_of_lt_of_le ld.out.1 (tp_mono (by omega)))
   have ev:sg f.b (n1*d2-n2*d1)=sg f.b (n1*d2)+sg q.b (n2*d1):=by rw[sg_diff HB.out HLE.out]
   rw[ev]at HR
   have HR:=Zh HR
   clear ev
   refine wpAnyH_ready (rs:=[7]) (by kernel_rfl) (by simp) ?_
   refine AllReadyH.cons rfl (fun K hK=>?_) AllReadyH.nil
   go_simp
   (refine (HR.out _ N_1.out D_1.out).mono ?_)
   rintro e V7J_2 ⟨sb,n',d',⟨qa,qk,qc,pa,pk,pc,rfl,rn,rd,bc⟩,hd',hv,hsz⟩
   try go_simp
   have J_2:=Zh (J_1.out.keep bc)
   have RN:=Zh rn
   have RD:=Zh rd
   have RV:=Zh (And.intro hd' (And.intro hv hsz))
   have hT:=J_2.out.s6
   refine hK.out _ _ hT (fun _=>?_)
   clear hK K hS bc J_1  rn rd
   have hS:=hT
   clear hT
   try simp only[Act.put,Za,Zb,Zc]
   clear N_1 D_1 HR
   refine wpAnyH_ready (rs:=[8]) (by kernel_rfl) (by simp) ?_
   refine AllReadyH.cons rfl (fun K hK=>?_) AllReadyH.nil
   have q0:=J_2.out.r.c0
   have q1:=J_2.out.r.c1
   have q2:=J_2.out.r.c2
   have g0:=J_2.out.r.fr 0
   have g1:=J_2.out.r.fr 1
   have g2:=J_2.out.r.fr 2
   go_simp
   clear q0 q1 q2 g0 g1 g2
   have hT:=J_2.out.done (.bool sb) (.slice qa qk qc) (.slice pa pk pc)
   have R9:=J_2.out.r.set (.bool sb) (.slice qa qk qc) (.slice pa pk pc)
   have PP:Hid (FvP (sg f.b (n1*d2)+sg q.b (n2*d1)) (d1*d2) w (.returned (.agg #[.bool sb,.slice qa qk qc,.slice pa pk pc])) (trio _ (w.heap.size+1+1) (.bool sb) (.slice qa qk qc) (.slice pa pk pc))):=
    ⟨sb,n',d',⟨_,_,_,_,_,_,rfl,RN.out.trio J_2.out.r (NI.b _) (NI.s _ _ _) (NI.s _ _ _) _ _ _,RD.out.trio J_2.out.r (NI.b _) (NI.s _ _ _) (NI.s _ _ _) _ _ _,below_trio J_2.out.bel (by omega) _ _ _⟩,RV.out.1,RV.out.2.1,RV.out.2.2⟩
   clear RN RD RV
   unfold trio at hT R9 PP
   refine hK.out _ _ hT (fun _=>?_)
   clear hK K hS
   try simp only[Act.put,Za,Zb,Zc]
   refine wpAnyH_done (by kernel_rfl) ?_ _
   refine NoPanic.normal ?_
   obtain⟨r0,r1,r2,_,_⟩:=id R9
   clear hT R9
   go_wp2_with fail
   exact bodyPost_ret (v:=.agg #[.bool sb,.slice qa qk qc,.slice pa pk pc]) (by simp[results,Tryz.results30,go_sem,r0,r1,r2]) rfl PP.out
  ·have HLE:Hid (n1*d2≤n2*d1):=by unfold Hid;omega
   obtain⟨so,hso⟩:∃ so,sgn (n1*d2) (n2*d1)=so:=⟨_,rfl⟩
   have hs0:¬ 0≤so:=by rw[←hso];rw[sgn_lt (by omega)];decide
   rw[hso]at HO
   clear hso hle
   go_wp2_with fail
   clear hbq c0 d0
   (with_reducible refine HO.out.mono ?_)
   rintro e w8 ⟨rfl,m,rfl⟩
   have b8:=bel_drewN w6 m
   have J7:=Zh (J6.out.keep b8)
   have D7:=Zh (D6.out.below b8)
   have P7:=Zh (P6.out.below b8)
   have Q7:=Zh (Q6.out.below b8)
   clear J6 D6 P6 Q6 b8 HO
   generalize w6.drewN m=W7 at *
   go_wp2_with fail
   clear hs0
   refine wp_region_noPanic ?_
   refine wp_region_held_drew (S:=S6f w.heap.size f q) (by kernel_rfl) (J7.out.keep (Below.refl _ _).drew).s6 (fun hS=>?_)
   have J_0:=Zh (J7.out.keep (Below.refl _ _).drew)
   have D_0:=Zh (D7.out.below (Below.refl _ _).drew)
   have P_0:=Zh (P7.out.below (Below.refl _ _).drew)
   have Q_0:=Zh (Q7.out.below (Below.refl _ _).drew)
   clear J7 D7 P7 Q7
   refine Zt (i:=0) (v:=?v0z51) rfl (Or.inl ⟨by rfl,?hy0z51⟩) ?rest0z51
   case hy0z51=>
    intro w hSw
    dsimp only[S6f]at hSw
    go_simp
    try with_reducible rfl
   simp only[Act.put,Zd,Ze,Zf,Za,Zb,Zc]
   refine Zt (i:=1) (v:=?v1z52) rfl (Or.inl ⟨by rfl,?hy1z52⟩) ?rest1z52
   case hy1z52=>
    intro w hSw
    dsimp only[S6f]at hSw
    go_simp
    try with_reducible rfl
   simp only[Act.put,Zd,Ze,Zf,Za,Zb,Zc]
   refine Zt (i:=2) (v:=?v2z53) rfl (Or.inl ⟨by rfl,?hy2z53⟩) ?rest2z53
   case hy2z53=>
    intro w hSw
    dsimp only[S6f]at hSw
    go_simp
    try with_reducible rfl
   simp only[Act.put,Zd,Ze,Zf,Za,Zb,Zc]
   refine Zt (i:=3) (v:=?v3z54) rfl (Or.inl ⟨by rfl,?hy3z54⟩) ?rest3z54
   case hy3z54=>
    intro w hSw
    dsimp only[S6f]at hSw
    go_simp
    try with_reducible rfl
   simp only[Act.put,Zd,Ze,Zf,Za,Zb,Zc]
   refine Zt (i:=5) (v:=?v5z55) rfl (Or.inl ⟨by rfl,?hy5z55⟩) ?rest5z55
   case hy5z55=>
    intro w hSw
    dsimp only[S6f]at hSw
    go_simp
    try with_reducible rfl
   simp only[Act.put,Zd,Ze,Zf,Za,Zb,Zc]
   refine wpAnyH_ready (rs:=[4]) (by kernel_rfl) (by simp) ?_
   refine AllReadyH.cons rfl (fun K hK=>?_) AllReadyH.nil
   go_simp
   (refine (nminus_c qa pa qk pk qc pc _ _ _ Q_0.out P_0.out HLE.out (by have:=Q_0.out.len lq.out;omega)).mono ?_)
   rintro e V4J_1 ⟨na,nk,nc,rfl,hn,bc⟩
   try go_simp
   have J_1:=Zh (J_0.out.keep bc)
   have D_1:=Zh (D_0.out.below bc)
   have N_1:=Zh hn
   have hT:=J_1.out.s6
   refine hK.out _ _ hT (fun _=>?_)
   clear hK K hS bc J_0 D_0 hn
   have hS:=hT
   clear hT
   try simp only[Act.put,Za,Zb,Zc]
   clear P_0 Q_0
   refine Zt (i:=6) (v:=?v6z56) rfl (Or.inl ⟨by rfl,?hy6z56⟩) ?rest6z56
   case hy6z56=>
    intro w hSw
    dsimp only[S6f]at hSw
    go_simp
    try with_reducible rfl
   simp only[Act.put,Zd,Ze,Zf,Za,Zb,Zc]
   have HR:=fun W (x1:Nt W na nk nc (n2*d1-n1*d2)) (x2:Nt W da dk dc (d1*d2))=>reduced_c q.b na da nc dc nk dk (n2*d1-n1*d2) (d1*d2) W x1 x2 ld.out.2 (Nat.lt_of_lt_of_le (Nat.lt_of_le_of_lt (Nat.sub_le _ _) lq.out) (tp_mono (by omega))) (Nat.lt_of_lt_of_le ld.out.1 (tp_mono (by omega)))
   have ev:sg q.b (n2*d1-n1*d2)=sg f.b (n1*d2)+sg q.b (n2*d1):=by rw[sg_diff (Ne.symm HB.out) HLE.out,Int.add_comm]
   rw[ev]at HR
   have HR:=Zh HR
   clear ev
   refine wpAnyH_ready (rs:=[7]) (by kernel_rfl) (by simp) ?_
   refine AllReadyH.cons rfl (fun K hK=>?_) AllReadyH.nil
   go_simp
   (refine (HR.out _ N_1.out D_1.out).mono ?_)
   rintro e V7J_2 ⟨sb,n',d',⟨qa,qk,qc,pa,pk,pc,rfl,rn,rd,bc⟩,hd',hv,hsz⟩
   try go_simp
   have J_2:=Zh (J_1.out.keep bc)
   have RN:=Zh rn
   have RD:=Zh rd
   have RV:=Zh (And.intro hd' (And.intro hv hsz))
   have hT:=J_2.out.s6
   refine hK.out _ _ hT (fun _=>?_)
   clear hK K hS bc J_1  rn rd
   have hS:=hT
   clear hT
   try simp only[Act.put,Za,Zb,Zc]
   clear N_1 D_1 HR
   refine wpAnyH_ready (rs:=[8]) (by kernel_rfl) (by simp) ?_
   refine AllReadyH.cons rfl (fun K hK=>?_) AllReadyH.nil
   have q0:=J_2.out.r.c0
   have q1:=J_2.out.r.c1
   have q2:=J_2.out.r.c2
   have g0:=J_2.out.r.fr 0
   have g1:=J_2.out.r.fr 1
   have g2:=J_2.out.r.fr 2
   go_simp
   clear q0 q1 q2 g0 g1 g2
   have hT:=J_2.out.done (.bool sb) (.slice qa qk qc) (.slice pa pk pc)
   have R9:=J_2.out.r.set (.bool sb) (.slice qa qk qc) (.slice pa pk pc)
   have PP:Hid (FvP (sg f.b (n1*d2)+sg q.b (n2*d1)) (d1*d2) w (.returned (.agg #[.bool sb,.slice qa qk qc,.slice pa pk pc])) (trio _ (w.heap.size+1+1) (.bool sb) (.slice qa qk qc) (.slice pa pk pc))):=
    ⟨sb,n',d',⟨_,_,_,_,_,_,rfl,RN.out.trio J_2.out.r (NI.b _) (NI.s _ _ _) (NI.s _ _ _) _ _ _,RD.out.trio J_2.out.r (NI.b _) (NI.s _ _ _) (NI.s _ _ _) _ _ _,below_trio J_2.out.bel (by omega) _ _ _⟩,RV.out.1,RV.out.2.1,RV.out.2.2⟩
   clear RN RD RV
   unfold trio at hT R9 PP
   refine hK.out _ _ hT (fun _=>?_)
   clear hK K hS
   try simp only[Act.put,Za,Zb,Zc]
   refine wpAnyH_done (by kernel_rfl) ?_ _
   refine NoPanic.normal ?_
   obtain⟨r0,r1,r2,_,_⟩:=id R9
   clear hT R9
   go_wp2_with fail
   exact bodyPost_ret (v:=.agg #[.bool sb,.slice qa qk qc,.slice pa pk pc]) (by simp[results,Tryz.results30,go_sem,r0,r1,r2]) rfl PP.out
end Go.Proofs.YtghgbhmiliiohaaGreatDoor
