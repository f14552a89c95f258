/-
  Numbers of the reference: their decimal texts.
-/
import Derived.Test.YtghgbhmiliiohaaGreatDoorAMQ
import Derived.Test.YtghgbhmiliiohaaGreatDoorAM34
import Derived.Test.YtghgbhmiliiohaaGreatDoorAM27
import Derived.Test.YtghgbhmiliiohaaGreatDoorAM32
import Derived.Test.YtghgbhmiliiohaaGreatDoorAM20
import Derived.Lib.SmallJoins
import Derived.Lib.AppendStr
import Derived.Lib.AppendIntMem
import Derived.Lib.QuietBelow
set_option maxRecDepth 100000
namespace Go.Proofs.YtghgbhmiliiohaaGreatDoor
open Go.RowKit
theorem sg_not(b:Bool)(n:Nat):sg (!b) n=-(sg b n):=by cases b<;>simp[sg]
set_option maxHeartbeats 4000000 in
theorem opposite_c(b:Bool) (a a2:Option Addr) (k k2 c c2:Nat) (w:World) :
  Calls Tryz.prog 44 #[.agg #[.bool b,.slice a k c,.slice a2 k2 c2]] w fun e w'=>e=.returned (.agg #[.bool (!b),.slice a k c,.slice a2 k2 c2])∧Below w.heap.size w w':=by
 obtain⟨W0,hW0⟩:∃ W0,(w.alloc (.cells #[.bool b,.slice a k c,.slice a2 k2 c2] 51)).alloc (.cells #[.bool false,.slice none 0 0,.slice none 0 0] 51)=W0:=⟨_,rfl⟩
 have J0:Hid (Lo w b a k c a2 k2 c2 W0):=by rw[←hW0];exact Lo.made _ _ _ _ _ _ _ _ _ _
 obtain⟨WX,hWX⟩:∃ WX,trio W0 (w.heap.size+1) (.bool (!b)) (.slice a k c) (.slice a2 k2 c2)=WX:=⟨_,rfl⟩
 have RX:Q3 WX (w.heap.size+1) (.bool (!b)) (.slice a k c) (.slice a2 k2 c2):=by rw[←hWX];exact J0.out.r.set _ _ _
 have BX:Hid (Below w.heap.size w WX):=by rw[←hWX];exact below_trio J0.out.bel (Nat.le_succ _) _ _ _
 have x0:=J0.out.x.c0
 have x1:=J0.out.x.c1
 have x2:=J0.out.x.c2
 obtain⟨r0,r1,r2,rf,_⟩:=J0.out.r
 have rf0:=rf 0
 have rf1:=rf 1
 have rf2:=rf 2
 obtain⟨t0,t1,t2,_,_⟩:=id RX
 clear RX rf J0
 unfold trio at hWX
 go_enter Tryz.func44,Tryz.ntmps44
 go_wp2_with fail
 exact bodyPost_ret (v:=.agg #[.bool (!b),.slice a k c,.slice a2 k2 c2]) (by simp[results,Tryz.results44,go_sem,t0,t1,t2]) rfl ⟨rfl,BX.out⟩
set_option maxHeartbeats 4000000 in
theorem minus_c(f q:Fa) (n1 d1 n2 d2:Nat) (w:World) (h1:Fn w f n1 d1) (h2:Fn w q n2 d2) :
  Calls Tryz.prog 19 #[.agg #[.bool f.b,.slice f.a f.k f.c,.slice f.a' f.k' f.c'],.agg #[.bool q.b,.slice q.a q.k q.c,.slice q.a' q.k' q.c']] w (FvP (sg f.b (n1*d2)-sg q.b (n2*d1)) (d1*d2) w):=by
 obtain⟨W0,hW0⟩:∃ W0,((w.alloc (.cells #[.bool f.b,.slice f.a f.k f.c,.slice f.a' f.k' f.c'] 51)).alloc (.cells #[.bool q.b,.slice q.a q.k q.c,.slice q.a' q.k' q.c'] 51)).alloc (.cells #[.bool false,.slice none 0 0,.slice none 0 0] 51)=W0:=⟨_,rfl⟩
 have J0:Hid (Ar w f q W0):=by rw[←hW0];exact Ar.made _ _ _ _ _ _
 have L1:=Zh (h1.below J0.out.bel)
 have L2:=Zh (h2.below J0.out.bel)
 have HP:Hid (∀ W,Fn W f n1 d1→Fn W q n2 d2→Calls Tryz.prog 30 #[.agg #[.bool f.b,.slice f.a f.k f.c,.slice f.a' f.k' f.c'],.agg #[.bool (!q.b),.slice q.a q.k q.c,.slice q.a' q.k' q.c']] W (FvP (sg f.b (n1*d2)-sg q.b (n2*d1)) (d1*d2) W)):=fun W u v=>by
  have h:=plus_c f ⟨!q.b,q.a,q.k,q.c,q.a',q.k',q.c'⟩ n1 d1 n2 d2 W u ⟨v.n,v.d,v.pos,v.ln,v.ld⟩
  have e:sg f.b (n1*d2)+sg (!q.b) (n2*d1)=sg f.b (n1*d2)-sg q.b (n2*d1):=by rw[sg_not,Int.sub_eq_add_neg]
  rw[←e]
  exact h
 clear h1 h2
 go_enter Tryz.func19,Tryz.ntmps19
 go_wp2_with fail
 clear hW0
 refine wp_region_noPanic ?_
 refine wp_region_held_drew (S:=S6f w.heap.size f q) (by kernel_rfl) (J0.out.keep (Below.refl _ _).drew).s6 (fun hS=>?_)
 have J1:=Zh (J0.out.keep (Below.refl _ _).drew)
 have M1:=Zh (L1.out.below (Below.refl _ _).drew)
 have M2:=Zh (L2.out.below (Below.refl _ _).drew)
 clear J0 L1 L2
 refine Zt (i:=0) (v:=?v0z1) rfl (Or.inl ⟨by rfl,?hy0z1⟩) ?rest0z1
 case hy0z1=>
  intro w hSw
  dsimp only[S6f]at hSw
  go_simp
  try with_reducible rfl
 simp only[Act.put,Zd,Ze,Zf,Za,Zb,Zc]
 refine Zt (i:=1) (v:=?v1z2) rfl (Or.inl ⟨by rfl,?hy1z2⟩) ?rest1z2
 case hy1z2=>
  intro w hSw
  dsimp only[S6f]at hSw
  go_simp
  try with_reducible rfl
 simp only[Act.put,Zd,Ze,Zf,Za,Zb,Zc]
 refine wpAnyH_ready (rs:=[2]) (by kernel_rfl) (by simp) ?_
 refine AllReadyH.cons rfl (fun K hK=>?_) AllReadyH.nil
 go_simp
 (refine (opposite_c q.b q.a q.a' q.k q.k' q.c q.c' _).mono ?_)
 rintro e V2J2 ⟨rfl,bc⟩
 try go_simp
 have J2:=Zh (J1.out.keep bc)
 have A1:=Zh (M1.out.below bc)
 have A2:=Zh (M2.out.below bc)
 have hT:=J2.out.s6
 refine hK.out _ _ hT (fun _=>?_)
 clear hK K hS bc J1 M1 M2
 have hS:=hT
 clear hT
 try simp only[Act.put,Za,Zb,Zc]
 refine wpAnyH_ready (rs:=[3]) (by kernel_rfl) (by simp) ?_
 refine AllReadyH.cons rfl (fun K hK=>?_) AllReadyH.nil
 go_simp
 (refine (HP.out _ A1.out A2.out).mono ?_)
 rintro e V3J4 ⟨sb,n',d',⟨qa,qk,qc,pa,pk,pc,rfl,rn,rd,bc⟩,hd',hv,hsz⟩
 try go_simp
 have J4:=Zh (J2.out.keep bc)
 have RN:=Zh rn
 have RD:=Zh rd
 have RV:=Zh (And.intro hd' (And.intro hv hsz))
 have hT:=J4.out.s6
 refine hK.out _ _ hT (fun _=>?_)
 clear hK K hS bc J2  rn rd
 have hS:=hT
 clear hT
 try simp only[Act.put,Za,Zb,Zc]
 clear A1 A2 HP
 refine wpAnyH_ready (rs:=[4]) (by kernel_rfl) (by simp) ?_
 refine AllReadyH.cons rfl (fun K hK=>?_) AllReadyH.nil
 have q0:=J4.out.r.c0
 have q1:=J4.out.r.c1
 have q2:=J4.out.r.c2
 have g0:=J4.out.r.fr 0
 have g1:=J4.out.r.fr 1
 have g2:=J4.out.r.fr 2
 go_simp
 clear q0 q1 q2 g0 g1 g2
 have hT:=J4.out.done (.bool sb) (.slice qa qk qc) (.slice pa pk pc)
 have R9:=J4.out.r.set (.bool sb) (.slice qa qk qc) (.slice pa pk pc)
 have PP:Hid (FvP (sg f.b (n1*d2)-sg q.b (n2*d1)) (d1*d2) w (.returned (.agg #[.bool sb,.slice qa qk qc,.slice pa pk pc])) (trio _ (w.heap.size+1+1) (.bool sb) (.slice qa qk qc) (.slice pa pk pc))):=
  ⟨sb,n',d',⟨_,_,_,_,_,_,rfl,RN.out.trio J4.out.r (NI.b _) (NI.s _ _ _) (NI.s _ _ _) _ _ _,RD.out.trio J4.out.r (NI.b _) (NI.s _ _ _) (NI.s _ _ _) _ _ _,below_trio J4.out.bel (by omega) _ _ _⟩,RV.out.1,RV.out.2.1,RV.out.2.2⟩
 clear RN RD RV
 unfold trio at hT R9 PP
 refine hK.out _ _ hT (fun _=>?_)
 clear hK K hS
 try simp only[Act.put,Za,Zb,Zc]
 refine wpAnyH_done (by kernel_rfl) ?_ _
 refine NoPanic.normal ?_
 obtain⟨r0,r1,r2,_,_⟩:=id R9
 clear hT R9
 go_wp2_with fail
 exact bodyPost_ret (v:=.agg #[.bool sb,.slice qa qk qc,.slice pa pk pc]) (by simp[results,Tryz.results19,go_sem,r0,r1,r2]) rfl PP.out
set_option maxHeartbeats 4000000 in
theorem xpart_c(x y:Nat) (w:World) (hx:x<9223372036854775808) (hy:y<9223372036854775808) :
  Calls Tryz.prog 18 #[.int .i64 x,.int .i64 y] w (FqP false x y w):=by
 obtain⟨W0,hW0⟩:∃ W0,w.alloc (.cells #[.bool false,.slice none 0 0,.slice none 0 0] 51)=W0:=⟨_,rfl⟩
 have J0:Hid (Q3 W0 w.heap.size (.bool false) (.slice none 0 0) (.slice none 0 0)):=by rw[←hW0];exact Q3.made _ _ _ _ _
 have B0:Hid (Below w.heap.size w W0):=by rw[←hW0];exact bel_one _ _
 have H1:=Zh (fun W=>nsmall_c (x) W hx)
 have H2:=Zh (fun W=>nsmall_c (y) W hy)
 go_enter Tryz.func18,Tryz.ntmps18
 go_wp2_with fail
 clear hW0
 refine (H1.out _).mono ?_
 rintro e w1 ⟨qa,qk,qc,rfl,l1,b1⟩
 have J1:=Zh (J0.out.keep b1)
 have B1:=Zh (B0.out.trans (b1.mono B0.out.size))
 have L1:=Zh l1
 clear J0 B0 l1 b1 H1
 go_wp2_with fail
 refine (H2.out _).mono ?_
 rintro e w2 ⟨pa,pk,pc,rfl,l2,b2⟩
 have J2:=Zh (J1.out.keep b2)
 have B2:=Zh (B1.out.trans (b2.mono B1.out.size))
 have L12:=Zh (L1.out.below b2)
 have L2:=Zh l2
 clear J1 B1 L1 l2 b2 H2
 obtain⟨WX,hWX⟩:∃ WX,trio w2 w.heap.size (.bool false) (.slice qa qk qc) (.slice pa pk pc)=WX:=⟨_,rfl⟩
 have RX:Q3 WX w.heap.size (.bool false) (.slice qa qk qc) (.slice pa pk pc):=by rw[←hWX];exact J2.out.set _ _ _
 have PP:Hid (FqP false (x) (y) w (.returned (.agg #[.bool false,.slice qa qk qc,.slice pa pk pc])) WX):=by
  rw[←hWX]
  exact⟨_,_,_,_,_,_,rfl,L12.out.trio J2.out (NI.b _) (NI.s _ _ _) (NI.s _ _ _) _ _ _,L2.out.trio J2.out (NI.b _) (NI.s _ _ _) (NI.s _ _ _) _ _ _,below_trio B2.out (Nat.le_refl _) _ _ _⟩
 obtain⟨r0,r1,r2,rf,_⟩:=J2.out
 have rf0:=rf 0
 have rf1:=rf 1
 have rf2:=rf 2
 obtain⟨t0,t1,t2,_,_⟩:=id RX
 clear RX rf J2 L12 L2 B2
 unfold trio at hWX
 go_wp2_with fail
 exact bodyPost_ret (v:=.agg #[.bool false,.slice qa qk qc,.slice pa pk pc]) (by simp[results,Tryz.results18,go_sem,t0,t1,t2]) rfl PP.out
set_option maxHeartbeats 4000000 in
theorem whole_pos(x:Nat) (w:World) (hx:x<9223372036854775808) :
  Calls Tryz.prog 16 #[.int .i64 x] w (FqP false x 1 w):=by
 obtain⟨W0,hW0⟩:∃ W0,w.alloc (.cells #[.bool false,.slice none 0 0,.slice none 0 0] 51)=W0:=⟨_,rfl⟩
 have J0:Hid (Q3 W0 w.heap.size (.bool false) (.slice none 0 0) (.slice none 0 0)):=by rw[←hW0];exact Q3.made _ _ _ _ _
 have B0:Hid (Below w.heap.size w W0):=by rw[←hW0];exact bel_one _ _
 have hxI:¬ (x:Int)<0:=by omega
 have H1:=Zh (fun W=>nsmall_c (x) W hx)
 have H2:=Zh (fun W=>nsmall_c (1) W (by decide))
 go_enter Tryz.func16,Tryz.ntmps16
 go_wp2_with fail
 clear hW0
 refine (H1.out _).mono ?_
 rintro e w1 ⟨qa,qk,qc,rfl,l1,b1⟩
 have J1:=Zh (J0.out.keep b1)
 have B1:=Zh (B0.out.trans (b1.mono B0.out.size))
 have L1:=Zh l1
 clear J0 B0 l1 b1 H1
 go_wp2_with fail
 refine (H2.out _).mono ?_
 rintro e w2 ⟨pa,pk,pc,rfl,l2,b2⟩
 have J2:=Zh (J1.out.keep b2)
 have B2:=Zh (B1.out.trans (b2.mono B1.out.size))
 have L12:=Zh (L1.out.below b2)
 have L2:=Zh l2
 clear J1 B1 L1 l2 b2 H2
 obtain⟨WX,hWX⟩:∃ WX,trio w2 w.heap.size (.bool false) (.slice qa qk qc) (.slice pa pk pc)=WX:=⟨_,rfl⟩
 have RX:Q3 WX w.heap.size (.bool false) (.slice qa qk qc) (.slice pa pk pc):=by rw[←hWX];exact J2.out.set _ _ _
 have PP:Hid (FqP false (x) (1) w (.returned (.agg #[.bool false,.slice qa qk qc,.slice pa pk pc])) WX):=by
  rw[←hWX]
  exact⟨_,_,_,_,_,_,rfl,L12.out.trio J2.out (NI.b _) (NI.s _ _ _) (NI.s _ _ _) _ _ _,L2.out.trio J2.out (NI.b _) (NI.s _ _ _) (NI.s _ _ _) _ _ _,below_trio B2.out (Nat.le_refl _) _ _ _⟩
 obtain⟨r0,r1,r2,rf,_⟩:=J2.out
 have rf0:=rf 0
 have rf1:=rf 1
 have rf2:=rf 2
 obtain⟨t0,t1,t2,_,_⟩:=id RX
 clear RX rf J2 L12 L2 B2
 unfold trio at hWX
 go_wp2_with fail
 exact bodyPost_ret (v:=.agg #[.bool false,.slice qa qk qc,.slice pa pk pc]) (by simp[results,Tryz.results16,go_sem,t0,t1,t2]) rfl PP.out
theorem sizeBuilder:(Tryz.prog.info? 118).map (·.size)=some 2:=by kernel_rfl
abbrev IsB(g:Nat)(l:List UInt8)(W:World):Prop:=Lib.IsBuilder 118 5 g g (Lib.byteCells l) W
theorem strCells_is(s:ByteArray):Lib.strCells s=Lib.byteCells s.data.toList:=by simp[Lib.strCells,Lib.byteCells]
theorem byteCells_append(a b:List UInt8):Lib.byteCells (a ++ b)=Lib.byteCells a ++ Lib.byteCells b:=by simp[Lib.byteCells]
theorem byteCells_length(a:List UInt8):(Lib.byteCells a).length=a.length:=by simp[Lib.byteCells]
set_option maxHeartbeats 1000000 in
theorem check_fresh(b:Nat) (w:World) (h0:w.cell? ⟨b,0,none⟩=some (.pointer none)) (hsh:w.shape? b=some (118,2)) (hfz:w.frozen? ⟨b,0,none⟩=false) :
  Calls Tryz.prog 107 #[.pointer (some ⟨b,0,none⟩)] w fun e w'=>e=.returned (.tuple #[])∧w'=w.setCell ⟨b,0,none⟩ (.pointer (some ⟨b,0,none⟩)):=by
 obtain⟨j,hj,hjs⟩:=Option.map_eq_some_iff.1 sizeBuilder
 have hlies:liesAt Tryz.prog Tryz.prog.depth 118 (2 / Tryz.prog.cellsOf 118) 0 118 1=true:=by kernel_rfl
 have u1:=Lib.run_to_unsafe (P:=Tryz.prog) w ⟨b,0,none⟩ Tryz.underlying115 Tryz.underlying180 hj (by rw[hjs];decide) hsh (Nat.zero_lt_succ 1)
 have u3:=Lib.run_from_unsafe (P:=Tryz.prog) w ⟨b,0,none⟩ Tryz.underlying180 Tryz.underlying115 hj hsh hlies
 clear hsh hlies hj hjs
 go_enter Tryz.func107,Tryz.ntmps107
 go_wp2
 rw[run_callFunc_extern Tryz.func132 (by kernel_rfl) (by kernel_rfl) (by kernel_rfl) (e:=Extern.AbiNoEscape.same) (by kernel_rfl)]
 rw[Lib.run_noEscape]
 simp only[Result.andThen]
 rw[Oper.upon_value]
 go_wp2
 go_end0
 exact⟨rfl,rfl⟩
set_option maxHeartbeats 1000000 in
theorem check_used(b:Nat) (w:World) (h0:w.cell? ⟨b,0,none⟩=some (.pointer (some ⟨b,0,none⟩))) :
  Calls Tryz.prog 107 #[.pointer (some ⟨b,0,none⟩)] w fun e w'=>e=.returned (.tuple #[])∧w'=w:=by
 obtain⟨j,hj,_⟩:=Option.map_eq_some_iff.1 sizeBuilder
 go_enter Tryz.func107,Tryz.ntmps107
 go_wp2
 rw[Lib.run_neq_ptr_same w _ Tryz.underlying115 hj]
 go_wp2
 go_end0
 exact⟨rfl,rfl⟩
theorem check_any(B b:Nat) (l:List Value) (w:World) (h:Lib.IsBuilder 118 5 B b l w) :
  Calls Tryz.prog 107 #[.pointer (some ⟨b,0,none⟩)] w fun e w'=>e=.returned (.tuple #[])∧Lib.BuilderAt 118 5 B b (.pointer (some ⟨b,0,none⟩)) l w'∧Below B w w'∧w.heap.size=w'.heap.size:=by
 rcases h with h|h
 ·refine (check_fresh b w h.cell0 h.shape h.frozen0).mono ?_
  rintro e w' ⟨rfl,rfl⟩
  exact⟨rfl,h.used _,(Below.refl B w).setCell (p:=⟨b,0,none⟩) h.1 _,by simp⟩
 ·refine (check_used b w h.cell0).mono ?_
  rintro e w' ⟨rfl,rfl⟩
  exact⟨rfl,h,Below.refl B _,rfl⟩
set_option maxHeartbeats 1000000 in
theorem put_c(g:Nat) (l:List UInt8) (s:ByteArray) (w:World) (h:IsB g l w) (hl:l.length+s.size≤1000000) :
  Calls Tryz.prog 71 #[.pointer (some ⟨g,0,none⟩),.string s] w fun e w'=>e=.returned (.tuple #[.int .i64 s.size,.nilIface])∧IsB g (l ++ s.data.toList) w'∧Below g w w':=by
 obtain⟨i0,hi,hz0,hz1,hz2⟩:=info_byte
 have HC:=Zh (check_any g g (Lib.byteCells l) w h)
 have HL:=Zh hl
 clear h hl
 go_enter Tryz.func71,Tryz.ntmps71
 go_wp2_with fail
 refine HC.out.mono ?_
 rintro e w1 ⟨rfl,⟨_,v,hbk,hown,hne⟩,b1,_⟩
 have S1:Hid (g<w1.heap.size):=lt_of_block hbk
 have B1:=Zh b1
 have HBk:=Zh hbk
 have HNE:=Zh hne
 have HOW:=Zh hown
 have c0:w1.cell? ⟨g,0,none⟩=some (.pointer (some ⟨g,0,none⟩)):=by rw[Lib.cell_of_heap hbk];rfl
 have c1:w1.cell? ⟨g,1,none⟩=some v:=by rw[Lib.cell_of_heap hbk];rfl
 clear hbk hne hown b1 HC
 go_wp2_with (at_builtin;refine Lib.wpList_append_own_string _ rfl _ _ 116 9 rfl g 5 i0 Tryz.underlying116 Tryz.underlying9 hi hz0 hz1 hz2 _ _ _ rfl HOW.out s rfl ?c3 ?c4 ?c5 ?_)
 case c3=>have:=HL.out;have:=byteCells_length l;unfold maxLen;omega
 case c4=>have:=HL.out;have:=byteCells_length l;omega
 case c5=>have:=S1.out;omega
 intro v' w2 hown' hgrow _
 have hb2:w2.heap[g]?=some (.cells #[.pointer (some ⟨g,0,none⟩),v] 118 (0,0)):=by
  rw[hgrow.block g S1.out (fun e=>HNE.out e.symm)]
  exact HBk.out
 have d0:w2.cell? ⟨g,0,none⟩=some (.pointer (some ⟨g,0,none⟩)):=by rw[Lib.cell_of_heap hb2];rfl
 have d1:w2.cell? ⟨g,1,none⟩=some v:=by rw[Lib.cell_of_heap hb2];rfl
 have f1:w2.frozen? ⟨g,1,none⟩=false:=Lib.frozen_of_heap hb2 1
 obtain⟨ao,n',cap,rfl⟩:∃ ao n' cap,v'=.slice ao n' cap:=by
  rcases hown'.2 with ⟨hv,_⟩|⟨g,cap,cur,hv,_⟩
  ·exact⟨_,_,_,hv⟩
  ·exact⟨_,_,_,hv⟩
 have HO2:=Zh hown'
 have HB2:=Zh hb2
 have HG2:=Zh hgrow
 clear hown' hb2 hgrow c0 c1 hi hz0 hz1 hz2
 go_wp2
 go_ret2
 have hh:=HO2.out
 refine⟨rfl,.inr (Lib.BuilderAt.put (T:=118) (e:=5) (Nat.le_refl _) HB2.out (bs':=Lib.byteCells (l ++ s.data.toList)) (by
  rw[byteCells_append,←strCells_is,List.length_append,Lib.strCells_length];simpa using hh) (by decide)),?_⟩
 exact (B1.out.grown HG2.out (by have:=S1.out;omega) (fun k hk=>(HOW.out.lt k hk).1)).setCell (p:=⟨g,1,none⟩) (Nat.le_refl _) _
theorem gPow : Tryz.prog.globalNamed "internal/strconv.uint64pow10" = some 2 := by kernel_rfl
def Pow (w : World) : Prop := Lib.TabIs Tryz.prog w "internal/strconv.uint64pow10" .u64 Lib.pow10Tab
theorem Pow.below{w w':World}(h:Pow w)(hb:Below w.heap.size w w'):Pow w':=Go.Joins.tab_stays gPow h hb (Nat.le_refl _)
theorem itoa_c(n:Nat) (w:World) (hE:Pow w) (hn:n≤9223372036854775807) :
  Calls Tryz.prog 72 #[.int .i64 n] w fun e w'=>e=.returned (.string (decB n))∧Below w.heap.size w w':=
 (Tryz.strconv_Itoa n (by omega) (by omega) w hE).mono fun _ _ ⟨he,k,os,hw⟩=>⟨by rw[he,Lib.itoa_nonneg];rfl,by rw[hw];exact Go.Lib.below_grow _ _ (Nat.le_refl _) k os⟩
theorem repeat_c(c:Nat) (w:World) (hc:c≤9) :
  Calls Tryz.prog 73 #[.string ⟨#[48]⟩,.int .i64 c] w fun e w'=>e=.returned (.string ⟨(Lib.repeatL [48] c).toArray⟩)∧Below w.heap.size w w':=
 Tryz.strings_Repeat ⟨#[48]⟩ c w (by omega) (by rw[show (⟨#[48]⟩:ByteArray).size=1 from rfl];omega)
theorem rtext_zero(a:Option Addr)(c:Nat)(w:World):Calls Tryz.prog 43 #[.slice a 0 c] w fun e w'=>e=.returned (.string (decB 0))∧Below w.heap.size w w':=by
 go_enter Tryz.func43,Tryz.ntmps43
 go_wp2
 go_ret
 exact⟨by unfold decB;rw[Lib.decDigits_one (by decide)];rfl,Below.refl _ _⟩
theorem isB_keep{g:Nat}{l:List UInt8}{w w':World}(h:IsB g l w)(hb:Below w.heap.size w w'):IsB g l w':=by
 rcases h with ⟨h1,v,h2,h3,h4⟩|⟨h1,v,h2,h3,h4⟩
 ·exact .inl ⟨h1,v,(hb.block g (lt_of_block h2)).trans h2,own_keep h3 hb,h4⟩
 ·exact .inr ⟨h1,v,(hb.block g (lt_of_block h2)).trans h2,own_keep h3 hb,h4⟩
structure Txd (w:World) (n p:Nat) (W:World):Prop where
 bld:IsB w.heap.size (Lib.decDigits (n / tp p)) W
 bel:Below w.heap.size w W
 pos:0<n / tp p
set_option maxHeartbeats 2000000 in
theorem rtext_c(a:Option Addr)(k c n:Nat)(w:World)(h:Nt w a k c n)(hE:Pow w):Calls Tryz.prog 43 #[.slice a k c] w fun e w'=>e=.returned (.string (decB n))∧Below w.heap.size w w':=by
 rcases Nat.eq_zero_or_pos k with e|e
 ·subst e
  have hn:n=0:=by have:=h.lt;rw[tp_zero]at this;omega
  subst hn
  exact rtext_zero a c w
 ·obtain⟨f,r1,_,_,t1,s1,_⟩:=h
  obtain⟨q,rfl⟩:∃ q,k=q+1:=⟨k-1,by omega⟩
  have hk5:=r1.1
  have htop:0<f q:=by
   rcases t1 with t|t
   ·omega
   ·rw[Nat.add_sub_cancel]at t;omega
  have hlast:n / tp q=f q:=by rw[←s1];exact Tn_last r1.2.1 e
  have HDB:Hid (∀ p,(Lib.decDigits (n / tp p)).length≤900000):=fun p=>by
   have h1:n / tp p<tp (q+1):=Nat.lt_of_le_of_lt (Nat.div_le_self _ _) (by rw[←s1];exact Tn_lt r1.2.1)
   have:=dec_short e h1
   omega
  have HNX:Hid (∀ p,p<q+1→0<n / tp (p+1)→Lib.decDigits (n / tp p)=Lib.decDigits (n / tp (p+1)) ++ Lib.repeatL [48] (9-(Lib.decDigits (f p)).length) ++ Lib.decDigits (f p)):=fun p hp h0=>by
   rw[←s1]at h0 ⊢
   exact dec_next r1.2.1 hp h0
  have HPS:Hid (∀ p,0<n / tp (p+1)→0<n / tp p):=fun p h0=>by
   rw[tp_succ,←Nat.div_div_eq_div_mul]at h0
   omega
  have HF:Hid (∀ p,p<q+1→f p<1000000000):=r1.2.1
  obtain⟨bk,off,rfl,hb,hcell⟩:=r1.2.2 e
  have HCL:=Zh hcell
  have HBK:=Zh hb
  obtain⟨W1,hW1⟩:∃ W1,w.alloc (.cells #[.pointer none,.slice none 0 0] 118)=W1:=⟨_,rfl⟩
  have hIB:Hid (IsB w.heap.size [] W1):=by rw[←hW1];exact Lib.fresh_isBuilder _ _ w
  have hB:Hid (Below w.heap.size w W1):=by rw[←hW1];exact bel_one _ _
  have HE:=Zh hE
  have d1:=hcell q (Nat.lt_succ_self q)
  have g2:W1.cell? ⟨bk,off+q,none⟩=some (.int .i64 (f q)):=by rw[hB.out.cell (p:=⟨bk,off+q,none⟩) hb];exact d1
  have e1:((q+1:Nat):Int)-1=(q:Int):=by omega
  have e2:((q+1:Nat):Int)-2=(q:Int)-1:=by omega
  have hqk:(q:Int)<((q+1:Nat):Int):=by omega
  have hne:(((q+1:Nat):Int) == 0)=false:=by rw[beq_eq_false_iff_ne];omega
  have hfq:=r1.2.1 q (Nat.lt_succ_self q)
  have I0:Hid (∀ W,IsB w.heap.size (Lib.decDigits (f q)) W→Below w.heap.size w W→Txd w n q W):=fun W h1 h2=>⟨by rw[hlast];exact h1,h2,by rw[hlast];exact htop⟩
  have HIT:=Zh (fun W h=>itoa_c (f q) W h (by omega))
  have hsz:Hid ((decB (f q)).size≤9):=by unfold Hid;rw[decB_size];exact dec_len 9 _ (by decide) hfq
  clear hb hcell d1 r1 t1 s1 htop hlast hE hfq
  generalize f q=x at *
  go_enter Tryz.func43,Tryz.ntmps43
  go_wp2_with fail
  clear hW1 g2 hne
  (with_reducible refine (HIT.out _ (HE.out.below hB.out)).mono ?_)
  rintro e w2 ⟨rfl,b2⟩
  have HI2:Hid (IsB w.heap.size [] w2):=isB_keep hIB.out b2
  have B2:=Zh (hB.out.trans (b2.mono hB.out.size))
  have HP:=Zh (put_c w.heap.size [] (decB x) w2 HI2.out (by have:=hsz.out;simp;omega))
  clear b2 hIB hB
  go_wp2_with fail
  (with_reducible refine HP.out.mono ?_)
  rintro e w3 ⟨rfl,h3,b3⟩
  have J0:Hid (Txd w n q w3):=I0.out _ (by rw[←decB_list];exact h3) (B2.out.trans b3)
  clear h3 b3 HP HI2 B2
  go_wp2_with fail
  go_loopw [4] (fun i wr=>∃ p:Nat,p≤q∧i=.int .i64 ((p:Int)-1)∧Hid (Txd w n p wr)) (fun i _=>(intOf i+1).toNat)
  case atStart=>exact⟨q,Nat.le_refl _,by go_num,J0.out⟩
  case round=>
   clear J0 HIT I0 hsz
   obtain⟨p,hpq,rfl,hT⟩:=hrel
   rcases Nat.eq_zero_or_pos p with e|e
   ·subst e
    have hz0:n / tp 0=n:=by rw[tp_zero,Nat.div_one]
    have HS:=Zh (Tryz.Builder_String w.heap.size w.heap.size (Lib.decDigits (n / tp 0)) wr hT.out.bld (decDigits_ne _))
    have HB:=Zh hT.out.bel
    rw[hz0]at HS
    clear hT hz0
    go_wp2_with fail
    refine HS.out.mono ?_
    rintro e w4 ⟨rfl,b4⟩
    have B4:=Zh (HB.out.trans b4)
    clear b4 HS HB
    go_wp2
    go_ret
    exact⟨rfl,B4.out⟩
   ·obtain⟨r,rfl⟩:∃ r,p=r+1:=⟨p-1,by omega⟩
    have ei:((r+1:Nat):Int)-1=(r:Int):=by omega
    rw[ei]
    have hrk:(r:Int)<((q+1:Nat):Int):=by omega
    have hrk':(r:Int)≤(q:Int):=by omega
    have g1:wr.cell? ⟨bk,off+r,none⟩=some (.int .i64 (f r)):=by rw[hT.out.bel.cell (p:=⟨bk,off+r,none⟩) HBK.out];exact HCL.out r (by omega)
    have HNX':=Zh (HNX.out r (by omega) hT.out.pos)
    have HPS':=Zh (HPS.out r hT.out.pos)
    have HL1:=Zh (HDB.out (r+1))
    have hfr:=HF.out r (by omega)
    have HE':=Zh (fun W (h:Below w.heap.size w W)=>HE.out.below h)
    generalize f r=d at *
    have hdl:=dec_len 9 d (by decide) hfr
    have hds:=decB_size d
    obtain⟨z,hz⟩:∃ z,9-(Lib.decDigits d).length=z:=⟨_,rfl⟩
    have hz9:z≤9:=by omega
    have ez:(9:Int)-((decB d).size:Int)=(z:Int):=by omega
    rw[hz]at HNX'
    have HDS:Hid ((decB d).size≤9):=by unfold Hid;omega
    obtain⟨zs,hzs⟩:∃ zs:ByteArray,zs=⟨(Lib.repeatL [48] z).toArray⟩:=⟨_,rfl⟩
    have hzl:Hid (zs.data.toList=Lib.repeatL [48] z∧zs.size≤9):=⟨by rw[hzs],by rw[hzs,rep_zeros];simp[ByteArray.size];omega⟩
    have HT:=Zh hT.out.bld
    have HB:=Zh hT.out.bel
    have HIT:=Zh (fun W h=>itoa_c d W h (by omega))
    have HZ9:=Zh hz9
    have HRP:Hid (∀ W,Calls Tryz.prog 73 #[.string ⟨#[48]⟩,.int .i64 z] W fun e w'=>e=.returned (.string zs)∧Below W.heap.size W w'):=fun W=>by rw[hzs];exact repeat_c z W hz9
    clear hT hdl hz hfr hds hz9 hzs
    go_wp2_with fail
    (with_reducible refine (HIT.out _ (HE'.out _ HB.out)).mono ?_)
    rintro e w2 ⟨rfl,b2⟩
    have HT2:=Zh (isB_keep HT.out b2)
    have HB2:=Zh (HB.out.trans (b2.mono HB.out.size))
    clear b2 g1 HT HIT
    go_wp2_with fail
    (with_reducible refine (HRP.out _).mono ?_)
    rintro e w3 ⟨rfl,b3⟩
    have HT3:=Zh (isB_keep HT2.out b3)
    have HB3:=Zh (HB2.out.trans (b3.mono HB2.out.size))
    have HP:=Zh (put_c w.heap.size _ zs w3 HT3.out (by have:=HL1.out;have:=hzl.out.2;omega))
    clear b3 HT2 HB2 HRP
    go_wp2_with fail
    (with_reducible refine HP.out.mono ?_)
    rintro e w4 ⟨rfl,h4,b4⟩
    rw[hzl.out.1]at h4
    have HB4:=Zh (HB3.out.trans b4)
    have HP2:=Zh (put_c w.heap.size _ (decB d) w4 h4 (by have:=HL1.out;have:=hzl.out.2;have:=HDS.out;have:=congrArg List.length hzl.out.1;simp at *;omega))
    clear b4 h4 HT3 HB3 HP
    go_wp2_with fail
    (with_reducible refine HP2.out.mono ?_)
    rintro e w5 ⟨rfl,h5,b5⟩
    have NX:Hid (Txd w n r w5):=⟨by rw[HNX'.out,←decB_list d];exact h5,HB4.out.trans b5,HPS'.out⟩
    clear h5 b5 HP2 HB4
    go_wp2_with fail
    go_roundw
    case rel=>exact⟨r,by omega,rfl,NX.out⟩
    case measure=>simp[intOf]
end Go.Proofs.YtghgbhmiliiohaaGreatDoor
