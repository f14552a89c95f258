/-
  CodeAgreementMatchesSpec: casesOf, and what it gives out is the call's own.
-/
import Derived.Test.YtghgbhmiliiohaaGreatDoorAM29
import Derived.Deep.WholeRow
import Derived.Deep.Heap
import Derived.Deep.AppendLies
import Derived.Test.YtghgbhmiliiohaaGreatDoorAMQ
import Derived.Deep.RegionHeld3
import Derived.Test.YtghgbhmiliiohaaGreatDoorAM08
set_option maxRecDepth 100000
namespace Go.Proofs.YtghgbhmiliiohaaGreatDoor
open Go.RowKit Go.WideMaps Go.Maps
def zer51:Array Value:=Array.replicate 51 (.int .i64 0)
theorem info51:(Tryz.prog.info? 89).map (fun i=>(i.zero,i.size))=some (some (.agg zer51),51):=by kernel_rfl
theorem und51:Tryz.prog.underlying 89=some (.array 51 3):=by kernel_rfl
theorem size51(w:World):(Go.sizeOf 3).run Tryz.prog w=.ok 1 w:=by kernel_rfl
theorem build51(w:World):(Instr.build 89 #[]).run Tryz.prog w=.ok (.agg zer51) w:=by
 have hz:=(zero_of_info info51).1
 simp[Instr.build,hz,run_underlying und51,size51,Instr.fill,Value.cells,Result.andThen]
theorem arr51:∃ z:Array Value,z.size=51∧(∀ j,j<51→z[j]?=some (.int .i64 0))∧z.all (·.oneCell')=true∧(∀ w,(zeroValue 89).run Tryz.prog w=.ok (.agg z) w)∧(∀ w,(Instr.build 89 #[]).run Tryz.prog w=.ok (.agg z) w)∧(Tryz.prog.info? 89).map (·.size)=some z.size:=by
 refine⟨zer51,by simp[zer51],fun j hj=>by simp[zer51,hj],by unfold zer51;decide +kernel,(zero_of_info info51).1,build51,?_⟩
 rw[(zero_of_info info51).2];simp[zer51]
theorem wpList_val{P:Program} {ops:Array Oper} {Q:Exit→Act→World→Prop} {a:Act} {w w':World} {rest:List Oper} {o:Oper} {v:Value} (hg:o.guard=none) (hrun:(execOp a.eval o).run P w=.ok (.value v) w')
  (h:wpList P ops Q rest (a.put o.dst v) w'):wpList P ops Q (o::rest) a w:=wpList_plain hg fun K hK=>by
 unfold Oper.wp
 rw[hrun]
 exact hK _ _ h
theorem wpList_skp{P:Program} {ops:Array Oper} {Q:Exit→Act→World→Prop} {a:Act} {w w':World} {rest:List Oper} {o:Oper} (hg:o.guard=none) (hrun:(execOp a.eval o).run P w=.ok .skip w')
  (h:wpList P ops Q rest (a.put o.dst undef) w'):wpList P ops Q (o::rest) a w:=wpList_plain hg fun K hK=>by
 unfold Oper.wp
 rw[hrun]
 exact hK _ _ h
theorem wp_arr{P:Program} {id:Nat} {o1 o2 o3:Oper} {K:Act→World→Prop} {Q:Exit→Act→World→Prop} {a:Act} {w:World} (T:TypeId) (z:Array Value) (d1 d2:Nat)
  (g1:o1.guard=none) (g2:o2.guard=none) (g3:o3.guard=none) (p1:o1.op=.build T #[]) (p2:o2.op=.alloc T) (p3:o3.op=.store T (.tmp d2) (.tmp d1)) (e1:o1.dst=some d1) (e2:o2.dst=some d2) (e3:o3.dst=none)
  (h1:z.all (·.oneCell')=true) (hz:∀ w,(zeroValue T).run P w=.ok (.agg z) w) (hb:∀ w,(Instr.build T #[]).run P w=.ok (.agg z) w) (hi:(P.info? T).map (·.size)=some z.size)
  (hne:d1≠d2) (hd1:d1<a.tmps.size) (hd2:d2<a.tmps.size)
  (h:K ((a.put (some d1) (.agg z)).put (some d2) (.pointer (some ⟨w.heap.size,0,none⟩))) (w.alloc (.cells z T))) :
  (Code.region id #[o1,o2,o3] false).wp P (Exit.then K Q) a w:=by
 refine wp_region_lit (l:=[o1,o2,o3]) ?_
 refine wpList_val (v:=.agg z) (w':=w) g1 (by simp[execOp,p1,hb,Result.andThen]) ?_
 refine wpList_val (v:=.pointer (some ⟨w.heap.size,0,none⟩)) (w':=w.alloc (.cells z T)) g2 (by simp[execOp,p2,Instr.alloc,hz,Result.andThen,newVar,Value.cells,newRow,go_sem]) ?_
 refine wpList_skp (w':=w.alloc (.cells z T)) g3 ?_ ?_
 ·have hs:=run_storeAt_new (P:=P) w T z z hi rfl h1
  have v1:((a.put o1.dst (.agg z)).put o2.dst (.pointer (some ⟨w.heap.size,0,none⟩))).eval (.tmp d1)=.agg z:=by
   rw[e1,e2]
   simp[Act.eval,Act.put,hd1,hd2,hne,hne.symm]
  have v2:((a.put o1.dst (.agg z)).put o2.dst (.pointer (some ⟨w.heap.size,0,none⟩))).eval (.tmp d2)=.pointer (some ⟨w.heap.size,0,none⟩):=by
   rw[e1,e2]
   simp[Act.eval,Act.put,hd1,hd2]
  simp[execOp,p3,v1,v2,hs,Result.andThen]
 ·rw[e1,e2,e3]
  exact h
def SmA(w:World)(b:Nat)(f:Nat→Nat):Prop:=b<w.heap.size∧∀ j,j<51→w.cell? ⟨b,j,none⟩=some (.int .i64 (f j:Nat))∧w.frozen? ⟨b,j,none⟩=false
theorem SmA.below{w w':World}{b:Nat}{f:Nat→Nat}(h:SmA w b f)(hb:Below w.heap.size w w'):SmA w' b f:=
 ⟨Nat.lt_of_lt_of_le h.1 hb.size,fun j hj=>⟨(hb.cell (p:=⟨b,j,none⟩) h.1).trans (h.2 j hj).1,(hb.frozen (p:=⟨b,j,none⟩) h.1).trans (h.2 j hj).2⟩⟩
theorem SmA.grown{w w':World}{b m:Nat}{f:Nat→Nat}(h:SmA w b f)(hg:w.grownBy w' (some m))(hne:b≠m):SmA w' b f:=
 ⟨Nat.lt_of_lt_of_le h.1 hg.size,fun j hj=>⟨(grown_cell (p:=⟨b,j,none⟩) hg h.1 hne).trans (h.2 j hj).1,(hg.frozen_far ⟨b,j,none⟩ h.1 (by intro e;injection e with e;exact hne e)).trans (h.2 j hj).2⟩⟩
theorem SmA.set{w:World}{b:Nat}{f:Nat→Nat}(h:SmA w b f)(i x:Nat):SmA (w.setCell ⟨b,i,none⟩ (.int .i64 (x:Nat))) b (fun j=>if j=i then x else f j):=by
 refine⟨by simpa using h.1,fun j hj=>⟨?_,by rw[World.frozen?_setCell];exact (h.2 j hj).2⟩⟩
 by_cases e:j=i
 ·subst e
  rw[World.cell?_setCell_same _ _ _ (h.2 j hj).1]
  simp
 ·rw[World.cell?_setCell_other _ _ _ _ (by intro h;injection h with _ h;exact e h.symm),(h.2 j hj).1]
  simp[e]
theorem SmA.congr{w:World}{b:Nat}{f g:Nat→Nat}(h:SmA w b f)(e:∀ j,f j=g j):SmA w b g:=by
 have:f=g:=funext e
 rw[←this];exact h
theorem SmA.made{w:World}{z:Array Value}(T:TypeId)(hs:z.size=51)(hz:∀ j,j<51→z[j]?=some (.int .i64 0)):SmA (w.alloc (.cells z T)) w.heap.size fun _=>0:=
 ⟨by simp,fun j hj=>⟨by rw[World.cell?_alloc_new];exact hz j hj,by simp⟩⟩
theorem grown_setA(w:World)(b i:Nat)(v:Value):w.grownBy (w.setCell ⟨b,i,none⟩ v) (some b):=
 ⟨rfl,rfl,rfl,by simp,fun k _ hne=>Go.Deep.blk_setCell_other w ⟨b,i,none⟩ v k (fun e=>hne (by rw[e]))⟩
theorem B2.grown{w w':World}{b m:Nat}{x y:Value}(h:B2 w b x y)(hg:w.grownBy w' (some m))(hne:b≠m):B2 w' b x y:=
 ⟨(grown_cell (p:=⟨b,0,none⟩) hg h.lt hne).trans h.c0,(grown_cell (p:=⟨b,1,none⟩) hg h.lt hne).trans h.c1,fun o=>(hg.frozen_far ⟨b,o,none⟩ h.lt (by intro e;injection e with e;exact hne e)).trans (h.fr o),Nat.lt_of_lt_of_le h.lt hg.size⟩
abbrev noS:Value:=.string ⟨#[]⟩
structure InA (w wr:World) (mc sb k:Nat) (R:List (List Cg)) (dl:Int→Int→Nat):Prop where
 ct:CtIs wr mc (2*(alC (R.take k)).length) (nC (alC (R.take k)))
 res:B2 wr w.heap.size noS noS
 sm:SmA wr sb (szS dl (R.take k))
 bel:Below w.heap.size w wr
structure InAb (w wr:World) (mc sb mw k j:Nat) (R:List (List Cg)) (D:List Cg) (dl:Int→Int→Nat):Prop where
 ct:InF w wr mc mw (2*((alC (R.take k)).length+j)) (nC (alC (R.take k) ++ (cdsD D).take j)) (nC ((cdsD D).take j))
 res:B2 wr w.heap.size noS noS
 sm:SmA wr sb (szS dl (R.take k))
theorem nC_snoc(X:List Int)(x s:Int):(if s=x then nC X x+1 else nC X s)=nC (X ++ [x]) s:=by
 unfold nC
 rw[List.countP_append]
 by_cases e:s=x
 ·rw[if_pos e,e];simp
 ·rw[if_neg e]
  have:(x == s)=false:=by rw[beq_eq_false_iff_ne];exact fun h=>e h.symm
  simp[this]
theorem cds_len(D:List Cg):(cdsD D).length=D.length:=by unfold cdsD;rw[List.length_map]
theorem cds_take{D:List Cg}{j:Nat}(h:j<D.length):(cdsD D).take (j+1)=(cdsD D).take j ++ [(cg D j).cd]:=by
 rw[List.take_succ_eq_append_getElem (by rw[cds_len];exact h),cg_is h]
 unfold cdsD
 rw[List.getElem_map]
theorem szS_snoc(dl:Int→Int→Nat)(R:List (List Cg))(D:List Cg)(s:Nat):(if s=D.length then szS dl R D.length+dfS dl (nC (cdsD D)) else szS dl R s)=szS dl (R ++ [D]) s:=by
 unfold szS
 rw[sumR_snoc]
 by_cases e:s=D.length
 ·subst e;rw[if_pos rfl,if_pos rfl]
 ·rw[if_neg e,if_neg fun h=>e h.symm,Nat.add_zero]
theorem InAb.start{w wr:World}{mc sb k:Nat}{R:List (List Cg)}{dl:Int→Int→Nat}(D:List Cg)(h:InA w wr mc sb k R dl)(hlo:w.heap.size≤mc):InAb w (wr.alloc (.map #[] 0)) mc sb wr.heap.size k 0 R D dl:=by
 have hb:Below wr.heap.size wr (wr.alloc (.map #[] 0)):=(Below.refl _ _).alloc (Nat.le_refl _) _
 have e0:(cdsD D).take 0=[]:=rfl
 refine⟨⟨?_,?_,h.bel.trans (hb.mono h.bel.size),hlo,MapIs.lt h.ct,by simp⟩,h.res.keep hb,h.sm.below hb⟩
 ·rw[e0,List.append_nil,Nat.add_zero]
  exact MapIs.below h.ct hb (MapIs.lt h.ct)
 ·rw[e0]
  exact NuIs.more ((MapIs.made wr).congr fun s=>by simp[ctF,nC]) (Nat.zero_le _)
theorem InAb.keep{w wr W:World}{mc sb mw k j:Nat}{R:List (List Cg)}{D:List Cg}{dl:Int→Int→Nat}(h:InAb w wr mc sb mw k j R D dl)(hb:Below wr.heap.size wr W):InAb w W mc sb mw k j R D dl:=
 ⟨h.ct.keep hb,h.res.keep hb,h.sm.below hb⟩
theorem InA.next{w wr:World} {mc sb mw k:Nat} {R:List (List Cg)} {dl:Int→Int→Nat} (hk:k<R.length) (h:InAb w wr mc sb mw k (rn R k).length R (rn R k) dl) (h1:w.heap.size≤mc) (h2:mc<sb) :
  InA w (wr.setCell ⟨sb,(rn R k).length,none⟩ (.int .i64 ((szS dl (R.take k) (rn R k).length+dfS dl (nC (cdsD (rn R k))):Nat):Int))) mc sb (k+1) R dl:=by
 have et:(cdsD (rn R k)).take (rn R k).length=cdsD (rn R k):=by rw[←cds_len,List.take_length]
 have ea:alC (R.take (k+1))=alC (R.take k) ++ cdsD (rn R k):=by rw[take_rn hk,alC_snoc]
 have hg:=grown_setA wr sb (rn R k).length (.int .i64 ((szS dl (R.take k) (rn R k).length+dfS dl (nC (cdsD (rn R k))):Nat):Int))
 refine⟨?_,h.res.grown hg (by omega),?_,h.ct.bel.setCell (p:=⟨sb,(rn R k).length,none⟩) (by show w.heap.size≤sb;omega) _⟩
 ·have:=h.ct.c1
  rw[et,←ea]at this
  have el:(alC (R.take (k+1))).length=(alC (R.take k)).length+(rn R k).length:=by rw[ea,List.length_append,cds_len]
  rw[el]
  exact MapIs.kept this hg (by intro e;injection e with e;omega)
 ·refine (h.sm.set _ _).congr fun s=>?_
  rw[take_rn hk]
  exact szS_snoc dl _ _ s
theorem InA.made{w:World} {z:Array Value} {R:List (List Cg)} {dl:Int→Int→Nat} (T T2:TypeId) (hs:z.size=51) (hz:∀ j,j<51→z[j]?=some (.int .i64 0)) :
  InA w (((w.alloc (.cells #[noS,noS] T2)).alloc (.map #[] 0)).alloc (.cells z T)) (w.heap.size+1) (w.heap.size+1+1) 0 R dl:=by
 have b1:=bel_one w (.cells #[noS,noS] T2)
 have b2:=bel_one (w.alloc (.cells #[noS,noS] T2)) (.map #[] 0)
 have b3:=bel_one ((w.alloc (.cells #[noS,noS] T2)).alloc (.map #[] 0)) (.cells z T)
 have s1:(w.alloc (.cells #[noS,noS] T2)).heap.size=w.heap.size+1:=by simp
 have s2:((w.alloc (.cells #[noS,noS] T2)).alloc (.map #[] 0)).heap.size=w.heap.size+1+1:=by simp
 refine⟨?_,((B2.made w _ _ T2).keep b2).keep b3,?_,(b1.trans (b2.mono b1.size)).trans (b3.mono (b1.trans (b2.mono b1.size)).size)⟩
 ·have:=MapIs.made (w.alloc (.cells #[noS,noS] T2))
  rw[s1]at this
  exact MapIs.below (this.congr fun s=>by simp[ctF,nC,alC]) b3 (by rw[s2];omega)
 ·have:=SmA.made (w:=(w.alloc (.cells #[noS,noS] T2)).alloc (.map #[] 0)) T hs hz
  rw[s2]at this
  exact this.congr fun j=>by simp[szS,sumR]
structure InO (w wr:World) (sb ob s:Nat) (R:List (List Cg)) (dl:Int→Int→Nat):Prop where
 res:B2 wr w.heap.size noS noS
 sm:SmA wr sb (szS dl R)
 obx:B2 wr ob (.string (raR (obK dl R s) LM).1) (.string (raR (obK dl R s) LM).2.1)
 bel:Below w.heap.size w wr
theorem ob_cross(dl:Int→Int→Nat) (R:List (List Cg)) {s:Nat} (h2:2≤s) (h50:s≤50) :
  raR ((obK dl R s:Int)*((s:Int)-1)+(szS dl R s:Int)*(LM:Int)) ((LM:Int)*((s:Int)-1))=raR (obK dl R (s+1)) LM:=by
 have e:=wgt_mul h2 h50
 have e1:(wgt s:Int)*((s:Int)-1)=(LM:Int):=by
  rw[←e,Int.natCast_mul,Int.natCast_sub (by omega)];rfl
 have lm:(LM:Int)≠0:=by decide
 refine raR_eq (Int.mul_ne_zero lm (by omega)) lm ?_
 rw[obK_next,Int.natCast_add,Int.natCast_mul]
 generalize (LM:Int)=M at *
 generalize (wgt s:Int)=g at *
 grind
theorem rn_isA{R:List (List Cg)}{k:Nat}(h:k<R.length):rn R k=R[k]:=by unfold rn;rw[List.getD,List.getElem?_eq_getElem h];rfl
def SOb(sb s:Nat)(v:Value)(W:World):Prop:=W.cell? ⟨sb,s,none⟩=some v
theorem two_grown(W:World)(g:Nat)(x y:Value):W.grownBy (two W g x y) (some g):=by unfold two;exact grown_set (grown_setA W g 0 x)
set_option maxHeartbeats 8000000 in
theorem alphaOf_c(l:List Nd) (t:Bool) (fb tb:Nat) (sa:Option Addr) (c:Nat) (R:List (List Cg)) (w:World) (hRd:RdR w sa R) (F:Ord l) (hR:∀ D∈R,OkD l D) (hL:sumR List.length R≤20000) (hdk:DifOk l t fb tb w) :
  Calls Tryz.prog 25 #[.slice sa R.length c,dfv fb tb] w (OpPost (alR (alC R).length (dfS (dlS l t) (nC (alC R))) (obS (dlS l t) R)) w):=by
 have hmm:=@run_makeMap Tryz.prog
 have HDK:=Zh hdk
 have FO:=Zh F
 have HR:=Zh hR
 have HRD:=Zh hRd
 have hRn:R.length≤20000:=by
  refine Nat.le_trans ?_ hL
  clear hRd hL hdk HR HRD
  induction R with
  | nil=>exact Nat.zero_le _
  | cons D R ih=>
   have h1:=(hR D (List.mem_cons_self ..)).1
   have h2:=ih fun x hx=>hR x (List.mem_cons_of_mem _ hx)
   simp only[sumR,List.length_cons]
   omega
 have AL:Hid (∀ k,(alC (R.take k)).length≤20000):=fun k=>by rw[alC_len];exact Nat.le_trans (sumR_take _ _ _) hL
 have ALL:=Zh (AL.out R.length)
 have IL:=Zh (InLd_all hR)
 have DB:=Zh (dlS_le l t)
 have OB:Hid (obS (dlS l t) R≤256000000*LM):=Nat.le_trans (obS_le F DB.out hR) (Nat.mul_le_mul_right LM (Nat.mul_le_mul_right 12800 hL))
 have SB:Hid (∀ s,szS (dlS l t) R s≤256000000):=fun s=>Nat.le_trans (szS_le F DB.out hR s) (Nat.mul_le_mul_right 12800 hL)
 have SBk:Hid (∀ k s,szS (dlS l t) (R.take k) s≤256000000):=fun k s=>by
  refine Nat.le_trans (szS_le F DB.out (R:=R.take k) (fun D hD=>hR D (List.mem_of_mem_take hD)) s) ?_
  exact Nat.mul_le_mul_right 12800 (Nat.le_trans (sumR_take _ _ _) hL)
 have H25:Hid (∀ D∈R,2≤D.length∧D.length≤50):=fun D hD=>⟨(hR D hD).1,(hR D hD).2.1⟩
 rw[List.take_length]at ALL
 have EXB:Hid (dfS (dlS l t) (nC (alC R))≤102400000000):=Nat.le_trans (dfS_le (IL.out.codes F) DB.out) (Nat.mul_le_mul ALL.out (Nat.mul_le_mul_right 256 ALL.out))
 clear hdk F hR hL hRd
 obtain⟨z,z51,zc,z1,zz,zb,zi⟩:=arr51
 have A0:Hid (InA w (((w.alloc (.cells #[noS,noS] 32)).alloc (.map #[] 0)).alloc (.cells z 89)) (w.heap.size+1) (w.heap.size+1+1) 0 R (dlS l t)):=InA.made _ _ z51 zc
 go_enter Tryz.func25,Tryz.ntmps25
 iterate 31 go_step
 refine wp_arr 89 z 19 8 (by rfl) (by rfl) (by rfl) (by rfl) (by rfl) (by rfl) (by rfl) (by rfl) (by rfl) z1 zz zb zi (by decide) (by simp) (by simp) ?_
 simp only[Act.put,Zd,Ze,Zf,Za,Zb,Zc]
 have es:((w.alloc (.cells #[noS,noS] 32)).alloc (.map #[] 0)).heap.size=w.heap.size+1+1:=by simp
 rw[es]
 clear z51 zc z1 zz zb zi es
 obtain⟨W3,hW3⟩:∃ W3,((w.alloc (.cells #[noS,noS] 32)).alloc (.map #[] 0)).alloc (.cells z 89)=W3:=⟨_,rfl⟩
 have hW3':((w.alloc (.cells #[.string ⟨#[]⟩,.string ⟨#[]⟩] 32)).alloc (.map #[] 0)).alloc (.cells z 89)=W3:=hW3
 rw[hW3]at A0
 rw[hW3']
 clear hW3 hW3'
 obtain⟨mc,hmc⟩:∃ m,w.heap.size+1=m:=⟨_,rfl⟩
 obtain⟨sb,hsb⟩:∃ m,mc+1=m:=⟨_,rfl⟩
 rw[hmc]at A0 ⊢
 rw[hsb]at A0 ⊢
 have P1:Hid (w.heap.size<mc∧mc<sb):=⟨by omega,by omega⟩
 clear hmc hsb
 go_wp2_with fail
 go_loopw [6,22] (fun av i wr=>∃ k:Nat,k≤R.length∧i=.int .i64 k∧av=.int .i64 ((alC (R.take k)).length:Nat)∧Hid (InA w wr mc sb k R (dlS l t))) (fun _ i _=>R.length-(intOf i).toNat)
 case atStart=>exact⟨0,Nat.zero_le _,rfl,rfl,A0.out⟩
 case round=>
  clear A0
  obtain⟨k,hk,rfl,rfl,hS⟩:=hrel
  by_cases hkl:k<R.length
  ·have hkl':(k:Int)<(R.length:Int):=by omega
   obtain⟨g,a',c',rfl,hgl,hgc,hgr⟩:=HRD.out k hkl
   have v0:=(hS.out.bel.cell (p:=⟨g,k,none⟩) hgl).trans hgc
   have h8:=hgr.1
   have OKD:=Zh (HR.out (rn R k) (by rw[rn_isA hkl];exact List.getElem_mem hkl))
   obtain⟨D,hD⟩:∃ D,rn R k=D:=⟨_,rfl⟩
   have HDD:=Zh hD
   rw[hD]at v0 hgr OKD h8
   have GR:=Zh hgr
   have hd2:2≤D.length:=OKD.out.1
   have hd50:D.length≤50:=OKD.out.2.1
   have lnk:=AL.out k
   have lnk1:=AL.out (k+1)
   have alk:Hid ((alC (R.take (k+1))).length=(alC (R.take k)).length+D.length):=by
    unfold Hid
    rw[take_rn hkl,alC_snoc,List.length_append,cds_len,hD]
   have SZB:Hid (szS (dlS l t) (R.take k) D.length+dfS (dlS l t) (nC (cdsD D))≤256000000):=by
    have szn:=szS_snoc (dlS l t) (R.take k) D D.length
    rw[if_pos rfl]at szn
    have e:R.take k ++ [D]=R.take (k+1):=by rw[take_rn hkl,hD]
    unfold Hid
    rw[szn,e]
    exact SBk.out (k+1) D.length
   have hdlt:(k:Int)<20000:=by omega
   have B0:=Zh (InAb.start D hS.out (by have:=P1.out;omega))
   have hsbl:sb<wr.heap.size:=hS.out.sm.1
   clear hgr hgc hgl hD hS
   obtain⟨W4,hW4⟩:∃ W4,wr.alloc (.map #[] 0)=W4:=⟨_,rfl⟩
   obtain⟨mw,hmw⟩:∃ m,wr.heap.size=m:=⟨_,rfl⟩
   rw[hW4]at B0
   rw[hmw]at B0
   have P2:Hid (mc<mw∧sb<mw):=⟨by have:=P1.out;omega,by omega⟩
   have alkn:((alC (R.take k)).length:Int)+(D.length:Int)=((alC (R.take (k+1))).length:Int):=by have:=alk.out;omega
   go_wp2_with fail
   clear hW4 hmw v0 hsbl
   go_loopw [29] (fun i wr=>∃ j:Nat,j≤D.length∧i=.int .i64 j∧Hid (InAb w wr mc sb mw k j R D (dlS l t))) (fun i _=>D.length-(intOf i).toNat)
   case atStart=>exact⟨0,Nat.zero_le _,rfl,B0.out⟩
   case round=>
    clear B0
    obtain⟨j,hj,rfl,hS⟩:=hrel
    by_cases hjl:j<D.length
    ·have hjl':(j:Int)<(D.length:Int):=by omega
     obtain⟨b',off,rfl,u0,u1,u2⟩:=(GR.out.below hS.out.ct.bel).at_ hjl
     have CT:=Zh (cds_take hjl)
     obtain⟨cn,hcn,hhas⟩:=OKD.out.2.2 (cg D j).cd (by unfold cdsD;rw[cg_is hjl];exact List.mem_map.2 ⟨_,List.getElem_mem hjl,rfl⟩)
     have hcp:=has_pos FO.out hhas
     obtain⟨x,hx⟩:∃ x,(cg D j).cd=x:=⟨_,rfl⟩
     rw[hx]at u2 hcn CT
     have inx:in64 x:=by unfold in64;omega
     obtain⟨WA,hWA⟩:∃ W,wr.alloc (.cells #[.int .i64 (cg D j).ca,.int .i64 (cg D j).co,.int .i64 x] 69)=W:=⟨_,rfl⟩
     have bA:Below wr.heap.size wr WA:=by rw[←hWA];exact bel_one _ _
     have v0:WA.cell? ⟨wr.heap.size,2,none⟩=some (.int .i64 x):=by rw[←hWA,World.cell?_alloc_new];rfl
     have hAl:wr.heap.size<WA.heap.size:=by rw[←hWA];simp
     have SA:=hS.out.keep bA
     have hwr:=hS.out.ct.le
     have p1:=P1.out
     have p2:=P2.out
     have hlook1:=SA.ct.c2.look inx
     obtain⟨WB,hup1,SB,gB⟩:=SA.ct.store2 (by unfold maxLen;omega) inx
     have w0:=(grown_cell (p:=⟨wr.heap.size,2,none⟩) gB hAl (by show wr.heap.size≠_;omega)).trans v0
     have hlook2:=SB.c1.look inx
     obtain⟨WC,hup2,SC,gC⟩:=SB.store1 (by unfold maxLen;omega) inx
     have NX:Hid (InAb w WC mc sb mw k (j+1) R D (dlS l t)):=by
      refine⟨(SC.more (m:=2*((alC (R.take k)).length+(j+1))) (by omega)).congr (fun s=>?_) (fun s=>?_),(SA.res.grown gB (by omega)).grown gC (by omega),(SA.sm.grown gB (by omega)).grown gC (by omega)⟩
      ·rw[CT.out,←List.append_assoc];exact nC_snoc _ x s
      ·rw[CT.out];exact nC_snoc _ x s
     have q1:=nC_le ((cdsD D).take j) x
     have q2:=nC_le (alC (R.take k) ++ (cdsD D).take j) x
     rw[List.length_append]at q2
     have q3:((cdsD D).take j).length≤50:=by rw[List.length_take,cds_len];omega
     obtain⟨m1,hm1⟩:∃ m,nC ((cdsD D).take j) x=m:=⟨_,rfl⟩
     obtain⟨m2,hm2⟩:∃ m,nC (alC (R.take k) ++ (cdsD D).take j) x=m:=⟨_,rfl⟩
     rw[hm1]at hlook1 hup1 q1
     rw[hm2]at hlook2 hup2 q2
     have q4:(m1:Int)≤50:=by omega
     have q5:(m2:Int)≤21000:=by omega
     clear SA SB SC gB gC hS bA hm1 hm2 inx q1 q2 q3 hAl hwr hcn hhas hcp CT p1 p2 hx
     go_wp2_with fail
     go_roundw
     case rel=>exact⟨j+1,by omega,by go_num,NX.out⟩
     case measure=>simp[intOf];omega
    ·obtain rfl:j=D.length:=by omega
     have et:(cdsD D).take D.length=cdsD D:=by rw[←cds_len,List.take_length]
     have hct:=hS.out.ct.c2
     rw[et]at hct
     have HDF:=Zh (fun W (hb:Below wr.heap.size wr W)=>differences_c l t fb tb mw _ (cdsD D) W (MapIs.below hct hb (MapIs.lt hct)) FO.out OKD.out.2.2 (by rw[cds_len];omega) (HDK.out.below (hS.out.ct.bel.trans (hb.mono hS.out.ct.bel.size))))
     have s0:=(hS.out.sm.2 D.length (by omega)).1
     have SZB2:=SZB.out
     have NX:=Zh (fun W (hb:Below wr.heap.size wr W)=>InA.next (mw:=mw) hkl (by rw[HDD.out];exact hS.out.keep hb) (Nat.le_of_lt P1.out.1) P1.out.2)
     rw[HDD.out]at NX
     obtain⟨v,hv⟩:∃ v,szS (dlS l t) (R.take k) D.length=v:=⟨_,rfl⟩
     obtain⟨d,hd⟩:∃ d,dfS (dlS l t) (nC (cdsD D))=d:=⟨_,rfl⟩
     obtain⟨sm,hsm⟩:∃ m,v+d=m:=⟨_,rfl⟩
     rw[hv]at s0 SZB2 NX
     rw[hd]at HDF SZB2 NX
     rw[hsm]at NX SZB2
     have hsum:(v:Int)+(d:Int)=(sm:Int):=by omega
     have l1:(v:Int)≤256000000:=by omega
     have l2:(d:Int)≤256000000:=by omega
     have hd51:(D.length:Int)<51:=by omega
     have KS:=Zh (fun W (hb:Below wr.heap.size wr W)=>(hS.out.sm.below hb).2 D.length (by omega))
     rw[hv]at KS
     clear hS hct et hv hd hsm hjl
     go_wp2_with fail
     refine wp_region_noPanic ?_
     refine wp_region_held_drew (S:=fun _=>True) (by kernel_rfl) trivial (fun _=>?_)
     obtain⟨WD,hWD⟩:∃ W,wr.drew=W:=⟨_,rfl⟩
     have bD:Hid (Below wr.heap.size wr WD):=by unfold Hid;rw[←hWD];exact (Below.refl _ _).drew
     obtain⟨d0,d1⟩:=KS.out WD bD.out
     rw[hWD]
     clear hWD s0
     refine Zt (i:=0) (v:=?v0k) rfl (Or.inl ⟨by rfl,?hy0k⟩) ?rest0k
     case hy0k=>
      intro w _
      go_simp
      try with_reducible rfl
     simp only[Act.put,Zd,Ze,Zf,Za,Zb,Zc]
     refine Zt (i:=1) (v:=?v1k) rfl (Or.inl ⟨by rfl,?hy1k⟩) ?rest1k
     case hy1k=>
      intro w _
      go_simp
      try with_reducible rfl
     simp only[Act.put,Zd,Ze,Zf,Za,Zb,Zc]
     refine Zt (i:=2) (v:=?v2k) rfl (Or.inl ⟨by rfl,?hy2k⟩) ?rest2k
     case hy2k=>
      intro w _
      go_simp
      try with_reducible rfl
     simp only[Act.put,Zd,Ze,Zf,Za,Zb,Zc]
     refine Zt (i:=4) (v:=?v4k) rfl (Or.inl ⟨by rfl,?hy4k⟩) ?rest4k
     case hy4k=>
      intro w _
      go_simp
      try with_reducible rfl
     simp only[Act.put,Zd,Ze,Zf,Za,Zb,Zc]
     refine Zt (i:=5) (v:=?v5k) rfl (Or.inl ⟨by rfl,?hy5k⟩) ?rest5k
     case hy5k=>
      intro w _
      go_simp
      try with_reducible rfl
     simp only[Act.put,Zd,Ze,Zf,Za,Zb,Zc]
     refine wpAnyH_ready (rs:=[3,6]) (by kernel_rfl) (by simp) ?_
     refine AllReadyH.cons rfl (fun K hK=>?_) (AllReadyH.cons rfl (fun K hK=>?_) AllReadyH.nil)
     ·go_simp
      refine hK.out _ _ trivial (fun _=>?_)
      clear hK K d0 d1
      try simp only[Act.put,Zd,Ze,Zf,Za,Zb,Zc]
      refine wpAnyH_ready (rs:=[6]) (by kernel_rfl) (by simp) ?_
      refine AllReadyH.cons rfl (fun K hK=>?_) AllReadyH.nil
      go_simp
      (with_reducible refine (HDF.out WD bD.out).mono ?_)
      rintro e W5 ⟨rfl,b5⟩
      try go_simp
      have NX5:=Zh (NX.out W5 (bD.out.trans (b5.mono bD.out.size)))
      obtain⟨k0,k1⟩:=KS.out W5 (bD.out.trans (b5.mono bD.out.size))
      clear b5
      refine hK.out _ _ trivial (fun _=>?_)
      clear hK K
      try simp only[Act.put,Zd,Ze,Zf,Za,Zb,Zc]
      refine Zt (i:=7) (v:=?v7a) rfl (Or.inl ⟨by rfl,?hy7a⟩) ?rest7a
      case hy7a=>
       intro w _
       go_simp
       try with_reducible rfl
      simp only[Act.put,Zd,Ze,Zf,Za,Zb,Zc]
      refine Zt (i:=8) (v:=?v8a) rfl (Or.inl ⟨by rfl,?hy8a⟩) ?rest8a
      case hy8a=>
       intro w _
       go_simp
       try with_reducible rfl
      simp only[Act.put,Zd,Ze,Zf,Za,Zb,Zc]
      refine wpAnyH_ready (rs:=[9]) (by kernel_rfl) (by simp) ?_
      refine AllReadyH.cons rfl (fun K hK=>?_) AllReadyH.nil
      go_simp
      refine hK.out _ _ trivial (fun _=>?_)
      clear hK K
      try simp only[Act.put,Zd,Ze,Zf,Za,Zb,Zc]
      refine wpAnyH_done (by kernel_rfl) ?_ _
      refine NoPanic.normal ?_
      go_wp2_with fail
      go_roundw
      case rel=>exact⟨k+1,by omega,by go_num,rfl,NX5.out⟩
      case measure=>simp[intOf];omega
     ·clear d0 d1
      go_simp
      (with_reducible refine (HDF.out WD bD.out).mono ?_)
      rintro e W5 ⟨rfl,b5⟩
      try go_simp
      have NX5:=Zh (NX.out W5 (bD.out.trans (b5.mono bD.out.size)))
      obtain⟨k0,k1⟩:=KS.out W5 (bD.out.trans (b5.mono bD.out.size))
      clear b5
      refine hK.out _ _ trivial (fun _=>?_)
      clear hK K
      try simp only[Act.put,Zd,Ze,Zf,Za,Zb,Zc]
      refine wpAnyH_ready (rs:=[3]) (by kernel_rfl) (by simp) ?_
      refine AllReadyH.cons rfl (fun K hK=>?_) AllReadyH.nil
      go_simp
      refine hK.out _ _ trivial (fun _=>?_)
      clear hK K
      try simp only[Act.put,Zd,Ze,Zf,Za,Zb,Zc]
      refine Zt (i:=7) (v:=?v7b) rfl (Or.inl ⟨by rfl,?hy7b⟩) ?rest7b
      case hy7b=>
       intro w _
       go_simp
       try with_reducible rfl
      simp only[Act.put,Zd,Ze,Zf,Za,Zb,Zc]
      refine Zt (i:=8) (v:=?v8b) rfl (Or.inl ⟨by rfl,?hy8b⟩) ?rest8b
      case hy8b=>
       intro w _
       go_simp
       try with_reducible rfl
      simp only[Act.put,Zd,Ze,Zf,Za,Zb,Zc]
      refine wpAnyH_ready (rs:=[9]) (by kernel_rfl) (by simp) ?_
      refine AllReadyH.cons rfl (fun K hK=>?_) AllReadyH.nil
      go_simp
      refine hK.out _ _ trivial (fun _=>?_)
      clear hK K
      try simp only[Act.put,Zd,Ze,Zf,Za,Zb,Zc]
      refine wpAnyH_done (by kernel_rfl) ?_ _
      refine NoPanic.normal ?_
      go_wp2_with fail
      go_roundw
      case rel=>exact⟨k+1,by omega,by go_num,rfl,NX5.out⟩
      case measure=>simp[intOf];omega
  ·obtain rfl:k=R.length:=by omega
   have TL:R.take R.length=R:=List.take_length
   rw[TL]
   have hct:=hS.out.ct
   rw[TL]at hct
   have HDF:=Zh (differences_c l t fb tb mc _ (alC R) wr hct FO.out IL.out ALL.out (HDK.out.below hS.out.bel))
   have RES:=Zh hS.out.res
   have SM:=Zh hS.out.sm
   have BEL:=Zh hS.out.bel
   have EX:=Zh (show alR (alC R).length (dfS (dlS l t) (nC (alC R))) (obS (dlS l t) R)=alR (alC R).length (dfS (dlS l t) (nC (alC R))) (obS (dlS l t) R) from rfl)
   have ALN:=ALL.out
   have EXN:=EXB.out
   obtain⟨ex,hex⟩:∃ ex,dfS (dlS l t) (nC (alC R))=ex:=⟨_,rfl⟩
   have HEX:=Zh hex
   rw[hex]at HDF EXN
   clear hct hS TL hkl EX EXB hex
   go_wp2_with fail
   (with_reducible refine HDF.out.mono ?_)
   rintro e W5 ⟨rfl,b5⟩
   have R5:=Zh (RES.out.keep b5)
   have S5:=Zh (SM.out.below b5)
   have BW5:=Zh (BEL.out.trans (b5.mono BEL.out.size))
   clear b5 HDF RES SM BEL
   rw[List.take_length]at S5
   by_cases hz:ex=0
   ·subst hz
    have HK:=Zh (RatioOf_c 1 1 W5 (by decide) (by decide) (by decide) (by decide))
    have KA:Hid (alR (alC R).length 0 (obS (dlS l t) R)=roS 1 1):=by unfold Hid alR roS;rw[if_pos rfl,if_neg (by decide)]
    obtain⟨r,hr⟩:∃ r,roS 1 1=r:=⟨_,rfl⟩
    rw[hr]at HK KA
    clear hr
    go_wp2_with fail
    (with_reducible refine HK.out.mono ?_)
    rintro e W6 ⟨rfl,b6⟩
    have J5:=Zh (R5.out.keep b6)
    have BW6:=Zh (BW5.out.trans (b6.mono BW5.out.size))
    clear b6 HK R5 S5 BW5
    obtain⟨W9,hW9⟩:∃ W9,two W6 w.heap.size (.string r.1) (.string r.2.1)=W9:=⟨_,rfl⟩
    have R9:B2 W9 w.heap.size (.string r.1) (.string r.2.1):=by rw[←hW9];exact J5.out.set _ _
    have PP:Hid (OpPost (alR (alC R).length (dfS (dlS l t) (nC (alC R))) (obS (dlS l t) R)) w (.returned (.tuple #[.agg #[.string r.1,.string r.2.1],.int .i64 r.2.2])) W9):=by
     rw[←hW9,HEX.out,KA.out]
     exact⟨rfl,below_two BW6.out (Nat.le_refl _) _ _⟩
    have q0:=J5.out.c0
    have q1:=J5.out.c1
    have g0:=J5.out.fr 0
    have g1:=J5.out.fr 1
    obtain⟨r0,r1,_,_⟩:=id R9
    unfold two at hW9
    clear R9
    go_wp2_with fail
    exact bodyPost_ret (v:=.tuple #[.agg #[.string r.1,.string r.2.1],.int .i64 r.2.2]) (by simp[results,Tryz.results25,go_sem,r0,r1]) rfl PP.out
   ·have h16:((ex:Int) == 0)=false:=by rw[beq_eq_false_iff_ne];omega
    have HK:=Zh (RatioOf_c 0 1 W5 (by decide) (by decide) (by decide) (by decide))
    have KA:roS 0 1=raR (obK (dlS l t) R 2) LM:=by
     unfold roS
     rw[if_neg (by decide),obK_two H25.out]
     exact raR_eq (by decide) (by decide) (by decide)
    have FZ:Hid (∀ s,s≤51→(raR (obK (dlS l t) R s) LM).2.2=0):=fun s hs=>by
     refine raR_fits ?_ (by decide)
     rw[Int.natAbs_natCast]
     have h1:obK (dlS l t) R s≤obK (dlS l t) R 51:=obK_mono hs
     have h2:obK (dlS l t) R 51=obS (dlS l t) R:=obS_sizes H25.out
     rw[h2]at h1
     exact Nat.lt_of_le_of_lt (Nat.le_trans h1 OB.out) (by decide)
    have F2:=FZ.out 2 (by decide)
    rw[KA]at HK
    have MK:Hid (∀ W (hb:Below W5.heap.size W5 W) (p:ByteArray×ByteArray×Int),raR (obK (dlS l t) R 2) LM=p→InO w (W.alloc (.cells #[.string p.1,.string p.2.1] 32)) sb W.heap.size 2 R (dlS l t)):=fun W hb p hp=>by
     have b7:=bel_one W (.cells #[.string p.1,.string p.2.1] 32)
     have hb2:=hb.trans (b7.mono hb.size)
     exact⟨R5.out.keep hb2,S5.out.below hb2,by rw[hp];exact B2.made _ _ _ _,BW5.out.trans (hb2.mono BW5.out.size)⟩
    obtain⟨p,hp⟩:∃ p,raR (obK (dlS l t) R 2) LM=p:=⟨_,rfl⟩
    rw[hp]at HK F2
    have MK:=Zh (fun W hb=>MK.out W hb p hp)
    clear hp KA
    obtain⟨p1,p2,f⟩:=p
    dsimp only at HK F2 MK
    subst F2
    go_wp2_with fail
    (with_reducible refine HK.out.mono ?_)
    rintro e W6 ⟨rfl,b6⟩
    have O7:=Zh (MK.out W6 b6)
    have P3:Hid (w.heap.size<W6.heap.size∧sb<W6.heap.size):=⟨Nat.lt_of_lt_of_le R5.out.lt b6.size,Nat.lt_of_lt_of_le S5.out.1 b6.size⟩
    clear b6 HK MK R5 S5 BW5
    dsimp only
    obtain⟨W7,hW7⟩:∃ W7,W6.alloc (.cells #[.string p1,.string p2] 32)=W7:=⟨_,rfl⟩
    rw[hW7]at O7
    go_wp2_with fail
    obtain⟨ob,hob⟩:∃ m,W6.heap.size=m:=⟨_,rfl⟩
    rw[hob]at O7 P3 ⊢
    clear hW7 hob
    go_loopw [16,17] (fun fv sv wr=>∃ s:Nat,2≤s∧s≤51∧fv=.int .i64 0∧sv=.int .i64 s∧Hid (InO w wr sb ob s R (dlS l t))) (fun _ sv _=>51-(intOf sv).toNat)
    case atStart=>exact⟨2,by decide,by decide,rfl,rfl,O7.out⟩
    case round=>
     clear O7
     obtain⟨s,hs2,hs51,rfl,rfl,hS⟩:=hrel
     by_cases hsl:s≤50
     ·have hsl':(s:Int)≤50:=by omega
      have hs51':(s:Int)<51:=by omega
      have hs2':(2:Int)≤(s:Int):=by omega
      have HP:=Zh (fun W=>plus_a (obK (dlS l t) R s) LM (szS (dlS l t) R s) ((s:Int)-1) W (by decide) (by omega) (FZ.out s hs51) (raR_fits (by rw[Int.natAbs_natCast];exact Nat.lt_of_le_of_lt (SB.out s) (by decide)) (Nat.lt_of_le_of_lt (show ((s:Int)-1).natAbs≤50 by omega) (by decide))) (by omega) (by have:=SB.out s;omega) (by omega) (by omega))
      rw[ob_cross (dlS l t) R hs2 hsl]at HP
      have F1:=FZ.out (s+1) (by omega)
      have HO:=Zh hS.out
      have MKN:Hid (∀ W (hb:Below wr.heap.size wr W) (q:ByteArray×ByteArray×Int),raR (obK (dlS l t) R (s+1)) LM=q→InO w (two W ob (.string q.1) (.string q.2.1)) sb ob (s+1) R (dlS l t)):=fun W hb q hq=>
       ⟨(HO.out.res.keep hb).grown (two_grown W ob _ _) (by have:=P3.out;omega),(HO.out.sm.below hb).grown (two_grown W ob _ _) (by have:=P3.out;omega),by rw[hq];exact (HO.out.obx.keep hb).set _ _,below_two (HO.out.bel.trans (hb.mono HO.out.bel.size)) (by have:=P3.out;omega) _ _⟩
      have OBK:Hid (∀ W (hb:Below wr.heap.size wr W),B2 W ob (.string (raR (obK (dlS l t) R s) LM).1) (.string (raR (obK (dlS l t) R s) LM).2.1)):=fun W hb=>HO.out.obx.keep hb
      have SK:Hid (∀ W (hb:Below wr.heap.size wr W),SOb sb s (.int .i64 (szS (dlS l t) R s:Nat)) W):=fun W hb=>((HO.out.sm.below hb).2 s (by omega)).1
      have SK2:Hid (∀ W (hb:Below wr.heap.size wr W) x y,SOb sb s (.int .i64 (szS (dlS l t) R s:Nat)) (two W ob x y)):=fun W hb x y=>((((HO.out.sm.below hb).grown (two_grown W ob x y) (by have:=P3.out;omega)).2 s (by omega)).1:_)
      have s0:=(HO.out.sm.2 s (by omega)).1
      have xb:=SB.out s
      obtain⟨p,hp⟩:∃ p,raR (obK (dlS l t) R s) LM=p:=⟨_,rfl⟩
      obtain⟨q,hq⟩:∃ q,raR (obK (dlS l t) R (s+1)) LM=q:=⟨_,rfl⟩
      obtain⟨x,hx⟩:∃ x,szS (dlS l t) R s=x:=⟨_,rfl⟩
      rw[hp]at HP OBK
      rw[hq]at HP F1
      rw[hx]at HP SK SK2 s0 xb
      have MKN:=Zh (fun W hb=>MKN.out W hb q hq)
      obtain⟨p1,p2,pf⟩:=p
      obtain⟨q1,q2,f⟩:=q
      dsimp only at HP F1 MKN OBK
      subst F1
      obtain⟨o0,o1,_,_⟩:=OBK.out wr (Below.refl _ _)
      have xb':(x:Int)≤256000000:=by omega
      have hw1:IntKind.i64.wrap ((s:Int)-1)=(s:Int)-1:=by rw[IntKind.wrap_i64];omega
      clear hS HO hp hq hx xb
      go_wp2_with fail
      refine wp_region_noPanic ?_
      refine wp_region_held_drew (S:=SOb sb s (.int .i64 (x:Nat))) (by kernel_rfl) (SK.out _ (Below.refl _ _).drew) (fun hS=>?_)
      obtain⟨WD,hWD⟩:∃ W,wr.drew=W:=⟨_,rfl⟩
      have bD:Hid (Below wr.heap.size wr WD):=by unfold Hid;rw[←hWD];exact (Below.refl _ _).drew
      rw[hWD]at hS ⊢
      clear hWD s0 o0 o1
      refine Zt (i:=1) (v:=?v1r) rfl (Or.inl ⟨by rfl,?hy1r⟩) ?rest1r
      case hy1r=>
       intro w hSw
       dsimp only[SOb]at hSw
       go_simp
       try with_reducible rfl
      simp only[Act.put,Zd,Ze,Zf,Za,Zb,Zc]
      refine Zt (i:=2) (v:=?v2r) rfl (Or.inl ⟨by rfl,?hy2r⟩) ?rest2r
      case hy2r=>
       intro w hSw
       dsimp only[SOb]at hSw
       go_simp
       try with_reducible rfl
      simp only[Act.put,Zd,Ze,Zf,Za,Zb,Zc]
      refine Zt (i:=3) (v:=?v3r) rfl (Or.inl ⟨by rfl,?hy3r⟩) ?rest3r
      case hy3r=>
       intro w hSw
       dsimp only[SOb]at hSw
       go_simp
       try with_reducible rfl
      simp only[Act.put,Zd,Ze,Zf,Za,Zb,Zc]
      refine Zt (i:=4) (v:=?v4r) rfl (Or.inl ⟨by rfl,?hy4r⟩) ?rest4r
      case hy4r=>
       intro w hSw
       dsimp only[SOb]at hSw
       go_simp
       try with_reducible rfl
      simp only[Act.put,Zd,Ze,Zf,Za,Zb,Zc]
      refine Zt (i:=5) (v:=?v5r) rfl (Or.inl ⟨by rfl,?hy5r⟩) ?rest5r
      case hy5r=>
       intro w hSw
       dsimp only[SOb]at hSw
       go_simp
       try with_reducible rfl
      simp only[Act.put,Zd,Ze,Zf,Za,Zb,Zc]
      obtain⟨o0,o1,_,_⟩:=OBK.out WD bD.out
      refine wpAnyH_ready (rs:=[0]) (by kernel_rfl) (by simp) ?_
      refine AllReadyH.cons rfl (fun K hK=>?_) AllReadyH.nil
      go_simp
      refine hK.out _ _ hS (fun _=>?_)
      clear hK K o0 o1
      try simp only[Act.put,Zd,Ze,Zf,Za,Zb,Zc]
      refine wpAnyH_ready (rs:=[6]) (by kernel_rfl) (by simp) ?_
      refine AllReadyH.cons rfl (fun K hK=>?_) AllReadyH.nil
      go_simp
      (with_reducible refine (HP.out WD).mono ?_)
      rintro e V1 ⟨rfl,bb⟩
      try go_simp
      have bV:=Zh (bD.out.trans (bb.mono bD.out.size))
      have hT:=SK.out V1 bV.out
      have HT2:=Zh (SK2.out V1 bV.out (.string q1) (.string q2))
      have NXO:=Zh (MKN.out V1 bV.out)
      obtain⟨o0,o1,g0,_⟩:=OBK.out V1 bV.out
      have g00:=g0 0
      have g01:=g0 1
      refine hK.out _ _ hT (fun _=>?_)
      clear hK K hS bb g0
      have hS:=hT
      clear hT
      try simp only[Act.put,Zd,Ze,Zf,Za,Zb,Zc]
      refine Zt (i:=7) (v:=?v7r) rfl (Or.inl ⟨by rfl,?hy7r⟩) ?rest7r
      case hy7r=>
       intro w hSw
       dsimp only[SOb]at hSw
       go_simp
       try with_reducible rfl
      simp only[Act.put,Zd,Ze,Zf,Za,Zb,Zc]
      refine Zt (i:=8) (v:=?v8r) rfl (Or.inl ⟨by rfl,?hy8r⟩) ?rest8r
      case hy8r=>
       intro w hSw
       dsimp only[SOb]at hSw
       go_simp
       try with_reducible rfl
      simp only[Act.put,Zd,Ze,Zf,Za,Zb,Zc]
      refine Zt (i:=9) (v:=?v9r) rfl (Or.inl ⟨by rfl,?hy9r⟩) ?rest9r
      case hy9r=>
       intro w hSw
       dsimp only[SOb]at hSw
       go_simp
       try with_reducible rfl
      simp only[Act.put,Zd,Ze,Zf,Za,Zb,Zc]
      refine wpAnyH_ready (rs:=[10]) (by kernel_rfl) (by simp) ?_
      refine AllReadyH.cons rfl (fun K hK=>?_) AllReadyH.nil
      go_simp
      unfold two at HT2 NXO
      have hT:=HT2.out
      refine hK.out _ _ hT (fun _=>?_)
      clear hK K hS o0 o1 g00 g01
      have hS:=hT
      clear hT
      try simp only[Act.put,Zd,Ze,Zf,Za,Zb,Zc]
      refine Zt (i:=11) (v:=?v11r) rfl (Or.inl ⟨by rfl,?hy11r⟩) ?rest11r
      case hy11r=>
       intro w hSw
       dsimp only[SOb]at hSw
       go_simp
       try with_reducible rfl
      simp only[Act.put,Zd,Ze,Zf,Za,Zb,Zc]
      refine wpAnyH_done (by kernel_rfl) ?_ _
      refine NoPanic.normal ?_
      clear hS
      go_wp2_with fail
      go_roundw
      case rel=>exact⟨s+1,by omega,by omega,rfl,by go_num,NXO.out⟩
      case measure=>simp[intOf];omega
     ·obtain rfl:s=51:=by omega
      have HB:=Zh (fun W=>alphaBy_c (obS (dlS l t) R) (alC R).length ex W ALN (by omega) EXN (Nat.le_trans OB.out (Nat.mul_le_mul_right LM (by decide))))
      have e51:obK (dlS l t) R 51=obS (dlS l t) R:=obS_sizes H25.out
      have hox:=hS.out.obx
      rw[e51]at hox
      have RES:=Zh hS.out.res
      have BEL:=Zh hS.out.bel
      have RR:Hid (alR (alC R).length (dfS (dlS l t) (nC (alC R))) (obS (dlS l t) R)=alR (alC R).length ex (obS (dlS l t) R)):=by unfold Hid;rw[HEX.out]
      obtain⟨r,hr⟩:∃ r,alR (alC R).length ex (obS (dlS l t) R)=r:=⟨_,rfl⟩
      obtain⟨p,hp⟩:∃ p,raR (obS (dlS l t) R) LM=p:=⟨_,rfl⟩
      rw[hp]at hox HB
      rw[hr]at HB RR
      obtain⟨o0,o1,_,_⟩:=hox
      have HB0:=Zh (HB.out wr)
      clear hS hp hr e51 hsl HB
      go_wp2_with fail
      (with_reducible refine HB0.out.mono ?_)
      rintro e W8 ⟨rfl,b8⟩
      have J5:=Zh (RES.out.keep b8)
      have BW8:=Zh (BEL.out.trans (b8.mono BEL.out.size))
      clear b8 HB0 RES BEL o0 o1
      obtain⟨W9,hW9⟩:∃ W9,two W8 w.heap.size (.string r.1) (.string r.2.1)=W9:=⟨_,rfl⟩
      have R9:B2 W9 w.heap.size (.string r.1) (.string r.2.1):=by rw[←hW9];exact J5.out.set _ _
      have PP:Hid (OpPost (alR (alC R).length (dfS (dlS l t) (nC (alC R))) (obS (dlS l t) R)) w (.returned (.tuple #[.agg #[.string r.1,.string r.2.1],.int .i64 r.2.2])) W9):=by
       rw[←hW9,RR.out]
       exact⟨rfl,below_two BW8.out (Nat.le_refl _) _ _⟩
      have q0:=J5.out.c0
      have q1:=J5.out.c1
      have g0:=J5.out.fr 0
      have g1:=J5.out.fr 1
      obtain⟨r0,r1,_,_⟩:=id R9
      unfold two at hW9
      clear R9
      go_wp2_with fail
      exact bodyPost_ret (v:=.tuple #[.agg #[.string r.1,.string r.2.1],.int .i64 r.2.2]) (by simp[results,Tryz.results25,go_sem,r0,r1]) rfl PP.out
def CsO(C:List Cg)(w:World)(e:Ending)(w':World):Prop:=∃ v,e=.returned v∧OwnR w w' w.heap.size v (cases_ C)∧Below w.heap.size w w'
set_option maxHeartbeats 4000000 in
theorem casesOfO_c(a:Option Addr) (c:Nat) (C:List Cg) (w:World) (hC:RdC w a C) (hn:C.length≤20000) (hcap:C.length≤c) :
  Calls Tryz.prog 23 #[.slice a C.length c] w (CsO C w):=by
 obtain⟨i0,hi,hz0,hz1,hz2⟩:=info_parts infoS
 have HC:=Zh hC
 have h9:=hC.1
 clear hC
 go_enter Tryz.func23,Tryz.ntmps23
 go_wp2
 go_loopw [3,4,9] (fun v f i wr=>∃ k:Nat,k≤C.length∧i=.int .i64 k∧f=.int .i64 (begK C k:Nat)∧Hid (InG w wr v C k)) (fun _ _ i _=>C.length-(intOf i).toNat)
 case atStart=>
  have e1:outK C 0=[]:=by unfold outK cases_;split;rfl;rw[if_pos (by omega)]
  have e2:begK C 0=0:=by unfold begK;split;rfl;omega
  exact⟨0,Nat.zero_le _,rfl,by rw[e2];rfl,by rw[e1];exact OwnR.nil_ _ _ _,Below.refl _ _⟩
 case round=>
  obtain⟨k,hk,rfl,rfl,hS⟩:=hrel
  by_cases hlt:k<C.length
  ·obtain⟨b',off,rfl,u0,u1,u2⟩:=(HC.out.below hS.out.bel).at_ hlt
   have hlt':(k:Int)<(C.length:Int):=by omega
   obtain⟨W1,hW1⟩:∃ W1,wr.alloc (.cells #[.int .i64 (cg C k).ca,.int .i64 (cg C k).co,.int .i64 (cg C k).cd] 69)=W1:=⟨_,rfl⟩
   have N1:Hid (CodB wr W1 (cg C k)):=by unfold Hid;rw[←hW1];exact cod_b _ _
   obtain⟨xs,hown,hx⟩:=hS.out.own
   have BEL:=Zh hS.out.bel
   have HX:=Zh hx
   have LE:=Zh (begK_le hlt)
   have LN:=Zh (outK_len hlt)
   have hxl:Hid (xs.length=(outK C k).length):=by
    have:=hown.1
    unfold Hid;omega
   have O1:Hid (W1.ownsRow w.heap.size 23 1 u3 (outK C k).length xs∧Below w.heap.size w W1):=⟨Cqown_keep hown N1.out.1,BEL.out.trans (N1.out.1.mono BEL.out.size)⟩
   have v0:=N1.out.2.c0
   clear hown hx hS
   obtain⟨f,hf⟩:∃ f,begK C k=f:=⟨_,rfl⟩
   rw[hf]at LE ⊢
   have DD:Hid (RdC w (some ⟨b',off+f*3,none⟩) (seg C f (k+1-f))):=RdC.part HC.out (by have:=LE.out;omega)
   have hcf:¬ c=f:=by have:=LE.out;omega
   have hfl:f≤C.length:=by have:=LE.out;omega
   have hfk:f≤k+1:=by have:=LE.out;omega
   by_cases hlast:k+1=C.length
   ·have E:=Zh (out_last hlast)
    rw[hf]at E
    have hl1:(k:Int)+1=(C.length:Int):=by omega
    go_wp2_with fail
    go_quiet (fail)
    have O2:Hid ((W1.drewN nq).ownsRow w.heap.size 23 1 u3 (outK C k).length xs∧Below w.heap.size w (W1.drewN nq)):=⟨Cqown_keep O1.out.1 (below_drewN (Below.refl _ _) nq),below_drewN O1.out.2 nq⟩
    clear O1 hW1 u0 u1 u2 v0 N1
    generalize W1.drewN nq=W2 at O2 ⊢
    go_wp2_with (at_builtin;refine wpList_append_own_at _ rfl _ _ 60 rfl w.heap.size 23 i0 (.slice none 0 0) 1 24 Tryz.underlying60 hi hz0 hz1 hz2 rfl (by decide) _ _ _ rfl (O2.out.1.alloc _) ⟨W2.heap.size,0,none⟩ 1 1 [.slice (some ⟨b',off+f*3,none⟩) (C.length-f) (c-f)] rfl rfl (cell_one_new _ _ _) (by simp[Value.oneCell']) ?c3 ?c4 ?c5 ?_)
    case c3=>have hh:(outK C k).length≤k:=LN.out;unfold maxLen;omega
    case c4=>have hh:(outK C k).length≤k:=LN.out;omega
    case c5=>have:=O2.out.2.size;simp;omega
    intro v' w4 hown' hgrow _ hloc
    have NX:Hid (InG w w4 v' C (k+1)):=by
     have hD:(seg C f (k+1-f)).length=C.length-f:=by rw[seg_len];omega
     refine⟨?_,?_⟩
     ·rw[E.out.1]
      exact OwnR.snoc HX.out hxl.out (by rw[hD];exact hown') DD.out
     ·have hs:=O2.out.2.size
      exact (O2.out.2.alloc hs _).grown hgrow (by simp;omega) (fun g hg=>(O2.out.1.lt g hg).1)
    clear hown' hgrow hloc O2 HX hxl DD
    go_wp2
    go_roundw
    case rel=>exact⟨k+1,by omega,by go_num,by rw[E.out.2];go_num,NX.out⟩
    case measure=>simp[intOf];omega
   ·have hl1:¬ (k:Int)+1=(C.length:Int):=by omega
    obtain⟨_,_,e,p0,_,_⟩:=(HC.out.below O1.out.2).at_ (k:=k+1) (by omega)
    injection e with e;injection e with e1 e2;subst e1;subst e2
    have hk1:(k:Int)+1<(C.length:Int):=by omega
    have hk9:(k:Int)<20000:=by omega
    have hl2:((k:Int)+1 == (C.length:Int))=false:=by rw[beq_eq_false_iff_ne];exact hl1
    have hl3:decide ((k:Int)+1=(C.length:Int))=false:=decide_eq_false hl1
    by_cases hne:(cg C (k+1)).ca=(cg C k).ca
    ·have E:=Zh (out_old (C:=C) (k:=k) (by omega) hne)
     rw[hf]at E
     have hne0:((cg C (k+1)).ca == (cg C k).ca)=true:=by rw[beq_iff_eq];exact hne
     have hne1:((cg C (k+1)).ca != (cg C k).ca)=false:=by rw[bne,hne0];rfl
     clear hlast hne
     go_wp2_with fail
     go_quiet (fail)
     have NX:Hid (InG w (W1.drewN nq) u3 C (k+1)):=by
      refine⟨?_,below_drewN O1.out.2 nq⟩
      rw[E.out.1]
      exact⟨xs,Cqown_keep O1.out.1 (below_drewN (Below.refl _ _) nq),HX.out⟩
     clear O1 hW1 u0 u1 u2 v0 N1 p0 HX hxl DD
     go_wp2
     go_roundw
     case rel=>exact⟨k+1,by omega,by go_num,by rw[E.out.2],NX.out⟩
     case measure=>simp[intOf];omega
    ·have E:=Zh (out_new (C:=C) (k:=k) (by omega) hne)
     rw[hf]at E
     have hne0:((cg C (k+1)).ca == (cg C k).ca)=false:=by rw[beq_eq_false_iff_ne];exact hne
     have hne1:((cg C (k+1)).ca != (cg C k).ca)=true:=by rw[bne,hne0];rfl
     clear hlast hne
     go_wp2_with fail
     go_quiet (fail)
     have O2:Hid ((W1.drewN nq).ownsRow w.heap.size 23 1 u3 (outK C k).length xs∧Below w.heap.size w (W1.drewN nq)):=⟨Cqown_keep O1.out.1 (below_drewN (Below.refl _ _) nq),below_drewN O1.out.2 nq⟩
     clear O1 hW1 u0 u1 u2 v0 N1 p0
     generalize W1.drewN nq=W2 at O2 ⊢
     go_wp2_with (at_builtin;refine wpList_append_own_at _ rfl _ _ 60 rfl w.heap.size 23 i0 (.slice none 0 0) 1 24 Tryz.underlying60 hi hz0 hz1 hz2 rfl (by decide) _ _ _ rfl (O2.out.1.alloc _) ⟨W2.heap.size,0,none⟩ 1 1 [.slice (some ⟨b',off+f*3,none⟩) ((k+1)-f) (c-f)] rfl rfl (cell_one_new _ _ _) (by simp[Value.oneCell']) ?c3 ?c4 ?c5 ?_)
     case c3=>have hh:(outK C k).length≤k:=LN.out;unfold maxLen;omega
     case c4=>have hh:(outK C k).length≤k:=LN.out;omega
     case c5=>have:=O2.out.2.size;simp;omega
     intro v' w4 hown' hgrow _ hloc
     have NX:Hid (InG w w4 v' C (k+1)):=by
      have hD:(seg C f (k+1-f)).length=(k+1)-f:=by rw[seg_len]
      refine⟨?_,?_⟩
      ·rw[E.out.1]
       exact OwnR.snoc HX.out hxl.out (by rw[hD];exact hown') DD.out
      ·have hs:=O2.out.2.size
       exact (O2.out.2.alloc hs _).grown hgrow (by simp;omega) (fun g hg=>(O2.out.1.lt g hg).1)
     clear hown' hgrow hloc O2 HX hxl DD
     go_wp2
     go_roundw
     case rel=>exact⟨k+1,by omega,by go_num,by rw[E.out.2];go_num,NX.out⟩
     case measure=>simp[intOf];omega
  ·obtain rfl:k=C.length:=by omega
   have e:outK C C.length=cases_ C:=by unfold outK;rw[if_neg (Nat.lt_irrefl _)]
   have R:Hid (CsO C w (.returned u3) wr):=by
    have h:=hS.out.own
    rw[e]at h
    exact⟨_,rfl,h,hS.out.bel⟩
   clear hlt hS e
   go_wp2
   go_ret
   exact R.out
end Go.Proofs.YtghgbhmiliiohaaGreatDoor
