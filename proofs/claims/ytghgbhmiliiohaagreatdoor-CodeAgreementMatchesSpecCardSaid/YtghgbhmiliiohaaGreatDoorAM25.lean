/-
  Package code: Meeting; CodeDistancesAreDistances, the law.
-/
import Derived.Test.YtghgbhmiliiohaaGreatDoorAM24
import Derived.Test.YtghgbhmiliiohaaGreatDoorAMQ
import Derived.Test.YtghgbhmiliiohaaGreatDoorAM10
import Derived.Deep.Onto
import Derived.Test.YtghgbhmiliiohaaGreatDoorAM04
set_option maxRecDepth 100000
namespace Go.Proofs.YtghgbhmiliiohaaGreatDoor
open Go.RowKit Go.WideMaps Go.Maps Go.Lib Go.Sort
theorem flat_at{α:Type}[Inhabited α]{enc:α→List Value}{k:Nat}(hk:∀ x,(enc x).length=k)(k0:0<k):∀ (l:List α) (t:Nat),t<l.length*k→(l.flatMap enc)[t]?=some (enc l[t / k]!)[t % k]!
 | [],t,h=>by simp at h
 | x::l,t,h=>by
  rw[List.flatMap_cons]
  by_cases e:t<k
  ·rw[List.getElem?_append_left (by rw[hk];exact e),Nat.div_eq_of_lt e,Nat.mod_eq_of_lt e]
   have:t<(enc x).length:=by rw[hk];exact e
   simp[this]
  ·rw[List.getElem?_append_right (by rw[hk];omega),hk]
   have e2:t / k=(t-k) / k+1:=by
    rw[←Nat.sub_add_cancel (show k≤t by omega),Nat.add_div_right _ k0,Nat.add_sub_cancel]
   have e3:t % k=(t-k) % k:=by
    rw[Nat.mod_eq_sub_mod (show t≥k by omega)]
   have hl:t-k<l.length*k:=by simp only[List.length_cons,Nat.succ_mul]at h;omega
   rw[flat_at hk k0 l (t-k) hl,e2,e3]
   simp
theorem flat_list{α:Type}[Inhabited α]{enc:α→List Value}{k:Nat}(hk:∀ x,(enc x).length=k)(k0:0<k)(d:Array α):(flatK enc k d).toList=d.toList.flatMap enc:=by
 have hl:(d.toList.flatMap enc).length=d.size*k:=by
  have:∀ l:List α,(l.flatMap enc).length=l.length*k:=fun l=>by
   induction l with
   | nil=>simp
   | cons x l ih=>rw[List.flatMap_cons,List.length_append,hk,ih,List.length_cons,Nat.succ_mul];omega
  rw[this];simp
 apply List.ext_getElem?
 intro t
 by_cases ht:t<d.size*k
 ·have ht2:t<d.toList.length*k:=by simpa using ht
  rw[flat_at hk k0 d.toList t ht2]
  have e:=get_flatK enc k d t ht
  have hs:t<(flatK enc k d).size:=by rw[size_flatK];exact ht
  rw[Array.getElem?_toList,Array.getElem?_eq_getElem hs]
  rw[getElem!_pos _ t hs]at e
  rw[e]
  have hd:t / k<d.size:=by rw[Nat.div_lt_iff_lt_mul k0];exact ht
  simp[getElem!_pos,hd]
 ·rw[List.getElem?_eq_none (by rw[Array.length_toList,size_flatK];omega),List.getElem?_eq_none (by rw[hl];omega)]
theorem encC_len(P:List (Int×Int))(p:Int×Int):(encC P p).length=3:=rfl
theorem trow_enc(P K:List (Int×Int)):trow (K.map (trip P))=K.flatMap (encC P):=by unfold trow;rw[List.flatMap_map];rfl
theorem row_sorted{w:World} {base:Nat} {T:TypeId} {P K K':List (Int×Int)} {g cap m:Nat} {os:Array Obj} (h:w.ownsRow base T 3 (.slice (some ⟨g,0,none⟩) K.length cap) K.length (trow (K.map (trip P)))) (hl:K'.length=K.length) :
  (sortWorldK (encC P) 3 w g 0 m K'.toArray os).ownsRow base T 3 (.slice (some ⟨g,0,none⟩) K.length cap) K.length (trow (K'.map (trip P)))∧(∀ w0,Below base w0 w→Below base w0 (sortWorldK (encC P) 3 w g 0 m K'.toArray os)):=by
 rcases h.2 with ⟨e,_⟩|⟨g',cap',cur,e1,hb,hg,hn,hm,hs,ht⟩
 ·cases e
 ·injection e1 with e1 _ e3
  injection e1 with e1
  injection e1 with e1
  subst e1;subst e3
  have hlt:=(Array.getElem?_eq_some_iff.1 hg).1
  have hF:(flatK (encC P) 3 K'.toArray).toList=trow (K'.map (trip P)):=by rw[flat_list (encC_len P) (by decide),trow_enc]
  have hFs:(flatK (encC P) 3 K'.toArray).size=K.length*3:=by rw[size_flatK];simp[hl]
  have hput:(putRow id (Sort.ahead w m) g 0 (flatK (encC P) 3 K'.toArray)).heap[g]?=some (.cells (putCells id 0 (flatK (encC P) 3 K'.toArray) cur) T (0,0)):=by
   simp[putRow,mapBlock,Sort.ahead,Array.getElem?_modify,hg,onCells]
  refine⟨⟨by rw[←hF,Array.length_toList,hFs],.inr ⟨g,cap,putCells id 0 (flatK (encC P) 3 K'.toArray) cur,rfl,hb,?_,hn,hm,by simpa[putCells] using hs,?_⟩⟩,fun w0 hb0=>?_⟩
  ·show (grow (putRow id (Sort.ahead w m) g 0 (flatK (encC P) 3 K'.toArray)) os).heap[g]?=_
   rw[heap_grow_old _ _ (by simpa[putRow,mapBlock,Sort.ahead] using hlt)]
   exact hput
  ·rw[←hF]
   apply List.ext_getElem?
   intro j
   rw[List.getElem?_take,Array.getElem?_toList,Array.getElem?_toList]
   by_cases hj:j<K.length*3
   ·have hjc:j<cur.size:=by
     have:=Nat.mul_le_mul_right 3 hn
     omega
    rw[if_pos hj]
    simp only[putCells,Array.getElem?_mapIdx,Array.getElem?_eq_getElem hjc,Option.map_some]
    rw[if_pos (by omega),Array.getElem?_eq_getElem (by omega),Nat.sub_zero,getElem!_pos _ j (by omega)]
    rfl
   ·rw[if_neg hj,Array.getElem?_eq_none (by omega)]
  ·have h1:=below_putRow (enc:=id) (q:=m) (d:=flatK (encC P) 3 K'.toArray) hb0 hb
   have h2:=Go.Proofs.below_grown (putRow id (Sort.ahead w m) g 0 (flatK (encC P) 3 K'.toArray)) 0 os
   rw[ahead_zero]at h2
   have hz:(putRow id (Sort.ahead w m) g 0 (flatK (encC P) 3 K'.toArray)).heap.size=w.heap.size:=by simp[putRow,mapBlock,Sort.ahead]
   exact h1.trans (h2.mono (by rw[hz];omega))
abbrev srv:Value:=.func (.func 36) #[] #[]
theorem cmp_enters(args:Array Value)(w:World):(callFunc 36 args).run Tryz.prog w=.ok (.enter 36 args) w:=enters_of Tryz.func36 (by kernel_rfl) rfl args w
theorem cf_agg(w:World):(isAgg 30).run Tryz.prog w=.ok true w:=by kernel_rfl
theorem cf_size(w:World):(Go.sizeOf 30).run Tryz.prog w=.ok 3 w:=by kernel_rfl
theorem sort_c(W:World) (base:Nat) (v:Value) (P K:List (Int×Int)) (hown:W.ownsRow base 30 3 v K.length (trow (K.map (trip P)))) (hn:K.length≤20000) (hnd:K.Nodup) :
  Calls Tryz.prog 35 #[v,srv] W fun e W'=>e=.returned (.tuple #[])∧∃ K':List (Int×Int),K'.length=K.length∧(∀ p,p∈K'↔p∈K)∧K'.Pairwise (fun p q=>p.1<q.1∨(p.1=q.1∧p.2<q.2)) ∧
   W'.ownsRow base 30 3 v K.length (trow (K'.map (trip P)))∧∀ w0,Below base w0 W→Below base w0 W':=by
 by_cases hv:v=.slice none 0 0
 ·subst hv
  have h0:K.length=0:=by
   rcases hown.2 with ⟨_,h⟩|⟨g,cap,cur,h,_⟩
   ·exact h
   ·cases h
  obtain rfl:K=[]:=List.eq_nil_of_length_eq_zero h0
  have hcon:=AnyF.slices_SortFunc_none (P:=Tryz.prog) (ρ:=Tryz.sortCf_ren) Tryz.sortCf none 0 srv W
  change Calls Tryz.prog 35 _ _ _ at hcon
  refine hcon.mono ?_
  rintro e w' ⟨rfl,rfl⟩
  exact⟨rfl,[],rfl,fun p=>Iff.rfl,List.Pairwise.nil,hown,fun _ h=>h⟩
 ·rcases hown.2 with ⟨e,_⟩|⟨g,cap,cur,rfl,hb,hg,hc,hm,hs,ht⟩
  ·exact absurd e hv
  have hlt:=(Array.getElem?_eq_some_iff.1 hg).1
  have hH:HoldsK (encC P) 3 W g 0 K.toArray:=fun j hj=>by
   have hF:=flat_list (encC_len P) (by decide) K.toArray
   have hcell:=hown.cells (g:=g) rfl j (flatK (encC P) 3 K.toArray)[j]! (by
    rw[trow_enc]
    have:K.flatMap (encC P)=(flatK (encC P) 3 K.toArray).toList:=by rw[hF]
    rw[this,Array.getElem?_toList,Array.getElem?_eq_getElem hj,getElem!_pos _ j hj])
   rw[add_at]at hcell
   exact⟨hcell,by rw[Nat.zero_add];exact hown.frozenAt j⟩
  have hsz:K.toArray.size=K.length:=by simp
  have hcon:=AnyQ.slices_SortFunc_total (P:=Tryz.prog) (ρ:=Tryz.sortCf_ren) Tryz.sortCf 3 cf_agg cf_size (encC P) (encC_len P) (fun x v hv=>by simp[encC,tcells]at hv;rcases hv with rfl | rfl | rfl<;>rfl) cfC cfC_swo 36 #[] g 0 cap K.toArray W cmp_enters (fun m os dk _ x y=>cmpC_c x y _ _ _) hH hlt (by rw[hsz];omega) cfC_tot
  change Calls Tryz.prog 35 _ _ _ at hcon
  rw[hsz]at hcon
  refine hcon.mono ?_
  rintro e w' ⟨rfl,m,os,rfl⟩
  have hperm:(K.mergeSort fun x y=>!(ltOf cfC) y x).Perm K:=List.mergeSort_perm _ _
  have hl:(K.mergeSort fun x y=>!(ltOf cfC) y x).length=K.length:=hperm.length_eq
  have hrow:=row_sorted (m:=m) (os:=os) hown hl
  refine⟨rfl,K.mergeSort fun x y=>!(ltOf cfC) y x,hl,fun p=>hperm.mem_iff,?_,hrow.1,hrow.2⟩
  have hpw:(K.mergeSort fun x y=>!(ltOf cfC) y x).Pairwise fun x y=>(!(ltOf cfC) y x)=true:=List.pairwise_mergeSort (fun a b c h1 h2=>by simp only[cfC_lt,Bool.not_eq_true',decide_eq_false_iff_not]at *;omega) (fun a b=>by simp only[cfC_lt];simp;omega) K
  have hnd2:(K.mergeSort fun x y=>!(ltOf cfC) y x).Nodup:=hperm.nodup_iff.2 hnd
  refine (hpw.and hnd2).imp fun {p q} h=>?_
  obtain⟨h1,h2⟩:=h
  by_cases e:(ltOf cfC) p q=true
  ·rw[cfC_lt]at e
   exact of_decide_eq_true e
  ·exact absurd (cfC_tot p q (by simpa using e) (by simpa using h1)) h2
def CfW(P:List (Int×Int))(w:World)(e:Ending)(w':World):Prop:=
 ∃ (v:Value) (K:List (Int×Int)),e=.returned v∧w'.ownsRow w.heap.size 30 3 v K.length (trow (K.map (trip P)))∧(∀ p,p∈K↔p∈P)∧K.Pairwise (fun p q=>p.1<q.1∨(p.1=q.1∧p.2<q.2))∧Below w.heap.size w w'
def S2c(g:Nat)(x y:Int)(W:World):Prop:=W.cell? ⟨g,0,none⟩=some (.int .i64 x)∧W.cell? ⟨g,1,none⟩=some (.int .i64 y)
theorem nB_bump{P:List (Int×Int)}{k:Nat}{x y:Int}(h:k<P.length)(hp:pn P k=(x,y))(a b:Int):(if a=x∧b=y then nB (P.take k) x y+1 else nB (P.take k) a b)=nB (P.take (k+1)) a b:=by
 rw[nB_next h a b,hp]
 dsimp only
 by_cases e:a=x∧b=y
 ·obtain⟨rfl,rfl⟩:=e
  rw[if_pos ⟨rfl,rfl⟩];simp
 ·rw[if_neg e]
  have:((x == a) && (y == b))=false:=by
   rw[Bool.and_eq_false_iff]
   by_cases e1:a=x
   ·right;rw[beq_eq_false_iff_ne];exact fun h=>e ⟨e1,h.symm⟩
   ·left;rw[beq_eq_false_iff_ne];exact fun h=>e1 h.symm
  rw[this];simp
theorem nB_take_le(P:List (Int×Int))(k:Nat)(x y:Int):nB (P.take k) x y≤P.length:=by
 refine Nat.le_trans (nB_le _ _ _) ?_
 rw[List.length_take];exact Nat.min_le_right _ _
set_option maxHeartbeats 8000000 in
theorem confusionsOf_c(a:Option Addr) (c:Nat) (P:List (Int×Int)) (w:World) (hP:RdP w a P) (hs:SmP P) (hn:P.length≤20000) :
  Calls Tryz.prog 12 #[.slice a P.length c] w (CfW P w):=by
 have hmm:=@run_makeMap Tryz.prog
 obtain⟨i0,hi,hz0,hz1,hz2⟩:=info_parts infoCn
 have HP:=Zh hP
 have HS:=Zh hs
 have h9n:=hP.1
 have S0:Hid (PmIs (w.alloc (.map #[] 0)) w.heap.size 0 (nB (P.take 0))∧Below w.heap.size w (w.alloc (.map #[] 0))):=⟨(PmIs.made w).congr fun x y=>by simp[nB],(Below.refl _ _).alloc (Nat.le_refl _) _⟩
 clear hP hs
 obtain⟨W1,hW1⟩:∃ W,w.alloc (.map #[] 0)=W:=⟨_,rfl⟩
 rw[hW1]at S0
 go_enter Tryz.func12,Tryz.ntmps12
 go_wp2_with fail
 clear hW1
 go_loopw [12] (fun i wr=>∃ k:Nat,k≤P.length∧i=.int .i64 k∧Hid (PmIs wr w.heap.size k (nB (P.take k))∧Below w.heap.size w wr)) (fun i _=>P.length-(intOf i).toNat)
 case atStart=>exact⟨0,Nat.zero_le _,rfl,S0.out⟩
 case round=>
  clear S0
  obtain⟨k,hk,rfl,hS⟩:=hrel
  by_cases hlt:k<P.length
  ·obtain⟨b',off,rfl,u0,u1⟩:=(HP.out.below hS.out.2).at_ hlt
   have hlt':(k:Int)<(P.length:Int):=by omega
   have hsm:=HS.out _ (pn_mem hlt)
   obtain⟨p,hp⟩:∃ p,pn P k=p:=⟨_,rfl⟩
   obtain⟨x,y⟩:=p
   have NBP:=Zh (nB_bump hlt hp)
   rw[hp]at u0 u1 hsm
   dsimp only at u0 u1 hsm
   have inx:=in_inw hsm.1
   have iny:=in_inw hsm.2
   obtain⟨WA,hWA⟩:∃ W,wr.alloc (.cells #[.int .i64 x,.int .i64 y] 74)=W:=⟨_,rfl⟩
   have bA:Below wr.heap.size wr WA:=by rw[←hWA];exact bel_one _ _
   have sA:Hid (S2c wr.heap.size x y WA):=by unfold Hid;rw[←hWA];exact⟨by rw[World.cell?_alloc_new];rfl,by rw[World.cell?_alloc_new];rfl⟩
   have zA:Hid (wr.heap.size<WA.heap.size):=by unfold Hid;rw[←hWA];simp
   have bD:Below WA.heap.size WA WA.drew:=(Below.refl _ _).drew
   have bAD:=bA.trans (bD.mono bA.size)
   have hPD:PmIs WA.drew w.heap.size k (nB (P.take k)):=hS.out.1.kept (below_grow bAD) (by intro e;cases e)
   have hl0:=hPD.look inx iny
   obtain⟨v0,st,w1,w2,he,hst,hl1,hP2,hg2,hg1⟩:=hPD.bump (by unfold maxLen;omega) inx iny
   have ZM:Hid (wr.heap.size≠w.heap.size):=by have:=hS.out.1.lt;unfold Hid;omega
   have SD:Hid (S2c wr.heap.size x y WA.drew):=⟨(bD.cell (p:=⟨wr.heap.size,0,none⟩) zA.out).trans sA.out.1,(bD.cell (p:=⟨wr.heap.size,1,none⟩) zA.out).trans sA.out.2⟩
   have ZD:Hid (wr.heap.size<WA.drew.heap.size):=Nat.lt_of_lt_of_le zA.out bD.size
   have NX:Hid (PmIs w2 w.heap.size (k+1) (nB (P.take (k+1)))∧Below w.heap.size w w2):=
    ⟨hP2.congr fun a b=>NBP.out a b,(hS.out.2.trans (bAD.mono hS.out.2.size)).grown hg2 (by have:=hS.out.2.size;have:=bAD.size;omega) (fun j hj=>by cases hj;exact Nat.le_refl _)⟩
   have cb:=nB_take_le P k x y
   obtain⟨cc,hcc⟩:∃ c,nB (P.take k) x y=c:=⟨_,rfl⟩
   rw[hcc]at hl0 hl1 hst cb
   have cb':(cc:Int)≤20000:=by omega
   have hw1:IntKind.i64.wrap ((cc:Int)+1)=(cc:Int)+1:=by rw[IntKind.wrap_i64];omega
   clear hS hP2 hPD bA bD bAD hp hsm inx iny hcc cb NBP
   obtain⟨WD,hWD⟩:∃ W,WA.drew=W:=⟨_,rfl⟩
   rw[hWD]at SD ZD hl0 he hg1 hg2
   have HS0:=Zh SD.out
   go_wp2_with fail
   clear u0 u1 hWA
   refine wp_region_noPanic ?_
   refine wp_region_held_drew (S:=S2c wr.heap.size x y) (by kernel_rfl) (by rw[hWD];exact SD.out) (fun hS=>?_)
   rw[hWD]at hS ⊢
   clear hWD sA zA SD
   obtain⟨zx,hzx⟩:∃ z,wr.heap.size=z:=⟨_,rfl⟩
   rw[hzx]at hS ZM ZD HS0 ⊢
   clear hzx
   refine Zt (i:=0) (v:=?v0c) rfl (Or.inl ⟨by rfl,?hy0c⟩) ?rest0c
   case hy0c=>
    intro w hSw
    dsimp only[S2c]at hSw
    go_simp
    try with_reducible rfl
   simp only[Act.put,Zd,Ze,Zf,Za,Zb,Zc]
   refine Zt (i:=1) (v:=?v1c) rfl (Or.inl ⟨by rfl,?hy1c⟩) ?rest1c
   case hy1c=>
    intro w hSw
    dsimp only[S2c]at hSw
    go_simp
    try with_reducible rfl
   simp only[Act.put,Zd,Ze,Zf,Za,Zb,Zc]
   refine wpAnyH_ready (rs:=[2,4]) (by kernel_rfl) (by simp) ?_
   refine AllReadyH.cons rfl (fun K hK=>?_) (AllReadyH.cons rfl (fun K hK=>?_) AllReadyH.nil)
   ·skip
    go_simp
    refine hK.out _ _ hS (fun _=>?_)
    clear hK K
    try simp only[Act.put,Zd,Ze,Zf,Za,Zb,Zc]
    refine Zt (i:=3) (v:=?v3d) rfl (Or.inl ⟨by rfl,?hy3d⟩) ?rest3d
    case hy3d=>
     intro w hSw
     dsimp only[S2c]at hSw
     go_simp
     try with_reducible rfl
    simp only[Act.put,Zd,Ze,Zf,Za,Zb,Zc]
    refine wpAnyH_ready (rs:=[4]) (by kernel_rfl) (by simp) ?_
    refine AllReadyH.cons rfl (fun K hK=>?_) AllReadyH.nil
    go_simp
    have hT:S2c zx x y w1:=⟨(grown_cell (p:=⟨zx,0,none⟩) hg1 ZD.out ZM.out).trans hS.1,(grown_cell (p:=⟨zx,1,none⟩) hg1 ZD.out ZM.out).trans hS.2⟩
    refine hK.out _ _ hT (fun _=>?_)
    clear hK K hS
    have hS:=hT
    clear hT
    try simp only[Act.put,Zd,Ze,Zf,Za,Zb,Zc]
    refine Zt (i:=5) (v:=?v5d) rfl (Or.inl ⟨by rfl,?hy5d⟩) ?rest5d
    case hy5d=>
     intro w hSw
     dsimp only[S2c]at hSw
     go_simp
     try with_reducible rfl
    simp only[Act.put,Zd,Ze,Zf,Za,Zb,Zc]
    refine wpAnyH_ready (rs:=[6]) (by kernel_rfl) (by simp) ?_
    refine AllReadyH.cons rfl (fun K hK=>?_) AllReadyH.nil
    go_simp
    have hT:S2c zx x y w2:=⟨(grown_cell (p:=⟨zx,0,none⟩) hg2 ZD.out ZM.out).trans HS0.out.1,(grown_cell (p:=⟨zx,1,none⟩) hg2 ZD.out ZM.out).trans HS0.out.2⟩
    refine hK.out _ _ hT (fun _=>?_)
    clear hK K hS
    try simp only[Act.put,Zd,Ze,Zf,Za,Zb,Zc]
    refine wpAnyH_done (by kernel_rfl) ?_ _
    refine NoPanic.normal ?_
    clear hT he hst hl0 hl1 hg1 hg2
    go_wp2_with fail
    go_roundw
    case rel=>exact⟨k+1,by omega,by go_num,NX.out⟩
    case measure=>simp[intOf];omega
   ·skip
    go_simp
    have hT:S2c zx x y w1:=⟨(grown_cell (p:=⟨zx,0,none⟩) hg1 ZD.out ZM.out).trans hS.1,(grown_cell (p:=⟨zx,1,none⟩) hg1 ZD.out ZM.out).trans hS.2⟩
    refine hK.out _ _ hT (fun _=>?_)
    clear hK K hS
    have hS:=hT
    clear hT
    try simp only[Act.put,Zd,Ze,Zf,Za,Zb,Zc]
    refine Zt (i:=5) (v:=?v5e) rfl (Or.inl ⟨by rfl,?hy5e⟩) ?rest5e
    case hy5e=>
     intro w hSw
     dsimp only[S2c]at hSw
     go_simp
     try with_reducible rfl
    simp only[Act.put,Zd,Ze,Zf,Za,Zb,Zc]
    refine wpAnyH_ready (rs:=[2]) (by kernel_rfl) (by simp) ?_
    refine AllReadyH.cons rfl (fun K hK=>?_) AllReadyH.nil
    go_simp
    refine hK.out _ _ hS (fun _=>?_)
    clear hK K
    try simp only[Act.put,Zd,Ze,Zf,Za,Zb,Zc]
    refine Zt (i:=3) (v:=?v3e) rfl (Or.inl ⟨by rfl,?hy3e⟩) ?rest3e
    case hy3e=>
     intro w hSw
     dsimp only[S2c]at hSw
     go_simp
     try with_reducible rfl
    simp only[Act.put,Zd,Ze,Zf,Za,Zb,Zc]
    refine wpAnyH_ready (rs:=[6]) (by kernel_rfl) (by simp) ?_
    refine AllReadyH.cons rfl (fun K hK=>?_) AllReadyH.nil
    go_simp
    have hT:S2c zx x y w2:=⟨(grown_cell (p:=⟨zx,0,none⟩) hg2 ZD.out ZM.out).trans HS0.out.1,(grown_cell (p:=⟨zx,1,none⟩) hg2 ZD.out ZM.out).trans HS0.out.2⟩
    refine hK.out _ _ hT (fun _=>?_)
    clear hK K hS
    try simp only[Act.put,Zd,Ze,Zf,Za,Zb,Zc]
    refine wpAnyH_done (by kernel_rfl) ?_ _
    refine NoPanic.normal ?_
    clear hT he hst hl0 hl1 hg1 hg2
    go_wp2_with fail
    go_roundw
    case rel=>exact⟨k+1,by omega,by go_num,NX.out⟩
    case measure=>simp[intOf];omega
  ·obtain rfl:k=P.length:=by omega
   clear hlt
   rw[List.take_length]at hS
   obtain⟨W2,hW2⟩:∃ x:World,x=wr:=⟨wr,rfl⟩
   subst hW2
   have ML:=Zh hS.out.1.lt
   have HB2:=Zh hS.out.2
   obtain⟨D,hown,hD⟩:=hS.out.1
   have HD:Hid (∀ x y:Int,inw x→inw y→Maps.has D (kp x y)=decide (0<nB P x y)∧∀ z,D.atKey (kp x y) (.held z)=.held (if 0<nB P x y then .int .i64 (nB P x y:Nat) else z)):=hD.2
   clear hD hS
   go_wp2_with (first
    | (at_range;refine wpList_range_own _ rfl _ 75 rfl 74 3 lawPr Tryz.underlying75 asIt w.heap.size P.length D rfl hown ?_;intro w0 hrg0 hg0 hs0)
    | go_in)
   go_frame
   have R0:Hid (InCf w W2 w0 w.heap.size P.length D P [] (.slice none 0 0) (Maps.has D) (Maps.size D)):=by
    refine⟨hrg0,World.ownsRow_nil _ _ _ _,HB2.out.grown hg0 HB2.out.size (fun j hj=>by cases hj),Nat.le_refl _,ML.out,fun z h=>h,⟨fun p h=>by simp at h,fun p hp h=>?_,List.nodup_nil⟩⟩
    have sm:=HS.out p hp
    rw[(HD.out p.1 p.2 (in_inw sm.1) (in_inw sm.2)).1,decide_eq_true (mem_nB hp)]at h
    cases h
   clear hrg0 hg0 hs0 hown
   go_loopw [6] (fun v wr=>∃ (left:Lit→Bool) (cnt:Nat) (K:List (Int×Int)),Hid (InCf w W2 wr w.heap.size P.length D P K v left cnt)) (fun _ wr=>wr.rangeLeft w.heap.size W2.heap.size)
   case atStart=>exact⟨_,_,[],R0.out⟩
   case round=>
    clear R0
    obtain⟨left,cnt,K,hS⟩:=hrel
    have hrg:=hS.out.rg
    go_wp2_with (first
     | (at_next;refine next_pairs rfl _ rfl w.heap.size W2.heap.size P.length D left cnt rfl hrg ?_ ?_)
     | go_in)
    ·intro _ hl0
     have KM:Hid (∀ p,p∈K↔p∈P):=fun p=>⟨fun h=>(hS.out.met.mem p h).1,fun h=>hS.out.met.all p h (hl0 _)⟩
     have HSO:=Zh (sort_c wr (W2.heap.size+1) u6 P K hS.out.own (Nat.le_trans hS.out.met.len hn) hS.out.met.nod)
     have BE:=Zh hS.out.bel
     have SZ:Hid (W2.heap.size+1≤wr.heap.size):=by have:=hS.out.rg.lt;unfold Hid;omega
     have BB:Hid (Below w.heap.size w W2):=HB2.out
     have BWr:Hid (∀ w',Below (W2.heap.size+1) wr w'→Below w.heap.size w w'):=fun w' h=>BE.out.trans (h.mono (by have:=HB2.out.size;omega))
     clear hS hrg hl0
     go_wp2_with fail
     (with_reducible refine HSO.out.mono ?_)
     rintro e W5 ⟨rfl,K',hlen,hmem,hpw,hown5,hb5⟩
     have R:Hid (CfW P w (.returned u6) W5):=⟨u6,K',rfl,by rw[hlen];exact World.ownsRow.mono hown5 (by have:=HB2.out.size;omega),fun p=>(hmem p).trans (KM.out p),hpw,BWr.out _ (hb5 _ (Below.refl _ _))⟩
     clear hlen hmem hpw hown5 hb5 HSO
     go_wp2_with fail
     go_ret
     exact R.out
    ·intro x y cv w1 cnt1 ix iy hlk hat hrg1 hlt hg1 hs1 hen
     have hhas:=hS.out.lf _ hlk
     rw[(HD.out x y ix iy).1]at hhas
     have hpos:0<nB P x y:=of_decide_eq_true hhas
     have hmem:=nB_mem hpos
     have hcv:cv=.int .i64 (nB P x y:Nat):=by
      have:=hat (.held (.int .i64 0))
      rw[(HD.out x y ix iy).2,if_pos hpos]at this
      simpa using this.symm
     subst hcv
     have MT:=Zh (hS.out.met.step HS.out hmem hlk)
     have LT:Hid (cnt1<wr.rangeLeft w.heap.size W2.heap.size):=by unfold Hid;rw[hrg.left_eq];exact hlt
     obtain⟨left1,hl1⟩:∃ left1:Lit→Bool,(fun z=>left z && !z.sameKey (kp x y))=left1:=⟨_,rfl⟩
     have LF1:Hid (∀ z,left1 z=true→Maps.has D z=true):=fun z h=>hS.out.lf z (Bool.and_eq_true_iff.1 (show (left z && !z.sameKey (kp x y))=true from by rw[←hl1]at h;exact h)).1
     rw[hl1]at hrg1 MT
     have rlt:=hrg.lt
     have B1:=Zh (hS.out.bel.grown hg1 hS.out.bel.size (fun j hj=>by cases hj;have:=hS.out.bel.size;have:=HB2.out.size;omega))
     have O1:=Zh (hS.out.own.kept hg1 (.inr fun e=>by have:=(hS.out.own.lt _ e).1;omega))
     have KL:=hS.out.met.len
     have cb:=nB_le P x y
     obtain⟨W4,hW4⟩:∃ W,w1.alloc (.cells #[.int .i64 x,.int .i64 y] 74)=W:=⟨_,rfl⟩
     have b4:Below w1.heap.size w1 W4:=by rw[←hW4];exact bel_one _ _
     have v0:W4.cell? ⟨w1.heap.size,0,none⟩=some (.int .i64 x):=by rw[←hW4,World.cell?_alloc_new];rfl
     have v1:W4.cell? ⟨w1.heap.size,1,none⟩=some (.int .i64 y):=by rw[←hW4,World.cell?_alloc_new];rfl
     have O4:=Zh (Cqown_keep O1.out b4)
     have RG4:=Zh (hrg1.kept (below_grow b4) (by simp) (by simp))
     have B4:=Zh (B1.out.trans (b4.mono B1.out.size))
     have SZ4:Hid (W2.heap.size+1≤W4.heap.size):=by have:=RG4.out.lt;unfold Hid;omega
     have TR:=Zh (trow_trip P K (x,y))
     have WB:=Zh HB2.out.size
     obtain⟨nn,hnn⟩:∃ m,nB P x y=m:=⟨_,rfl⟩
     dsimp only at TR
     rw[hnn]at TR cb hen ⊢
     have cb':(nn:Int)≤20000:=by omega
     have LO:=Zh hS.out.lo
     clear hS hrg hlk hat hg1 hs1 hrg1 hlt b4 O1 B1 hl1 hhas hpos hmem hnn
     go_wp2_with (at_builtin;refine wpList_append_own_at _ rfl _ _ 24 rfl (W2.heap.size+1) 30 i0 (.agg #[.int .i64 0,.int .i64 0,.int .i64 0]) 3 24 Tryz.underlying24 hi hz0 hz1 hz2 rfl (by decide) _ _ _ rfl (O4.out.alloc _) ⟨W4.heap.size,0,none⟩ 1 1 [.int .i64 x,.int .i64 y,.int .i64 (nn:Nat)] rfl rfl (cell_three_new _ _ _ _ _) (by simp[Value.oneCell']) ?c3 ?c4 ?c5 ?_)
     case c3=>unfold maxLen;omega
     case c4=>omega
     case c5=>have:=SZ4.out;simp;omega
     intro v' w4 hown' hgrow _ hloc
     have NX:Hid (InCf w W2 w4 w.heap.size P.length D P (K ++ [(x,y)]) v' left1 cnt1):=by
      have ne:∀ j,j<W2.heap.size+1→some j≠u6.ownBlock:=fun j hj e=>by have:=(O4.out.lt j e.symm).1;omega
      refine⟨(RG4.out.alloc _).kept hgrow (ne _ (by have:=ML.out;omega)) (ne _ (by omega)),?_,?_,LO.out,ML.out,LF1.out,MT.out⟩
      ·rw[List.length_append,TR.out]
       exact hown'
      ·have hz:=B4.out.size
       exact (B4.out.alloc hz _).grown hgrow (by simp;omega) (fun g hg=>by have:=(O4.out.lt g hg).1;have:=WB.out;omega)
     have ME:Hid (w4.rangeLeft w.heap.size W2.heap.size<wr.rangeLeft w.heap.size W2.heap.size):=by unfold Hid;rw[NX.out.rg.left_eq];exact LT.out
     clear hown' hgrow hloc O4 RG4 B4 hen v0 v1 hW4
     go_wp2
     go_roundw
     case rel=>exact⟨left1,cnt1,K ++ [(x,y)],NX.out⟩
     case measure=>exact ME.out
theorem prs_inF2{l:List Nd}{C:List Cg}(e:forS l C=0)(a b:Int){p:Int×Int}(hp:p∈prs a b (cases_ C)):(∃ c:Nat,p.1=c∧Has l c)∧∃ c:Nat,p.2=c∧Has l c:=by
 refine⟨prs_inF e a b p hp,?_⟩
 have h:=prs_inF e b a p.swap (by rw[prs_swap a b];exact List.mem_map.2 ⟨p,hp,rfl⟩)
 exact h
theorem cf_same{l:List Nd} {C:List Cg} (e:forS l C=0) (a b:Int) {K:List (Int×Int)} (hm:∀ p,p∈K↔p∈prs a b (cases_ C)) (hp:K.Pairwise (fun p q=>p.1<q.1∨(p.1=q.1∧p.2<q.2))) :
  K.map (trip (prs a b (cases_ C)))=cfA l (prs a b (cases_ C)) l.length:=by
 obtain⟨F,_⟩:=for_ok e
 have hin:=fun p hp=>prs_inF2 e a b (p:=p) hp
 generalize prs a b (cases_ C)=P at *
 refine cf_one ?_ (cfA_up F.ord P _ (Nat.le_refl _)) fun t=>?_
 ·rw[List.pairwise_map]
  exact hp
 ·rw[cfA_mem,List.mem_map]
  constructor
  ·rintro⟨p,hpk,rfl⟩
   have hpP:=(hm p).1 hpk
   obtain⟨⟨c1,e1,i,hi,h1⟩,c2,e2,j,hj,h2⟩:=hin p hpP
   have q1:(nd l i).cd=p.1:=by omega
   have q2:(nd l j).cd=p.2:=by omega
   exact⟨i,j,hi,hj,by rw[q1,q2];rfl,by rw[q1,q2];exact mem_nB hpP⟩
  ·rintro⟨i,j,_,_,rfl,h⟩
   exact⟨_,(hm _).2 (nB_mem h),rfl⟩
set_option maxHeartbeats 4000000 in
theorem Confusions_c(sa:Option Addr) (c:Nat) (l:List Nd) (a2:Option Addr) (c2:Nat) (C:List Cg) (a b:Int) (w:World) (hl:RdN w sa l) (hf:Fits l) (hC:RdC w a2 C) (hcap:C.length≤c2) :
  Calls Tryz.prog 4 #[.slice sa l.length c,.slice a2 C.length c2,.int .i64 a,.int .i64 b] w (CfP l C a b w):=by
 have HC:=Zh (commonOf_c sa c l a2 c2 C a b w hl hf hC hcap)
 have hfs:coS l C a b=0→forS l C=0:=fun e=>by
  unfold coS at e
  by_cases h:forS l C≠0
  ·rw[if_pos h]at e;exact absurd e h
  ·omega
 have HCC:=Zh (fun (e:coS l C a b=0)=>And.intro (prs_small (for_cgs (hfs e)) a b) (Nat.le_trans (Nat.le_trans (prs_len a b (cases_ C)) (cases_len C)) (cgs_ok (for_cgs (hfs e))).1))
 have HSM:=Zh (fun (e:coS l C a b=0) K hm hp=>cf_same (hfs e) a b (K:=K) hm hp)
 have h9:=hC.1
 have h8:=hl.1
 clear hl hf hC hfs
 go_enter Tryz.func4,Tryz.ntmps4
 go_wp2_with fail
 (with_reducible refine HC.out.mono ?_)
 intro e W2 he
 obtain⟨hz,s,cs,rfl,hP,b2⟩|⟨hz,rfl,b2⟩:=he
 ·have HZ:=Zh hz
  have HK:=Zh (confusionsOf_c s cs (prs a b (cases_ C)) W2 hP (HCC.out hz).1 (HCC.out hz).2)
  have B2:=Zh b2
  have h7:=hP.1
  obtain⟨n,hn⟩:∃ n,(prs a b (cases_ C)).length=n:=⟨_,rfl⟩
  rw[hn]at HK h7 ⊢
  clear hn hz hP b2 HC
  go_wp2_with fail
  (with_reducible refine HK.out.mono ?_)
  rintro e W3 ⟨v,K,rfl,hown,hm,hp,b3⟩
  have R:Hid (CfP l C a b w (.returned (.tuple #[v,.int .i64 0])) W3):=by
   refine .inl ⟨HZ.out,v,rfl,?_,B2.out.trans (b3.mono B2.out.size)⟩
   have e:=HSM.out HZ.out K hm hp
   have el:K.length=(cfA l (prs a b (cases_ C)) l.length).length:=by rw[←e,List.length_map]
   rw[←el,←e]
   exact World.ownsRow.mono hown B2.out.size
  clear hown hm hp b3 HK
  go_wp2_with fail
  go_ret2
  exact R.out
 ·have HZ:=Zh hz
  obtain⟨f,hfl⟩:∃ f,coS l C a b=f:=⟨_,rfl⟩
  have HFL:=Zh hfl
  rw[hfl]at hz ⊢
  have f2:(f != 0)=true:=by rw[bne,beq_eq_false_iff_ne.2 hz];rfl
  have R:Hid (CfP l C a b w (.returned (.tuple #[.slice none 0 0,.int .i64 f])) W2):=.inr ⟨HZ.out,by rw[HFL.out],b2⟩
  clear b2 hfl hz HC HCC HSM
  go_wp2_with fail
  go_ret2
  exact R.out
def toCg(t:Int×Int×Nat):Cg:=⟨t.1,t.2.1,(t.2.2:Int)⟩
theorem trow_crow(L:List (Int×Int×Nat)):trow L=crow (L.map toCg):=by unfold trow crow;rw[List.flatMap_map];rfl
def zzC(l:List Nd)(C:List Cg)(a b:Int):List Cg:=if coS l C a b=0 then (cfA l (prs a b (cases_ C)) l.length).map toCg else []
theorem cf_read{l:List Nd}{C:List Cg}{a b:Int}{w w':World}{e:Ending}(h:CfP l C a b w e w'):∃ sa sc,e=.returned (.tuple #[.slice sa (zzC l C a b).length sc,.int .i64 (coS l C a b)])∧RdC w' sa (zzC l C a b)∧Below w.heap.size w w':=by
 unfold zzC
 rcases h with ⟨hz,v,rfl,hown,hb⟩|⟨hz,rfl,hb⟩
 ·rw[if_pos hz,hz]
  have hf:forS l C=0:=by
   unfold coS at hz
   by_cases h:forS l C≠0
   ·rw[if_pos h]at hz;exact absurd hz h
   ·omega
  have hl6:=(for_ok hf).1.le
  have hle:=cfA_len l (prs a b (cases_ C)) l.length
  have hle2:l.length*l.length≤600*600:=Nat.mul_le_mul hl6 hl6
  rw[trow_crow]at hown
  have e1:(cfA l (prs a b (cases_ C)) l.length).length=((cfA l (prs a b (cases_ C)) l.length).map toCg).length:=by rw[List.length_map]
  rw[e1]at hown hle
  obtain⟨sa,sc,rfl,hr⟩:=rdT_own hown (by omega)
  exact⟨sa,sc,rfl,hr,hb⟩
 ·rw[if_neg hz]
  exact⟨none,0,rfl,RdC.nil_ _ _,hb⟩
set_option maxHeartbeats 1000000 in
theorem eqCf_c(a1 a2:Option Addr) (c1 c2:Nat) (C:List Cg) (w:World) (h1:RdC w a1 C) (h2:RdC w a2 C) :
  Calls Tryz.prog 6 #[.slice a1 C.length c1,.slice a2 C.length c2] w fun e w'=>e=.returned (.bool true)∧Below w.heap.size w w':=by
 have H1:=Zh h1
 have H2:=Zh h2
 have h9:=h1.1
 clear h1 h2
 go_enter Tryz.func6,Tryz.ntmps6
 go_wp2
 go_loopw [5,13] (fun _ i wr=>∃ k:Nat,k≤C.length∧i=.int .i64 k∧Hid (Below w.heap.size w wr)) (fun _ i _=>C.length-(intOf i).toNat)
 case atStart=>exact⟨0,Nat.zero_le _,rfl,Below.refl _ _⟩
 case round=>
  obtain⟨k,hk,rfl,hR⟩:=hrel
  by_cases hlt:k<C.length
  ·have hlt':(k:Int)<(C.length:Int):=by omega
   obtain⟨b1,o1,rfl,p0,p1,p2⟩:=(H1.out.below hR.out).at_ hlt
   obtain⟨b2,o2,rfl,q0,q1,q2⟩:=(H2.out.below hR.out).at_ hlt
   generalize (cg C k).ca=x0 at *
   generalize (cg C k).co=x1 at *
   generalize (cg C k).cd=x2 at *
   go_wp2_with fail
   go_quiet (fail)
   have NX:Hid (Below w.heap.size w (wr.drewN nq)):=hR.out.trans ((Cqbel_drewN _ _).mono hR.out.size)
   clear p0 p1 p2 q0 q1 q2
   go_wp2
   go_roundw
   case rel=>exact⟨k+1,by omega,by go_num,NX.out⟩
   case measure=>simp[intOf];omega
  ·obtain rfl:k=C.length:=by omega
   go_wp2
   go_ret
   exact⟨rfl,hR.out⟩
def mtS(l:List Nd)(a b:Nat):Nat×Nat:=mtF (par l) (lev l) (lev l a+lev l b) a b
/-! ### The law -/
theorem mtS_is{l:List Nd}(F:Fr l){i k:Nat}(hi:Has l i)(hk:Has l k):MeetIs (par l) (lev l) i k (mtS l i k).1 (mtS l i k).2:=
 F.tree.mtF_is (Or.inr hi) (Or.inr hk) (Nat.le_refl _)
end Go.Proofs.YtghgbhmiliiohaaGreatDoor
