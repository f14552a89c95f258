/-
  Package code: casesOf.
-/
import Derived.Test.YtghgbhmiliiohaaGreatDoorAM07
import Derived.Test.YtghgbhmiliiohaaGreatDoorAMQ
set_option maxRecDepth 100000
namespace Go.Proofs.YtghgbhmiliiohaaGreatDoor
open Go.RowKit Go.WideMaps Go.Maps
theorem pth_succ(p:Nat→Nat)(c n:Nat):pth p c (n+1)=pth p c n ++ [((it p n c:Nat):Int)]:=by
 unfold pth
 rw[List.range_succ,List.map_append]
 rfl
def cn(P:Nat→Bool):Nat→Nat
 | 0=>0
 | k+1=>cn P k+if P k=true then 1 else 0
section
variable {p lv:Nat→Nat} {H:Nat→Prop}
end
def seg(C:List Cg)(s n:Nat):List Cg:=(List.range n).map fun i=>cg C (s+i)
theorem seg_len(C:List Cg)(s n:Nat):(seg C s n).length=n:=by unfold seg;simp
theorem seg_at{C:List Cg}{s n i:Nat}(h:i<n):cg (seg C s n) i=cg C (s+i):=by
 unfold seg
 rw[cg,List.getD,List.getElem?_map,List.getElem?_range h]
 rfl
theorem seg_succ(C:List Cg)(s n:Nat):seg C s (n+1)=seg C s n ++ [cg C (s+n)]:=by
 unfold seg
 rw[List.range_succ,List.map_append]
 rfl
def New(C:List Cg)(k:Nat):Prop:=k=0∨(cg C k).ca≠(cg C (k-1)).ca
instance (C:List Cg) (k:Nat):Decidable (New C k):=by unfold New;infer_instance
def beg(C:List Cg):Nat→Nat
 | 0=>0
 | k+1=>if New C (k+1) then k+1 else beg C k
def cas(C:List Cg):Nat→List (List Cg)
 | 0=>[]
 | k+1=>if New C (k+1) then cas C k ++ [seg C (beg C k) (k+1-beg C k)] else cas C k
def cases_(C:List Cg):List (List Cg):=if C.length=0 then [] else cas C (C.length-1) ++ [seg C (beg C (C.length-1)) (C.length-beg C (C.length-1))]
theorem beg_le(C:List Cg):∀ k,beg C k≤k
 | 0=>Nat.le_refl _
 | k+1=>by have:=beg_le C k;unfold beg;split<;>omega
theorem beg_new{C:List Cg}{k:Nat}(h:New C (k+1)):beg C (k+1)=k+1:=by unfold beg;rw[if_pos h]
theorem beg_old{C:List Cg}{k:Nat}(h:¬ New C (k+1)):beg C (k+1)=beg C k:=by rw[beg,if_neg h]
theorem cas_new{C:List Cg}{k:Nat}(h:New C (k+1)):cas C (k+1)=cas C k ++ [seg C (beg C k) (k+1-beg C k)]:=by rw[cas,if_pos h]
theorem cas_old{C:List Cg}{k:Nat}(h:¬ New C (k+1)):cas C (k+1)=cas C k:=by rw[cas,if_neg h]
theorem cas_len(C:List Cg):∀ k,(cas C k).length≤k
 | 0=>Nat.le_refl _
 | k+1=>by
  have:=cas_len C k
  unfold cas
  split
  ·rw[List.length_append];simp;exact this
  ·omega
theorem cases_len(C:List Cg):(cases_ C).length≤C.length:=by
 unfold cases_
 split
 ·simp
 ·have:=cas_len C (C.length-1)
  rw[List.length_append];simp;omega
theorem cas_all(C:List Cg):∀ k,k<C.length→∀ D∈cas C k,0<D.length∧∃ s,s+D.length≤C.length∧D=seg C s D.length
 | 0,_,D,h=>by simp[cas]at h
 | k+1,hk,D,h=>by
  unfold cas at h
  split at h
  ·rw[List.mem_append]at h
   rcases h with h|h
   ·exact cas_all C k (by omega) D h
   ·simp at h
    have:=beg_le C k
    subst h
    rw[seg_len]
    exact⟨by omega,beg C k,by omega,rfl⟩
  ·exact cas_all C k (by omega) D h
theorem cases_all{C:List Cg}{D:List Cg}(h:D∈cases_ C):0<D.length∧∃ s,s+D.length≤C.length∧D=seg C s D.length:=by
 unfold cases_ at h
 split at h
 ·simp at h
 ·have:=beg_le C (C.length-1)
  rw[List.mem_append]at h
  rcases h with h|h
  ·exact cas_all C _ (by omega) D h
  ·simp at h
   subst h
   rw[seg_len]
   exact⟨by omega,_,by omega,rfl⟩
def rn(R:List (List Cg))(j:Nat):List Cg:=R.getD j []
def RdR(w:World)(a:Option Addr)(R:List (List Cg)):Prop:=
 ∀ j,j<R.length→∃ g a' c',a=some ⟨g,0,none⟩∧g<w.heap.size∧w.cell? ⟨g,j,none⟩=some (.slice a' (rn R j).length c')∧RdC w a' (rn R j)
def OwnR(w0 w:World)(B:Nat)(v:Value)(R:List (List Cg)):Prop:=
 ∃ xs:List Value,w.ownsRow B 23 1 v R.length xs∧∀ j,j<R.length→∃ a c,xs[j]?=some (.slice a (rn R j).length c)∧RdC w0 a (rn R j)
theorem rn_snoc{R:List (List Cg)}{D:List Cg}{j:Nat}(h:j<(R ++ [D]).length):(j<R.length∧rn (R ++ [D]) j=rn R j)∨(j=R.length∧rn (R ++ [D]) j=D):=by
 unfold rn
 rw[List.length_append]at h
 by_cases e:j<R.length
 ·exact .inl ⟨e,by rw[List.getD,List.getD,List.getElem?_append_left e]⟩
 ·have:j=R.length:=by simp at h;omega
  subst this
  exact .inr ⟨rfl,by rw[List.getD,List.getElem?_append_right (Nat.le_refl _)];simp⟩
theorem OwnR.nil_(w0 w:World)(B:Nat):OwnR w0 w B (.slice none 0 0) []:=⟨[],World.ownsRow_nil _ _ _ _,fun j h=>by simp at h⟩
theorem own_slice{w:World}{B:Nat}{e:TypeId}{size:Nat}{v:Value}{n:Nat}{xs:List Value}(h:w.ownsRow B e size v n xs):∃ a c,v=.slice a n c:=by
 rcases h.2 with ⟨rfl,h0⟩|⟨g,cap,cur,rfl,_⟩
 ·exact⟨none,0,by rw[h0]⟩
 ·exact⟨_,_,rfl⟩
theorem OwnR.rd{w0 w:World}{B:Nat}{v:Value}{R:List (List Cg)}(h:OwnR w0 w B v R)(hb:Below w0.heap.size w0 w):∃ a c,v=.slice a R.length c∧RdR w a R:=by
 obtain⟨xs,ho,hx⟩:=h
 obtain⟨a,c,rfl⟩:=own_slice ho
 refine⟨a,c,rfl,fun j hj=>?_⟩
 obtain⟨a',c',e,hr⟩:=hx j hj
 rcases ho.2 with ⟨e1,e2⟩|⟨g,cap,cur,e1,_⟩
 ·omega
 ·injection e1 with e1
  subst e1
  have:=ho.cells (g:=g) rfl j _ e
  rw[show (⟨g,0,none⟩:Addr).add j=⟨g,j,none⟩ by rw[add_at,Nat.zero_add]]at this
  exact⟨g,a',c',rfl,(ho.lt g rfl).2,this,hr.below hb⟩
theorem OwnR.snoc{w0 w':World} {B:Nat} {v':Value} {R:List (List Cg)} {D:List Cg} {a:Option Addr} {c:Nat} {xs:List Value}
  (hx:∀ j,j<R.length→∃ a c,xs[j]?=some (.slice a (rn R j).length c)∧RdC w0 a (rn R j)) (hl:xs.length=R.length)
  (ho:w'.ownsRow B 23 1 v' (R.length+1) (xs ++ [.slice a D.length c])) (hD:RdC w0 a D):OwnR w0 w' B v' (R ++ [D]):=by
 refine⟨_,by rw[List.length_append];exact ho,fun j hj=>?_⟩
 rcases rn_snoc hj with ⟨h1,h2⟩|⟨h1,h2⟩
 ·obtain⟨a',c',e,hr⟩:=hx j h1
  rw[h2]
  exact⟨a',c',by rw[List.getElem?_append_left (by omega)];exact e,hr⟩
 ·subst h1
  rw[h2]
  exact⟨a,c,by rw[←hl,List.getElem?_append_right (Nat.le_refl _)];simp,hD⟩
theorem RdC.part{w:World}{b off:Nat}{C:List Cg}{s n:Nat}(h:RdC w (some ⟨b,off,none⟩) C)(hs:s+n≤C.length):RdC w (some ⟨b,off+s*3,none⟩) (seg C s n):=by
 refine⟨by rw[seg_len];have:=h.1;omega,fun h0=>?_⟩
 rw[seg_len]at h0
 obtain⟨b',off',e,hl,hc⟩:=h.2 (by omega)
 injection e with e
 injection e with e1 e2
 subst e1;subst e2
 refine⟨b,off+s*3,rfl,hl,fun j hj=>?_⟩
 rw[seg_len]at hj
 rw[seg_at hj]
 have:=hc (s+j) (by omega)
 rw[show off+s*3+j*3=off+(s+j)*3 by omega]
 exact this
theorem infoS:(Tryz.prog.info? 23).map (fun i=>(i.zero,i.size,i.bytes))=some (some (.slice none 0 0),1,24):=by kernel_rfl
def outK(C:List Cg)(k:Nat):List (List Cg):=if k<C.length then cas C k else cases_ C
def begK(C:List Cg)(k:Nat):Nat:=if k<C.length then beg C k else C.length
def CsP(C:List Cg)(w:World)(e:Ending)(w':World):Prop:=∃ a c,e=.returned (.slice a (cases_ C).length c)∧RdR w' a (cases_ C)∧Below w.heap.size w w'
theorem outK_in{C:List Cg}{k:Nat}(h:k<C.length):outK C k=cas C k∧begK C k=beg C k:=by
 unfold outK begK
 rw[if_pos h,if_pos h]
 exact⟨rfl,rfl⟩
theorem out_last{C:List Cg}{k:Nat}(h:k+1=C.length):outK C (k+1)=outK C k ++ [seg C (begK C k) (k+1-begK C k)]∧begK C (k+1)=k+1:=by
 have h1:=outK_in (C:=C) (k:=k) (by omega)
 rw[h1.1,h1.2]
 unfold outK begK
 rw[if_neg (by omega),if_neg (by omega)]
 unfold cases_
 rw[if_neg (by omega),←h,Nat.add_sub_cancel]
 exact⟨rfl,rfl⟩
theorem out_new{C:List Cg}{k:Nat}(h:k+1<C.length)(hn:(cg C (k+1)).ca≠(cg C k).ca):outK C (k+1)=outK C k ++ [seg C (begK C k) (k+1-begK C k)]∧begK C (k+1)=k+1:=by
 have hN:New C (k+1):=.inr hn
 have h1:=outK_in (C:=C) (k:=k) (by omega)
 have h2:=outK_in h
 rw[h1.1,h1.2,h2.1,h2.2,cas_new hN,beg_new hN]
 exact⟨rfl,rfl⟩
theorem out_old{C:List Cg}{k:Nat}(h:k+1<C.length)(hn:(cg C (k+1)).ca=(cg C k).ca):outK C (k+1)=outK C k∧begK C (k+1)=begK C k:=by
 have hN:¬ New C (k+1):=fun h=>by rcases h with h | h;omega;exact h hn
 have h1:=outK_in (C:=C) (k:=k) (by omega)
 have h2:=outK_in h
 rw[h1.1,h1.2,h2.1,h2.2,cas_old hN,beg_old hN]
 exact⟨rfl,rfl⟩
theorem begK_le{C:List Cg}{k:Nat}(h:k<C.length):begK C k≤k:=by unfold begK;rw[if_pos h];exact beg_le C k
theorem outK_len{C:List Cg}{k:Nat}(h:k<C.length):(outK C k).length≤k:=by unfold outK;rw[if_pos h];exact cas_len C k
structure InG (w wr:World) (v:Value) (C:List Cg) (k:Nat):Prop where
 own:OwnR w wr w.heap.size v (outK C k)
 bel:Below w.heap.size w wr
set_option maxHeartbeats 4000000 in
theorem casesOf_c(a:Option Addr) (c:Nat) (C:List Cg) (w:World) (hC:RdC w a C) (hn:C.length≤20000) (hcap:C.length≤c) :
  Calls Tryz.prog 23 #[.slice a C.length c] w (CsP C w):=by
 obtain⟨i0,hi,hz0,hz1,hz2⟩:=info_parts infoS
 have HC:=Zh hC
 have h9:=hC.1
 clear hC
 go_enter Tryz.func23,Tryz.ntmps23
 go_wp2
 go_loopw [3,4,9] (fun v f i wr=>∃ k:Nat,k≤C.length∧i=.int .i64 k∧f=.int .i64 (begK C k:Nat)∧Hid (InG w wr v C k)) (fun _ _ i _=>C.length-(intOf i).toNat)
 case atStart=>
  have e1:outK C 0=[]:=by unfold outK cases_;split;rfl;rw[if_pos (by omega)]
  have e2:begK C 0=0:=by unfold begK;split;rfl;omega
  exact⟨0,Nat.zero_le _,rfl,by rw[e2];rfl,by rw[e1];exact OwnR.nil_ _ _ _,Below.refl _ _⟩
 case round=>
  obtain⟨k,hk,rfl,rfl,hS⟩:=hrel
  by_cases hlt:k<C.length
  ·obtain⟨b',off,rfl,u0,u1,u2⟩:=(HC.out.below hS.out.bel).at_ hlt
   have hlt':(k:Int)<(C.length:Int):=by omega
   obtain⟨W1,hW1⟩:∃ W1,wr.alloc (.cells #[.int .i64 (cg C k).ca,.int .i64 (cg C k).co,.int .i64 (cg C k).cd] 69)=W1:=⟨_,rfl⟩
   have N1:Hid (CodB wr W1 (cg C k)):=by unfold Hid;rw[←hW1];exact cod_b _ _
   obtain⟨xs,hown,hx⟩:=hS.out.own
   have BEL:=Zh hS.out.bel
   have HX:=Zh hx
   have LE:=Zh (begK_le hlt)
   have LN:=Zh (outK_len hlt)
   have hxl:Hid (xs.length=(outK C k).length):=by
    have:=hown.1
    unfold Hid;omega
   have O1:Hid (W1.ownsRow w.heap.size 23 1 u3 (outK C k).length xs∧Below w.heap.size w W1):=⟨Cqown_keep hown N1.out.1,BEL.out.trans (N1.out.1.mono BEL.out.size)⟩
   have v0:=N1.out.2.c0
   clear hown hx hS
   obtain⟨f,hf⟩:∃ f,begK C k=f:=⟨_,rfl⟩
   rw[hf]at LE ⊢
   have DD:Hid (RdC w (some ⟨b',off+f*3,none⟩) (seg C f (k+1-f))):=RdC.part HC.out (by have:=LE.out;omega)
   have hcf:¬ c=f:=by have:=LE.out;omega
   have hfl:f≤C.length:=by have:=LE.out;omega
   have hfk:f≤k+1:=by have:=LE.out;omega
   by_cases hlast:k+1=C.length
   ·have E:=Zh (out_last hlast)
    rw[hf]at E
    have hl1:(k:Int)+1=(C.length:Int):=by omega
    go_wp2_with fail
    go_quiet (fail)
    have O2:Hid ((W1.drewN nq).ownsRow w.heap.size 23 1 u3 (outK C k).length xs∧Below w.heap.size w (W1.drewN nq)):=⟨Cqown_keep O1.out.1 (below_drewN (Below.refl _ _) nq),below_drewN O1.out.2 nq⟩
    clear O1 hW1 u0 u1 u2 v0 N1
    generalize W1.drewN nq=W2 at O2 ⊢
    go_wp2_with (at_builtin;refine wpList_append_own_at _ rfl _ _ 60 rfl w.heap.size 23 i0 (.slice none 0 0) 1 24 Tryz.underlying60 hi hz0 hz1 hz2 rfl (by decide) _ _ _ rfl (O2.out.1.alloc _) ⟨W2.heap.size,0,none⟩ 1 1 [.slice (some ⟨b',off+f*3,none⟩) (C.length-f) (c-f)] rfl rfl (cell_one_new _ _ _) (by simp[Value.oneCell']) ?c3 ?c4 ?c5 ?_)
    case c3=>have hh:(outK C k).length≤k:=LN.out;unfold maxLen;omega
    case c4=>have hh:(outK C k).length≤k:=LN.out;omega
    case c5=>have:=O2.out.2.size;simp;omega
    intro v' w4 hown' hgrow _ hloc
    have NX:Hid (InG w w4 v' C (k+1)):=by
     have hD:(seg C f (k+1-f)).length=C.length-f:=by rw[seg_len];omega
     refine⟨?_,?_⟩
     ·rw[E.out.1]
      exact OwnR.snoc HX.out hxl.out (by rw[hD];exact hown') DD.out
     ·have hs:=O2.out.2.size
      exact (O2.out.2.alloc hs _).grown hgrow (by simp;omega) (fun g hg=>(O2.out.1.lt g hg).1)
    clear hown' hgrow hloc O2 HX hxl DD
    go_wp2
    go_roundw
    case rel=>exact⟨k+1,by omega,by go_num,by rw[E.out.2];go_num,NX.out⟩
    case measure=>simp[intOf];omega
   ·have hl1:¬ (k:Int)+1=(C.length:Int):=by omega
    obtain⟨_,_,e,p0,_,_⟩:=(HC.out.below O1.out.2).at_ (k:=k+1) (by omega)
    injection e with e;injection e with e1 e2;subst e1;subst e2
    have hk1:(k:Int)+1<(C.length:Int):=by omega
    have hk9:(k:Int)<20000:=by omega
    have hl2:((k:Int)+1 == (C.length:Int))=false:=by rw[beq_eq_false_iff_ne];exact hl1
    have hl3:decide ((k:Int)+1=(C.length:Int))=false:=decide_eq_false hl1
    by_cases hne:(cg C (k+1)).ca=(cg C k).ca
    ·have E:=Zh (out_old (C:=C) (k:=k) (by omega) hne)
     rw[hf]at E
     have hne0:((cg C (k+1)).ca == (cg C k).ca)=true:=by rw[beq_iff_eq];exact hne
     have hne1:((cg C (k+1)).ca != (cg C k).ca)=false:=by rw[bne,hne0];rfl
     clear hlast hne
     go_wp2_with fail
     go_quiet (fail)
     have NX:Hid (InG w (W1.drewN nq) u3 C (k+1)):=by
      refine⟨?_,below_drewN O1.out.2 nq⟩
      rw[E.out.1]
      exact⟨xs,Cqown_keep O1.out.1 (below_drewN (Below.refl _ _) nq),HX.out⟩
     clear O1 hW1 u0 u1 u2 v0 N1 p0 HX hxl DD
     go_wp2
     go_roundw
     case rel=>exact⟨k+1,by omega,by go_num,by rw[E.out.2],NX.out⟩
     case measure=>simp[intOf];omega
    ·have E:=Zh (out_new (C:=C) (k:=k) (by omega) hne)
     rw[hf]at E
     have hne0:((cg C (k+1)).ca == (cg C k).ca)=false:=by rw[beq_eq_false_iff_ne];exact hne
     have hne1:((cg C (k+1)).ca != (cg C k).ca)=true:=by rw[bne,hne0];rfl
     clear hlast hne
     go_wp2_with fail
     go_quiet (fail)
     have O2:Hid ((W1.drewN nq).ownsRow w.heap.size 23 1 u3 (outK C k).length xs∧Below w.heap.size w (W1.drewN nq)):=⟨Cqown_keep O1.out.1 (below_drewN (Below.refl _ _) nq),below_drewN O1.out.2 nq⟩
     clear O1 hW1 u0 u1 u2 v0 N1 p0
     generalize W1.drewN nq=W2 at O2 ⊢
     go_wp2_with (at_builtin;refine wpList_append_own_at _ rfl _ _ 60 rfl w.heap.size 23 i0 (.slice none 0 0) 1 24 Tryz.underlying60 hi hz0 hz1 hz2 rfl (by decide) _ _ _ rfl (O2.out.1.alloc _) ⟨W2.heap.size,0,none⟩ 1 1 [.slice (some ⟨b',off+f*3,none⟩) ((k+1)-f) (c-f)] rfl rfl (cell_one_new _ _ _) (by simp[Value.oneCell']) ?c3 ?c4 ?c5 ?_)
     case c3=>have hh:(outK C k).length≤k:=LN.out;unfold maxLen;omega
     case c4=>have hh:(outK C k).length≤k:=LN.out;omega
     case c5=>have:=O2.out.2.size;simp;omega
     intro v' w4 hown' hgrow _ hloc
     have NX:Hid (InG w w4 v' C (k+1)):=by
      have hD:(seg C f (k+1-f)).length=(k+1)-f:=by rw[seg_len]
      refine⟨?_,?_⟩
      ·rw[E.out.1]
       exact OwnR.snoc HX.out hxl.out (by rw[hD];exact hown') DD.out
      ·have hs:=O2.out.2.size
       exact (O2.out.2.alloc hs _).grown hgrow (by simp;omega) (fun g hg=>(O2.out.1.lt g hg).1)
     clear hown' hgrow hloc O2 HX hxl DD
     go_wp2
     go_roundw
     case rel=>exact⟨k+1,by omega,by go_num,by rw[E.out.2];go_num,NX.out⟩
     case measure=>simp[intOf];omega
  ·obtain rfl:k=C.length:=by omega
   have e:outK C C.length=cases_ C:=by unfold outK;rw[if_neg (Nat.lt_irrefl _)]
   have R:Hid (CsP C w (.returned u3) wr):=by
    have h:=hS.out.own
    rw[e]at h
    obtain⟨a',c',rfl,hr⟩:=h.rd hS.out.bel
    exact⟨a',c',rfl,hr,hS.out.bel⟩
   clear hlt hS e
   go_wp2
   go_ret
   exact R.out
end Go.Proofs.YtghgbhmiliiohaaGreatDoor
