/-
  CodeAgreementIsSymmetric: the code that a coder gave to a case.
-/
import Derived.Test.YtghgbhmiliiohaaGreatDoorAM08
import Derived.Maps.RangeWalk
import Derived.Test.YtghgbhmiliiohaaGreatDoorAMQ
import Derived.Test.YtghgbhmiliiohaaGreatDoorAMShelf
import Derived.Test.YtghgbhmiliiohaaGreatDoorAM04
set_option maxRecDepth 100000
namespace Go.Proofs.YtghgbhmiliiohaaGreatDoor
open Go.RowKit Go.WideMaps Go.Maps
theorem same_int(a b:Int):(Lit.int .i64 a).sameKey (.int .i64 b)=decide (a=b):=by
 unfold Lit.sameKey
 by_cases h:a=b<;>simp[h]
theorem next_nums{P:Program} {w:World} {ops:Array Oper} {rest:List Oper} {o:Oper} {a:Act} {Q:Exit→Act→World→Prop} (hg:o.guard=none) (it:Operand) (hop:o.op=Op.next it false) (k:TypeId) (K:Keyed P k) (hk:P.underlying k=some (.int .i64)) (b r n:Nat) (D:DataW Value) (left:Lit→Bool) (cnt:Nat)
  (hit:a.eval it=.pointer (some ⟨r,0,none⟩)) (h:w.ranges P k asIs b r n D left cnt)
  (hDone:cnt=0→(∀ kl,left kl=false)→wpList P ops Q rest (a.put o.dst (.tuple #[.bool false])) w)
  (hMore:∀ (s:Int) (c:Value) (w':World) (cnt':Nat),left (.int .i64 s)=true→(∀ zd,D.atKey (.int .i64 s) zd=.held c)→w'.ranges P k asIs b r n D (fun z=>left z && !z.sameKey (.int .i64 s)) cnt'→cnt' < cnt →
   w.grownBy w' (some r)→w'.heap.size=w.heap.size→(Instr.entry (.pointer (some ⟨r,0,none⟩))).run P w'=.ok (.tuple #[.int .i64 s,c]) w'→wpList P ops Q rest (a.put o.dst (.tuple #[.bool true,.int .i64 s,c])) w') :
  wpList P ops Q (o::rest) a w:=
 wpList_next_ranges w hg it hop k K asIs (fun x:Int=>Value.int .i64 x) (fun v:Value=>v) (fun key kl h=>by obtain⟨x,e,_⟩:=Maps.keyOf_int_inv hk h;exact⟨x,e⟩) (fun v y _=>⟨v,rfl⟩) b r n D left cnt hit h hDone
  (fun s c kl y w' cnt' hkey hlk hy hat hrg hlt hgr hsz hen=>by
   obtain⟨s',e1,rfl,_⟩:=Maps.keyOf_int_inv hk hkey
   injection e1 with _ e1
   subst e1
   simp only[asIs,Option.some.injEq]at hy
   subst hy
   exact hMore s c w' cnt' hlk hat hrg hlt hgr hsz hen)
def ctF(g:Int→Nat):Int→Option Int:=fun s=>if g s=0 then none else some (g s:Int)
def CtIs(w:World)(b n:Nat)(g:Int→Nat):Prop:=NuIs w b n (ctF g)
theorem CtIs.look{w:World} {b n:Nat} {g:Int→Nat} (h:CtIs w b n g) {s:Int} (hs:in64 s) :
  (Instr.lookup 80 (.map (some b)) (.int .i64 s) false).run Tryz.prog w=.ok (.int .i64 (g s:Nat)) w:=by
 rw[NuIs.look h hs]
 unfold ctF
 by_cases e:g s=0
 ·rw[if_pos e,e];rfl
 ·rw[if_neg e];rfl
theorem CtIs.store{w:World} {b n:Nat} {g:Int→Nat} (h:CtIs w b n g) (hn:n<maxLen) {s:Int} (hs:in64 s) :
  ∃ w',(Instr.mapUpdate 80 (.map (some b)) (.int .i64 s) (.int .i64 ((g s:Int)+1))).run Tryz.prog w=.ok () w'∧CtIs w' b (n+1) (fun x=>if x=s then g s+1 else g x)∧w.grownBy w' (some b):=by
 obtain⟨w',h1,h2,h3⟩:=NuIs.store h hn hs ((g s:Int)+1)
 refine⟨w',h1,MapIs.congr h2 fun x=>?_,h3⟩
 unfold ctF
 by_cases e:x=s
 ·subst e;simp
 ·simp[e]
theorem CtIs.congr{w:World}{b n:Nat}{g g':Int→Nat}(h:CtIs w b n g)(e:∀ s,g s=g' s):CtIs w b n g':=by
 have:g=g':=funext e
 rw[←this];exact h
structure InF (W1 wr:World) (b1 b2 n:Nat) (g1 g2:Int→Nat):Prop where
 c1:CtIs wr b1 n g1
 c2:CtIs wr b2 n g2
 bel:Below W1.heap.size W1 wr
 lo:W1.heap.size≤b1
 lt:b1<b2
 le:b2<wr.heap.size
theorem InF.keep{W1 wr W:World}{b1 b2 n:Nat}{g1 g2:Int→Nat}(h:InF W1 wr b1 b2 n g1 g2)(hb:Below wr.heap.size wr W):InF W1 W b1 b2 n g1 g2:=
 ⟨MapIs.below h.c1 hb (MapIs.lt h.c1),MapIs.below h.c2 hb (MapIs.lt h.c2),h.bel.trans (hb.mono h.bel.size),h.lo,h.lt,Nat.lt_of_lt_of_le h.le hb.size⟩
theorem InF.more{W1 wr:World}{b1 b2 n m:Nat}{g1 g2:Int→Nat}(h:InF W1 wr b1 b2 n g1 g2)(hm:n≤m):InF W1 wr b1 b2 m g1 g2:={ h with c1:=NuIs.more h.c1 hm,c2:=NuIs.more h.c2 hm }
theorem InF.congr{W1 wr:World}{b1 b2 n:Nat}{g1 g2 g1' g2':Int→Nat}(h:InF W1 wr b1 b2 n g1 g2)(e1:∀ s,g1 s=g1' s)(e2:∀ s,g2 s=g2' s):InF W1 wr b1 b2 n g1' g2':={ h with c1:=h.c1.congr e1,c2:=h.c2.congr e2 }
theorem InF.store1{W1 wr:World} {b1 b2 n:Nat} {g1 g2:Int→Nat} (h:InF W1 wr b1 b2 n g1 g2) (hn:n<maxLen) {s:Int} (hs:in64 s) :
  ∃ W,(Instr.mapUpdate 80 (.map (some b1)) (.int .i64 s) (.int .i64 ((g1 s:Int)+1))).run Tryz.prog wr=.ok () W∧InF W1 W b1 b2 (n+1) (fun x=>if x=s then g1 s+1 else g1 x) g2∧wr.grownBy W (some b1):=by
 obtain⟨W,e,h2,h3⟩:=h.c1.store hn hs
 have lo:=h.lo
 have lt:=h.lt
 exact⟨W,e,⟨h2,NuIs.more (MapIs.kept h.c2 h3 (by intro e;injection e with e;omega)) (Nat.le_succ _),h.bel.grown h3 h.bel.size (fun j hj=>by cases hj;omega),h.lo,h.lt,Nat.lt_of_lt_of_le h.le h3.size⟩,h3⟩
theorem InF.store2{W1 wr:World} {b1 b2 n:Nat} {g1 g2:Int→Nat} (h:InF W1 wr b1 b2 n g1 g2) (hn:n<maxLen) {s:Int} (hs:in64 s) :
  ∃ W,(Instr.mapUpdate 80 (.map (some b2)) (.int .i64 s) (.int .i64 ((g2 s:Int)+1))).run Tryz.prog wr=.ok () W∧InF W1 W b1 b2 (n+1) g1 (fun x=>if x=s then g2 s+1 else g2 x)∧wr.grownBy W (some b2):=by
 obtain⟨W,e,h2,h3⟩:=h.c2.store hn hs
 have lo:=h.lo
 have lt:=h.lt
 exact⟨W,e,⟨NuIs.more (MapIs.kept h.c1 h3 (by intro e;injection e with e;omega)) (Nat.le_succ _),h2,h.bel.grown h3 h.bel.size (fun j hj=>by cases hj;omega),h.lo,h.lt,Nat.lt_of_lt_of_le h.le h3.size⟩,h3⟩
theorem InF.made(W1:World):InF W1 ((W1.alloc (.map #[] 0)).alloc (.map #[] 0)) W1.heap.size (W1.heap.size+1) 0 (fun _=>0) (fun _=>0):=by
 have e1:(W1.alloc (.map #[] 0)).heap.size=W1.heap.size+1:=by simp
 refine⟨?_,?_,?_,Nat.le_refl _,Nat.lt_succ_self _,by simp⟩
 ·exact MapIs.below ((MapIs.made W1).congr fun s=>rfl) (Cqbel_one _ _) (by simp)
 ·have:=MapIs.made (W1.alloc (.map #[] 0))
  rw[e1]at this
  exact this.congr fun s=>rfl
 ·exact (Cqbel_one _ _).trans ((Cqbel_one _ _).mono (by simp))
def byC(D:List Cg)(x:Int):Int:=((D.find? fun u=>u.co == x).map Cg.cd).getD 0
def prOf(a b:Int)(D:List Cg):Option (Int×Int):=if byC D a≠0∧byC D b≠0 then some (byC D a,byC D b) else none
def prs(a b:Int)(R:List (List Cg)):List (Int×Int):=R.filterMap (prOf a b)
theorem prOf_swap(a b:Int)(D:List Cg):prOf b a D=(prOf a b D).map Prod.swap:=by
 unfold prOf
 by_cases h:byC D a≠0∧byC D b≠0
 ·rw[if_pos h,if_pos h.symm];rfl
 ·rw[if_neg h,if_neg (fun k=>h k.symm)];rfl
theorem prs_swap(a b:Int)(R:List (List Cg)):prs b a R=(prs a b R).map Prod.swap:=by
 induction R with
 | nil=>rfl
 | cons D R ih=>
  unfold prs at *
  rw[List.filterMap_cons,List.filterMap_cons,prOf_swap a b D]
  cases prOf a b D with
  | none=>exact ih
  | some p=>simp only[Option.map_some,List.map_cons,ih]
def nF(P:List (Int×Int))(s:Int):Nat:=P.countP fun p=>p.1 == s
def nS(P:List (Int×Int))(s:Int):Nat:=P.countP fun p=>p.2 == s
def nE(P:List (Int×Int)):Nat:=P.countP fun p=>p.1 == p.2
def sumN(f:Nat→Nat):Nat→Nat
 | 0=>0
 | k+1=>sumN f k+f k
theorem sumN_congr{f g:Nat→Nat}:∀ {k:Nat},(∀ j,j<k→f j=g j)→sumN f k=sumN g k
 | 0,_=>rfl
 | k+1,h=>by
  unfold sumN
  rw[sumN_congr (k:=k) fun j hj=>h j (by omega),h k (by omega)]
theorem sumN_add(f g:Nat→Nat):∀ k,sumN (fun s=>f s+g s) k=sumN f k+sumN g k
 | 0=>rfl
 | k+1=>by unfold sumN;rw[sumN_add f g k];omega
theorem sumN_mono{f g:Nat→Nat}:∀ {k:Nat},(∀ j,j<k→f j≤g j)→sumN f k≤sumN g k
 | 0,_=>Nat.le_refl _
 | k+1,h=>by
  unfold sumN
  have:=sumN_mono (k:=k) fun j hj=>h j (by omega)
  have:=h k (by omega)
  omega
theorem sumN_mul(f:Nat→Nat)(c:Nat):∀ k,sumN (fun s=>f s*c) k=sumN f k*c
 | 0=>by unfold sumN;simp
 | k+1=>by unfold sumN;rw[sumN_mul f c k,Nat.add_mul]
theorem sumN_zero{f:Nat→Nat}:∀ {k:Nat},(∀ j,j<k→f j=0)→sumN f k=0
 | 0,_=>rfl
 | k+1,h=>by
  unfold sumN
  rw[sumN_zero (k:=k) fun j hj=>h j (by omega),h k (by omega)]
theorem sumN_at{f g:Nat→Nat}{i d:Nat}:∀ {k:Nat},i<k→(∀ j,j≠i→g j=f j)→g i=f i+d→sumN g k=sumN f k+d
 | k+1,hi,h,e=>by
  unfold sumN
  by_cases hk:i=k
  ·subst hk
   rw[sumN_congr (f:=g) (g:=f) fun j hj=>h j (by omega),e]
   omega
  ·rw[sumN_at (k:=k) (by omega) h e,h k (by omega)]
   omega
theorem sumN_one(x:Int):∀ k,sumN (fun s=>if x == (s:Int) then 1 else 0) k≤1
 | 0=>by unfold sumN;omega
 | k+1=>by
  unfold sumN
  by_cases e:x=(k:Int)
  ·have h0:sumN (fun s=>if x == (s:Int) then 1 else 0) k=0:=sumN_zero fun j hj=>by
    have:(x == (j:Int))=false:=by rw[beq_eq_false_iff_ne];omega
    rw[this];rfl
   rw[h0]
   split<;>omega
  ·have h1:(x == (k:Int))=false:=by rw[beq_eq_false_iff_ne];exact e
   rw[h1]
   have:=sumN_one x k
   simpa using this
theorem nF_all(P:List (Int×Int)):sumN (fun s=>nF P s) 1000≤P.length:=by
 induction P with
 | nil=>
  have:sumN (fun s=>nF [] s) 1000=0:=sumN_zero fun j _=>rfl
  omega
 | cons p P ih=>
  have e:sumN (fun s=>nF (p::P) s) 1000=sumN (fun s=>nF P s+if p.1 == (s:Int) then 1 else 0) 1000:=sumN_congr fun j _=>by
   unfold nF;rw[List.countP_cons]
  rw[e,sumN_add]
  have:=sumN_one p.1 1000
  simp only[List.length_cons]
  omega
theorem nS_le(P:List (Int×Int))(s:Int):nS P s≤P.length:=List.countP_le_length
theorem nF_le(P:List (Int×Int))(s:Int):nF P s≤P.length:=List.countP_le_length
theorem nE_le(P:List (Int×Int)):nE P≤P.length:=List.countP_le_length
def chN(P:List (Int×Int)):Nat:=sumN (fun s=>nF P s*nS P s) 1000
theorem chN_le(P:List (Int×Int)):chN P≤P.length*P.length:=by
 have h1:chN P≤sumN (fun s=>nF P s*P.length) 1000:=sumN_mono fun j _=>Nat.mul_le_mul (Nat.le_refl _) (nS_le P j)
 rw[sumN_mul]at h1
 exact Nat.le_trans h1 (Nat.mul_le_mul (nF_all P) (Nat.le_refl _))
def pn(P:List (Int×Int))(j:Nat):Int×Int:=P.getD j (0,0)
theorem pn_is{P:List (Int×Int)}{j:Nat}(h:j<P.length):pn P j=P[j]:=by unfold pn;rw[List.getD,List.getElem?_eq_getElem h];rfl
theorem pn_mem{P:List (Int×Int)}{j:Nat}(h:j<P.length):pn P j∈P:=by rw[pn_is h];exact List.getElem_mem h
theorem take_pn{P:List (Int×Int)}{j:Nat}(h:j<P.length):P.take (j+1)=P.take j ++ [pn P j]:=by rw[pn_is h,List.take_succ_eq_append_getElem h]
theorem nF_next{P:List (Int×Int)}{j:Nat}(h:j<P.length)(s:Int):(if s=(pn P j).1 then nF (P.take j) (pn P j).1+1 else nF (P.take j) s)=nF (P.take (j+1)) s:=by
 rw[take_pn h]
 unfold nF
 rw[List.countP_append]
 by_cases e:s=(pn P j).1
 ·rw[if_pos e,e];simp
 ·rw[if_neg e]
  have:((pn P j).1 == s)=false:=by rw[beq_eq_false_iff_ne];exact fun h=>e h.symm
  simp[this]
theorem nS_next{P:List (Int×Int)}{j:Nat}(h:j<P.length)(s:Int):(if s=(pn P j).2 then nS (P.take j) (pn P j).2+1 else nS (P.take j) s)=nS (P.take (j+1)) s:=by
 rw[take_pn h]
 unfold nS
 rw[List.countP_append]
 by_cases e:s=(pn P j).2
 ·rw[if_pos e,e];simp
 ·rw[if_neg e]
  have:((pn P j).2 == s)=false:=by rw[beq_eq_false_iff_ne];exact fun h=>e h.symm
  simp[this]
theorem nE_next{P:List (Int×Int)}{j:Nat}(h:j<P.length):nE (P.take (j+1))=nE (P.take j)+if (pn P j).1=(pn P j).2 then 1 else 0:=by
 rw[take_pn h]
 unfold nE
 rw[List.countP_append]
 by_cases e:(pn P j).1=(pn P j).2
 ·rw[if_pos e];simp[e]
 ·rw[if_neg e]
  have:((pn P j).1 == (pn P j).2)=false:=by rw[beq_eq_false_iff_ne];exact e
  simp[this]
def SmP(P:List (Int×Int)):Prop:=∀ p∈P,(0<p.1∧p.1<1000)∧(0<p.2∧p.2<1000)
def chL(g1 g2:Int→Nat)(left:Lit→Bool):Nat:=sumN (fun s=>if left (.int .i64 (s:Int)) then 0 else g1 s*g2 s) 1000
theorem chL_none{g1 g2:Int→Nat}{left:Lit→Bool}(h:∀ s:Nat,left (.int .i64 (s:Int))=false→g1 s=0):chL g1 g2 left=0:=sumN_zero fun j _=>by
 by_cases e:left (.int .i64 (j:Int))=true
 ·rw[if_pos e]
 ·rw[if_neg e,h j (by simpa using e),Nat.zero_mul]
theorem chL_all{g1 g2:Int→Nat}{left:Lit→Bool}(h:∀ s:Nat,left (.int .i64 (s:Int))=false):chL g1 g2 left=sumN (fun s=>g1 s*g2 s) 1000:=sumN_congr fun j _=>by rw[h j];rfl
theorem chL_step{g1 g2:Int→Nat}{left:Lit→Bool}{s:Nat}(hs:s<1000)(h:left (.int .i64 (s:Int))=true):chL g1 g2 (fun z=>left z && !z.sameKey (.int .i64 (s:Int)))=chL g1 g2 left+g1 s*g2 s:=by
 unfold chL
 refine sumN_at (i:=s) hs (fun j hj=>?_) ?_
 ·have:decide ((j:Int)=(s:Int))=false:=decide_eq_false (by omega)
  simp only[same_int,this,Bool.not_false,Bool.and_true]
 ·simp[same_int,h]
theorem chL_le{g1 g2:Int→Nat}{left:Lit→Bool}:chL g1 g2 left≤sumN (fun s=>g1 s*g2 s) 1000:=sumN_mono fun j _=>by
 by_cases e:left (.int .i64 (j:Int))=true
 ·rw[if_pos e];exact Nat.zero_le _
 ·rw[if_neg e];exact Nat.le_refl _
def Srt(D:List Cg):Prop:=∀ i,i+1<D.length→(cg D i).co<(cg D (i+1)).co
theorem Srt.lt{D:List Cg}(h:Srt D){i:Nat}:∀ {j:Nat},i<j→j<D.length→(cg D i).co<(cg D j).co
 | j+1,h1,h2=>by
  have h3:=h j h2
  by_cases e:i=j
  ·rw[e];exact h3
  ·have:=Srt.lt h (i:=i) (j:=j) (by omega) (by omega)
   omega
theorem byC_at{D:List Cg}(h:Srt D){n:Nat}{x:Int}(hn:n<D.length)(e:(cg D n).co=x):byC D x=(cg D n).cd:=by
 have hf:D.find? (fun u=>u.co == x)=some (cg D n):=by
  rw[List.find?_eq_some_iff_getElem]
  refine⟨by simpa using e,n,hn,(cg_is hn).symm,fun j hj=>?_⟩
  have:=h.lt hj hn
  rw[←cg_is (by omega)]
  have e2:((cg D j).co == x)=false:=by rw[beq_eq_false_iff_ne];omega
  rw[e2];rfl
 unfold byC
 rw[hf];rfl
theorem byC_none{D:List Cg}{x:Int}(h:∀ j,j<D.length→(cg D j).co≠x):byC D x=0:=by
 have hf:D.find? (fun u=>u.co == x)=none:=by
  rw[List.find?_eq_none]
  intro u hu
  obtain⟨j,hj,e⟩:=List.getElem_of_mem hu
  have:=h j hj
  rw[cg_is hj,e]at this
  simpa using this
 unfold byC
 rw[hf];rfl
theorem cmp_neg{x y:Int}(h:x<y):Lib.compareInt x y=-1:=by unfold Lib.compareInt;rw[if_pos h]
theorem cmp_zero(x:Int):Lib.compareInt x x=0:=by unfold Lib.compareInt;simp
theorem cmpBy_c(u:Cg) (x:Int) (w:World) :
  Calls Tryz.prog 62 #[.agg #[.int .i64 u.ca,.int .i64 u.co,.int .i64 u.cd],.int .i64 x] w fun e w'=>e=.returned (.int .i64 (Lib.compareInt u.co x))∧Below w.heap.size w w':=by
 obtain⟨W1,hW1⟩:∃ W1,w.alloc (.cells #[.int .i64 u.ca,.int .i64 u.co,.int .i64 u.cd] 69)=W1:=⟨_,rfl⟩
 have B1:Hid (CodB w W1 u):=by unfold Hid;rw[←hW1];exact cod_b _ _
 have HC:=Zh (Tryz.cmp_Compare_int u.co x W1)
 have v1:=B1.out.2.c1
 go_enter Tryz.func62,Tryz.ntmps62
 go_wp2_with fail
 clear hW1 v1
 refine HC.out.mono ?_
 rintro e w' ⟨rfl,rfl⟩
 go_wp2
 go_ret
 exact⟨rfl,B1.out.1⟩
def BsP(D:List Cg)(x:Int)(w:World)(e:Ending)(w':World):Prop:=
 ∃ n b,e=.returned (.tuple #[.int .i64 (n:Nat),.bool b])∧n≤D.length∧(b=true→n<D.length∧(cg D n).co=x)∧(b=false→∀ j,j<D.length→(cg D j).co≠x)∧Below w.heap.size w w'
structure InB (D:List Cg) (x:Int) (w:World) (i j:Nat) (wr:World):Prop where
 le:i≤j
 hi:j≤D.length
 lo:∀ k,k<i→(cg D k).co<x
 up:∀ k,j≤k→k<D.length→x≤(cg D k).co
 bel:Below w.heap.size w wr
theorem mid_wrap{i j n:Nat}(h1:i<j)(h2:j≤n)(h3:n≤20000):∃ h:Nat,h=(i+j) / 2∧i≤h∧h<j:=⟨(i+j) / 2,rfl,by omega,by omega⟩
set_option maxHeartbeats 2000000 in
theorem bsearch_c(a:Option Addr) (c:Nat) (D:List Cg) (x:Int) (w:World) (hD:RdC w a D) (hn:D.length≤20000) (hs:Srt D) :
  Calls Tryz.prog 61 #[.slice a D.length c,.int .i64 x,.func (.func 62) #[] #[]] w (BsP D x w):=by
 have HD:=Zh hD
 have HS:=Zh hs
 have h9:=hD.1
 clear hD hs
 go_enter Tryz.func61,Tryz.ntmps61
 go_wp2
 go_loopw [9,10] (fun vi vj wr=>∃ i j:Nat,vi=.int .i64 i∧vj=.int .i64 j∧Hid (InB D x w i j wr)) (fun vi vj _=>(intOf vj).toNat-(intOf vi).toNat)
 case atStart=>exact⟨0,D.length,rfl,rfl,Nat.zero_le _,Nat.le_refl _,fun k h=>by omega,fun k h1 h2=>by omega,Below.refl _ _⟩
 case round=>
  obtain⟨i,j,rfl,rfl,hI⟩:=hrel
  by_cases hlt:i<j
  ·have hlt':(i:Int)<(j:Int):=by omega
   have hhi:=hI.out.hi
   obtain⟨h,hh,h1,h2⟩:=mid_wrap hlt hhi hn
   have hmid:((i:Int)+(j:Int)) / 2=(h:Int):=by omega
   have hhl:(h:Int)<(D.length:Int):=by omega
   have h0:(0:Int)≤(h:Int):=by omega
   obtain⟨b',off,rfl,u0,u1,u2⟩:=(HD.out.below hI.out.bel).at_ (k:=h) (by omega)
   have HC:=Zh (cmpBy_c (cg D h) x wr)
   have HH:=Zh (And.intro h1 h2)
   by_cases hc:(cg D h).co<x
   ·rw[cmp_neg hc]at HC
    have NX:Hid (∀ W,Below wr.heap.size wr W→InB D x w (h+1) j W):=fun W hb=>
     ⟨by omega,hI.out.hi,fun k hk=>by
      by_cases e:k=h
      ·rw[e];exact hc
      ·have:=HS.out.lt (i:=k) (j:=h) (by omega) (by omega)
       omega,hI.out.up,hI.out.bel.trans (hb.mono hI.out.bel.size)⟩
    clear hh h1 h2 hc
    go_wp2_with fail
    (with_reducible refine HC.out.mono ?_)
    rintro e W2 ⟨rfl,b2⟩
    have N2:=Zh (NX.out W2 b2)
    clear b2 u0 u1 u2 hI
    go_wp2
    go_roundw
    case rel=>exact⟨h+1,j,by go_num,rfl,N2.out⟩
    case measure=>have:=HH.out;simp[intOf];omega
   ·have hge:¬ Lib.compareInt (cg D h).co x<0:=by
     unfold Lib.compareInt
     rw[if_neg hc];split<;>omega
    obtain⟨v,hv⟩:∃ v,Lib.compareInt (cg D h).co x=v:=⟨_,rfl⟩
    rw[hv]at HC hge
    have NX:Hid (∀ W,Below wr.heap.size wr W→InB D x w i h W):=fun W hb=>
     ⟨h1,by omega,hI.out.lo,fun k hk hk2=>by
      by_cases e:k=h
      ·rw[e];omega
      ·have:=HS.out.lt (i:=h) (j:=k) (by omega) hk2
       omega,hI.out.bel.trans (hb.mono hI.out.bel.size)⟩
    clear hh h1 h2 hc hv
    go_wp2_with fail
    (with_reducible refine HC.out.mono ?_)
    rintro e W2 ⟨rfl,b2⟩
    have N2:=Zh (NX.out W2 b2)
    clear b2 u0 u1 u2 hI
    go_wp2
    go_roundw
    case rel=>exact⟨i,h,rfl,rfl,N2.out⟩
    case measure=>have:=HH.out;simp[intOf];omega
  ·obtain rfl:i=j:=by have:=hI.out.le;omega
   have hhi:=hI.out.hi
   by_cases hin:i<D.length
   ·have hin':(i:Int)<(D.length:Int):=by omega
    obtain⟨b',off,rfl,u0,u1,u2⟩:=(HD.out.below hI.out.bel).at_ (k:=i) hin
    have HC:=Zh (cmpBy_c (cg D i) x wr)
    have HIN:=Zh hin
    clear hhi hin
    by_cases hc:(cg D i).co=x
    ·have e0:Lib.compareInt (cg D i).co x=0:=by rw[hc];exact cmp_zero x
     rw[e0]at HC
     have PP:Hid (∀ W,Below wr.heap.size wr W→BsP D x w (.returned (.tuple #[.int .i64 (i:Nat),.bool true])) W):=fun W hb=>
      ⟨i,true,rfl,hI.out.hi,fun _=>⟨HIN.out,hc⟩,(fun h=>by cases h),hI.out.bel.trans (hb.mono hI.out.bel.size)⟩
     clear hc
     go_wp2_with fail
     (with_reducible refine HC.out.mono ?_)
     rintro e W2 ⟨rfl,b2⟩
     have N2:=Zh (PP.out W2 b2)
     clear b2 u0 u1 u2 hI
     go_wp2
     exact bodyPost_ret (v:=.tuple #[.int .i64 (i:Nat),.bool true]) (by simp[results,Tryz.results61,go_sem]) rfl N2.out
    ·have hne:(Lib.compareInt (cg D i).co x == 0)=false:=by
      rw[beq_eq_false_iff_ne]
      unfold Lib.compareInt
      split
      ·decide
      ·split
       ·decide
       ·omega
     obtain⟨v,hv⟩:∃ v,Lib.compareInt (cg D i).co x=v:=⟨_,rfl⟩
     rw[hv]at HC hne
     have PP:Hid (∀ W,Below wr.heap.size wr W→BsP D x w (.returned (.tuple #[.int .i64 (i:Nat),.bool false])) W):=fun W hb=>
      ⟨i,false,rfl,hI.out.hi,(fun h=>by cases h),fun _ j hj=>by
       rcases Nat.lt_trichotomy j i with h|h|h
       ·have:=hI.out.lo j h;omega
       ·rw[h];exact hc
       ·have:=hI.out.up i (Nat.le_refl _) HIN.out
        have:=HS.out.lt (i:=i) (j:=j) h hj
        omega,hI.out.bel.trans (hb.mono hI.out.bel.size)⟩
     clear hc hv
     go_wp2_with fail
     (with_reducible refine HC.out.mono ?_)
     rintro e W2 ⟨rfl,b2⟩
     have N2:=Zh (PP.out W2 b2)
     clear b2 u0 u1 u2 hI
     go_wp2
     exact bodyPost_ret (v:=.tuple #[.int .i64 (i:Nat),.bool false]) (by simp[results,Tryz.results61,go_sem]) rfl N2.out
   ·have hin':¬ (i:Int)<(D.length:Int):=by omega
    have hin2:decide ((i:Int)<(D.length:Int))=false:=decide_eq_false hin'
    have PP:Hid (BsP D x w (.returned (.tuple #[.int .i64 (i:Nat),.bool false])) wr):=
     ⟨i,false,rfl,hI.out.hi,(fun h=>by cases h),fun _ j hj=>by have:=hI.out.lo j (by omega);omega,hI.out.bel⟩
    clear hI hin hhi
    go_wp2
    exact bodyPost_ret (v:=.tuple #[.int .i64 (i:Nat),.bool false]) (by simp[results,Tryz.results61,go_sem]) rfl PP.out
theorem codeBy_c(a:Option Addr) (c:Nat) (D:List Cg) (x:Int) (w:World) (hD:RdC w a D) (hn:D.length≤20000) (hs:Srt D) :
  Calls Tryz.prog 34 #[.slice a D.length c,.int .i64 x] w fun e w'=>e=.returned (.int .i64 (byC D x))∧Below w.heap.size w w':=by
 have HD:=Zh hD
 have HS:=Zh hs
 have h9:=hD.1
 have HC:=Zh (bsearch_c a c D x w hD hn hs)
 clear hD hs
 go_enter Tryz.func34,Tryz.ntmps34
 go_wp2_with fail
 (with_reducible refine HC.out.mono ?_)
 rintro e W2 ⟨n,b,rfl,hle,ht,hf,b2⟩
 have B2:=Zh b2
 have HF:=Zh hf
 have HT:=Zh ht
 clear ht hf b2
 cases b
 ·have E:Hid (byC D x=0):=byC_none (HF.out rfl)
  clear HF HT
  go_wp2
  go_ret
  exact⟨by rw[E.out];rfl,B2.out⟩
 ·have hlt:=(HT.out rfl).1
  have E:Hid (byC D x=(cg D n).cd):=byC_at HS.out hlt (HT.out rfl).2
  obtain⟨b',off,rfl,u0,u1,u2⟩:=(HD.out.below B2.out).at_ hlt
  have hlt':(n:Int)<(D.length:Int):=by omega
  clear HF HT hlt hle
  go_wp2
  go_ret
  exact⟨by rw[E.out];rfl,B2.out⟩
end Go.Proofs.YtghgbhmiliiohaaGreatDoor
