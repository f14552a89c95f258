/-
  Package code: what CheckFrame and the functions of frames give, of lists and numbers.
-/
import Derived.Test.YtghgbhmiliiohaaGreatDoorProg
import Derived.WideKeyEntry
import Derived.DeepKeys4
import Derived.Maps.RangeWalk
import Derived.ProofKit
import Derived.WalkKit
import Derived.Test.YtghgbhmiliiohaaGreatDoorRows
set_option maxRecDepth 100000
namespace Go.Proofs.YtghgbhmiliiohaaGreatDoor
open Go.RowKit Go.WideMaps Go.Maps
theorem pairLaid:laidOutB Tryz.prog=true:=by kernel_rfl
theorem pairWide:(match Tryz.prog.underlying 74 with | some (.array _ _) | some (.struct _)=>true | _=>false)=true:=by kernel_rfl
theorem pairRow:74<Tryz.prog.types.size:=of_decide_eq_true (by kernel_rfl)
theorem lawPk:KeyLaw Tryz.prog 74:=deep_law_laid pairLaid (m:=2) (by omega) pairRow (by kernel_rfl) pairWide
theorem lawPr:Keyed Tryz.prog 74:=Keyed.of_law lawPk
def kp(x y:Int):Lit:=.string (keyBytes [.int .i64 x,.int .i64 y])
theorem pairKt:Tryz.prog.keyType 74=true:=by kernel_rfl
theorem pairSize:∃ d,Tryz.prog.types.size+1=d+2:=⟨Tryz.prog.types.size-1,by have:=pairRow;omega⟩
theorem pairCells:Tryz.prog.cellsOf 74=2:=by kernel_rfl
theorem intCells:Tryz.prog.cellsOf 3=1:=by kernel_rfl
def inw(x:Int):Prop:=-9223372036854775808≤x∧x≤9223372036854775807
theorem keyOf_pair{x y:Int}(hx:inw x)(hy:inw y):keyOf Tryz.prog 74 (.agg #[.int .i64 x,.int .i64 y])=some (kp x y):=by
 have h1:=WalkArith.wf_i64 hx
 have h2:=WalkArith.wf_i64 hy
 obtain⟨d,hd⟩:=pairSize
 unfold keyOf
 rw[Tryz.underlying74]
 simp only[pairKt,Value.formed,Tryz.underlying74,pairCells,hd,kp]
 simp[Program.keyLits,Value.cells,Tryz.underlying74,Tryz.underlying3,pairCells,intCells,h1,h2]
theorem klit_int(d:Nat)(a:Value):(∃ n,a=.int .i64 n∧inw n∧Tryz.prog.keyLits (d+1) 3 [a]=some [.int .i64 n])∨Tryz.prog.keyLits (d+1) 3 [a]=none:=by
 cases a with
 | int k n=>
  by_cases e:k=.i64∧(Lit.int .i64 n).wf=true
  ·obtain⟨rfl,w1⟩:=e
   refine .inl ⟨n,rfl,?_,?_⟩
   ·have m1:IntKind.i64.min=-9223372036854775808:=by decide
    have m2:IntKind.i64.max=9223372036854775807:=by decide
    simp[Lit.wf,m1,m2]at w1;unfold inw;omega
   ·simp[Program.keyLits,Tryz.underlying3,w1]
  ·right
   simp only[Program.keyLits,Tryz.underlying3]
   rw[if_neg e]
 | _=>right;simp only[Program.keyLits,Tryz.underlying3]
theorem keyOf_pair_inv{v:Value}{l:Lit}(h:keyOf Tryz.prog 74 v=some l):∃ x y,v=.agg #[.int .i64 x,.int .i64 y]∧l=kp x y∧inw x∧inw y:=by
 obtain⟨xs,L,rfl,h1,rfl⟩:=keyOf_top pairWide h
 obtain⟨d,hd⟩:=pairSize
 rw[hd]at h1
 obtain⟨xs⟩:=xs
 rw[Program.keyLits.eq_def]at h1
 simp only[Tryz.underlying74,pairCells]at h1
 split at h1
 ·rename_i hl
  obtain⟨hl,_⟩:=hl
  match xs,hl with
  | [a,b],_=>
   simp[intCells]at h1
   rcases klit_int d a with ⟨x,rfl,w1,ea⟩|ea
   ·rcases klit_int d b with ⟨y,rfl,w2,eb⟩|eb
    ·rw[ea,eb]at h1
     simp at h1
     exact⟨x,y,rfl,by rw[←h1];rfl,w1,w2⟩
    ·rw[ea,eb]at h1
     simp at h1
   ·rw[ea]at h1
    simp at h1
 ·cases h1
theorem kp_inj{x y x' y':Int}(hx:inw x)(hy:inw y)(hx':inw x')(hy':inw y')(h:kp x y=kp x' y'):x=x'∧y=y':=by
 have h1:=keyOf_pair hx hy
 have h2:=keyOf_pair hx' hy'
 rw[←h]at h2
 have:=lawPr.inj h1 h2
 simpa using this
theorem kp_same{x y x' y':Int}(hx:inw x)(hy:inw y)(hx':inw x')(hy':inw y'):(kp x y).sameKey (kp x' y')=decide (x=x'∧y=y'):=by
 by_cases e:x=x'∧y=y'
 ·obtain⟨rfl,rfl⟩:=e
  simp[kp,Lit.sameKey]
 ·rw[decide_eq_false e]
  have:kp x y≠kp x' y':=fun h=>e (kp_inj hx hy hx' hy' h)
  unfold kp at this ⊢
  simpa[Lit.sameKey] using this
theorem kp_ne{x y x' y':Int}(hx:inw x)(hy:inw y)(hx':inw x')(hy':inw y')(e:¬ (x=x'∧y=y')):kp x y≠kp x' y':=fun h=>e (kp_inj hx hy hx' hy' h)
theorem kp_key(x y:Int):WideAt.IsKeyLit (kp x y):=trivial
def asIt(v:Value):Option (DataW Value×List MemPlace):=some (.held v,[])
def PmD(D:DataW Value)(g:Int→Int→Nat):Prop:=
 Maps.IsMap D∧∀ x y:Int,inw x→inw y→Maps.has D (kp x y)=decide (0<g x y)∧∀ z,D.atKey (kp x y) (.held z)=.held (if 0<g x y then .int .i64 (g x y:Nat) else z)
def PmIs(w:World)(b n:Nat)(g:Int→Int→Nat):Prop:=∃ D:DataW Value,w.ownsMap Tryz.prog 74 asIt b n D∧PmD D g
theorem zeroIntP(w:World):(zeroValue 3).run Tryz.prog w=.ok (.int .i64 0) w:=by kernel_rfl
theorem PmD.none_:PmD (.map []) fun _ _=>0:=⟨⟨[],rfl⟩,fun _ _ _ _=>⟨rfl,fun _=>rfl⟩⟩
theorem PmD.put{D:DataW Value}{g:Int→Int→Nat}(h:PmD D g){x y:Int}(hx:inw x)(hy:inw y):PmD (D.put (kp x y) (.held (.int .i64 (g x y+1:Nat)))) fun a b=>if a=x∧b=y then g x y+1 else g a b:=by
 obtain⟨hm,hf⟩:=h
 refine⟨?_,fun a b ha hb=>?_⟩
 ·obtain⟨es,rfl⟩:=hm
  exact⟨_,rfl⟩
 ·by_cases e:a=x∧b=y
  ·obtain⟨rfl,rfl⟩:=e
   exact⟨by rw[Maps.has_put_same hm (kp_key a b)];simp,fun z=>by rw[Maps.atKey_put_same hm (kp_key a b)];simp⟩
  ·have hne:=kp_ne ha hb hx hy e
   simp only[if_neg e]
   exact⟨by rw[Maps.has_put_other hne];exact (hf a b ha hb).1,fun z=>by rw[Maps.atKey_put_other hne];exact (hf a b ha hb).2 z⟩
theorem PmIs.lt{w:World}{b n:Nat}{g:Int→Int→Nat}(h:PmIs w b n g):b<w.heap.size:=by
 obtain⟨D,h,_⟩:=h;exact h.lt
theorem PmIs.made(w:World):PmIs (w.alloc (.map #[] 0)) w.heap.size 0 fun _ _=>0:=⟨_,World.ownsMap_made w _ _ _,PmD.none_⟩
theorem PmIs.kept{w w':World}{b n:Nat}{g:Int→Int→Nat}{row:Option Nat}(h:PmIs w b n g)(hg:w.grownBy w' row)(hne:some b≠row):PmIs w' b n g:=by
 obtain⟨D,h,hD⟩:=h;exact⟨D,h.kept hg hne,hD⟩
theorem PmIs.congr{w:World}{b n:Nat}{f g:Int→Int→Nat}(h:PmIs w b n f)(e:∀ x y,f x y=g x y):PmIs w b n g:=by
 have:f=g:=funext fun x=>funext fun y=>e x y
 rw[←this];exact h
theorem PmIs.look{w:World} {b n:Nat} {g:Int→Int→Nat} (h:PmIs w b n g) {x y:Int} (hx:inw x) (hy:inw y) :
  (Instr.lookup 75 (.map (some b)) (.agg #[.int .i64 x,.int .i64 y]) false).run Tryz.prog w=.ok (.int .i64 (g x y:Nat)) w:=by
 obtain⟨D,h,hm,hf⟩:=h
 obtain⟨v,ps,hrun,hv⟩:=h.lookup lawPr Tryz.underlying75 (zeroIntP w) (zd:=.held (.int .i64 0)) (zp:=[]) rfl (keyOf_pair hx hy)
 rw[hrun]
 rw[(hf x y hx hy).2 (.int .i64 0)]at hv
 simp only[asIt,Option.some.injEq,Prod.mk.injEq,DataW.held.injEq]at hv
 rw[hv.1]
 by_cases e:0<g x y
 ·rw[if_pos e]
 ·rw[if_neg e,show g x y=0 by omega];rfl
theorem entry_same{P:Program} {w:World} {t k e:TypeId} {R:Value→Option (DataW Value×List MemPlace)} {b:Nat} {es:Array MapEntry} {clock:Nat} (K:KeyLaw P k) (ht:P.underlying t=some (.map k e)) {z:Value} (hz:∀ u:World,(zeroValue e).run P u=.ok z u)
  (hb:w.heap[b]?=some (.map es clock)) (F:WideElems.Fit P k R es clock) {key:Value} {kl:Lit} (hkey:keyOf P k key=some kl) :
  ∃ (v0 st:Value) (w1:World),(Instr.lookup t (.map (some b)) key false).run P w=.ok v0 w∧(Instr.mapEntry t (.map (some b)) key).run P w=.ok (.tuple #[v0,st]) w1∧(Instr.mapUpdate t (.map (some b)) key v0).run P w=.ok () w1:=by
 rcases K.find w hkey es.toList F.keys with ⟨h1,h2⟩|⟨j,e0,h1,h2,h3⟩
 ·refine⟨z,goInt clock,ChangeMaps.setBlock w b (.map (es.push ⟨key,z,clock⟩) (clock+1)),?_,?_,?_⟩
  ·simp[Instr.lookup,run_underlying ht,MapKept.run_getObj_map hb,K.check w _ hkey,h1,hz,Result.andThen]
  ·simp[Instr.mapEntry,run_underlying ht,MapKept.run_getObj_map hb,K.check w _ hkey,h1,hz,MapKept.run_setObj_map _ hb,Result.andThen,ChangeMaps.setBlock]
  ·simp[Instr.mapUpdate,run_underlying ht,MapKept.run_getObj_map hb,K.check w _ hkey,h1,MapKept.run_setObj_map _ hb,Result.andThen,ChangeMaps.setBlock]
 ·have hj:es[j]?=some e0:=by simpa using h2
  have hlt:j<es.size:=(Array.getElem?_eq_some_iff.1 hj).1
  have hme:∀ f:MapEntry→MapEntry,f e0=e0→es.modify j f=es:=fun f hf=>by
   apply Array.ext_getElem?
   intro i
   rw[Array.getElem?_modify]
   by_cases e:j=i
   ·subst e
    rw[if_pos rfl,hj]
    simp[hf]
   ·rw[if_neg e]
  refine⟨e0.val,goInt e0.born,ChangeMaps.setBlock w b (.map es clock),?_,?_,?_⟩
  ·simp[Instr.lookup,run_underlying ht,MapKept.run_getObj_map hb,K.check w _ hkey,h1,Result.andThen]
  ·have e1:=hme (fun e=>{ e with key:=key }) (by rw[←h3])
   simp[Instr.mapEntry,run_underlying ht,MapKept.run_getObj_map hb,K.check w _ hkey,h1,hj,h3,K.stays w hkey,e1,MapKept.run_setObj_map _ hb,Result.andThen,ChangeMaps.setBlock]
  ·have e1:=hme (fun e'=>{ e' with key:=key,val:=e0.val }) (by rw[←h3])
   simp[Instr.mapUpdate,run_underlying ht,MapKept.run_getObj_map hb,K.check w _ hkey,h1,hj,h3,K.stays w hkey,e1,MapKept.run_setObj_map _ hb,Result.andThen,ChangeMaps.setBlock]
theorem PmIs.bump{w:World} {b n:Nat} {g:Int→Int→Nat} (h:PmIs w b n g) (hn:n<maxLen) {x y:Int} (hx:inw x) (hy:inw y) :
  ∃ (v0:Value) (st:Nat) (w1 w2:World),(Instr.mapEntry 75 (.map (some b)) (.agg #[.int .i64 x,.int .i64 y])).run Tryz.prog w=.ok (.tuple #[v0,.int .i64 (st:Nat)]) w1 ∧
   (Instr.entryStore 75 (.map (some b)) (.int .i64 (st:Nat)) (.int .i64 ((g x y:Int)+1))).run Tryz.prog w1=.ok () w2 ∧
   (Instr.lookup 75 (.map (some b)) (.agg #[.int .i64 x,.int .i64 y]) false).run Tryz.prog w1=.ok (.int .i64 (g x y:Nat)) w1 ∧
   PmIs w2 b (n+1) (fun a c=>if a=x∧c=y then g x y+1 else g a c)∧w.grownBy w2 (some b)∧w.grownBy w1 (some b):=by
 have hlk:=h.look hx hy
 obtain⟨D,hown,hD⟩:=h
 obtain⟨w',h1,h2,h3⟩:=hown.update lawPr Tryz.underlying75 hn (keyOf_pair hx hy) (d:=.held (.int .i64 (g x y+1:Nat))) (val:=.int .i64 (g x y+1:Nat)) (ps:=[]) rfl
 obtain⟨w'',k1,k2,k3⟩:=hown.update lawPr Tryz.underlying75 hn (keyOf_pair hx hy) (d:=.held (.int .i64 (g x y:Nat))) (val:=.int .i64 (g x y:Nat)) (ps:=[]) rfl
 have hmap:=hD.1
 obtain⟨es,clock,hb,F,_⟩:=hown
 obtain⟨v0,st,es1,clock1,m1,_,m2⟩:=WideElems.entry_then_store lawPk Tryz.underlying75 zeroIntP hb F (keyOf_pair hx hy)
 obtain⟨v0',st',w1',n1,n2,n3⟩:=entry_same lawPk Tryz.underlying75 zeroIntP hb F (keyOf_pair hx hy)
 have hlt:=(Array.getElem?_eq_some_iff.1 hb).1
 obtain⟨es',clock',m3,m4⟩:=m2 (ChangeMaps.setBlock w b (.map es1 clock1)) (.int .i64 (g x y+1:Nat)) (by simp[ChangeMaps.setBlock,hlt])
 have ev:v0'=.int .i64 (g x y:Nat):=by rw[hlk]at n1;injection n1 with n1;exact n1.symm
 subst ev
 have ew:w1'=ChangeMaps.setBlock w b (.map es1 clock1):=by rw[m1]at n2;injection n2 with _ n2;exact n2.symm
 have ew2:w''=w1':=by rw[k1]at n3;injection n3 with _ n3
 have hlk1:(Instr.lookup 75 (.map (some b)) (.agg #[.int .i64 x,.int .i64 y]) false).run Tryz.prog w''=.ok (.int .i64 (g x y:Nat)) w'':=by
  obtain⟨v,ps,hrun,hv⟩:=k2.lookup lawPr Tryz.underlying75 (zeroIntP w'') (zd:=.held (.int .i64 0)) (zp:=[]) rfl (keyOf_pair hx hy)
  rw[hrun]
  rw[Maps.atKey_put_same hmap (kp_key x y)]at hv
  simp only[asIt,Option.some.injEq,Prod.mk.injEq,DataW.held.injEq]at hv
  rw[←hv.1]
 rw[ew2,ew]at hlk1 k3
 refine⟨v0,st,_,w',m1,?_,hlk1,⟨_,h2,hD.put hx hy⟩,h3,k3⟩
 rw[h1]at m4
 injection m4 with _ m4
 rw[m4]
 have e:ChangeMaps.setBlock (ChangeMaps.setBlock w b (.map es1 clock1)) b (.map es' clock')=ChangeMaps.setBlock w b (.map es' clock'):=by simp[ChangeMaps.setBlock]
 rw[←e]
 have ec:((g x y+1:Nat):Int)=(g x y:Int)+1:=by omega
 rw[ec]at m3
 exact m3
theorem next_pairs{w:World} {ops:Array Oper} {rest:List Oper} {o:Oper} {a:Act} {Q:Exit→Act→World→Prop} (hg:o.guard=none) (it:Operand) (hop:o.op=Op.next it false) (b r n:Nat) (D:DataW Value) (left:Lit→Bool) (cnt:Nat)
  (hit:a.eval it=.pointer (some ⟨r,0,none⟩)) (h:w.ranges Tryz.prog 74 asIt b r n D left cnt)
  (hDone:cnt=0→(∀ kl,left kl=false)→wpList Tryz.prog ops Q rest (a.put o.dst (.tuple #[.bool false])) w)
  (hMore:∀ (x y:Int) (c:Value) (w':World) (cnt':Nat),inw x→inw y→left (kp x y)=true→(∀ zd,D.atKey (kp x y) zd=.held c)→w'.ranges Tryz.prog 74 asIt b r n D (fun z=>left z && !z.sameKey (kp x y)) cnt'→cnt' < cnt →
   w.grownBy w' (some r)→w'.heap.size=w.heap.size→(Instr.entry (.pointer (some ⟨r,0,none⟩))).run Tryz.prog w'=.ok (.tuple #[.agg #[.int .i64 x,.int .i64 y],c]) w'→wpList Tryz.prog ops Q rest (a.put o.dst (.tuple #[.bool true,.agg #[.int .i64 x,.int .i64 y],c])) w') :
  wpList Tryz.prog ops Q (o::rest) a w:=
 wpList_next_ranges w hg it hop 74 lawPr asIt (fun p:Int×Int=>Value.agg #[.int .i64 p.1,.int .i64 p.2]) (fun v:Value=>v) (fun key kl h=>by obtain⟨x,y,e,_⟩:=keyOf_pair_inv h;exact⟨(x,y),e⟩) (fun v y _=>⟨v,rfl⟩) b r n D left cnt hit h hDone
  (fun s c kl y w' cnt' hkey hlk hy hat hrg hlt hgr hsz hen=>by
   obtain⟨x',y',e1,rfl,i1,i2⟩:=keyOf_pair_inv hkey
   obtain⟨x,y⟩:=s
   have e2:x=x'∧y=y':=by simpa using e1
   obtain⟨rfl,rfl⟩:=e2
   simp only[asIt,Option.some.injEq]at hy
   subst hy
   exact hMore x y c w' cnt' i1 i2 hlk hat hrg hlt hgr hsz hen)
def fe(s:Nat→Int):Nat→Int
 | 0=>0
 | k+1=>if fe s k=0 then s k else fe s k
theorem fe_next{s:Nat→Int}{k:Nat}(h:fe s k=0):fe s (k+1)=s k:=by
 show (if fe s k=0 then _ else _)=_
 rw[if_pos h]
theorem fe_stays{s:Nat→Int}{k:Nat}(h:fe s k≠0):∀ m,fe s (k+m)=fe s k
 | 0=>rfl
 | m+1=>by
  show (if fe s (k+m)=0 then _ else fe s (k+m))=_
  rw[fe_stays h m,if_neg h]
theorem fe_at{s:Nat→Int}{k n:Nat}(hk:k<n)(h0:fe s k=0)(h1:s k≠0):fe s n=s k:=by
 have e:=fe_next h0
 have t:=fe_stays (s:=s) (k:=k+1) (by rw[e];exact h1) (n-(k+1))
 rw[show k+1+(n-(k+1))=n by omega,e]at t
 exact t
theorem fe_zero{s:Nat→Int}:∀ {n:Nat},fe s n=0→∀ k,k<n→s k=0
 | n+1,h,k,hk=>by
  by_cases h0:fe s n=0
  ·rw[fe_next h0]at h
   by_cases e:k=n
   ·rw[e];exact h
   ·exact fe_zero h0 k (by omega)
  ·have:=fe_stays h0 1
   rw[this]at h
   exact absurd h h0
theorem fe_all{s:Nat→Int}:∀ {n:Nat},(∀ k,k<n→s k=0)→fe s n=0
 | 0,_=>rfl
 | n+1,h=>by rw[fe_next (fe_all fun k hk=>h k (by omega))];exact h n (by omega)
structure Nd where
 cd:Int
 pr:Int
 ti:ByteArray
def nd0:Nd:=⟨0,0,⟨#[]⟩⟩
def nd(l:List Nd)(j:Nat):Nd:=l.getD j nd0
theorem nd_is{l:List Nd}{j:Nat}(h:j<l.length):nd l j=l[j]:=by unfold nd;rw[List.getD,List.getElem?_eq_getElem h];rfl
theorem nd_mem{l:List Nd}{j:Nat}(h:j<l.length):nd l j∈l:=by rw[nd_is h];exact List.getElem_mem h
def bts(s:ByteArray):List UInt8:=s.data.toList
def titS(s:ByteArray):Bool:=(bts s).all (fun c=>decide (32≤c.toNat∧c.toNat≤126)) && (decide (bts s≠[]) && (decide ((bts s).head?≠some 32) && decide ((bts s).getLast?≠some 32)))
def ndE(l:List Nd)(k:Nat):Int:=
 if (nd l k).cd<1∨999<(nd l k).cd then 1 else if k≠0∧(nd l k).cd≤(nd l (k-1)).cd then 7
 else if 60<(nd l k).ti.size then 2 else if titS (nd l k).ti=false then 3 else 0
def knw(l:List Nd)(c:Int):Nat→Bool
 | 0=>decide (c=0)
 | k+1=>knw l c k || decide ((nd l k).cd=c)
theorem knw_iff{l:List Nd}{c:Int}:∀ {k:Nat},knw l c k=true↔c=0∨∃ j,j<k∧(nd l j).cd=c
 | 0=>by simp[knw]
 | k+1=>by
  unfold knw
  rw[Bool.or_eq_true,knw_iff]
  constructor
  ·rintro ((h|⟨j,h1,h2⟩)|h)
   ·exact Or.inl h
   ·exact Or.inr ⟨j,by omega,h2⟩
   ·exact Or.inr ⟨k,by omega,by simpa using h⟩
  ·rintro (h|⟨j,h1,h2⟩)
   ·exact Or.inl (Or.inl h)
   ·by_cases e:j=k
    ·right;subst e;simpa using h2
    ·exact Or.inl (Or.inr ⟨j,by omega,h2⟩)
def prE(l:List Nd)(k:Nat):Int:=if knw l (nd l k).pr l.length=false then 5 else 0
def parK(l:List Nd)(c:Nat):Nat→Nat
 | 0=>0
 | k+1=>if (nd l k).cd=(c:Int) then (nd l k).pr.toNat else parK l c k
def par(l:List Nd)(c:Nat):Nat:=parK l c l.length
def clm(p:Nat→Nat):Nat→Nat→Nat
 | 0,_=>0
 | f+1,c=>if c=0 then 0 else clm p f (p c)+1
def lvl(l:List Nd)(k:Nat):Nat:=clm (par l) (l.length+1) (nd l k).cd.toNat
def frS(l:List Nd):Int:=
 if l.length=0 then 9 else if 600<l.length then 2
 else if fe (ndE l) l.length≠0 then fe (ndE l) l.length
 else if fe (prE l) l.length≠0 then 5
 else if ∃ k,k<l.length∧l.length<lvl l k then 18
 else if ∃ k,k<l.length∧8<lvl l k then 2 else 0
def it(p:Nat→Nat):Nat→Nat→Nat
 | 0,c=>c
 | k+1,c=>it p k (p c)
theorem it_add{p:Nat→Nat}:∀ {i k c:Nat},it p (i+k) c=it p k (it p i c)
 | 0,k,c=>by rw[Nat.zero_add];rfl
 | i+1,k,c=>by rw[show i+1+k=(i+k)+1 by omega];show it p (i+k) (p c)=_;rw[it_add];rfl
theorem it_succ{p:Nat→Nat}{k c:Nat}:it p (k+1) c=p (it p k c):=it_add (i:=k) (k:=1)
theorem it_zero{p:Nat→Nat}(h0:p 0=0):∀ {k:Nat},it p k 0=0
 | 0=>rfl
 | k+1=>by show it p k (p 0)=0;rw[h0];exact it_zero h0
theorem it_stays{p:Nat→Nat}(h0:p 0=0){i k c:Nat}(h:it p i c=0)(hk:i≤k):it p k c=0:=by
 rw[show k=i+(k-i) by omega,it_add,h];exact it_zero h0
theorem clm_le{p:Nat→Nat}:∀ {f c:Nat},clm p f c≤f
 | 0,_=>Nat.le_refl _
 | f+1,c=>by
  unfold clm
  split
  ·omega
  ·have:=clm_le (p:=p) (f:=f) (c:=p c);omega
theorem clm_it{p:Nat→Nat}:∀ {f c:Nat},clm p f c<f→it p (clm p f c) c=0
 | 0,_,h=>absurd h (Nat.not_lt_zero _)
 | f+1,c,h=>by
  unfold clm at h ⊢
  by_cases e:c=0
  ·rw[if_pos e];exact e
  ·rw[if_neg e]at h ⊢
   exact clm_it (by omega)
theorem clm_ne{p:Nat→Nat}:∀ {f c i:Nat},i<clm p f c→it p i c≠0
 | 0,_,_,h=>absurd h (Nat.not_lt_zero _)
 | f+1,c,i,h=>by
  unfold clm at h
  by_cases e:c=0
  ·rw[if_pos e]at h;omega
  ·rw[if_neg e]at h
   match i with
   | 0=>exact e
   | i+1=>exact clm_ne (f:=f) (c:=p c) (by omega)
theorem clm_eq{p:Nat→Nat}{f g c:Nat}(h:clm p f c<f)(hg:clm p f c<g):clm p g c=clm p f c:=by
 have a:=clm_it h
 have b1:¬ clm p f c<clm p g c:=fun hh=>clm_ne hh a
 by_cases e:clm p g c=clm p f c
 ·exact e
 ·have hlt:clm p g c<clm p f c:=by omega
  exact absurd (clm_it (by omega)) (clm_ne hlt)
theorem clm_full{p:Nat→Nat}(h0:p 0=0){f c:Nat}:f<clm p (f+1) c↔it p f c≠0:=by
 constructor
 ·intro h;exact clm_ne h
 ·intro h
  by_cases hlt:clm p (f+1) c<f+1
  ·exact absurd (it_stays h0 (clm_it hlt) (by omega)) h
  ·omega
theorem pigeon(g:Nat→Nat):∀ (S:List Nat),(∀ i,i≤S.length→g i∈S)→∃ i j,i<j∧j≤S.length∧g i=g j
 | S,h=>by
  by_cases hex:∃ i,i<S.length∧g i=g S.length
  ·obtain⟨i,hi,e⟩:=hex
   exact⟨i,S.length,hi,Nat.le_refl _,e⟩
  ·have hm:=h S.length (Nat.le_refl _)
   have hlen:=List.length_erase_of_mem hm
   have hpos:0<S.length:=List.length_pos_of_mem hm
   obtain⟨i,j,h1,h2,h3⟩:=pigeon g (S.erase (g S.length)) fun i hi=>by
    have hlt:i<S.length:=by omega
    exact (List.mem_erase_of_ne fun e=>hex ⟨i,hlt,e⟩).2 (h i (by omega))
   exact⟨i,j,h1,by omega,h3⟩
termination_by S=>S.length
decreasing_by
 rw[hlen];omega
theorem it_round{p:Nat→Nat}(h0:p 0=0){c i j:Nat}(hij:i<j)(he:it p i c=it p j c)(hne:it p i c≠0)(k:Nat):it p k c≠0:=by
 intro hz
 have hd:∀ t,it p (i+t*(j-i)) c=it p i c:=by
  intro t
  induction t with
  | zero=>simp
  | succ t ih=>
   rw[Nat.succ_mul,←Nat.add_assoc,it_add,ih,←it_add,show i+(j-i)=j by omega,he]
 apply hne
 rw[←hd k]
 have h1:k≤k*(j-i):=Nat.le_mul_of_pos_right k (by omega)
 exact it_stays h0 hz (by omega)
structure Tree (p lv:Nat→Nat) (H:Nat→Prop):Prop where
 zero:lv 0=0
 top:p 0=0
 pos:∀ c,H c→c≠0∧lv c=lv (p c)+1∧(p c=0∨H (p c))
def In(H:Nat→Prop)(c:Nat):Prop:=c=0∨H c
theorem Tree.inP{p lv:Nat→Nat}{H:Nat→Prop}(T:Tree p lv H){c:Nat}(h:In H c):In H (p c):=by
 rcases h with rfl|h
 ·rw[T.top];exact Or.inl rfl
 ·exact (T.pos c h).2.2
theorem Tree.inIt{p lv:Nat→Nat}{H:Nat→Prop}(T:Tree p lv H):∀ {k c:Nat},In H c→In H (it p k c)
 | 0,_,h=>h
 | k+1,_,h=>T.inIt (k:=k) (T.inP h)
theorem Tree.lvP{p lv:Nat→Nat}{H:Nat→Prop}(T:Tree p lv H){c:Nat}(h:In H c):lv (p c)=lv c-1:=by
 rcases h with rfl|h
 ·rw[T.top,T.zero]
 ·have:=(T.pos c h).2.1;omega
theorem Tree.lvIt{p lv:Nat→Nat}{H:Nat→Prop}(T:Tree p lv H):∀ {k c:Nat},In H c→lv (it p k c)=lv c-k
 | 0,_,_=>rfl
 | k+1,c,h=>by
  show lv (it p k (p c))=_
  rw[T.lvIt (k:=k) (T.inP h),T.lvP h];omega
theorem Tree.lv0{p lv:Nat→Nat}{H:Nat→Prop}(T:Tree p lv H){c:Nat}(h:In H c):lv c=0↔c=0:=by
 constructor
 ·intro e
  rcases h with h|h
  ·exact h
  ·have:=(T.pos c h).2.1;omega
 ·rintro rfl;exact T.zero
def anc(p lv:Nat→Nat)(a m:Nat):Prop:=∃ k,k≤lv a∧it p k a=m
theorem anc_refl{p lv:Nat→Nat}(a:Nat):anc p lv a a:=⟨0,Nat.zero_le _,rfl⟩
theorem Tree.ancLv{p lv:Nat→Nat}{H:Nat→Prop}(T:Tree p lv H){a m:Nat}(h:In H a)(ha:anc p lv a m):it p (lv a-lv m) a=m∧lv m≤lv a:=by
 obtain⟨k,hk,rfl⟩:=ha
 rw[T.lvIt h]
 exact⟨by congr 1;omega,by omega⟩
def MeetIs(p lv:Nat→Nat)(a b m d:Nat):Prop:=
 anc p lv a m∧anc p lv b m∧d+2*lv m=lv a+lv b∧∀ x,anc p lv a x→anc p lv b x→lv x≤lv m
theorem Tree.meetOne{p lv:Nat→Nat}{H:Nat→Prop}(T:Tree p lv H){a b m d m' d':Nat}(h:In H a)(h1:MeetIs p lv a b m d)(h2:MeetIs p lv a b m' d'):m=m'∧d=d':=by
 obtain⟨x1,x2,x3,x4⟩:=h1
 obtain⟨y1,y2,y3,y4⟩:=h2
 have e:lv m=lv m':=Nat.le_antisymm (y4 m x1 x2) (x4 m' y1 y2)
 have e1:=(T.ancLv h x1).1
 have e2:=(T.ancLv h y1).1
 rw[e]at e1
 exact⟨e1.symm.trans e2,by omega⟩
theorem MeetIs.symm{p lv:Nat→Nat}{a b m d:Nat}(h:MeetIs p lv a b m d):MeetIs p lv b a m d:=
 ⟨h.2.1,h.1,by have:=h.2.2.1;omega,fun x h1 h2=>h.2.2.2 x h2 h1⟩
theorem Tree.meetZero{p lv:Nat→Nat}{H:Nat→Prop}(T:Tree p lv H){a b m d:Nat}(ha:In H a)(hb:In H b)(h:MeetIs p lv a b m d):d=0↔a=b:=by
 obtain⟨h1,h2,h3,h4⟩:=h
 have l1:=T.ancLv ha h1
 have l2:=T.ancLv hb h2
 constructor
 ·intro e
  have e1:lv a-lv m=0:=by omega
  have e2:lv b-lv m=0:=by omega
  rw[e1]at l1;rw[e2]at l2
  exact l1.1.trans l2.1.symm
 ·rintro rfl
  have:=h4 a (anc_refl a) (anc_refl a)
  omega
def mtF(p lv:Nat→Nat):Nat→Nat→Nat→Nat×Nat
 | 0,a,_=>(a,0)
 | f+1,a,b=>if a=b then (a,0) else if lv a<lv b then ((mtF p lv f (p b) a).1,(mtF p lv f (p b) a).2+1) else ((mtF p lv f (p a) b).1,(mtF p lv f (p a) b).2+1)
theorem Tree.meetUp{p lv:Nat→Nat}{H:Nat→Prop}(T:Tree p lv H){a b m d:Nat}(ha:In H a)(hb:In H b)(hne:a≠b)(hl:lv b≤lv a)(h:MeetIs p lv (p a) b m d):MeetIs p lv a b m (d+1):=by
 obtain⟨h1,h2,h3,h4⟩:=h
 have hp:=T.lvP ha
 have h0:lv a≠0:=fun e=>hne (((T.lv0 ha).1 e).trans ((T.lv0 hb).1 (by omega)).symm)
 obtain⟨k,hk,e⟩:=h1
 refine⟨⟨k+1,by omega,e⟩,h2,by omega,fun x hx hy=>?_⟩
 obtain⟨j,hj,rfl⟩:=hx
 match j with
 | 0=>
  exfalso
  have:=(T.ancLv hb hy)
  have e:lv b=lv a:=by have:=this.2;change lv a≤lv b at this;omega
  have e2:=this.1
  change it p (lv b-lv a) b=a at e2
  rw[e,Nat.sub_self]at e2
  exact hne e2.symm
 | j+1=>exact h4 _ ⟨j,by omega,rfl⟩ hy
theorem Tree.mtF_is{p lv:Nat→Nat}{H:Nat→Prop}(T:Tree p lv H):∀ {f a b:Nat},In H a→In H b→lv a+lv b≤f→MeetIs p lv a b (mtF p lv f a b).1 (mtF p lv f a b).2
 | 0,a,b,ha,hb,hf=>by
  have e1:=(T.lv0 ha).1 (by omega)
  have e2:=(T.lv0 hb).1 (by omega)
  subst e1;subst e2
  exact⟨anc_refl 0,anc_refl 0,by show 0+2*lv 0=_;omega,fun x hx _=>(T.ancLv ha hx).2⟩
 | f+1,a,b,ha,hb,hf=>by
  by_cases e:a=b
  ·subst e
   unfold mtF
   simp only[if_true]
   exact⟨anc_refl a,anc_refl a,by omega,fun x hx _=>(T.ancLv ha hx).2⟩
  ·by_cases hlt:lv a<lv b
   ·have h0:=T.lvP hb
    have:=T.mtF_is (f:=f) (T.inP hb) ha (by omega)
    unfold mtF
    rw[if_neg e,if_pos hlt]
    exact (T.meetUp hb ha (fun h=>e h.symm) (by omega) this).symm
   ·have h0:=T.lvP ha
    have h1:lv a≠0:=fun e1=>e (((T.lv0 ha).1 e1).trans ((T.lv0 hb).1 (by omega)).symm)
    have:=T.mtF_is (f:=f) (T.inP ha) hb (by omega)
    unfold mtF
    rw[if_neg e,if_neg hlt]
    exact T.meetUp ha hb e (by omega) this
def lvK(l:List Nd)(c:Nat):Nat→Nat
 | 0=>0
 | k+1=>if (nd l k).cd=(c:Int) then lvl l k else lvK l c k
def lev(l:List Nd)(c:Nat):Nat:=lvK l c l.length
def Has(l:List Nd)(c:Nat):Prop:=∃ k,k<l.length∧(nd l k).cd=(c:Int)
structure Ord (l:List Nd):Prop where
 rng:∀ k,k<l.length→1≤(nd l k).cd∧(nd l k).cd≤999
 inc:∀ k,k+1<l.length→(nd l k).cd<(nd l (k+1)).cd
theorem Ord.lt{l:List Nd}(h:Ord l){i:Nat}:∀ {j:Nat},i<j→j<l.length→(nd l i).cd<(nd l j).cd
 | j+1,hij,hj=>by
  by_cases e:i=j
  ·subst e;exact h.inc i hj
  ·have:=h.lt (i:=i) (j:=j) (by omega) (by omega);have:=h.inc j hj;omega
theorem Ord.inj{l:List Nd}(h:Ord l){i j:Nat}(hi:i<l.length)(hj:j<l.length)(e:(nd l i).cd=(nd l j).cd):i=j:=by
 by_cases h1:i<j
 ·have:=h.lt h1 hj;omega
 ·by_cases h2:j<i
  ·have:=h.lt h2 hi;omega
  ·omega
theorem ord_of{l:List Nd}(h:fe (ndE l) l.length=0):Ord l:=by
 have hz:=fe_zero h
 constructor
 ·intro k hk
  have:=hz k hk
  unfold ndE at this
  by_cases e:(nd l k).cd<1∨999<(nd l k).cd
  ·rw[if_pos e]at this;simp at this
  ·omega
 ·intro k hk
  have:=hz (k+1) hk
  unfold ndE at this
  by_cases e:(nd l (k+1)).cd<1∨999<(nd l (k+1)).cd
  ·rw[if_pos e]at this;simp at this
  ·rw[if_neg e]at this
   by_cases e2:k+1≠0∧(nd l (k+1)).cd≤(nd l (k+1-1)).cd
   ·rw[if_pos e2]at this;simp at this
   ·simp at e2;omega
theorem at_K{α:Type}(f:Nat→α)(l:List Nd)(g:Nat→α)(h0:Ord l){c:Nat}(hg:∀ k,g (k+1)=if (nd l k).cd=(c:Int) then f k else g k){j:Nat}(hc:(nd l j).cd=(c:Int)):∀ {n:Nat},n≤l.length→j<n→g n=f j
 | n+1,hn,hj=>by
  rw[hg]
  by_cases e:(nd l n).cd=(c:Int)
  ·rw[if_pos e]
   rw[h0.inj (i:=j) (j:=n) (by omega) (by omega) (hc.trans e.symm)]
  ·rw[if_neg e]
   have:j≠n:=fun e2=>e (by rw[←e2];exact hc)
   exact at_K f l g h0 hg hc (by omega) (by omega)
theorem no_K{α:Type}(f:Nat→α)(l:List Nd)(g:Nat→α){c:Nat}(hg:∀ k,g (k+1)=if (nd l k).cd=(c:Int) then f k else g k):∀ {n:Nat},(∀ j,j<n→(nd l j).cd≠(c:Int))→g n=g 0
 | 0,_=>rfl
 | n+1,h=>by
  rw[hg,if_neg (h n (by omega))]
  exact no_K f l g hg fun j hj=>h j (by omega)
theorem par_at{l:List Nd}(h:Ord l){c j:Nat}(hj:j<l.length)(hc:(nd l j).cd=(c:Int)):par l c=(nd l j).pr.toNat:=
 at_K (fun k=>(nd l k).pr.toNat) l (parK l c) h (fun _=>rfl) hc (Nat.le_refl _) hj
theorem par_no{l:List Nd}{c:Nat}(h:¬ Has l c):par l c=0:=
 no_K (fun k=>(nd l k).pr.toNat) l (parK l c) (fun _=>rfl) fun j hj e=>h ⟨j,hj,e⟩
theorem lev_at{l:List Nd}(h:Ord l){c j:Nat}(hj:j<l.length)(hc:(nd l j).cd=(c:Int)):lev l c=lvl l j:=
 at_K (fun k=>lvl l k) l (lvK l c) h (fun _=>rfl) hc (Nat.le_refl _) hj
theorem lev_no{l:List Nd}{c:Nat}(h:¬ Has l c):lev l c=0:=
 no_K (fun k=>lvl l k) l (lvK l c) (fun _=>rfl) fun j hj e=>h ⟨j,hj,e⟩
def Kn(l:List Nd):Prop:=∀ k,k<l.length→(nd l k).pr=0∨∃ j,j<l.length∧(nd l j).cd=(nd l k).pr
theorem kn_of{l:List Nd}(h:fe (prE l) l.length=0):Kn l:=fun k hk=>by
 have:=fe_zero h k hk
 unfold prE at this
 by_cases e:knw l (nd l k).pr l.length=false
 ·rw[if_pos e]at this;simp at this
 ·exact knw_iff.1 (by simpa using e)
theorem has_pos{l:List Nd}(h:Ord l){c:Nat}(hc:Has l c):1≤c∧c≤999:=by
 obtain⟨k,hk,e⟩:=hc
 have:=h.rng k hk
 omega
theorem par_in{l:List Nd}(h:Ord l)(hk:Kn l){c:Nat}:par l c=0∨Has l (par l c):=by
 by_cases hc:Has l c
 ·obtain⟨j,hj,e⟩:=hc
  rw[par_at h hj e]
  rcases hk j hj with e2|⟨i,hi,e2⟩
  ·left;rw[e2];rfl
  ·right
   have:=h.rng i hi
   exact⟨i,hi,by omega⟩
 ·left;exact par_no hc
theorem par_top{l:List Nd}(h:Ord l):par l 0=0:=par_no fun hc=>by have:=has_pos h hc;omega
structure Fr (l:List Nd):Prop where
 ne:0<l.length
 le:l.length≤600
 ord:Ord l
 kn:Kn l
 tit:∀ k,k<l.length→(nd l k).ti.size≤60∧titS (nd l k).ti=true
 lv:∀ k,k<l.length→lvl l k≤l.length∧lvl l k≤8
theorem fr_of{l:List Nd}(h:frS l=0):Fr l:=by
 unfold frS at h
 by_cases h1:l.length=0
 ·rw[if_pos h1]at h;simp at h
 rw[if_neg h1]at h
 by_cases h2:600<l.length
 ·rw[if_pos h2]at h;simp at h
 rw[if_neg h2]at h
 by_cases h3:fe (ndE l) l.length≠0
 ·rw[if_pos h3]at h;exact absurd h h3
 rw[if_neg h3]at h
 by_cases h4:fe (prE l) l.length≠0
 ·rw[if_pos h4]at h;simp at h
 rw[if_neg h4]at h
 by_cases h5:∃ k,k<l.length∧l.length<lvl l k
 ·rw[if_pos h5]at h;simp at h
 rw[if_neg h5]at h
 by_cases h6:∃ k,k<l.length∧8<lvl l k
 ·rw[if_pos h6]at h;simp at h
 have h3':fe (ndE l) l.length=0:=by omega
 have h4':fe (prE l) l.length=0:=by omega
 refine⟨by omega,by omega,ord_of h3',kn_of h4',fun k hk=>?_,fun k hk=>?_⟩
 ·have:=fe_zero h3' k hk
  unfold ndE at this
  by_cases e1:(nd l k).cd<1∨999<(nd l k).cd
  ·rw[if_pos e1]at this;simp at this
  rw[if_neg e1]at this
  by_cases e2:k≠0∧(nd l k).cd≤(nd l (k-1)).cd
  ·rw[if_pos e2]at this;simp at this
  rw[if_neg e2]at this
  by_cases e3:60<(nd l k).ti.size
  ·rw[if_pos e3]at this;simp at this
  rw[if_neg e3]at this
  by_cases e4:titS (nd l k).ti=false
  ·rw[if_pos e4]at this;simp at this
  exact⟨by omega,by simpa using e4⟩
 ·constructor
  ·by_cases e:lvl l k≤l.length
   ·exact e
   ·exact absurd ⟨k,hk,by omega⟩ h5
  ·by_cases e:lvl l k≤8
   ·exact e
   ·exact absurd ⟨k,hk,by omega⟩ h6
theorem Fr.lev{l:List Nd}(h:Fr l){c:Nat}(hc:Has l c):lev l c=clm (par l) (l.length+1) c∧1≤lev l c∧lev l c≤8∧lev l c≤l.length:=by
 obtain⟨k,hk,e⟩:=hc
 have e1:=lev_at h.ord hk e
 have e2:lvl l k=clm (par l) (l.length+1) c:=by unfold lvl;rw[e];rfl
 have e3:=h.lv k hk
 have e4:=h.ord.rng k hk
 refine⟨e1.trans e2,?_,by omega,by omega⟩
 rw[e1,e2]
 unfold clm
 rw[if_neg (by omega)]
 omega
theorem Fr.tree{l:List Nd}(h:Fr l):Tree (par l) (Go.Proofs.YtghgbhmiliiohaaGreatDoor.lev l) (Has l):=by
 refine⟨lev_no fun hc=>?_,par_top h.ord,fun c hc=>?_⟩
 ·have:=has_pos h.ord hc;omega
 ·have h1:=has_pos h.ord hc
  have h2:=h.lev hc
  have hp:=par_in h.ord h.kn (c:=c)
  refine⟨by omega,?_,hp⟩
  have e:clm (par l) (l.length+1) c=clm (par l) l.length (par l c)+1:=by
   rw[clm,if_neg (by omega)]
  rw[h2.1,e]
  rcases hp with h0|hh
  ·rw[h0]
   have z:Go.Proofs.YtghgbhmiliiohaaGreatDoor.lev l 0=0:=lev_no fun hc=>by have:=has_pos h.ord hc;omega
   rw[z]
   have:clm (par l) l.length 0=0:=by
    match l.length with
    | 0=>rfl
    | n+1=>rw[clm,if_pos rfl]
   rw[this]
  ·have h3:=h.lev hh
   rw[h3.1,clm_eq (f:=l.length) (g:=l.length+1) (by omega) (by omega)]
end Go.Proofs.YtghgbhmiliiohaaGreatDoor
