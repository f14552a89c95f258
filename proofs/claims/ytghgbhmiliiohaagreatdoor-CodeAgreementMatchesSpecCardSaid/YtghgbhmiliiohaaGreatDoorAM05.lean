/-
  Package code: successors.
-/
import Derived.Test.YtghgbhmiliiohaaGreatDoorAM04
import Derived.Laws.Cover3
namespace Go.Proofs.YtghgbhmiliiohaaGreatDoor
open Go.RowKit Go.WideMaps Go.Maps
theorem infoC:(Tryz.prog.info? 69).map (fun i=>(i.zero,i.size,i.bytes))=some (some (.agg #[.int .i64 0,.int .i64 0,.int .i64 0]),3,24):=by kernel_rfl
def ccells(u:Cg):List Value:=[.int .i64 u.ca,.int .i64 u.co,.int .i64 u.cd]
def crow(C:List Cg):List Value:=C.flatMap ccells
theorem crow_snoc(C:List Cg)(u:Cg):crow (C ++ [u])=crow C ++ ccells u:=by unfold crow;rw[List.flatMap_append];simp
theorem crow_at:∀ (C:List Cg) (j:Nat),j<C.length→∀ i,i<3→(crow C)[j*3+i]?=(ccells (cg C j))[i]?
 | [],_,h,_,_=>by simp at h
 | u::C,0,_,i,hi=>by
  show (ccells u ++ crow C)[0*3+i]?=_
  rw[Nat.zero_mul,Nat.zero_add,List.getElem?_append_left (by simpa[ccells] using hi)]
  rfl
 | u::C,j+1,h,i,hi=>by
  show (ccells u ++ crow C)[(j+1)*3+i]?=_
  rw[List.getElem?_append_right (by simp only[ccells,List.length_cons,List.length_nil];omega)]
  rw[show (j+1)*3+i-(ccells u).length=j*3+i by simp only[ccells,List.length_cons,List.length_nil];omega]
  rw[crow_at C j (by simpa using h) i hi]
  rfl
theorem add_at(b off j:Nat):(⟨b,off,none⟩:Addr).add j=⟨b,off+j,none⟩:=by
 unfold Addr.add
 split
 ·rename_i h;subst h;simp
 ·rfl
structure OwnC (w:World) (B g:Nat) (C:List Cg):Prop where
 at_:∀ j,j<C.length→CgAt w g (j*3) (cg C j)
 fr:∀ o,w.frozen? ⟨g,o,none⟩=false
 lo:B≤g
 lt:g<w.heap.size
theorem lt_of_block{w:World}{g:Nat}{o:Obj}(h:w.heap[g]?=some o):g<w.heap.size:=(Array.getElem?_eq_some_iff.1 h).1
theorem own_C{w:World}{B:Nat}{v:Value}{C:List Cg}(h:w.ownsRow B 69 3 v C.length (crow C))(hn:0<C.length):∃ g cap,v=.slice (some ⟨g,0,none⟩) C.length cap∧OwnC w B g C:=by
 rcases h.2 with ⟨_,h0⟩|⟨g,cap,cur,rfl,hbase,hb,h1,h2,h3,h4⟩
 ·omega
 ·refine⟨g,cap,rfl,fun j hj=>?_,fun o=>h.frozenAt o,hbase,lt_of_block hb⟩
  have key:∀ i,i<3→w.cell? ⟨g,j*3+i,none⟩=(ccells (cg C j))[i]?:=fun i hi=>by rw[h.cellAt _ (by omega),crow_at C j hj i hi]
  exact⟨key 0 (by omega),key 1 (by omega),key 2 (by omega)⟩
theorem Cqown_keep{W W':World}{base:Nat}{e:TypeId}{size:Nat}{v:Value}{n:Nat}{xs:List Value}(h:W.ownsRow base e size v n xs)(hb:Below W.heap.size W W'):W'.ownsRow base e size v n xs:=by
 refine h.kept (below_grow hb) ?_
 cases v.ownBlock with
 | none=>exact .inl rfl
 | some _=>exact .inr (by simp)
theorem cgs_ok{h:Int→Bool}{C:List Cg}(e:cgsS h C=0):C.length≤20000∧∀ k,k<C.length→1≤(cg C k).ca∧h (cg C k).cd=true:=by
 unfold cgsS at e
 by_cases h1:20000<C.length
 ·rw[if_pos h1]at e;simp at e
 rw[if_neg h1]at e
 refine⟨by omega,fun k hk=>?_⟩
 have:=fe_zero e k hk
 unfold cgE at this
 by_cases g:(cg C k).ca<1∨(cg C k).co<1∨50<(cg C k).co
 ·rw[if_pos g]at this;simp at this
 rw[if_neg g]at this
 by_cases g2:h (cg C k).cd=false
 ·rw[if_pos g2]at this;simp at this
 exact⟨by omega,by simpa using g2⟩
theorem for_ok{l:List Nd}{C:List Cg}(e:forS l C=0):Fr l∧cgsS (hasB (lev l)) C=0∧C.length≤20000∧∀ k,k<C.length→∃ c:Nat,(cg C k).cd=c∧Has l c:=by
 unfold forS at e
 by_cases h1:frS l≠0
 ·rw[if_pos h1]at e;exact absurd e h1
 rw[if_neg h1]at e
 have F:=fr_of (show frS l=0 by omega)
 refine⟨F,e,(cgs_ok e).1,fun k hk=>(hasS_iff F).1 ((cgs_ok e).2 k hk).2⟩
def SB(z x y:Nat)(W:World):Prop:=W.cell? ⟨z,0,none⟩=some (row x)∧W.cell? ⟨z,1,none⟩=some (row y)
section
variable {h h':Int→Bool} {M:List Mv} {k:Nat}
end
def tK(l:List Nd)(s:Int):Nat→Option ByteArray
 | 0=>none
 | k+1=>if s=(nd l k).cd then some (nd l k).ti else tK l s k
theorem zeroInt(w:World):(zeroValue 3).run Tryz.prog w=.ok (.int .i64 0) w:=by kernel_rfl
def NuIs(w:World)(b n:Nat)(f:Int→Option Int):Prop:=MapIs w b n fun s=>(f s).map (Value.int .i64)
theorem NuIs.look{w:World} {b n:Nat} {f:Int→Option Int} (h:NuIs w b n f) {s:Int} (hs:in64 s) :
  (Instr.lookup 80 (.map (some b)) (.int .i64 s) false).run Tryz.prog w=.ok (.int .i64 ((f s).getD 0)) w:=by
 rw[MapIs.look1 h Tryz.underlying80 (zeroInt w) hs]
 cases f s<;>rfl
theorem NuIs.store{w:World} {b n:Nat} {f:Int→Option Int} (h:NuIs w b n f) (hn:n<maxLen) {s:Int} (hs:in64 s) (v:Int) :
  ∃ w',(Instr.mapUpdate 80 (.map (some b)) (.int .i64 s) (.int .i64 v)).run Tryz.prog w=.ok () w'∧NuIs w' b (n+1) (fun x=>if x=s then some v else f x)∧w.grownBy w' (some b):=by
 obtain⟨w',h1,h2,h3⟩:=MapIs.store h Tryz.underlying80 hn hs (.int .i64 v)
 exact⟨w',h1,h2.congr fun x=>by by_cases e:x=s<;>simp[e],h3⟩
theorem NuIs.more{w:World}{b n m:Nat}{f:Int→Option Int}(h:NuIs w b n f)(hm:n≤m):NuIs w b m f:=by
 obtain⟨D,⟨es,clock,h1,h2,h3,h4⟩,hD⟩:=h
 exact⟨D,⟨es,clock,h1,h2,Nat.le_trans h3 hm,h4⟩,hD⟩
end Go.Proofs.YtghgbhmiliiohaaGreatDoor
