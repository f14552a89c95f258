/-
  Fractions in lowest terms: the divisors of sums and products.
-/
import Derived.Test.YtghgbhmiliiohaaGreatDoorAM27
import Derived.Test.YtghgbhmiliiohaaGreatDoorAM22
import Derived.Test.YtghgbhmiliiohaaGreatDoorAMQ
import Derived.Test.YtghgbhmiliiohaaGreatDoorAM21
import Derived.Test.YtghgbhmiliiohaaGreatDoorAM20
import Derived.Test.YtghgbhmiliiohaaGreatDoorAM18
set_option maxRecDepth 100000
namespace Go.Proofs.YtghgbhmiliiohaaGreatDoor
def rdA(a:ByteArray×ByteArray):Option (Int×Int):=rread a.1.data.toList a.2.data.toList
theorem tz_readA(z:Int):zread (tz z)=some z:=by
 have h:=zread_tz (decide (z<0)) z.natAbs (fun e=>by simp at e;omega)
 have e:(if decide (z<0)=true then 45::Lib.decDigits z.natAbs else Lib.decDigits z.natAbs)=tz z:=by
  unfold tz;by_cases hz:z<0<;>simp[hz]
 rw[e]at h
 rw[h]
 congr 1
 by_cases hz:z<0<;>simp[hz]<;>omega
theorem ra_readA{x y:Int}(hf:fits x y=true)(hp:0<y)(h1:Int.gcd x y=1):rdA (tzB x,tzB y)=some (x,y):=by
 have hy:tz y=Lib.decDigits y.natAbs:=by unfold tz;rw[if_neg (by omega)]
 have hl:large (tz x) (tz y)=false:=by
  unfold fits at hf
  simp at hf
  unfold large
  rw[trim_tz,hy]
  simp
  omega
 show rread (tz x) (tz y)=some (x,y)
 unfold rread
 rw[hl,tz_readA,tz_readA]
 simp[hp,h1]
theorem raR_okA{n d:Int}(hd:d≠0)(h:(raR n d).2.2=0):((raR n d).1,(raR n d).2.1)=(tzB (red n d).1,tzB (red n d).2)∧rdA ((raR n d).1,(raR n d).2.1)=some (red n d):=by
 unfold raR ra at h ⊢
 by_cases hf:fits (red n d).1 (red n d).2=true
 ·rw[if_pos hf]
  have l:=red_low (n:=n) hd
  exact⟨rfl,ra_readA hf l.pos l.one⟩
 ·rw[if_neg hf]at h
  cases h
def LM:Nat:=3099044504245996706400
def wgt(s:Nat):Nat:=LM / (s-1)
set_option maxRecDepth 10000 in
theorem wgt_all:∀ s,s<51→2≤s→LM / (s-1)*(s-1)=LM:=by decide
theorem wgt_mul{s:Nat}(h:2≤s)(h2:s≤50):wgt s*(s-1)=LM:=wgt_all s (by omega) h
theorem wgt_le(s:Nat):wgt s≤LM:=Nat.div_le_self _ _
def cdsD(D:List Cg):List Int:=D.map Cg.cd
def flt(R:List (List Cg)):List (List Cg):=R.filter fun D=>!decide (D.length<2)
def alC:List (List Cg)→List Int
 | []=>[]
 | D::R=>cdsD D ++ alC R
def sumR(f:List Cg→Nat):List (List Cg)→Nat
 | []=>0
 | D::R=>f D+sumR f R
theorem sumR_snoc(f:List Cg→Nat)(R:List (List Cg))(D:List Cg):sumR f (R ++ [D])=sumR f R+f D:=by
 induction R with
 | nil=>simp[sumR]
 | cons y R ih=>simp only[List.cons_append,sumR,ih];omega
theorem alC_snoc(R:List (List Cg))(D:List Cg):alC (R ++ [D])=alC R ++ cdsD D:=by
 induction R with
 | nil=>simp[alC]
 | cons y R ih=>simp only[List.cons_append,alC,ih,List.append_assoc]
theorem alC_len(R:List (List Cg)):(alC R).length=sumR List.length R:=by
 induction R with
 | nil=>rfl
 | cons y R ih=>simp only[alC,sumR,List.length_append,ih,cdsD,List.length_map]
theorem sumR_mono{f g:List Cg→Nat}{R:List (List Cg)}(h:∀ D∈R,f D≤g D):sumR f R≤sumR g R:=by
 induction R with
 | nil=>exact Nat.le_refl _
 | cons y R ih=>
  have h1:=ih fun x hx=>h x (List.mem_cons_of_mem _ hx)
  have h2:=h y (List.mem_cons_self ..)
  simp only[sumR];omega
theorem sumR_mul(f:List Cg→Nat)(c:Nat)(R:List (List Cg)):sumR (fun D=>f D*c) R=sumR f R*c:=by
 induction R with
 | nil=>simp[sumR]
 | cons y R ih=>simp only[sumR,ih,Nat.add_mul]
theorem sumR_take(f:List Cg→Nat)(R:List (List Cg))(k:Nat):sumR f (R.take k)≤sumR f R:=by
 induction R generalizing k with
 | nil=>simp
 | cons y R ih=>
  cases k with
  | zero=>simp[sumR]
  | succ k=>simp only[List.take_succ_cons,sumR];have:=ih k;omega
theorem sumR_flt(f:List Cg→Nat)(R:List (List Cg)):sumR f (flt R)≤sumR f R:=by
 induction R with
 | nil=>exact Nat.le_refl _
 | cons y R ih=>
  unfold flt at *
  rw[List.filter_cons]
  split<;>simp only[sumR]<;>omega
theorem seg_sum(C:List Cg):∀ k,sumR List.length (cas C k)=beg C k
 | 0=>rfl
 | k+1=>by
  have hb:=beg_le C k
  by_cases h:New C (k+1)
  ·rw[cas_new h,sumR_snoc,seg_sum C k,beg_new h,seg_len];omega
  ·rw[cas_old h,beg_old h];exact seg_sum C k
theorem cases_sum(C:List Cg):sumR List.length (cases_ C)=C.length:=by
 unfold cases_
 split
 ·rename_i h;rw[h];rfl
 ·have hb:=beg_le C (C.length-1)
  rw[sumR_snoc,seg_sum,seg_len];omega
def obS(dl:Int→Int→Nat)(R:List (List Cg)):Nat:=sumR (fun D=>dfS dl (nC (cdsD D))*wgt D.length) R
def szS(dl:Int→Int→Nat)(R:List (List Cg))(s:Nat):Nat:=sumR (fun D=>if D.length=s then dfS dl (nC (cdsD D)) else 0) R
def OkD(l:List Nd)(D:List Cg):Prop:=2≤D.length∧D.length≤50∧InLd l (cdsD D)
theorem obS_sizes{dl:Int→Int→Nat}{R:List (List Cg)}(h:∀ D∈R,2≤D.length∧D.length≤50):sumN (fun s=>szS dl R s*wgt s) 51=obS dl R:=by
 induction R with
 | nil=>exact sumN_zero fun j _=>by simp[szS,sumR]
 | cons D R ih=>
  have h1:=h D (List.mem_cons_self ..)
  have e:=sumN_at (f:=fun s=>szS dl R s*wgt s) (g:=fun s=>szS dl (D::R) s*wgt s) (i:=D.length) (d:=dfS dl (nC (cdsD D))*wgt D.length) (k:=51) (by omega)
   (fun j hj=>by
    show szS dl (D::R) j*wgt j=szS dl R j*wgt j
    unfold szS
    simp only[sumR]
    rw[if_neg fun e=>hj e.symm,Nat.zero_add])
   (by
    show szS dl (D::R) D.length*wgt D.length=szS dl R D.length*wgt D.length+_
    unfold szS
    simp only[sumR]
    rw[if_pos trivial,Nat.add_mul,Nat.add_comm])
  rw[e,ih fun x hx=>h x (List.mem_cons_of_mem _ hx)]
  unfold obS
  simp only[sumR]
  omega
theorem szS_small{dl:Int→Int→Nat}{R:List (List Cg)}(h:∀ D∈R,2≤D.length∧D.length≤50){s:Nat}(hs:s<2):szS dl R s=0:=by
 induction R with
 | nil=>rfl
 | cons D R ih=>
  have h1:=h D (List.mem_cons_self ..)
  unfold szS at *
  simp only[sumR]
  rw[if_neg (by omega),ih fun x hx=>h x (List.mem_cons_of_mem _ hx)]
def obK(dl:Int→Int→Nat)(R:List (List Cg))(k:Nat):Nat:=sumN (fun s=>szS dl R s*wgt s) k
theorem obK_two{dl:Int→Int→Nat}{R:List (List Cg)}(h:∀ D∈R,2≤D.length∧D.length≤50):obK dl R 2=0:=by
 unfold obK
 exact sumN_zero fun j hj=>by rw[szS_small h hj,Nat.zero_mul]
theorem obK_next(dl:Int→Int→Nat)(R:List (List Cg))(k:Nat):obK dl R (k+1)=obK dl R k+szS dl R k*wgt k:=rfl
theorem obK_mono{dl:Int→Int→Nat}{R:List (List Cg)}{i:Nat}:∀ {j:Nat},i≤j→obK dl R i≤obK dl R j
 | 0,h=>by rw[Nat.le_zero.1 h];exact Nat.le_refl _
 | j+1,h=>by
  by_cases e:i=j+1
  ·rw[e];exact Nat.le_refl _
  ·exact Nat.le_trans (obK_mono (j:=j) (by omega)) (Nat.le_add_right _ _)
theorem case_le{l:List Nd}(F:Ord l){dl:Int→Int→Nat}(hd:∀ a b,dl a b≤256){D:List Cg}(h:OkD l D):dfS dl (nC (cdsD D))≤D.length*12800:=by
 have h1:=dfS_le (h.2.2.codes F) hd
 have h2:(cdsD D).length=D.length:=by unfold cdsD;rw[List.length_map]
 rw[h2]at h1
 exact Nat.le_trans h1 (Nat.mul_le_mul_left _ (Nat.mul_le_mul_right 256 h.2.1))
theorem szS_le{l:List Nd}(F:Ord l){dl:Int→Int→Nat}(hd:∀ a b,dl a b≤256){R:List (List Cg)}(h:∀ D∈R,OkD l D)(s:Nat):szS dl R s≤sumR List.length R*12800:=by
 rw[←sumR_mul]
 refine sumR_mono fun D hD=>?_
 have:=case_le F hd (h D hD)
 split<;>omega
theorem obS_le{l:List Nd}(F:Ord l){dl:Int→Int→Nat}(hd:∀ a b,dl a b≤256){R:List (List Cg)}(h:∀ D∈R,OkD l D):obS dl R≤sumR List.length R*12800*LM:=by
 rw[←sumR_mul,←sumR_mul]
 refine sumR_mono fun D hD=>?_
 exact Nat.mul_le_mul (case_le F hd (h D hD)) (wgt_le _)
theorem InLd_all{l:List Nd}{R:List (List Cg)}(h:∀ D∈R,OkD l D):InLd l (alC R):=by
 induction R with
 | nil=>intro x hx;cases hx
 | cons D R ih=>
  intro x hx
  rcases List.mem_append.1 hx with hx|hx
  ·exact (h D (List.mem_cons_self ..)).2.2 x hx
  ·exact ih (fun y hy=>h y (List.mem_cons_of_mem _ hy)) x hx
theorem srt_ge{D:List Cg}(h:Srt D)(h1:∀ j,j<D.length→1≤(cg D j).co):∀ j,j<D.length→(j:Int)+1≤(cg D j).co
 | 0,hj=>by have:=h1 0 hj;omega
 | j+1,hj=>by
  have:=srt_ge h h1 j (by omega)
  have:=h j hj
  omega
theorem cgs_coder{h:Int→Bool}{C:List Cg}(e:cgsS h C=0){k:Nat}(hk:k<C.length):1≤(cg C k).co∧(cg C k).co≤50:=by
 unfold cgsS at e
 by_cases h1:20000<C.length
 ·rw[if_pos h1]at e;simp at e
 rw[if_neg h1]at e
 have h2:=fe_zero e k hk
 unfold cgE at h2
 split at h2
 ·simp at h2
 ·rename_i a
  omega
theorem flt_ok{l:List Nd}{C:List Cg}(e:forS l C=0){D:List Cg}(hD:D∈flt (cases_ C)):OkD l D:=by
 obtain⟨hD1,hD2⟩:=List.mem_filter.1 hD
 obtain⟨_,e1,_,hcs⟩:=for_ok e
 have hs:=case_srt e1 hD1
 obtain⟨s,hs1,e2,_⟩:=cases_run hD1
 have e3:∀ j,j<D.length→cg D j=cg C (s+j):=fun j hj=>by rw[e2,seg_at hj]
 have hco:∀ j,j<D.length→1≤(cg D j).co∧(cg D j).co≤50:=fun j hj=>by rw[e3 j hj];exact cgs_coder e1 (by omega)
 have h2:2≤D.length:=by simp at hD2;omega
 refine⟨h2,?_,?_⟩
 ·have g1:=srt_ge hs (fun j hj=>(hco j hj).1) (D.length-1) (by omega)
  have g2:=(hco (D.length-1) (by omega)).2
  omega
 ·intro x hx
  obtain⟨u,hu,rfl⟩:=List.mem_map.1 hx
  obtain⟨j,hj,rfl⟩:=List.getElem_of_mem hu
  have e4:=e3 j hj
  rw[cg_is hj]at e4
  rw[e4]
  exact hcs (s+j) (by omega)
def alR(all ex ob:Nat):ByteArray×ByteArray×Int:=if ex=0 then raR 1 1 else raR (((ex*LM:Nat):Int)-(((all:Int)-1)*(ob:Int))) ((ex*LM:Nat):Int)
def alS(l:List Nd)(t:Bool)(C:List Cg):ByteArray×ByteArray×Int:=
 if forS l C≠0 then (⟨#[]⟩,⟨#[]⟩,forS l C) else if (flt (cases_ C)).length=0 then (⟨#[]⟩,⟨#[]⟩,9)
 else alR (alC (flt (cases_ C))).length (dfS (dlS l t) (nC (alC (flt (cases_ C))))) (obS (dlS l t) (flt (cases_ C)))
theorem raR_fits{n d:Int}(hn:n.natAbs<10 ^ 100)(hd2:d.natAbs<10 ^ 100):(raR n d).2.2=0:=by
 have h1:=dec_len 100 (red n d).1.natAbs (by decide) (Nat.lt_of_le_of_lt (tdiv_abs_le _ _) hn)
 have h2:=dec_len 100 (red n d).2.natAbs (by decide) (Nat.lt_of_le_of_lt (tdiv_abs_le _ _) hd2)
 unfold raR ra fits
 rw[if_pos (by simp only[Bool.and_eq_true,decide_eq_true_eq];omega)]
theorem sum_ra{n d n' d':Int} (hd:d≠0) (hd':d'≠0) (h:(raR n d).2.2=0) (h':(raR n' d').2.2=0) :
  opS fSum (raR n d).1.data.toList (raR n d).2.1.data.toList (raR n' d').1.data.toList (raR n' d').2.1.data.toList=raR (n*d'+n'*d) (d*d'):=by
 have e1:=(raR_okA hd h).2
 have e2:=(raR_okA hd' h').2
 have l1:=red_low (n:=n) hd
 have l2:=red_low (n:=n') hd'
 unfold rdA at e1 e2
 dsimp only at e1 e2
 unfold opS
 rw[e1,e2]
 dsimp only[fSum]
 obtain⟨x,hx⟩:∃ x,(red n d).1=x:=⟨_,rfl⟩
 obtain⟨y,hy⟩:∃ y,(red n d).2=y:=⟨_,rfl⟩
 obtain⟨x',hx'⟩:∃ x,(red n' d').1=x:=⟨_,rfl⟩
 obtain⟨y',hy'⟩:∃ y,(red n' d').2=y:=⟨_,rfl⟩
 rw[hx,hy]at l1 ⊢
 rw[hx',hy']at l2 ⊢
 have q1:=l1.eq
 have q2:=l2.eq
 refine raR_eq (Int.mul_ne_zero (by have:=l1.pos;omega) (by have:=l2.pos;omega)) (Int.mul_ne_zero hd hd') ?_
 grind
theorem mul_ra{n d n' d':Int} (hd:d≠0) (hd':d'≠0) (h:(raR n d).2.2=0) (h':(raR n' d').2.2=0) :
  opS fMul (raR n d).1.data.toList (raR n d).2.1.data.toList (raR n' d').1.data.toList (raR n' d').2.1.data.toList=raR (n*n') (d*d'):=by
 have e1:=(raR_okA hd h).2
 have e2:=(raR_okA hd' h').2
 have l1:=red_low (n:=n) hd
 have l2:=red_low (n:=n') hd'
 unfold rdA at e1 e2
 dsimp only at e1 e2
 unfold opS
 rw[e1,e2]
 dsimp only[fMul]
 obtain⟨x,hx⟩:∃ x,(red n d).1=x:=⟨_,rfl⟩
 obtain⟨y,hy⟩:∃ y,(red n d).2=y:=⟨_,rfl⟩
 obtain⟨x',hx'⟩:∃ x,(red n' d').1=x:=⟨_,rfl⟩
 obtain⟨y',hy'⟩:∃ y,(red n' d').2=y:=⟨_,rfl⟩
 rw[hx,hy]at l1 ⊢
 rw[hx',hy']at l2 ⊢
 have q1:=l1.eq
 have q2:=l2.eq
 refine raR_eq (Int.mul_ne_zero (by have:=l1.pos;omega) (by have:=l2.pos;omega)) (Int.mul_ne_zero hd hd') ?_
 grind
open Go.RowKit
def FsPost (n d n' d' : List UInt8) (w : World) (e : Ending) (w' : World) : Prop :=
  ∃ (f h : Fq) (flt : Int), e = .returned (.tuple #[f.v, h.v, .int .i64 flt]) ∧ Below w.heap.size w w' ∧
    ((flt = 0 ∧ ∃ x y x' y', rread n d = some (x, y) ∧ rread n' d' = some (x', y') ∧ Fi w' f x y ∧ Fi w' h x' y') ∨
     (flt ≠ 0 ∧ ((rread n d = none ∧ flt = rflt n d) ∨ (∃ p, rread n d = some p) ∧ rread n' d' = none ∧ flt = rflt n' d')))
structure Fs (w:World) (s t s' t':ByteArray) (W:World):Prop where
 x:B2 W w.heap.size (.string s) (.string t)
 y:B2 W (w.heap.size+1) (.string s') (.string t')
 r:B4q W (w.heap.size+1+1) Fq.z
 q:B4q W (w.heap.size+1+1+1) Fq.z
 bel:Below w.heap.size w W
theorem Fs.keep{w:World}{s t s' t':ByteArray}{W W':World}(h:Fs w s t s' t' W)(hb:Below W.heap.size W W'):Fs w s t s' t' W':=
 ⟨h.x.keep hb,h.y.keep hb,h.r.keep hb,h.q.keep hb,h.bel.trans (hb.mono h.bel.size)⟩
theorem Fs.set{w:World}{s t s' t':ByteArray}{W:World}(h:Fs w s t s' t' W){g:Nat}(hg:w.heap.size+1+1+1<g)(f:Fq):Fs w s t s' t' (fourq W g f):=
 ⟨h.x.other4 (by omega) _ _ _ _,h.y.other4 (by omega) _ _ _ _,h.r.other (by omega) _ _ _ _,h.q.other (by omega) _ _ _ _,below_four h.bel (by omega) _ _ _ _⟩
theorem Fs.made(w:World) (s t s' t':ByteArray) (T1 T2 T3 T4:TypeId) :
  Fs w s t s' t' ((((w.alloc (.cells #[.string s,.string t] T1)).alloc (.cells #[.string s',.string t'] T2)).alloc (.cells #[.bool false,.slice none 0 0,.bool false,.slice none 0 0] T3)).alloc (.cells #[.bool false,.slice none 0 0,.bool false,.slice none 0 0] T4)):=by
 have s1:(w.alloc (.cells #[.string s,.string t] T1)).heap.size=w.heap.size+1:=by simp
 have s2:((w.alloc (.cells #[.string s,.string t] T1)).alloc (.cells #[.string s',.string t'] T2)).heap.size=w.heap.size+1+1:=by simp
 have s3:(((w.alloc (.cells #[.string s,.string t] T1)).alloc (.cells #[.string s',.string t'] T2)).alloc (.cells #[.bool false,.slice none 0 0,.bool false,.slice none 0 0] T3)).heap.size=w.heap.size+1+1+1:=by simp
 refine⟨(((B2.made w _ _ T1).keep (bel_one _ _)).keep (bel_one _ _)).keep (bel_one _ _),?_,?_,?_,?_⟩
 ·rw[←s1];exact ((B2.made _ _ _ T2).keep (bel_one _ _)).keep (bel_one _ _)
 ·rw[←s2];exact (B4.made _ _ _ _ _ T3).keep (bel_one _ _)
 ·rw[←s3];exact B4.made _ _ _ _ _ T4
 ·exact ((((Below.refl _ _).alloc (Nat.le_refl _) _).alloc (by simp) _).alloc (by simp;omega) _).alloc (by simp;omega) _
def S8(gf gh:Nat)(f h:Fq)(W:World):Prop:=
 W.cell? ⟨gf,0,none⟩=some (.bool f.b)∧W.cell? ⟨gf,1,none⟩=some (.slice f.a f.k f.c)∧W.cell? ⟨gf,2,none⟩=some (.bool f.b')∧W.cell? ⟨gf,3,none⟩=some (.slice f.a' f.k' f.c') ∧
 W.cell? ⟨gh,0,none⟩=some (.bool h.b)∧W.cell? ⟨gh,1,none⟩=some (.slice h.a h.k h.c)∧W.cell? ⟨gh,2,none⟩=some (.bool h.b')∧W.cell? ⟨gh,3,none⟩=some (.slice h.a' h.k' h.c')
theorem S8.of{gf gh:Nat}{f h:Fq}{W:World}(x:B4q W gf f)(y:B4q W gh h):S8 gf gh f h W:=⟨x.c0,x.c1,x.c2,x.c3,y.c0,y.c1,y.c2,y.c3⟩
set_option maxHeartbeats 4000000 in
theorem fractionsOf_c(s t s' t':ByteArray) (w:World) :
  Calls Tryz.prog 116 #[.agg #[.string s,.string t],.agg #[.string s',.string t']] w (FsPost s.data.toList t.data.toList s'.data.toList t'.data.toList w):=by
 obtain⟨W0,hW0⟩:∃ W0,(((w.alloc (.cells #[.string s,.string t] 32)).alloc (.cells #[.string s',.string t'] 32)).alloc (.cells #[.bool false,.slice none 0 0,.bool false,.slice none 0 0] 109)).alloc (.cells #[.bool false,.slice none 0 0,.bool false,.slice none 0 0] 109)=W0:=⟨_,rfl⟩
 have J0:Hid (Fs w s t s' t' W0):=by rw[←hW0];exact Fs.made _ _ _ _ _ _ _ _ _
 have H1:=Zh (fun w=>fractionOf_q s t w)
 have H2:=Zh (fun w=>fractionOf_q s' t' w)
 have x0:=J0.out.x.c0
 have x1:=J0.out.x.c1
 go_enter Tryz.func116,Tryz.ntmps116
 go_wp2_with fail
 clear hW0 x0 x1
 refine (H1.out _).mono ?_
 rintro e w1 ⟨f,flt,rfl,b1,hpost⟩
 have J1:=Zh (J0.out.keep b1)
 have P1:=Zh hpost
 clear b1 hpost J0 H1
 obtain⟨W2,hW2⟩:∃ W2,w1.alloc (.cells #[.bool false,.slice none 0 0,.bool false,.slice none 0 0] 109)=W2:=⟨_,rfl⟩
 have DW2:B4q W2 w1.heap.size Fq.z:=by rw[←hW2];exact B4.made _ _ _ _ _ _
 have LW2:Below w1.heap.size w1 W2:=by rw[←hW2];exact bel_one _ _
 obtain⟨gf,hgf⟩:∃ gf,w1.heap.size=gf:=⟨_,rfl⟩
 have Ggf:Hid (w.heap.size+1+1+1<gf):=by rw[←hgf];exact J1.out.q.lt
 rw[hgf]at DW2
 obtain⟨W3,hW3⟩:∃ W3,fourq W2 gf f=W3:=⟨_,rfl⟩
 have J3:Hid (Fs w s t s' t' W3):=by rw[←hW3];exact (J1.out.keep LW2).set Ggf.out f
 have Ngf:Hid (B4q W3 gf f):=by rw[←hW3];exact DW2.set _ _ _ _
 have F3:Hid (flt=0→∃ x y,rread s.data.toList t.data.toList=some (x,y)∧Fi W3 f x y):=by rw[←hW3];exact (fun h=>by obtain⟨x,y,e1,e2⟩:=P1.out.resolve_right (fun q=>q.1 h) |>.2;exact⟨x,y,e1,(e2.below LW2).set DW2 f⟩)
 have m0gf:=DW2.c0
 have m1gf:=DW2.c1
 have m2gf:=DW2.c2
 have m3gf:=DW2.c3
 have u0gf:=DW2.fr 0
 have u1gf:=DW2.fr 1
 have u2gf:=DW2.fr 2
 have u3gf:=DW2.fr 3
 clear DW2 LW2
 unfold fourq four at hW3
 have y0':=J3.out.y.c0
 have y1':=J3.out.y.c1
 clear J1
 by_cases hz:flt=0
 ·subst hz
  have P3:=Zh (F3.out rfl)
  clear F3 P1
  go_wp2_with fail
  clear y0' y1'
  clear hW2 hW3 hgf m0gf m1gf m2gf m3gf u0gf u1gf u2gf u3gf
  refine (H2.out _).mono ?_
  rintro e w4 ⟨h,flt2,rfl,b4,hpost⟩
  have J4:=Zh (J3.out.keep b4)
  have P2:=Zh hpost
  have N4:=Zh (Ngf.out.keep b4)
  have F4:Hid (∃ x y,rread s.data.toList t.data.toList=some (x,y)∧Fi w4 f x y):=by
   obtain⟨x,y,e1,e2⟩:=P3.out
   exact⟨x,y,e1,e2.below b4⟩
  have G4:Hid (gf<w4.heap.size):=N4.out.lt
  clear b4 hpost J3 H2 P3 Ngf
  obtain⟨W5,hW5⟩:∃ W5,w4.alloc (.cells #[.bool false,.slice none 0 0,.bool false,.slice none 0 0] 109)=W5:=⟨_,rfl⟩
  have DW5:B4q W5 w4.heap.size Fq.z:=by rw[←hW5];exact B4.made _ _ _ _ _ _
  have LW5:Below w4.heap.size w4 W5:=by rw[←hW5];exact bel_one _ _
  obtain⟨gh,hgh⟩:∃ gh,w4.heap.size=gh:=⟨_,rfl⟩
  have Ggh:Hid (w.heap.size+1+1+1<gh):=by rw[←hgh];exact J4.out.q.lt
  rw[hgh]at DW5
  obtain⟨W6,hW6⟩:∃ W6,fourq W5 gh h=W6:=⟨_,rfl⟩
  have J6:Hid (Fs w s t s' t' W6):=by rw[←hW6];exact (J4.out.keep LW5).set Ggh.out h
  have Ngh:Hid (B4q W6 gh h):=by rw[←hW6];exact DW5.set _ _ _ _
  have H6:Hid (flt2=0→∃ x y,rread s'.data.toList t'.data.toList=some (x,y)∧Fi W6 h x y):=by rw[←hW6];exact (fun e=>by obtain⟨x,y,e1,e2⟩:=P2.out.resolve_right (fun q=>q.1 e) |>.2;exact⟨x,y,e1,(e2.below LW5).set DW5 h⟩)
  have F6:Hid (∃ x y,rread s.data.toList t.data.toList=some (x,y)∧Fi W6 f x y):=by rw[←hW6];exact (by obtain⟨x,y,e1,e2⟩:=F4.out;exact⟨x,y,e1,(e2.below LW5).set DW5 h⟩)
  have N6:Hid (B4q W6 gf f):=by rw[←hW6];exact ((N4.out.keep LW5).other (by have:=G4.out;omega) _ _ _ _)
  have m0gh:=DW5.c0
  have m1gh:=DW5.c1
  have m2gh:=DW5.c2
  have m3gh:=DW5.c3
  have u0gh:=DW5.fr 0
  have u1gh:=DW5.fr 1
  have u2gh:=DW5.fr 2
  have u3gh:=DW5.fr 3
  clear DW5 LW5
  unfold fourq four at hW6
  have GNE:Hid (gf<gh):=by rw[←hgh];exact G4.out
  by_cases hz2:flt2=0
  ·subst hz2
   have P5:=Zh (H6.out rfl)
   clear H6 P2
   go_wp2_with fail
   clear hW5 hW6 hgh m0gh m1gh m2gh m3gh u0gh u1gh u2gh u3gh
   refine wp_region_noPanic ?_
   refine wp_region_held_drew (S:=S8 gf gh f h) (by kernel_rfl) (S8.of (N6.out.keep (Below.refl _ _).drew) (Ngh.out.keep (Below.refl _ _).drew)) (fun hS=>?_)
   have J7:=Zh (J6.out.keep (Below.refl _ _).drew)
   have N7:=Zh (N6.out.keep (Below.refl _ _).drew)
   have K7:=Zh (Ngh.out.keep (Below.refl _ _).drew)
   have PP7:Hid (∀ W,Below W6.heap.size W6 W→(∃ x y,rread s.data.toList t.data.toList=some (x,y)∧Fi W f x y)∧(∃ x y,rread s'.data.toList t'.data.toList=some (x,y)∧Fi W h x y)):=by
    intro W hb
    obtain⟨x,y,e1,e2⟩:=F6.out
    obtain⟨x',y',e3,e4⟩:=P5.out
    exact⟨⟨x,y,e1,e2.below hb⟩,⟨x',y',e3,e4.below hb⟩⟩
   have PD:=Zh (PP7.out W6.drew (Below.refl _ _).drew)
   clear PP7 F6 P5 J6 N6 Ngh
   obtain⟨WD,hWD⟩:∃ WD,W6.drew=WD:=⟨_,rfl⟩
   rw[hWD]at J7 N7 K7 PD hS ⊢
   clear hWD
   refine Zt (i:=0) (v:=?v0z29) rfl (Or.inl ⟨by rfl,?hy0z29⟩) ?rest0z29
   case hy0z29=>
    intro w hSw
    dsimp only[S8]at hSw
    go_simp
    try with_reducible rfl
   simp only[Act.put,Zd,Ze,Zf,Za,Zb,Zc]
   refine Zt (i:=1) (v:=?v1z30) rfl (Or.inl ⟨by rfl,?hy1z30⟩) ?rest1z30
   case hy1z30=>
    intro w hSw
    dsimp only[S8]at hSw
    go_simp
    try with_reducible rfl
   simp only[Act.put,Zd,Ze,Zf,Za,Zb,Zc]
   refine wpAnyH_ready (rs:=[2]) (by kernel_rfl) (by simp) ?_
   refine AllReadyH.cons rfl (fun K hK=>?_) AllReadyH.nil
   have q0:=J7.out.r.c0
   have q1:=J7.out.r.c1
   have q2:=J7.out.r.c2
   have q3:=J7.out.r.c3
   have g0:=J7.out.r.fr 0
   have g1:=J7.out.r.fr 1
   have g2:=J7.out.r.fr 2
   have g3:=J7.out.r.fr 3
   simp only[Fq.z]at q0 q1 q2 q3
   go_simp
   clear q0 q1 q2 q3 g0 g1 g2 g3
   obtain⟨WE,hWE⟩:∃ WE,fourq WD (w.heap.size+1+1) f=WE:=⟨_,rfl⟩
   have gfo:=Ggf.out
   have gho:=Ggh.out
   have hT:S8 gf gh f h WE:=by rw[←hWE];exact S8.of (N7.out.other (by omega) _ _ _ _) (K7.out.other (by omega) _ _ _ _)
   have N8:Hid (B4q WE gf f):=by rw[←hWE];exact N7.out.other (by omega) _ _ _ _
   have K8:Hid (B4q WE gh h):=by rw[←hWE];exact K7.out.other (by omega) _ _ _ _
   have R8:B4q WE (w.heap.size+1+1) f:=by rw[←hWE];exact J7.out.r.set _ _ _ _
   have Q8:B4q WE (w.heap.size+1+1+1) Fq.z:=by rw[←hWE];exact J7.out.q.other (by omega) _ _ _ _
   have B8:Hid (Below w.heap.size w WE):=by rw[←hWE];exact below_four J7.out.bel (by omega) _ _ _ _
   have PE:Hid ((∃ x y,rread s.data.toList t.data.toList=some (x,y)∧Fi WE f x y)∧(∃ x y,rread s'.data.toList t'.data.toList=some (x,y)∧Fi WE h x y)):=by
    obtain⟨⟨x,y,e1,e2⟩,⟨x',y',e3,e4⟩⟩:=PD.out
    rw[←hWE]
    exact⟨⟨x,y,e1,e2.set J7.out.r f⟩,⟨x',y',e3,e4.set J7.out.r f⟩⟩
   unfold fourq four at hWE
   rw[hWE]
   refine hK.out _ _ hT (fun _=>?_)
   clear hK K hS hWE N7 K7 J7 PD
   have hS:=hT
   clear hT
   try simp only[Act.put,Za,Zb,Zc]
   refine wpAnyH_ready (rs:=[3]) (by kernel_rfl) (by simp) ?_
   refine AllReadyH.cons rfl (fun K hK=>?_) AllReadyH.nil
   have q0:=Q8.c0
   have q1:=Q8.c1
   have q2:=Q8.c2
   have q3:=Q8.c3
   have g0:=Q8.fr 0
   have g1:=Q8.fr 1
   have g2:=Q8.fr 2
   have g3:=Q8.fr 3
   simp only[Fq.z]at q0 q1 q2 q3
   go_simp
   clear q0 q1 q2 q3 g0 g1 g2 g3
   obtain⟨WF,hWF⟩:∃ WF,fourq WE (w.heap.size+1+1+1) h=WF:=⟨_,rfl⟩
   have hT:S8 gf gh f h WF:=by rw[←hWF];exact S8.of (N8.out.other (by omega) _ _ _ _) (K8.out.other (by omega) _ _ _ _)
   have R9:B4q WF (w.heap.size+1+1) f:=by rw[←hWF];exact R8.other (by omega) _ _ _ _
   have Q9:B4q WF (w.heap.size+1+1+1) h:=by rw[←hWF];exact Q8.set _ _ _ _
   have PP:Hid (FsPost s.data.toList t.data.toList s'.data.toList t'.data.toList w (.returned (.tuple #[f.v,h.v,.int .i64 0])) WF):=by
    obtain⟨⟨x,y,e1,e2⟩,⟨x',y',e3,e4⟩⟩:=PE.out
    rw[←hWF]
    exact⟨_,_,_,rfl,below_four B8.out (by omega) _ _ _ _,.inl ⟨rfl,x,y,x',y',e1,e3,e2.set Q8 h,e4.set Q8 h⟩⟩
   unfold fourq four at hWF
   rw[hWF]
   refine hK.out _ _ hT (fun _=>?_)
   clear hK K hS hWF N8 K8 R8 Q8 PE
   have hS:=hT
   clear hT
   try simp only[Act.put,Za,Zb,Zc]
   refine Zt (i:=4) (v:=?v4z31) rfl (Or.inl ⟨by rfl,?hy4z31⟩) ?rest4z31
   case hy4z31=>
    intro w hSw
    dsimp only[S8]at hSw
    go_simp
    try with_reducible rfl
   simp only[Act.put,Zd,Ze,Zf,Za,Zb,Zc]
   refine wpAnyH_done (by kernel_rfl) ?_ _
   refine NoPanic.normal ?_
   obtain⟨r0,r1,r2,r3,_,_⟩:=id R9
   obtain⟨p0,p1,p2,p3,_,_⟩:=id Q9
   clear hS R9 Q9
   go_wp2_with fail
   exact bodyPost_ret (v:=.tuple #[.agg #[.bool f.b,.slice f.a f.k f.c,.bool f.b',.slice f.a' f.k' f.c'],.agg #[.bool h.b,.slice h.a h.k h.c,.bool h.b',.slice h.a' h.k' h.c'],.int .i64 0]) (by simp[results,Tryz.results116,go_sem,r0,r1,r2,r3,p0,p1,p2,p3]) rfl PP.out
  ·have PF:Hid (flt2≠0∧((rread s.data.toList t.data.toList=none∧flt2=rflt s.data.toList t.data.toList)∨(∃ p,rread s.data.toList t.data.toList=some p)∧rread s'.data.toList t'.data.toList=none∧flt2=rflt s'.data.toList t'.data.toList)):=by
    obtain⟨x,y,e1,_⟩:=F6.out
    exact⟨hz2,.inr ⟨⟨_,e1⟩,(P2.out.resolve_left (fun q=>hz2 q.1)).2⟩⟩
   have hne:(flt2 == 0)=false:=by rw[beq_eq_false_iff_ne];exact hz2
   have hne2:(flt2 != 0)=true:=by simp[hz2]
   clear hz2 P2 F6 H6 N6
   have hY:B4q (fourq W6 (w.heap.size+1+1) Fq.z) (w.heap.size+1+1+1) Fq.z:=J6.out.q.other (by omega) _ _ _ _
   obtain⟨W9,hW9⟩:∃ W9,fourq (fourq W6 (w.heap.size+1+1) Fq.z) (w.heap.size+1+1+1) Fq.z=W9:=⟨_,rfl⟩
   have R9:B4q W9 (w.heap.size+1+1) Fq.z:=by rw[←hW9];exact (J6.out.r.set _ _ _ _).other (by omega) _ _ _ _
   have Q9:B4q W9 (w.heap.size+1+1+1) Fq.z:=by rw[←hW9];exact hY.set _ _ _ _
   have PP:Hid (FsPost s.data.toList t.data.toList s'.data.toList t'.data.toList w (.returned (.tuple #[Fq.z.v,Fq.z.v,.int .i64 flt2])) W9):=by
    rw[←hW9]
    exact⟨_,_,_,rfl,below_four (below_four J6.out.bel (by omega) _ _ _ _) (by omega) _ _ _ _,.inr PF.out⟩
   have q0:=J6.out.r.c0
   have q1:=J6.out.r.c1
   have q2:=J6.out.r.c2
   have q3:=J6.out.r.c3
   have g0:=J6.out.r.fr 0
   have g1:=J6.out.r.fr 1
   have g2:=J6.out.r.fr 2
   have g3:=J6.out.r.fr 3
   have z0:=J6.out.q.c0
   have z1:=J6.out.q.c1
   have z2:=J6.out.q.c2
   have z3:=J6.out.q.c3
   have y0:=J6.out.q.fr 0
   have y1:=J6.out.q.fr 1
   have y2:=J6.out.q.fr 2
   have y3:=J6.out.q.fr 3
   obtain⟨r0,r1,r2,r3,_,_⟩:=id R9
   obtain⟨p0,p1,p2,p3,_,_⟩:=id Q9
   unfold fourq four at hW9
   clear R9 Q9 hY
   simp only[Fq.z]at *
   go_wp2_with fail
   exact bodyPost_ret (v:=.tuple #[.agg #[.bool false,.slice none 0 0,.bool false,.slice none 0 0],.agg #[.bool false,.slice none 0 0,.bool false,.slice none 0 0],.int .i64 flt2]) (by simp[results,Tryz.results116,go_sem,r0,r1,r2,r3,p0,p1,p2,p3]) rfl PP.out
 ·have PF:Hid (flt≠0∧((rread s.data.toList t.data.toList=none∧flt=rflt s.data.toList t.data.toList)∨(∃ p,rread s.data.toList t.data.toList=some p)∧rread s'.data.toList t'.data.toList=none∧flt=rflt s'.data.toList t'.data.toList)):=
   ⟨hz,.inl (P1.out.resolve_left (fun q=>hz q.1)).2⟩
  have hne:(flt == 0)=false:=by rw[beq_eq_false_iff_ne];exact hz
  have hne2:(flt != 0)=true:=by simp[hz]
  clear hz P1 F3 H2 y0' y1'
  have hY:B4q (fourq W3 (w.heap.size+1+1) Fq.z) (w.heap.size+1+1+1) Fq.z:=J3.out.q.other (by omega) _ _ _ _
  obtain⟨W9,hW9⟩:∃ W9,fourq (fourq W3 (w.heap.size+1+1) Fq.z) (w.heap.size+1+1+1) Fq.z=W9:=⟨_,rfl⟩
  have R9:B4q W9 (w.heap.size+1+1) Fq.z:=by rw[←hW9];exact (J3.out.r.set _ _ _ _).other (by omega) _ _ _ _
  have Q9:B4q W9 (w.heap.size+1+1+1) Fq.z:=by rw[←hW9];exact hY.set _ _ _ _
  have PP:Hid (FsPost s.data.toList t.data.toList s'.data.toList t'.data.toList w (.returned (.tuple #[Fq.z.v,Fq.z.v,.int .i64 flt])) W9):=by
   rw[←hW9]
   exact⟨_,_,_,rfl,below_four (below_four J3.out.bel (by omega) _ _ _ _) (by omega) _ _ _ _,.inr PF.out⟩
  have q0:=J3.out.r.c0
  have q1:=J3.out.r.c1
  have q2:=J3.out.r.c2
  have q3:=J3.out.r.c3
  have g0:=J3.out.r.fr 0
  have g1:=J3.out.r.fr 1
  have g2:=J3.out.r.fr 2
  have g3:=J3.out.r.fr 3
  have z0:=J3.out.q.c0
  have z1:=J3.out.q.c1
  have z2:=J3.out.q.c2
  have z3:=J3.out.q.c3
  have y0:=J3.out.q.fr 0
  have y1:=J3.out.q.fr 1
  have y2:=J3.out.q.fr 2
  have y3:=J3.out.q.fr 3
  obtain⟨r0,r1,r2,r3,_,_⟩:=id R9
  obtain⟨p0,p1,p2,p3,_,_⟩:=id Q9
  unfold fourq four at hW9
  clear R9 Q9 hY
  simp only[Fq.z]at *
  go_wp2_with fail
  exact bodyPost_ret (v:=.tuple #[.agg #[.bool false,.slice none 0 0,.bool false,.slice none 0 0],.agg #[.bool false,.slice none 0 0,.bool false,.slice none 0 0],.int .i64 flt]) (by simp[results,Tryz.results116,go_sem,r0,r1,r2,r3,p0,p1,p2,p3]) rfl PP.out
theorem cop_two{a b c d:Nat}(h1:Nat.Coprime a c)(h2:Nat.Coprime a d)(h3:Nat.Coprime b c)(h4:Nat.Coprime b d):Nat.Coprime (a*b) (c*d):=
 Nat.Coprime.mul_left (Nat.Coprime.mul_right h1 h2) (Nat.Coprime.mul_right h3 h4)
theorem cop_parts{a b g:Nat}(hg:0<g)(h:Nat.gcd (g*a) (g*b)=g):Nat.Coprime a b:=by
 rw[Nat.gcd_mul_left]at h
 have:g*Nat.gcd a b=g*1:=by rw[h,Nat.mul_one]
 exact Nat.eq_of_mul_eq_mul_left hg this
theorem cross_gcd{z1 y1 z2 y2:Int} (p1:0<y1) (p2:0<y2) (h1:Int.gcd z1 y1=1) (h2:Int.gcd z2 y2=1) :
  ((Int.gcd z1 y2:Nat):Int)≠0∧((Int.gcd z2 y1:Nat):Int)≠0 ∧
  z1.tdiv (Int.gcd z1 y2:Nat)*z2.tdiv (Int.gcd z2 y1:Nat)=(z1*z2).tdiv (ovG (z1*z2) (y1*y2)) ∧
  y1.tdiv (Int.gcd z2 y1:Nat)*y2.tdiv (Int.gcd z1 y2:Nat)=(y1*y2).tdiv (ovG (z1*z2) (y1*y2)):=by
 have f0:0<Int.gcd z1 y2:=Int.gcd_pos_of_ne_zero_right z1 (by omega)
 have s0:0<Int.gcd z2 y1:=Int.gcd_pos_of_ne_zero_right z2 (by omega)
 obtain⟨f,hf⟩:∃ f,Int.gcd z1 y2=f:=⟨_,rfl⟩
 obtain⟨s,hs⟩:∃ s,Int.gcd z2 y1=s:=⟨_,rfl⟩
 obtain⟨u,hu⟩:(f:Int) ∣ z1:=by rw[←hf];exact Int.gcd_dvd_left ..
 obtain⟨v,hv⟩:(f:Int) ∣ y2:=by rw[←hf];exact Int.gcd_dvd_right ..
 obtain⟨p,hp⟩:(s:Int) ∣ z2:=by rw[←hs];exact Int.gcd_dvd_left ..
 obtain⟨q,hq⟩:(s:Int) ∣ y1:=by rw[←hs];exact Int.gcd_dvd_right ..
 rw[hf]at f0
 rw[hs]at s0
 have cuv:Nat.Coprime u.natAbs v.natAbs:=cop_parts f0 (by
  have:=hf
  unfold Int.gcd at this
  rw[hu,hv,Int.natAbs_mul,Int.natAbs_mul,Int.natAbs_natCast]at this
  exact this)
 have cpq:Nat.Coprime p.natAbs q.natAbs:=cop_parts s0 (by
  have:=hs
  unfold Int.gcd at this
  rw[hp,hq,Int.natAbs_mul,Int.natAbs_mul,Int.natAbs_natCast]at this
  exact this)
 have cuq:Nat.Coprime u.natAbs q.natAbs:=by
  have h:Nat.Coprime z1.natAbs y1.natAbs:=h1
  rw[hu,hq,Int.natAbs_mul,Int.natAbs_mul]at h
  exact Nat.Coprime.coprime_dvd_right (Nat.dvd_mul_left _ _) (Nat.Coprime.coprime_dvd_left (Nat.dvd_mul_left _ _) h)
 have cpv:Nat.Coprime p.natAbs v.natAbs:=by
  have h:Nat.Coprime z2.natAbs y2.natAbs:=h2
  rw[hp,hv,Int.natAbs_mul,Int.natAbs_mul]at h
  exact Nat.Coprime.coprime_dvd_right (Nat.dvd_mul_left _ _) (Nat.Coprime.coprime_dvd_left (Nat.dvd_mul_left _ _) h)
 have eN:z1*z2=((f*s:Nat):Int)*(u*p):=by rw[hu,hp,Int.natCast_mul];simp only[Int.mul_assoc,Int.mul_comm,Int.mul_left_comm]
 have eD:y1*y2=((f*s:Nat):Int)*(q*v):=by rw[hq,hv,Int.natCast_mul];simp only[Int.mul_assoc,Int.mul_comm,Int.mul_left_comm]
 have eG:ovG (z1*z2) (y1*y2)=((f*s:Nat):Int):=by
  have hD:¬ y1*y2<0:=by have:=Int.mul_pos p1 p2;omega
  unfold ovG
  rw[if_neg hD]
  unfold Int.gcd
  rw[eN,eD]
  simp only[Int.natAbs_mul,Int.natAbs_natCast,Nat.gcd_mul_left]
  have:Nat.gcd (u.natAbs*p.natAbs) (q.natAbs*v.natAbs)=1:=cop_two cuq cuv cpq cpv
  rw[this,Nat.mul_one]
 have fz:(f:Int)≠0:=by omega
 have sz:(s:Int)≠0:=by omega
 have fsz:((f*s:Nat):Int)≠0:=by rw[Int.natCast_mul];exact Int.mul_ne_zero fz sz
 rw[hf,hs,eG,eN,eD,Int.mul_tdiv_cancel_left _ fsz,Int.mul_tdiv_cancel_left _ fsz]
 refine⟨fz,sz,?_,?_⟩
 ·rw[hu,hp,Int.mul_tdiv_cancel_left _ fz,Int.mul_tdiv_cancel_left _ sz]
 ·rw[hq,hv,Int.mul_tdiv_cancel_left _ sz,Int.mul_tdiv_cancel_left _ fz]
theorem cop_sum{a b t r:Int}(h1:Int.gcd a r=1)(h2:Nat.Coprime r.natAbs t.natAbs):Nat.Coprime (a*t+b*r).natAbs r.natAbs:=by
 obtain⟨g,hg⟩:∃ g,Nat.gcd (a*t+b*r).natAbs r.natAbs=g:=⟨_,rfl⟩
 have d1:g ∣ (a*t+b*r).natAbs:=by rw[←hg];exact Nat.gcd_dvd_left _ _
 have d2:g ∣ r.natAbs:=by rw[←hg];exact Nat.gcd_dvd_right _ _
 have e1:(g:Int) ∣ a*t+b*r:=Int.ofNat_dvd_left.2 d1
 have e2:(g:Int) ∣ r:=Int.ofNat_dvd_left.2 d2
 have e3:(g:Int) ∣ a*t:=by
  have:=Int.dvd_sub e1 (Int.dvd_trans e2 (Int.dvd_mul_left b r))
  rwa [Int.add_sub_cancel]at this
 have d3:g ∣ a.natAbs*t.natAbs:=by rw[←Int.natAbs_mul];exact Int.ofNat_dvd_left.1 e3
 have c1:Nat.Coprime g t.natAbs:=Nat.Coprime.coprime_dvd_left d2 h2
 have d4:g ∣ a.natAbs:=Nat.Coprime.dvd_of_dvd_mul_right c1 d3
 have c2:Nat.Coprime a.natAbs r.natAbs:=h1
 have:g ∣ 1:=by rw[←c2];exact Nat.dvd_gcd d4 d2
 show Nat.gcd _ _=1
 rw[hg]
 exact Nat.dvd_one.1 this
theorem plus_gcd{z1 y1 z2 y2:Int} (p1:0<y1) (p2:0<y2) (h1:Int.gcd z1 y1=1) (h2:Int.gcd z2 y2=1) {d e:Nat} {r t num:Int} (hd:Int.gcd y1 y2=d)
  (hr:y1.tdiv d=r) (ht:y2.tdiv d=t) (hn:z1*t+z2*r=num) (he:Int.gcd num d=e) :
  (d:Int)≠0∧(e:Int)≠0∧num.tdiv e=(z1*y2+z2*y1).tdiv (ovG (z1*y2+z2*y1) (y1*y2))∧r*y2.tdiv e=(y1*y2).tdiv (ovG (z1*y2+z2*y1) (y1*y2)):=by
 have d0:0<d:=by rw[←hd];exact Int.gcd_pos_of_ne_zero_right y1 (by omega)
 have dz:(d:Int)≠0:=by omega
 have e0:0<e:=by rw[←he];exact Int.gcd_pos_of_ne_zero_right num dz
 have ez:(e:Int)≠0:=by omega
 have f1:y1=(d:Int)*r:=by
  obtain⟨q,hq⟩:(d:Int) ∣ y1:=by rw[←hd];exact Int.gcd_dvd_left ..
  rw[←hr,hq,Int.mul_tdiv_cancel_left _ dz]
 have f2:y2=(d:Int)*t:=by
  obtain⟨q,hq⟩:(d:Int) ∣ y2:=by rw[←hd];exact Int.gcd_dvd_right ..
  rw[←ht,hq,Int.mul_tdiv_cancel_left _ dz]
 have crt:Nat.Coprime r.natAbs t.natAbs:=cop_parts d0 (by
  have:=hd
  unfold Int.gcd at this
  rw[f1,f2,Int.natAbs_mul,Int.natAbs_mul,Int.natAbs_natCast]at this
  exact this)
 have g1:Int.gcd z1 r=1:=by
  have h:Nat.Coprime z1.natAbs y1.natAbs:=h1
  rw[f1,Int.natAbs_mul]at h
  exact Nat.Coprime.coprime_dvd_right (Nat.dvd_mul_left _ _) h
 have g2:Int.gcd z2 t=1:=by
  have h:Nat.Coprime z2.natAbs y2.natAbs:=h2
  rw[f2,Int.natAbs_mul]at h
  exact Nat.Coprime.coprime_dvd_right (Nat.dvd_mul_left _ _) h
 have cr:Nat.Coprime num.natAbs r.natAbs:=by rw[←hn];exact cop_sum g1 crt
 have ct:Nat.Coprime num.natAbs t.natAbs:=by rw[←hn,Int.add_comm];exact cop_sum g2 crt.symm
 have eN:z1*y2+z2*y1=(d:Int)*num:=by
  rw[←hn,f1,f2,Int.mul_add,Int.mul_left_comm,Int.mul_left_comm (z2)]
 have eD:y1*y2=(d:Int)*(r*y2):=by rw[f1,Int.mul_assoc]
 have gg:Nat.gcd num.natAbs (r*y2).natAbs=e:=by
  have e1:(r*y2).natAbs=r.natAbs*(t.natAbs*d):=by rw[f2,Int.natAbs_mul,Int.natAbs_mul,Int.natAbs_natCast,Nat.mul_comm d]
  rw[e1,Nat.Coprime.gcd_mul_left_cancel_right _ cr.symm,Nat.Coprime.gcd_mul_left_cancel_right _ ct.symm]
  have:=he
  unfold Int.gcd at this
  rwa [Int.natAbs_natCast]at this
 have eG:ovG (z1*y2+z2*y1) (y1*y2)=((d*e:Nat):Int):=by
  have hD:¬ y1*y2<0:=by have:=Int.mul_pos p1 p2;omega
  unfold ovG
  rw[if_neg hD]
  unfold Int.gcd
  rw[eN,eD,Int.natAbs_mul,Int.natAbs_mul (d:Int),Int.natAbs_natCast,Nat.gcd_mul_left,gg]
 obtain⟨m,hm⟩:(e:Int) ∣ num:=by rw[←he];exact Int.gcd_dvd_left ..
 obtain⟨k,hk⟩:(e:Int) ∣ (d:Int):=by rw[←he];exact Int.gcd_dvd_right ..
 have dez:((d*e:Nat):Int)≠0:=by rw[Int.natCast_mul];exact Int.mul_ne_zero dz ez
 refine⟨dz,ez,?_,?_⟩
 ·rw[eG,eN]
  have:(d:Int)*num=((d*e:Nat):Int)*m:=by rw[hm,Int.natCast_mul,Int.mul_assoc]
  rw[this,Int.mul_tdiv_cancel_left _ dez,hm,Int.mul_tdiv_cancel_left _ ez]
 ·have y2e:y2=(e:Int)*(k*t):=by rw[f2,hk,Int.mul_assoc]
  have:y1*y2=((d*e:Nat):Int)*(r*(k*t)):=by
   rw[eD,Int.natCast_mul,y2e]
   simp only[Int.mul_assoc,Int.mul_left_comm]
  rw[eG,this,Int.mul_tdiv_cancel_left _ dez]
  congr 1
  conv=>lhs;rw[y2e]
  rw[Int.mul_tdiv_cancel_left _ ez]
end Go.Proofs.YtghgbhmiliiohaaGreatDoor
