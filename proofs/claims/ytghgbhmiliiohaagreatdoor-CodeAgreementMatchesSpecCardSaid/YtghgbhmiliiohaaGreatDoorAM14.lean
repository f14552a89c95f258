/-
  Numbers of any size: the shift down, and the guess of a limb.
-/
import Derived.Test.YtghgbhmiliiohaaGreatDoorAMQ
import Derived.Test.YtghgbhmiliiohaaGreatDoorAM13
import Derived.Laws.OwnMore
import Derived.Laws.Cover3
import Derived.StillTailTactics
set_option maxRecDepth 100000
namespace Go.Proofs.YtghgbhmiliiohaaGreatDoor
open Go.RowKit
theorem info_limb:∃ i,Tryz.prog.info? 144=some i∧i.zero=some (.int .u64 0)∧i.size=1∧i.bytes=8:=by
 have h:=infoL
 cases e:Tryz.prog.info? 144 with
 | none=>rw[e]at h;cases h
 | some i=>rw[e]at h;simp at h;exact⟨i,rfl,h⟩
theorem nil_eq(a:Option Addr)(k c:Nat)(w:World):(binOp .eql 105 (.slice a k c) (.slice none 0 0)).run Tryz.prog w=.ok (.bool a.isNone) w:=by
 simp only[binOp]
 simp[run_equal_slice_nil w 105 144 a k c Tryz.underlying105]
def CopyPost(k:Nat)(f:Nat→Nat)(w:World)(e:Ending)(w':World):Prop:=
 ∃ a c,e=.returned (.slice a k c)∧k≤c∧c≤9223372036854775807∧Pl a c∧Below w.heap.size w w'∧(0<k→∃ g,a=some ⟨g,0,none⟩∧w.heap.size≤g∧Bf w' g k f)
set_option maxHeartbeats 1000000 in
theorem clone_c(a:Option Addr) (k c:Nat) (f:Nat→Nat) (w:World) (h:Rl w a k f) (ha:Pl a c) :
  Calls Tryz.prog 187 #[.slice a k c] w (CopyPost k f w):=by
 rcases ha with ⟨rfl,rfl⟩|⟨b,off,rfl⟩
 ·have hk:k=0:=by
   rcases Nat.eq_zero_or_pos k with e|e
   ·exact e
   ·obtain⟨b,off,he,_⟩:=h.2.2 e
    cases he
  subst hk
  have hnil:=nil_eq none 0 0
  go_enter Tryz.func187,Tryz.ntmps187
  go_wp2
  go_ret
  exact⟨_,_,rfl,by omega,by omega,Pl.none_,Below.refl _ _,fun h=>by omega⟩
 ·obtain⟨i0,hi,hz0,hz1,hz2⟩:=info_limb
  have H:=Zh h
  have hk:=h.1
  clear h
  have hnil:=nil_eq (some ⟨b,off,none⟩) k c
  go_enter Tryz.func187,Tryz.ntmps187
  go_wp2_with (at_builtin;refine wpList_append_own _ rfl _ _ 105 rfl w.heap.size 144 i0 (.int .u64 0) 1 8 Tryz.underlying105 hi hz0 hz1 hz2 rfl (by decide) _ _ _ rfl (World.ownsRow_made w #[] 0 (Nat.le_refl _) (by decide) rfl) ⟨b,off,none⟩ k c (lcells f k) rfl ?c1 ?c2 ?c3 ?c4 ?c5 ?c6 ?_)
  case c1=>simp[lcells]
  case c2=>
   intro j u hj
   have hjk:j<k:=by
    have:=(List.getElem?_eq_some_iff.1 hj).1
    simpa[lcells] using this
   rw[lcells_at hjk]at hj
   cases hj
   have hb:Below w.heap.size w (w.alloc (.cells #[] 144)):=bel_one _ _
   obtain⟨b',off',e,_,hc⟩:=(H.out.below hb).at_ hjk
   injection e with e
   injection e with e1 e2
   subst e1 e2
   have e2:(Addr.mk b off none).add j=⟨b,off+j,none⟩:=by
    unfold Addr.add
    split
    ·rename_i h;subst h;rfl
    ·rfl
   rw[e2];exact hc
  case c3=>intro u hu;unfold lcells at hu;obtain⟨j,_,rfl⟩:=List.mem_map.1 hu;rfl
  case c4=>unfold maxLen;omega
  case c5=>omega
  case c6=>simp
  intro v' w1 hown hgrow _
  have hb:Below w.heap.size w w1:=(bel_one w (.cells #[] 144)).grown hgrow (by simp) (fun b hb=>by simp[Value.ownBlock]at hb;omega)
  have hpost:Hid (CopyPost k f w (.returned v') w1):=by
   obtain⟨hl,⟨rfl,h0⟩|⟨g,cap,cur,rfl,hg,hobj,hnc,hm,hs,ht⟩⟩:=id hown
   ·obtain rfl:k=0:=by omega
    exact⟨none,0,rfl,by omega,by omega,Pl.none_,hb,fun h=>by omega⟩
   ·refine⟨some ⟨g,0,none⟩,cap,rfl,by omega,by unfold maxLen at hm;exact hm,Pl.some_ _ _,hb,fun hk0=>⟨g,rfl,hg,lt_of_block hobj,H.out.2.1,fun j hj=>⟨?_,hown.frozenAt j⟩⟩⟩
    have t:=World.ownsRow.cells hown rfl j (.int .u64 (f j:Int)) (lcells_at hj)
    by_cases h0:j=0<;>simpa[Addr.add,h0] using t
  clear hown hgrow hb
  go_wp2
  go_ret
  exact hpost.out
def ext(f:Nat→Nat)(k:Nat):Nat→Nat:=fun j=>if j<k then f j else 0
theorem ext_in{f:Nat→Nat}{k j:Nat}(h:j<k):ext f k j=f j:=by unfold ext;rw[if_pos h]
theorem ext_out{f:Nat→Nat}{k j:Nat}(h:k≤j):ext f k j=0:=by unfold ext;rw[if_neg (by omega)]
theorem S_ext(f:Nat→Nat){k m:Nat}(h:k≤m):S (ext f k) m=S f k:=by
 obtain⟨d,rfl⟩:=Nat.exists_eq_add_of_le h
 have e:S (ext f k) k=S f k:=S_congr (fun j hj=>ext_in hj)
 rw[S_at,S_zeros (f:=from_ (ext f k) k) (fun j _=>by unfold from_;exact ext_out (by omega)),e]
 omega
set_option maxHeartbeats 4000000 in
theorem difference_c(a1 a2:Option Addr) (k1 k2 c1 c2 n1 n2:Nat) (w:World) (h1:Nm w a1 k1 c1 n1) (h2:Nm w a2 k2 c2 n2) (hle:n2≤n1) :
  Calls Tryz.prog 169 #[.slice a1 k1 c1,.slice a2 k2 c2] w (NmPost (n1-n2) w):=by
 have hk12:k2≤k1:=by
  refine h2.len ?_
  have:=h1.lt
  omega
 obtain⟨f1,r1,hkc1,hcc1,t1,s1,p1⟩:=h1
 obtain⟨f2,r2,hkc2,hcc2,t2,s2,p2⟩:=h2
 have hk1:=r1.1
 have HC:=Zh (clone_c a1 k1 c1 f1 w r1 p1)
 have S1:=Zh s1
 have S2:Hid (S (ext f2 k2) k1=n2):=by unfold Hid;rw[S_ext f2 hk12,s2]
 have L1:=Zh r1.2.1
 have H2:=Zh r2
 clear r1 r2 s1 s2 t1 t2 p1 p2
 go_enter Tryz.func169,Tryz.ntmps169
 go_wp2_with fail
 refine HC.out.mono ?_
 rintro e w2 ⟨a,c,rfl,hkc,hcc,hpa,hB,hg⟩
 have PA:=Zh hpa
 have BL:=Zh hB
 have GG:=Zh hg
 clear hpa hB hg HC
 go_wp2_with fail
 rcases Nat.eq_zero_or_pos k1 with h0|h0
 ·subst h0
  have e0:Hid (n1-n2=0):=by unfold Hid;rw[←S1.out,S_zero];omega
  go_loopw [6,13] (fun v i wr=>v=.int .u64 0∧i=.int .i64 0∧Hid (wr=w2)) (fun _ _ _=>0)
  case atStart=>exact⟨rfl,rfl,rfl⟩
  case round=>
   obtain⟨rfl,rfl,hw⟩:=hrel
   have hw:=hw.out
   subst hw
   go_wp2_with fail
   refine (trim_c a 0 c f1 wr (Rl.nil _ _ _) (by omega) hcc PA.out).mono ?_
   rintro e w5 ⟨a',k',c',rfl,hN,b5⟩
   rw[S_zero,←e0.out]at hN
   have R:=Zh (show NmPost (n1-n2) w (.returned (.slice a' k' c')) w5 from ⟨a',k',c',rfl,hN,BL.out.trans (b5.mono BL.out.size)⟩)
   clear hN b5
   go_wp2
   go_ret
   exact R.out
 ·obtain⟨g,rfl,hg,hbf⟩:=GG.out h0
  have HG:=Zh hg
  have B0:=Zh hbf
  clear hg hbf GG PA
  go_loopw [6,13] (fun v i wr=>∃ (j y:Nat) (F:Nat→Nat),j≤k1∧i=.int .i64 j∧v=.int .u64 y∧y≤1∧Hid (Bf wr g k1 F∧Below w.heap.size w wr∧(∀ i,j≤i→i<k1→F i=f1 i)∧S F j+S (ext f2 k2) j=S f1 j+y*bp j)) (fun _ i _=>k1-(intOf i).toNat)
  case atStart=>exact⟨0,0,f1,Nat.zero_le _,rfl,rfl,by omega,B0.out,BL.out,fun _ _ _=>rfl,by simp only[S_zero];omega⟩
  case round=>
   obtain⟨j,y,F,hj,rfl,rfl,hy,hR⟩:=hrel
   by_cases hlt:j<k1
   ·have hlt':(j:Int)<(k1:Int):=by omega
    have hBj:=hR.out.1.2.2 j hlt
    have hz:=L1.out j hlt
    have ez:F j=f1 j:=hR.out.2.2.1 j (Nat.le_refl _) hlt
    have hc2:=hBj.1
    have hf2:=hBj.2
    rw[ez]at hc2
    by_cases hj2:j<k2
    ·obtain⟨b,off,rfl,hbl,hc1⟩:=(H2.out.below hR.out.2.1).at_ hj2
     have hx:=H2.out.2.1 j hj2
     have hj2':(j:Int)<(k2:Int):=by omega
     have ex:ext f2 k2 j=f2 j:=ext_in hj2
     rw[←ex]at hc1 hx
     clear ex
     obtain⟨s,d,hsub,hb1,hb2,hb3⟩:=subs (f1 j) (ext f2 k2 j) y rfl rfl rfl hz hx hy
     have hstep:S (put F j s) (j+1)+S (ext f2 k2) (j+1)=S f1 (j+1)+d*bp (j+1):=by
      rw[S_put,bp_succ,S_succ,S_succ]
      exact step_sub hR.out.2.2.2 hb1
     have NX:Hid (Bf (wr.setCell ⟨g,j,none⟩ (.int .u64 s)) g k1 (put F j s)∧Below w.heap.size w (wr.setCell ⟨g,j,none⟩ (.int .u64 s))∧(∀ i,j+1≤i→i<k1→put F j s i=f1 i)∧S (put F j s) (j+1)+S (ext f2 k2) (j+1)=S f1 (j+1)+d*bp (j+1)):=by
      refine⟨hR.out.1.put (by omega) hb2,hR.out.2.1.setCell (p:=⟨g,j,none⟩) HG.out _,fun i hi hi2=>?_,hstep⟩
      rw[put_ne (by omega)];exact hR.out.2.2.1 i (by omega) hi2
     clear hBj hb1 hstep ez
     generalize ext f2 k2 j=x at *
     generalize f1 j=z at *
     go_wp2_with (rw[hsub])
     go_roundw
     case rel=>exact⟨j+1,d,put F j s,by omega,by go_num,rfl,hb3,NX.out⟩
     case measure=>simp[intOf];omega
    ·have hx:ext f2 k2 j<18446744073709551616:=by rw[ext_out (by omega)];decide
     have hj2':¬ (j:Int)<(k2:Int):=by omega
     have ex:ext f2 k2 j=0:=ext_out (by omega)
     obtain⟨s,d,hsub,hb1,hb2,hb3⟩:=subs (f1 j) (ext f2 k2 j) y rfl (by rw[ex];rfl:(0:Int)=((ext f2 k2 j:Nat):Int)) rfl hz hx hy
     have hstep:S (put F j s) (j+1)+S (ext f2 k2) (j+1)=S f1 (j+1)+d*bp (j+1):=by
      rw[S_put,bp_succ,S_succ,S_succ]
      exact step_sub hR.out.2.2.2 hb1
     have NX:Hid (Bf (wr.setCell ⟨g,j,none⟩ (.int .u64 s)) g k1 (put F j s)∧Below w.heap.size w (wr.setCell ⟨g,j,none⟩ (.int .u64 s))∧(∀ i,j+1≤i→i<k1→put F j s i=f1 i)∧S (put F j s) (j+1)+S (ext f2 k2) (j+1)=S f1 (j+1)+d*bp (j+1)):=by
      refine⟨hR.out.1.put (by omega) hb2,hR.out.2.1.setCell (p:=⟨g,j,none⟩) HG.out _,fun i hi hi2=>?_,hstep⟩
      rw[put_ne (by omega)];exact hR.out.2.2.1 i (by omega) hi2
     clear hBj hb1 hstep ez
     clear ex hx
     generalize f1 j=z at *
     go_wp2_with (rw[hsub])
     go_roundw
     case rel=>exact⟨j+1,d,put F j s,by omega,by go_num,rfl,hb3,NX.out⟩
     case measure=>simp[intOf];omega
   ·obtain rfl:j=k1:=by omega
    clear hlt
    have E:Hid (S F j=n1-n2):=by
     have h:=hR.out.2.2.2
     have hl:=S_lt hR.out.1.2.1
     rw[S1.out,S2.out]at h
     unfold Hid
     rcases Nat.eq_zero_or_pos y with e|e
     ·subst e;omega
     ·obtain rfl:y=1:=by omega
      rw[Nat.one_mul]at h
      omega
    have BB:=Zh hR.out.1
    have BL2:=Zh hR.out.2.1
    clear hR
    go_wp2_with fail
    refine (trim_c (some ⟨g,0,none⟩) j c F wr (BB.out.rl0 (Nat.le_refl _) hk1) hkc hcc (Pl.some_ _ _)).mono ?_
    rintro e w5 ⟨a',k',c',rfl,hN,b5⟩
    rw[E.out]at hN
    have R:=Zh (show NmPost (n1-n2) w (.returned (.slice a' k' c')) w5 from ⟨a',k',c',rfl,hN,BL2.out.trans (b5.mono BL2.out.size)⟩)
    clear hN b5
    go_wp2
    go_ret
    exact R.out
theorem wp_tail{P:Program} {id:Nat} {Q:Exit→Act→World→Prop} {a:Act} {w:World} {l:List Oper} (n:Nat) (hm:P.follows .mixedOrders=true) (hB:Region.lexTailB .any l.toArray n=true)
  (h:∀ W,W=w.drew→wpStill P l.toArray W (fun a'=>wpList P l.toArray Q (l.drop n) a' W) (l.take n) a):(Code.region id l.toArray true).wp P Q a w:=
 wp_region_still_tail n hm hB (h _ rfl)
theorem commonLimb_c(a b:Nat) (w:World) (ha:a<18446744073709551616) (hb:b<18446744073709551616) (h0:0<a∨0<b) :
  Calls Tryz.prog 155 #[.int .u64 a,.int .u64 b] w fun e w'=>∃ g:Nat,e=.returned (.int .u64 (g:Int))∧g=Nat.gcd a b∧g<18446744073709551616∧∃ q,w'=w.drewN q:=by
 have HG:Hid (Nat.gcd a b<18446744073709551616):=by
  unfold Hid
  rcases h0 with h|h
  ·have:=Nat.gcd_le_left b h;omega
  ·have:=Nat.gcd_le_right a h;omega
 clear h0
 go_enter Tryz.func155,Tryz.ntmps155
 go_wp2
 go_loopw [0,1] (fun x y wr=>∃ p q:Nat,x=.int .u64 p∧y=.int .u64 q∧p<18446744073709551616∧q<18446744073709551616∧Hid (Nat.gcd p q=Nat.gcd a b∧∃ q,wr=w.drewN q)) (fun _ y _=>(intOf y).toNat)
 case atStart=>exact⟨a,b,rfl,rfl,ha,hb,rfl,0,rfl⟩
 case round=>
  obtain⟨p,q,rfl,rfl,hp,hq,hR⟩:=hrel
  rcases Nat.eq_zero_or_pos q with e|e
  ·subst e
   have E:Hid (p=Nat.gcd a b):=by unfold Hid;rw[←hR.out.1,Nat.gcd_zero_right]
   go_wp2
   go_ret
   exact⟨p,rfl,E.out,hp,hR.out.2⟩
  ·have hr:=Nat.mod_lt p e
   have hrq:p % q<18446744073709551616:=by omega
   have NX:Hid (Nat.gcd q (p % q)=Nat.gcd a b):=by unfold Hid;rw[←hR.out.1,Nat.gcd_comm,←Nat.gcd_rec,Nat.gcd_comm]
   have HL:Hid (p % q<q):=hr
   have ne:((q:Int) == 0)=false:=by rw[beq_eq_false_iff_ne];omega
   clear hr
   obtain⟨n0,hn0⟩:=hR.out.2
   have HN:=Zh hn0
   clear hn0
   go_wp2_with fail
   go_quiet (fail)
   have NW:Hid (∃ q,wr.drewN nq=w.drewN q):=⟨n0+nq,by rw[HN.out,drewN_drewN]⟩
   go_wp2
   go_roundw
   case rel=>exact⟨q,p % q,rfl,rfl,hq,hrq,NX.out,NW.out⟩
   case measure=>simp[intOf];have:=HL.out;omega
theorem shl_or{s x u:Nat}(hs:s<64)(hu:u<2 ^ s):u ||| x*2 ^ s % 18446744073709551616=u+x*2 ^ s % 18446744073709551616:=by
 rw[←pow_split hs,Nat.mul_mod_mul_right,Nat.mul_comm,or_add hu]
theorem shd_or{s x u:Nat}(hs:s<64)(hu:u<2 ^ (64-s)):u ||| x*2 ^ (64-s) % 18446744073709551616=u+x*2 ^ (64-s) % 18446744073709551616:=by
 rw[shd_low hs,Nat.mul_comm,or_add hu]
def UpPost(k s:Nat)(f:Nat→Nat)(w:World)(e:Ending)(w':World):Prop:=
 ∃ g F,e=.returned (.slice (some ⟨g,0,none⟩) (k+1) (k+1))∧w.heap.size≤g∧Bf w' g (k+1) F∧S F (k+1)=S f k*2 ^ s∧F k<2 ^ s∧Below w.heap.size w w'
set_option maxHeartbeats 2000000 in
theorem shiftUp_c(a:Option Addr) (k c s:Nat) (f:Nat→Nat) (w:World) (h:Rl w a k f) (hs:s<64) (hk:k<100000) :
  Calls Tryz.prog 193 #[.slice a k c,.int .i64 s] w (UpPost k s f w):=by
 have hmk:=fun w=>mk_limbsI ((k:Int)+1) (k+1) (by omega) (by omega) w
 have hps:0<2 ^ s:=Nat.pow_pos (by decide)
 have HPS:=Zh hps
 have H:=Zh h
 clear h hps
 go_enter Tryz.func193,Tryz.ntmps193
 go_wp2_with fail
 have B0:=Zh (Bf.made w (k+1) 144)
 have BL:Hid (Below w.heap.size w (w.alloc (.cells (madeCells #[.int .u64 0] (k+1)) 144))):=bel_one _ _
 generalize hW1:w.alloc (.cells (madeCells #[.int .u64 0] (k+1)) 144)=W1 at *
 clear hW1 hmk
 go_loopw [14] (fun i wr=>∃ (j:Nat) (F:Nat→Nat),j≤k∧i=.int .i64 j∧Hid (Bf wr w.heap.size (k+1) F∧Below w.heap.size w wr∧(∀ i,j<i→F i=0)∧F j<2 ^ s∧S F (j+1)=2 ^ s*S f j)) (fun i _=>k-(intOf i).toNat)
 case atStart=>exact⟨0,fun _=>0,Nat.zero_le _,rfl,B0.out,BL.out,fun _ _=>rfl,HPS.out,by rw[S_zero,S_one,Nat.mul_zero]⟩
 case round=>
  obtain⟨j,F,hj,rfl,hR⟩:=hrel
  by_cases hlt:j<k
  ·have hlt':(j:Int)<(k:Int):=by omega
   obtain⟨b,off,rfl,hbl,hc1⟩:=(H.out.below hR.out.2.1).at_ hlt
   have hx:=H.out.2.1 j hlt
   have hBj:=hR.out.1.2.2 j (by omega)
   have hBn:=hR.out.1.2.2 (j+1) (by omega)
   have hz:=hR.out.1.2.1 j (by omega)
   have hu:=hR.out.2.2.2.1
   have hf2:=hBj.2
   have hf3:=hBn.2
   obtain⟨r,hr⟩:∃ r,f j*2 ^ s % 18446744073709551616=r:=⟨_,rfl⟩
   obtain⟨q,hq⟩:∃ q,f j*2 ^ s / 18446744073709551616=q:=⟨_,rfl⟩
   have hrb:r<18446744073709551616:=by rw[←hr];exact Nat.mod_lt _ (by decide)
   have hqb:q<2 ^ s:=by rw[←hq];exact shl_high hx
   have e1:=wrap_shl hr
   have e2:(f j:Int) / 2 ^ (64-s)=(q:Int):=shr_cast (by rw[←hq,shr_is hs])
   obtain⟨z,hz2⟩:∃ z,F j ||| r=z:=⟨_,rfl⟩
   have hzs:z=F j+r:=by rw[←hz2,←hr];exact shl_or hs hu
   have hzb:z<18446744073709551616:=by rw[hzs,←hr];exact shl_room hs hu
   have hqb2:q<18446744073709551616:=by
    have:2 ^ s≤2 ^ 64:=Nat.pow_le_pow_right (by decide) (by omega)
    omega
   have e3:=or_cast hz hrb hz2
   have NX:Hid (∀ W,Below wr.heap.size wr W→Bf ((W.setCell ⟨w.heap.size,j,none⟩ (.int .u64 z)).setCell ⟨w.heap.size,j+1,none⟩ (.int .u64 q)) w.heap.size (k+1) (put (put F j z) (j+1) q)∧Below w.heap.size w ((W.setCell ⟨w.heap.size,j,none⟩ (.int .u64 z)).setCell ⟨w.heap.size,j+1,none⟩ (.int .u64 q))∧(∀ i,j+1<i→put (put F j z) (j+1) q i=0)∧put (put F j z) (j+1) q (j+1)<2 ^ s∧S (put (put F j z) (j+1) q) (j+1+1)=2 ^ s*S f (j+1)):=by
    intro W hW
    refine⟨((hR.out.1.below hW).put (by omega) hzb).put (by omega) hqb2,((hR.out.2.1.trans (hW.mono hR.out.2.1.size)).setCell (p:=⟨w.heap.size,j,none⟩) (Nat.le_refl _) _).setCell (p:=⟨w.heap.size,j+1,none⟩) (Nat.le_refl _) _,fun i hi=>?_,by rw[put_same];exact hqb,?_⟩
    ·rw[put_ne (by omega),put_ne (by omega)];exact hR.out.2.2.1 i (by omega)
    ·rw[S_put,S_put,S_succ f,bp_succ,hzs,←hr,←hq]
     have h:=hR.out.2.2.2.2
     rw[S_succ]at h
     exact shl_step h
   have hc2:wr.drew.cell? ⟨w.heap.size,j,none⟩=some (.int .u64 (F j)):=hBj.1
   have hf2':wr.drew.frozen? ⟨w.heap.size,j,none⟩=false:=hf2
   have hf3':wr.drew.frozen? ⟨w.heap.size,j+1,none⟩=false:=hf3
   have hc3:wr.drew.cell? ⟨w.heap.size,j+1,none⟩=some (.int .u64 (F (j+1))):=hBn.1
   have NXD:=Zh (NX.out wr.drew (Below.refl _ _).drew)
   clear hBj hBn hr hq hz2 hzs NX hf2 hf3 hu
   generalize f j=x at *
   generalize F j=u at *
   generalize F (j+1)=u2 at *
   have hj1:j<k+1:=by omega
   have hj1':(j:Int)<(k:Int)+1:=by omega
   have hj1'':(j:Int)<((k+1:Nat):Int):=by omega
   go_wp2_with fail
   refine wp_tail 9 (by kernel_rfl) (by kernel_rfl) ?_
   intro W hW
   rw[←hW]at hc2 hf2' hf3' hc3 NXD
   clear hW
   simp only[List.take_succ_cons,List.take_zero,List.drop_succ_cons,List.drop_zero]
   repeat still_step
   refine wpStill_nil ?_
   go_wp2
   go_roundw
   case rel=>exact⟨j+1,_,by omega,by go_num,NXD.out⟩
   case measure=>simp[intOf];omega
  ·obtain rfl:j=k:=by omega
   clear hlt
   go_wp2
   go_ret
   exact⟨w.heap.size,F,rfl,Nat.le_refl _,hR.out.1,by rw[Nat.mul_comm];exact hR.out.2.2.2.2,hR.out.2.2.2.1,hR.out.2.1⟩
theorem put_comm{f:Nat→Nat}{i j x y:Nat}(h:i≠j):put (put f i x) j y=put (put f j y) i x:=by
 funext m
 unfold put
 by_cases h1:m=j
 ·rw[if_pos h1,if_neg (by omega),if_pos h1]
 ·rw[if_neg h1,if_neg h1]
def DownS(s:Nat)(f F:Nat→Nat)(j:Nat):Prop:=(∀ p,j=p+1→F p<2 ^ (64-s))∧2 ^ s*S F j+(if j=0 then 0 else f 0 % 2 ^ s)=S f j
theorem DownS.first{s:Nat}{f F:Nat→Nat}(hs:s<64)(hx:f 0<18446744073709551616):DownS s f (put F 0 (f 0 / 2 ^ s)) 1:=by
 refine⟨fun p hp=>?_,?_⟩
 ·obtain rfl:p=0:=by omega
  rw[put_same];exact shd_high hs hx
 ·rw[S_one,S_one,put_same,if_neg (by omega)]
  exact Nat.div_add_mod _ _
theorem DownS.next{s p:Nat} {f F:Nat→Nat} (hs:s<64) (hx:f (p+1)<18446744073709551616) (h:DownS s f F (p+1)) :
  DownS s f (put (put F (p+1) (f (p+1) / 2 ^ s)) p (F p+f (p+1) % 2 ^ s*2 ^ (64-s))) (p+1+1):=by
 refine⟨fun q hq=>?_,?_⟩
 ·obtain rfl:q=p+1:=by omega
  rw[put_ne (by omega),put_same];exact shd_high hs hx
 ·have h2:=h.2
  rw[if_neg (by omega)]at h2 ⊢
  rw[put_comm (by omega),S_put,S_put,S_succ f,bp_succ]
  have t:=shd_step (f:=f (p+1)) (P:=bp p) hs h2
  rw[S_succ F]at t
  rw[show S F p+(F p+f (p+1) % 2 ^ s*2 ^ (64-s))*bp p+f (p+1) / 2 ^ s*(bp p*18446744073709551616)=S F p+F p*bp p+f (p+1) % 2 ^ s*2 ^ (64-s)*bp p+f (p+1) / 2 ^ s*(bp p*18446744073709551616) by rw[Nat.add_mul];omega]
  exact t
set_option maxHeartbeats 2000000 in
theorem shiftDown_c(a:Option Addr) (k c s:Nat) (f:Nat→Nat) (w:World) (h:Rl w a k f) (hs:s<64) :
  Calls Tryz.prog 195 #[.slice a k c,.int .i64 s] w (NmPost (S f k / 2 ^ s) w):=by
 have hk:=h.1
 have hmk:=fun w=>mk_limbs k hk w
 have H:=Zh h
 clear h
 go_enter Tryz.func195,Tryz.ntmps195
 go_wp2_with fail
 have B0:=Zh (Bf.made w k 144)
 have BL:Hid (Below w.heap.size w (w.alloc (.cells (madeCells #[.int .u64 0] k) 144))):=bel_one _ _
 generalize hW1:w.alloc (.cells (madeCells #[.int .u64 0] k) 144)=W1 at *
 clear hW1 hmk
 go_loopw [13] (fun i wr=>∃ (j:Nat) (F:Nat→Nat),j≤k∧i=.int .i64 j∧Hid (Bf wr w.heap.size k F∧Below w.heap.size w wr∧DownS s f F j)) (fun i _=>k-(intOf i).toNat)
 case atStart=>exact⟨0,fun _=>0,Nat.zero_le _,rfl,B0.out,BL.out,fun p hp=>by omega,by rw[S_zero,S_zero,if_pos rfl,Nat.mul_zero]⟩
 case round=>
  obtain⟨j,F,hj,rfl,hR⟩:=hrel
  by_cases hlt:j<k
  ·have hlt':(j:Int)<(k:Int):=by omega
   obtain⟨b,off,rfl,hbl,hc1⟩:=(H.out.below hR.out.2.1).at_ hlt
   have hx:=H.out.2.1 j hlt
   have hBj:=hR.out.1.2.2 j hlt
   have hc2:=hBj.1
   have hf2:=hBj.2
   obtain⟨q,hq⟩:∃ q,f j / 2 ^ s=q:=⟨_,rfl⟩
   have e2:(f j:Int) / 2 ^ s=(q:Int):=shr_cast hq
   have hqb2:q<18446744073709551616:=by rw[←hq];have:=Nat.div_le_self (f j) (2 ^ s);omega
   rcases Nat.eq_zero_or_pos j with e|e
   ·subst e
    have NX:Hid (Bf (wr.setCell ⟨w.heap.size,0,none⟩ (.int .u64 q)) w.heap.size k (put F 0 q)∧Below w.heap.size w (wr.setCell ⟨w.heap.size,0,none⟩ (.int .u64 q))∧DownS s f (put F 0 q) 1):=by
     refine⟨hR.out.1.put hlt hqb2,hR.out.2.1.setCell (p:=⟨w.heap.size,0,none⟩) (Nat.le_refl _) _,?_⟩
     rw[←hq];exact DownS.first hs hx
    clear hBj hq
    rw[Nat.add_zero]at hc1
    generalize f 0=x at *
    generalize F 0=u at *
    go_wp2
    go_roundw
    case rel=>exact⟨1,_,by omega,by go_num,NX.out⟩
    case measure=>simp[intOf];omega
   ·obtain⟨p,rfl⟩:∃ p,j=p+1:=⟨j-1,by omega⟩
    have hBp:=hR.out.1.2.2 p (by omega)
    have hu:=hR.out.2.2.1 p rfl
    have hub:=hR.out.1.2.1 p (by omega)
    obtain⟨r,hr⟩:∃ r,f (p+1)*2 ^ (64-s) % 18446744073709551616=r:=⟨_,rfl⟩
    have hrb:r<18446744073709551616:=by rw[←hr];exact Nat.mod_lt _ (by decide)
    have e1:=wrap_shl hr
    obtain⟨z,hz2⟩:∃ z,F p ||| r=z:=⟨_,rfl⟩
    have hzs:z=F p+f (p+1) % 2 ^ s*2 ^ (64-s):=by rw[←hz2,←hr,←shd_low hs];exact shd_or hs hu
    have hzb:z<18446744073709551616:=by rw[hzs];exact shd_room hs hu
    have e3:=or_cast hub hrb hz2
    have NX:Hid (∀ W,Below (wr.setCell ⟨w.heap.size,p+1,none⟩ (.int .u64 q)).heap.size (wr.setCell ⟨w.heap.size,p+1,none⟩ (.int .u64 q)) W→Bf (W.setCell ⟨w.heap.size,p,none⟩ (.int .u64 z)) w.heap.size k (put (put F (p+1) q) p z)∧Below w.heap.size w (W.setCell ⟨w.heap.size,p,none⟩ (.int .u64 z))∧DownS s f (put (put F (p+1) q) p z) (p+1+1)):=by
     intro W hW
     have hb1:Below w.heap.size w (wr.setCell ⟨w.heap.size,p+1,none⟩ (.int .u64 q)):=hR.out.2.1.setCell (p:=⟨w.heap.size,p+1,none⟩) (Nat.le_refl _) _
     refine⟨((hR.out.1.put hlt hqb2).below hW).put (by omega) hzb,(hb1.trans (hW.mono hb1.size)).setCell (p:=⟨w.heap.size,p,none⟩) (Nat.le_refl _) _,?_⟩
     rw[←hq,hzs];exact DownS.next hs hx hR.out.2.2
    have hc5:(wr.setCell ⟨w.heap.size,p+1,none⟩ (.int .u64 q)).drew.cell? ⟨w.heap.size,p,none⟩=some (.int .u64 (F p)):=by
     show (wr.setCell ⟨w.heap.size,p+1,none⟩ (.int .u64 q)).cell? ⟨w.heap.size,p,none⟩=_
     rw[World.cell?_setCell_other _ _ _ _ (by intro e;injection e with _ e2;omega)];exact hBp.1
    have hf5:(wr.setCell ⟨w.heap.size,p+1,none⟩ (.int .u64 q)).drew.frozen? ⟨w.heap.size,p,none⟩=false:=by
     show (wr.setCell ⟨w.heap.size,p+1,none⟩ (.int .u64 q)).frozen? ⟨w.heap.size,p,none⟩=_
     rw[World.frozen?_setCell];exact hBp.2
    have NXD:=Zh (NX.out (wr.setCell ⟨w.heap.size,p+1,none⟩ (.int .u64 q)).drew (Below.refl _ _).drew)
    clear hBj hBp hq hr hz2 hzs NX hu
    generalize f (p+1)=x at *
    generalize F p=u at *
    generalize F (p+1)=u2 at *
    have hwp:IntKind.i64.wrap (p:Int)=p:=by rw[IntKind.wrap_i64];omega
    have hw64:IntKind.i64.wrap (64-(s:Int))=64-(s:Int):=by rw[IntKind.wrap_i64];omega
    have hp1:p<k:=by omega
    have hp1':(p:Int)<(k:Int):=by omega
    have hlt2:(p:Int)+1<(k:Int):=by omega
    go_wp2_with fail
    generalize hW0:wr.setCell ⟨w.heap.size,p+1,none⟩ (.int .u64 q)=W0 at *
    refine wp_tail 11 (by kernel_rfl) (by kernel_rfl) ?_
    intro W hW
    rw[←hW]at hc5 hf5 NXD
    clear hW hW0
    simp only[List.take_succ_cons,List.take_zero,List.drop_succ_cons,List.drop_zero]
    repeat still_step
    refine wpStill_nil ?_
    go_wp2
    go_roundw
    case rel=>exact⟨p+1+1,_,by omega,by go_num,NXD.out⟩
    case measure=>simp[intOf];omega
  ·obtain rfl:j=k:=by omega
   clear hlt
   have E:Hid (S F j=S f j / 2 ^ s):=by
    unfold Hid
    have h:=hR.out.2.2.2
    have hp:0<2 ^ s:=Nat.pow_pos (by decide)
    have hm:(if j=0 then 0 else f 0 % 2 ^ s)<2 ^ s:=by
     split
     ·exact hp
     ·exact Nat.mod_lt _ hp
    rw[←h,Nat.mul_add_div hp,Nat.div_eq_of_lt hm,Nat.add_zero]
   have BB:=Zh hR.out.1
   have BL2:=Zh hR.out.2.1
   clear hR
   go_wp2_with fail
   refine (trim_c (some ⟨w.heap.size,0,none⟩) j j F wr (BB.out.rl0 (Nat.le_refl _) hk) (Nat.le_refl _) (by omega) (Pl.some_ _ _)).mono ?_
   rintro e w5 ⟨a',k',c',rfl,hN,b5⟩
   rw[E.out]at hN
   have R:=Zh (show NmPost (S f j / 2 ^ s) w (.returned (.slice a' k' c')) w5 from ⟨a',k',c',rfl,hN,BL2.out.trans (b5.mono BL2.out.size)⟩)
   clear hN b5
   go_wp2
   go_ret
   exact R.out
def GuessPost(high low top:Nat)(w:World)(e:Ending)(w':World):Prop:=
 ∃ q:Nat,e=.returned (.int .u64 (q:Int))∧q<18446744073709551616∧((top≤high∧q+1=18446744073709551616)∨high*18446744073709551616+low<(q+1)*top)∧∃ n,w'=w.drewN n
set_option maxHeartbeats 2000000 in
theorem guessLimb_c(a b:Option Addr) (m c1 c2:Nat) (f g:Nat→Nat) (w:World) (h1:Rl w a (m+1+1) f) (h2:Rl w b (m+1) g) (ht:0<g m) :
  Calls Tryz.prog 205 #[.slice a (m+1+1) c1,.slice b (m+1) c2] w (GuessPost (f (m+1)) (f m) (g m) w):=by
 obtain⟨b1,o1,rfl,hbl1,hh⟩:=h1.at_ (show m+1<m+1+1 by omega)
 obtain⟨b1',o1',e,_,hl⟩:=h1.at_ (show m<m+1+1 by omega)
 injection e with e
 injection e with e1 e2
 subst e1 e2
 obtain⟨b2,o2,rfl,hbl2,htc⟩:=h2.at_ (show m<m+1 by omega)
 have hhb:=h1.2.1 (m+1) (by omega)
 have hlb:=h1.2.1 m (by omega)
 have htb:=h2.2.1 m (by omega)
 have hm100:m<100000:=by have:=h1.1;omega
 have hwm:IntKind.i64.wrap (m:Int)=m:=by rw[IntKind.wrap_i64];omega
 clear h1 h2
 generalize f (m+1)=high at *
 generalize f m=low at *
 generalize g m=top at *
 have x1:m<m+1+1:=by omega
 have x2:m+1<m+1+1:=by omega
 have x3:m<m+1:=by omega
 have y1:(m:Int)<(m:Int)+1+1:=by omega
 have y2:(m:Int)+1<(m:Int)+1+1:=by omega
 have y3:(m:Int)<(m:Int)+1:=by omega
 by_cases hge:top≤high
 ·have hge':(top:Int)≤(high:Int):=by omega
  go_enter Tryz.func205,Tryz.ntmps205
  go_wp2_with fail
  go_quiet (fail)
  go_wp2
  go_ret
  exact⟨18446744073709551615,rfl,by decide,.inl ⟨hge,rfl⟩,_,rfl⟩
 ·have hge':¬ (top:Int)≤(high:Int):=by omega
  have HD:=Zh (fun w=>div64_c high low top w hlb (by omega) htb)
  go_enter Tryz.func205,Tryz.ntmps205
  go_wp2_with fail
  go_quiet (fail)
  go_wp2_with fail
  refine (HD.out _).mono ?_
  rintro e w2 ⟨q,r,rfl,hq,hr,n2,rfl⟩
  have R:Hid (q<18446744073709551616∧high*18446744073709551616+low<(q+1)*top):=by
   have hd:=Nat.lt_mul_div_succ (high*18446744073709551616+low) ht
   refine⟨?_,by rw[hq,Nat.mul_comm _ top];exact hd⟩
   rw[hq]
   refine Nat.div_lt_of_lt_mul ?_
   have:(high+1)*18446744073709551616≤top*18446744073709551616:=Nat.mul_le_mul_right _ (by omega)
   omega
  clear hq hr
  go_wp2
  go_ret
  exact⟨q,rfl,R.out.1,.inr R.out.2,⟨_,rfl⟩⟩
end Go.Proofs.YtghgbhmiliiohaaGreatDoor
