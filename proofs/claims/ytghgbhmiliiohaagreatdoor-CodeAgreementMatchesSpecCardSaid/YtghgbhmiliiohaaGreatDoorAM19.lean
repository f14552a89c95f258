/-
  Reading decimal texts of numbers of any size: readChunk.
-/
import Derived.Test.YtghgbhmiliiohaaGreatDoorAM17
import Derived.Test.YtghgbhmiliiohaaGreatDoorAMQ
import Derived.Test.YtghgbhmiliiohaaGreatDoorAM18
import Derived.OwnWalk
import Derived.Laws.IdiomStrings
import Derived.Maps.AppendAt
import Derived.Lib.Bytealg
set_option maxRecDepth 100000
namespace Go.Proofs.YtghgbhmiliiohaaGreatDoor
open Go.RowKit
structure F3 (w:World) (b1:Bool) (a1:Option Addr) (k1 c1:Nat) (d1:Bool) (e1:Option Addr) (m1 q1:Nat) (b2:Bool) (a2:Option Addr) (k2 c2:Nat) (d2:Bool) (e2:Option Addr) (m2 q2:Nat) (W:World):Prop where
 x:B4 W w.heap.size (.bool b1) (.slice a1 k1 c1) (.bool d1) (.slice e1 m1 q1)
 y:B4 W (w.heap.size+1) (.bool b2) (.slice a2 k2 c2) (.bool d2) (.slice e2 m2 q2)
 r:B4 W (w.heap.size+1+1) (.bool false) (.slice none 0 0) (.bool false) (.slice none 0 0)
 bel:Below w.heap.size w W
theorem F3.keep{w:World}{b1:Bool}{a1:Option Addr}{k1 c1:Nat}{d1:Bool}{e1:Option Addr}{m1 q1:Nat}{b2:Bool}{a2:Option Addr}{k2 c2:Nat}{d2:Bool}{e2:Option Addr}{m2 q2:Nat}{W W':World}(h:F3 w b1 a1 k1 c1 d1 e1 m1 q1 b2 a2 k2 c2 d2 e2 m2 q2 W)(hb:Below W.heap.size W W'):F3 w b1 a1 k1 c1 d1 e1 m1 q1 b2 a2 k2 c2 d2 e2 m2 q2 W':=
 ⟨h.x.keep hb,h.y.keep hb,h.r.keep hb,h.bel.trans (hb.mono h.bel.size)⟩
theorem F3.made(w:World) (b1:Bool) (a1:Option Addr) (k1 c1:Nat) (d1:Bool) (e1:Option Addr) (m1 q1:Nat) (b2:Bool) (a2:Option Addr) (k2 c2:Nat) (d2:Bool) (e2:Option Addr) (m2 q2:Nat) (T1 T2 T3:TypeId) :
  F3 w b1 a1 k1 c1 d1 e1 m1 q1 b2 a2 k2 c2 d2 e2 m2 q2 (((w.alloc (.cells #[.bool b1,.slice a1 k1 c1,.bool d1,.slice e1 m1 q1] T1)).alloc (.cells #[.bool b2,.slice a2 k2 c2,.bool d2,.slice e2 m2 q2] T2)).alloc (.cells #[.bool false,.slice none 0 0,.bool false,.slice none 0 0] T3)):=by
 have s1:(w.alloc (.cells #[.bool b1,.slice a1 k1 c1,.bool d1,.slice e1 m1 q1] T1)).heap.size=w.heap.size+1:=by simp
 have s2:((w.alloc (.cells #[.bool b1,.slice a1 k1 c1,.bool d1,.slice e1 m1 q1] T1)).alloc (.cells #[.bool b2,.slice a2 k2 c2,.bool d2,.slice e2 m2 q2] T2)).heap.size=w.heap.size+1+1:=by simp
 refine⟨((B4.made w _ _ _ _ T1).keep (bel_one _ _)).keep (bel_one _ _),?_,?_,?_⟩
 ·rw[←s1];exact (B4.made _ _ _ _ _ T2).keep (bel_one _ _)
 ·rw[←s2];exact B4.made _ _ _ _ _ T3
 ·exact (((Below.refl _ _).alloc (Nat.le_refl _) _).alloc (by simp) _).alloc (by simp;omega) _
def SF(g:Nat)(b1:Bool)(a1:Option Addr)(k1 c1:Nat)(d1:Bool)(e1:Option Addr)(m1 q1:Nat)(b2:Bool)(a2:Option Addr)(k2 c2:Nat)(d2:Bool)(e2:Option Addr)(m2 q2:Nat)(W:World):Prop:=
 W.cell? ⟨g,0,none⟩=some (.bool b1)∧W.cell? ⟨g,1,none⟩=some (.slice a1 k1 c1)∧W.cell? ⟨g,2,none⟩=some (.bool d1)∧W.cell? ⟨g,3,none⟩=some (.slice e1 m1 q1) ∧
 W.cell? ⟨g+1,0,none⟩=some (.bool b2)∧W.cell? ⟨g+1,1,none⟩=some (.slice a2 k2 c2)∧W.cell? ⟨g+1,2,none⟩=some (.bool d2)∧W.cell? ⟨g+1,3,none⟩=some (.slice e2 m2 q2)
theorem F3.si{w:World}{b1:Bool}{a1:Option Addr}{k1 c1:Nat}{d1:Bool}{e1:Option Addr}{m1 q1:Nat}{b2:Bool}{a2:Option Addr}{k2 c2:Nat}{d2:Bool}{e2:Option Addr}{m2 q2:Nat}{W:World}(h:F3 w b1 a1 k1 c1 d1 e1 m1 q1 b2 a2 k2 c2 d2 e2 m2 q2 W):SF w.heap.size b1 a1 k1 c1 d1 e1 m1 q1 b2 a2 k2 c2 d2 e2 m2 q2 W:=⟨h.x.c0,h.x.c1,h.x.c2,h.x.c3,h.y.c0,h.y.c1,h.y.c2,h.y.c3⟩
theorem bp_mul{x y i j:Nat}(hx:x<bp i)(hy:y<bp j):x*y<bp (i+j):=by
 rw[bp_add]
 have:=bp_pos i
 exact Nat.mul_lt_mul_of_lt_of_lt hx hy
theorem bpz_mul{x y:Int}{i j k:Nat}(hx:x.natAbs<bp i)(hy:y.natAbs<bp j)(hk:i+j≤k):(x*y).natAbs<bp k:=by
 rw[Int.natAbs_mul]
 exact Nat.lt_of_lt_of_le (bp_mul hx hy) (bp_mono hk)
theorem bpz_add{x y:Int}{i k:Nat}(hx:x.natAbs<bp i)(hy:y.natAbs<bp i)(hk:i+1≤k):(x+y).natAbs<bp k:=by
 refine Nat.lt_of_lt_of_le ?_ (bp_mono hk)
 rw[bp_succ]
 have:=Int.natAbs_add_le x y
 omega
structure F2 (w:World) (b1:Bool) (a1:Option Addr) (k1 c1:Nat) (d1:Bool) (e1:Option Addr) (m1 q1:Nat) (b2:Bool) (a2:Option Addr) (k2 c2:Nat) (d2:Bool) (e2:Option Addr) (m2 q2:Nat) (W:World):Prop where
 x:B4 W w.heap.size (.bool b1) (.slice a1 k1 c1) (.bool d1) (.slice e1 m1 q1)
 y:B4 W (w.heap.size+1) (.bool b2) (.slice a2 k2 c2) (.bool d2) (.slice e2 m2 q2)
 bel:Below w.heap.size w W
def bvals(l:List UInt8):List Value:=l.map fun x=>Value.int .u8 (x.toNat:Int)
theorem bvals_append(a b:List UInt8):bvals (a ++ b)=bvals a ++ bvals b:=by unfold bvals;rw[List.map_append]
def cdig(n k:Nat):List UInt8:=(List.range k).map fun i=>UInt8.ofNat (48+n / pw i % 10)
theorem cdig_succ(n k:Nat):cdig n (k+1)=cdig n k ++ [UInt8.ofNat (48+n / pw k % 10)]:=by unfold cdig;rw[List.range_succ,List.map_append];rfl
theorem cdig_length(n k:Nat):(cdig n k).length=k:=by simp[cdig]
theorem cdig_padL(n:Nat):cdig n 19=padL 19 n:=by
 unfold cdig padL
 refine List.map_congr_left fun i hi=>?_
 have hi:=List.mem_range.1 hi
 rw[pw_eq (by omega),show 19-1-i=18-i by omega]
structure Byt (B:Nat) (w0:World) (l:List UInt8) (v:Value) (w:World):Prop where
 row:w.ownsRow B 5 1 v l.length (bvals l)
 bel:Below B w0 w
 size:B≤w.heap.size
theorem Byt.more{B:Nat}{w0 w w':World}{l:List UInt8}{v v':Value}(h:Byt B w0 l v w)(x:UInt8)(hown:w'.ownsRow B 5 1 v' (l.length+1) (bvals l ++ [.int .u8 (x.toNat:Int)]))(o:Obj)(hg:(w.alloc o).grownBy w' v.ownBlock):Byt B w0 (l ++ [x]) v' w':=by
 have hb:=(h.bel.alloc h.size o).grown hg (by simp;have:=h.size;omega) (fun b hb=>(World.ownsRow.lt (h.row.alloc o) b hb).1)
 refine⟨?_,hb,Nat.le_trans (Nat.le_trans h.size (by simp)) hg.size⟩
 rw[bvals_append,List.length_append]
 exact hown
theorem infoB:(Tryz.prog.info? 5).map (fun i=>(i.zero,i.size,i.bytes))=some (some (.int .u8 0),1,1):=by kernel_rfl
theorem info_byte:∃ i,Tryz.prog.info? 5=some i∧i.zero=some (.int .u8 0)∧i.size=1∧i.bytes=1:=by
 have h:=infoB
 cases e:Tryz.prog.info? 5 with
 | none=>rw[e]at h;cases h
 | some i=>rw[e]at h;simp at h;exact⟨i,rfl,h⟩
set_option maxHeartbeats 1000000 in
theorem appendChunk_c(v:Value) (n B:Nat) (l:List UInt8) (w0 w:World) (hn:n<10000000000000000000) (hl:l.length≤200000) (hv:Byt B w0 l v w) :
  Calls Tryz.prog 125 #[v,.int .u64 n] w fun e w'=>∃ v',e=.returned v'∧Byt B w0 (l ++ padL 19 n) v' w':=by
 obtain⟨i0,hi,hz0,hz1,hz2⟩:=info_byte
 have HN:=Zh hn
 have H0:Hid (Byt B w0 (l ++ cdig n 0) v w):=by
  have e:l ++ cdig n 0=l:=by simp[cdig]
  unfold Hid;rw[e];exact hv
 have HL:=Zh hl
 clear hn hv hl
 go_enter Tryz.func125,Tryz.ntmps125
 go_wp2
 go_loopw [0,5] (fun v p wr=>∃ i:Nat,i≤19∧p=.int .u64 (pw i)∧Hid (Byt B w0 (l ++ cdig n i) v wr)) (fun _ p _=>(intOf p).toNat)
 case atStart=>exact⟨0,by omega,rfl,H0⟩
 case round=>
  obtain⟨i,hi19,rfl,hC⟩:=hrel
  by_cases hlt:i<19
  ·have hp:0<pw i:=by rw[pw_eq (by omega)];exact Nat.pow_pos (by decide)
   have hp':(0:Int)<(pw i:Int):=by omega
   have hpb:=pw_le i
   have hs:=Zh (pw_succ i)
   have hps:=Zh (cdig_succ n i)
   have hdt:=Zh (digit_toNat (d:=n / pw i % 10) (Nat.mod_lt _ (by decide)))
   obtain⟨q,hq⟩:∃ q,n / pw i=q:=⟨_,rfl⟩
   obtain⟨p2,hp2⟩:∃ p,pw i / 10=p:=⟨_,rfl⟩
   have hqb:q<18446744073709551616:=by rw[←hq];have:=Nat.div_le_self n (pw i);have:=HN.out;omega
   have e1:(n:Int) / (pw i:Int)=(q:Int):=div_cast hq
   have w1:IntKind.u64.wrap (q:Int)=(q:Int):=wrap_lt hqb
   have e2:(pw i:Int) / 10=(p2:Int):=by rw[←hp2,Int.natCast_ediv];rfl
   have w2:IntKind.u64.wrap (p2:Int)=(p2:Int):=wrap_lt (by omega)
   have HP2:Hid (p2<pw i):=by unfold Hid;rw[←hp2];exact Nat.div_lt_self hp (by decide)
   rw[hq]at hps hdt
   rw[hp2]at hs
   obtain⟨d,hd⟩:∃ d,q % 10=d:=⟨_,rfl⟩
   have hd10:d<10:=by rw[←hd];exact Nat.mod_lt _ (by decide)
   have e3:(q:Int) % 10=(d:Int):=by rw[←hd,Int.natCast_emod];rfl
   rw[hd]at hps hdt
   clear hq hp2 hd
   have hlen:(l ++ cdig n i).length=l.length+i:=by rw[List.length_append,cdig_length]
   have HLEN:=Zh hlen
   clear hlen
   generalize pw i=p at *
   go_wp2_with (at_builtin;refine wpList_append_own _ rfl _ _ 116 rfl B 5 i0 (.int .u8 0) 1 1 Tryz.underlying116 hi hz0 hz1 hz2 rfl (by decide) _ _ _ rfl (hC.out.row.alloc _) ⟨wr.heap.size,0,none⟩ 1 1 [.int .u8 (48+(d:Int))] rfl rfl ?c1 ?c2 ?c3 ?c4 ?c5 ?_)
   case c1=>
    intro j u hj
    match j,hj with
    | 0,hj=>simp at hj;subst hj;simp[Addr.add]
   case c2=>intro u hu;simp at hu;subst hu;rfl
   case c3=>have:=HLEN.out;have:=HL.out;unfold maxLen;omega
   case c4=>have:=HLEN.out;have:=HL.out;omega
   case c5=>have:=hC.out.size;simp;omega
   intro v' w1 hown' hgrow _
   have hC':Hid (Byt B w0 (l ++ cdig n (i+1)) v' w1):=by
    unfold Hid
    rw[hps.out,←List.append_assoc]
    refine hC.out.more _ ?_ _ hgrow
    rw[hdt.out,show ((48+d:Nat):Int)=48+(d:Int) by omega,List.length_append]
    exact hown'
   clear hown' hgrow hC
   go_wp2
   go_roundw
   case rel=>exact⟨i+1,by omega,by rw[hs.out],hC'.out⟩
   case measure=>simp[intOf];have:=HP2.out;omega
  ·obtain rfl:i=19:=by omega
   rw[pw_end]
   go_wp2
   go_ret
   exact⟨_,rfl,by rw[←cdig_padL];exact hC.out⟩
def tz(z:Int):List UInt8:=if z<0 then 45::Lib.decDigits z.natAbs else Lib.decDigits z.natAbs
def tzB(z:Int):ByteArray:=⟨(tz z).toArray⟩
def TzPost(z:Int)(w:World)(e:Ending)(w':World):Prop:=e=.returned (.string (tzB z))∧Below w.heap.size w w'
theorem own_open{w:World} {B n:Nat} {e:TypeId} {v:Value} {xs:List Value} (h:w.ownsRow B e 1 v n xs) (hn:0<n) :
  ∃ g cap,v=.slice (some ⟨g,0,none⟩) n cap∧B≤g∧g<w.heap.size∧∀ j u,xs[j]?=some u→w.cell? ⟨g,j,none⟩=some u:=by
 have hc:=fun (g:Nat) (hg:v.ownBlock=some g)=>World.ownsRow.cells h hg
 obtain⟨hl,h|⟨g,cap,cur,rfl,hb,hg,hnc,hm,hs,ht⟩⟩:=h
 ·omega
 ·exact⟨g,cap,rfl,hb,lt_of_block hg,fun j u hj=>by have t:=hc g rfl j u hj;by_cases h0:j=0<;>simpa[Addr.add,h0] using t⟩
theorem own_keep{W W':World}{base:Nat}{e:TypeId}{size:Nat}{v:Value}{n:Nat}{xs:List Value}(h:W.ownsRow base e size v n xs)(hb:Below W.heap.size W W'):W'.ownsRow base e size v n xs:=by
 obtain⟨hl,h|⟨g,cap,cur,rfl,h1,hg,h2⟩⟩:=h
 ·exact⟨hl,.inl h⟩
 ·exact⟨hl,.inr ⟨g,cap,cur,rfl,h1,(hb.block g (lt_of_block hg)).trans hg,h2⟩⟩
def cvals(n m:Nat):List Value:=(List.range m).map fun i=>Value.int .u64 (chunk n i:Int)
theorem cvals_succ(n m:Nat):cvals n (m+1)=cvals n m ++ [.int .u64 (chunk n m:Int)]:=by unfold cvals;rw[List.range_succ,List.map_append];rfl
theorem cvals_at{n m j:Nat}(h:j<m):(cvals n m)[j]?=some (.int .u64 (chunk n j:Int)):=by unfold cvals;simp[h]
structure TxA (g0:Nat) (W1:World) (n j:Nat) (v:Value) (a:Option Addr) (k c:Nat) (w:World):Prop where
 row:w.ownsRow g0 144 1 v j (cvals n j)
 lim:Nm w a k c (n / ch ^ j)
 bel:Below g0 W1 w
 size:g0≤w.heap.size
 apart:∀ b off,a=some ⟨b,off,none⟩→some b≠v.ownBlock
 cnt:j≤4000
theorem Text_zero(a:Option Addr)(c:Nat)(w:World):Calls Tryz.prog 97 #[.agg #[.bool false,.slice a 0 c]] w (TzPost 0 w):=by
 go_enter Tryz.func97,Tryz.ntmps97
 go_wp2
 go_ret
 exact⟨by
  have e:tzB 0=⟨#[48]⟩:=by unfold tzB tz;rw[if_neg (by decide),show (0:Int).natAbs=0 from rfl,Lib.decDigits_one (by decide)];rfl
  rw[e];rfl,bel_one _ _⟩
set_option maxHeartbeats 4000000 in
theorem Text_c(b:Bool)(a:Option Addr)(k c:Nat)(z:Int)(w:World)(h:Zn w b a k c z)(hz:z.natAbs<bp 2000):Calls Tryz.prog 97 #[.agg #[.bool b,.slice a k c]] w (TzPost z w):=by
 rcases Nat.eq_zero_or_pos k with hk0|hk0
 ·subst hk0
  have hz0:=h.zero_len.1 rfl
  subst hz0
  obtain rfl:b=false:=by rw[h.sign];rfl
  exact Text_zero a c w
 ·have hne:((k:Int) == 0)=false:=by rw[beq_eq_false_iff_ne];omega
  have hne':(k == 0)=false:=by rw[beq_eq_false_iff_ne];omega
  obtain⟨i0,hi,hz0,hz1,hz2⟩:=info_limb
  obtain⟨j0,hj,hy0,hy1,hy2⟩:=info_byte
  obtain⟨n,hn⟩:∃ n,z.natAbs=n:=⟨_,rfl⟩
  have hN:=h.nm
  rw[hn]at hN hz
  have hn0:0<n:=by
   have:=hN.pos hk0
   have:=bp_pos (k-1)
   omega
  have HZ:Hid (∀ l,(if b then (45:UInt8)::l else l)=if z<0 then 45::l else l):=by
   intro l
   have:=h.sign
   by_cases e:z<0
   ·rw[this,if_pos e];simp[e]
   ·rw[this,if_neg e];simp[e]
  have HN:=Zh hn
  have HBP:=Zh hz
  have HP:=Zh hn0
  obtain⟨W1,hW1⟩:∃ W1,w.alloc (.cells #[.bool b,.slice a k c] 107)=W1:=⟨_,rfl⟩
  have X1:B2 W1 w.heap.size (.bool b) (.slice a k c):=by rw[←hW1];exact B2.made _ _ _ _
  have B1:Hid (Below w.heap.size w W1):=by rw[←hW1];exact bel_one _ _
  have S1:Hid (w.heap.size+1≤W1.heap.size):=by rw[←hW1];simp[Hid]
  have A0:Hid (TxA (w.heap.size+1) W1 n 0 (.slice none 0 0) a k c W1):=⟨World.ownsRow_nil _ _ _ _,by rw[Nat.pow_zero,Nat.div_one];exact hN.below B1.out,Below.refl _ _,S1.out,(fun _ _ _ e=>nomatch e),by omega⟩
  have D0:=Zh X1.c0
  have d0:=X1.c0
  have d1:=X1.c1
  clear h hz hn hN hn0 X1 hk0
  go_enter Tryz.func97,Tryz.ntmps97
  go_wp2_with fail
  clear hW1 d0 d1 hne hne'
  go_loopw [3,4] (fun v l wr=>∃ (j:Nat) (a':Option Addr) (k' c':Nat),l=.slice a' k' c'∧Hid (TxA (w.heap.size+1) W1 n j v a' k' c' wr)) (fun _ l W=>numAt W l)
  case atStart=>exact⟨0,a,k,c,rfl,A0.out⟩
  case round=>
   clear A0
   obtain⟨j,a',k',c',rfl,hA⟩:=hrel
   rcases Nat.eq_zero_or_pos k' with e|e
   ·subst e
    have hq0:n / ch ^ j=0:=by have h1:=hA.out.lim.lt;rw[bp_zero]at h1;exact Nat.lt_one_iff.1 h1
    have HTOP:=Zh (zero_next hq0)
    have hj0:0<j:=by
     rcases Nat.eq_zero_or_pos j with e|e
     ·subst e;rw[Nat.pow_zero,Nat.div_one]at hq0;have:=HP.out;omega
     ·exact e
    have hjb:=hA.out.cnt
    obtain⟨g,cap,rfl,hgB,hgs,hcell⟩:=own_open hA.out.row hj0
    have HCELL:Hid (∀ p,p<j→wr.cell? ⟨g,p,none⟩=some (.int .u64 (chunk n p:Int))):=fun p hp=>hcell p _ (cvals_at hp)
    have HW:=Zh hA.out.bel
    have HSZ:=Zh hA.out.size
    have HGS:=Zh hgs
    have HLEN:Hid ((Lib.decDigits n).length≤100000):=by
     unfold Hid
     rw[←trim_padL (19*j) n HP.out HTOP.out]
     have h1:=(List.dropWhile_suffix (l:=padL (19*j) n) (· == (48:UInt8))).length_le
     rw[padL_length]at h1
     omega
    clear hcell hq0 hA hgs
    obtain⟨wp,rfl⟩:∃ wp,wp=wr:=⟨_,rfl⟩
    go_wp2_with (at_make;refine wpList_make_own _ rfl _ _ 116 rfl wp.heap.size 5 j0 (.int .u8 0) 1 Tryz.underlying116 hj hy0 hy1 .i64 .i64 _ (j*19) rfl rfl (by first | rfl | omega | simp) (by rw[hy2];omega) (by unfold maxLen;omega) (Nat.le_refl _) ?_;intro w0 hown0 hgrow0)
    have HG0:=Zh hgrow0
    have HX0:Hid (w0.cell? ⟨w.heap.size,0,none⟩=some (.bool b)):=by
     have e1:wp.cell? ⟨w.heap.size,0,none⟩=some (.bool b):=by rw[HW.out.cell (p:=⟨w.heap.size,0,none⟩) (Nat.lt_succ_self _)];exact D0.out
     exact HG0.out.cell e1 (by simp)
    have HC0:Hid (∀ p,p<j→w0.cell? ⟨g,p,none⟩=some (.int .u64 (chunk n p:Int))):=fun p hp=>HG0.out.cell (HCELL.out p hp) (by simp)
    have Y0:Hid (Byt wp.heap.size w0 (padL (19*(j-j)) (n / ch ^ j)) (.slice (some ⟨wp.heap.size,0,none⟩) 0 (j*19)) w0):=by
     rw[Nat.sub_self]
     exact⟨hown0,Below.refl _ _,HG0.out.size⟩
    clear hown0 hgrow0 HCELL
    go_loopw [6,7] (fun d i wx=>∃ t:Nat,t≤j∧i=.int .i64 ((t:Int)-1)∧Hid (Byt wp.heap.size w0 (padL (19*(j-t)) (n / ch ^ t)) d wx)) (fun _ i _=>(intOf i+1).toNat)
    case atStart=>exact⟨j,Nat.le_refl _,rfl,Y0.out⟩
    case round=>
     clear Y0
     obtain⟨t,ht,rfl,hY⟩:=hrel
     rcases Nat.eq_zero_or_pos t with et|et
     ·subst et
      have hrow:=hY.out.row
      rw[Nat.sub_zero,Nat.pow_zero,Nat.div_one,padL_length]at hrow
      obtain⟨g5,cap5,rfl,hgB5,hgs5,hcell5⟩:=own_open hrow (by omega)
      have hcv:=run_convert_bytes_back (P:=Tryz.prog) wr 116 9 5 ⟨g5,0,none⟩ cap5 (padL (19*j) n) Tryz.underlying116 Tryz.underlying5 Tryz.underlying9 (fun i hi=>by
       have t:=hcell5 i (.int .u8 (padL (19*j) n)[i].toNat) (by unfold bvals;simp[List.getElem?_eq_getElem hi])
       by_cases h0:i=0<;>simpa[Addr.add,h0] using t)
      rw[padL_length]at hcv
      go_wp2_with fail
      clear hcv hcell5 hrow
      have HT:Hid (Lib.trimLeftB (ByteArray.mk (padL (19*j) n).toArray).data.toList 48=Lib.decDigits n):=trim_padL (19*j) n HP.out HTOP.out
      have hx:wr.cell? ⟨w.heap.size,0,none⟩=some (.bool b):=by
       have s1:=S1.out
       have s2:=HW.out.size
       rw[hY.out.bel.cell (p:=⟨w.heap.size,0,none⟩) (show w.heap.size<wp.heap.size by omega)]
       exact HX0.out
      have HB:Hid (Below w.heap.size w wr):=by
       have s1:=S1.out
       have s2:=HW.out.size
       have q1:=B1.out.trans (HW.out.mono (Nat.le_succ _))
       have q2:=q1.grown HG0.out (by omega) (fun k hk=>by simp at hk)
       exact q2.trans (hY.out.bel.mono (by omega))
      refine (Tryz.strings_TrimLeft_one ⟨(padL (19*j) n).toArray⟩ 48 (by decide) wr).mono ?_
      rintro e w9 ⟨rfl,rfl⟩
      rw[HT.out]
      have hsz:(⟨(Lib.decDigits n).toArray⟩:ByteArray).size≤100000:=by
       have:=HLEN.out
       simpa[ByteArray.size] using this
      have HR:Hid (tz z=if b then 45::Lib.decDigits n else Lib.decDigits n):=by
       unfold Hid tz
       rw[HN.out,HZ.out]
      cases b
      ·go_wp2
       have HE:Hid (tzB z=⟨(Lib.decDigits n).toArray⟩):=by unfold Hid tzB;rw[HR.out];rfl
       exact bodyPost_ret (v:=.string ⟨(Lib.decDigits n).toArray⟩) (by simp[results,Tryz.results97,go_sem]) rfl ⟨by rw[HE.out],HB.out⟩
      ·have hov:¬ 9223372036854775807<1+(Lib.decDigits n).length:=by have:=HLEN.out;omega
       have HE:Hid (tzB z=⟨#[45]⟩ ++ ⟨(Lib.decDigits n).toArray⟩):=by
        unfold Hid tzB
        rw[HR.out,if_pos rfl]
        refine ByteArray.ext ?_
        rw[ByteArray.data_append]
        simp
       go_wp2
       exact bodyPost_ret (v:=.string (⟨#[45]⟩ ++ ⟨(Lib.decDigits n).toArray⟩)) (by simp[results,Tryz.results97,go_sem]) rfl ⟨by rw[HE.out],HB.out⟩
     ·obtain⟨p,rfl⟩:∃ p,t=p+1:=⟨t-1,by omega⟩
      have ei:((p+1:Nat):Int)-1=(p:Int):=by omega
      rw[ei]
      have hpj:p<j:=by omega
      have hpj':(p:Int)<(j:Int):=by omega
      have hc1:wr.cell? ⟨g,p,none⟩=some (.int .u64 (chunk n p:Int)):=by
       rw[hY.out.bel.cell (p:=⟨g,p,none⟩) HGS.out];exact HC0.out p hpj
      have HPC:=Zh (padL_chunk n p (j-(p+1)))
      have HAC:=Zh (fun d hy=>appendChunk_c d (chunk n p) wp.heap.size (padL (19*(j-(p+1))) (n / ch ^ (p+1))) w0 wr (chunk_lt n p) (by rw[padL_length];omega) hy)
      generalize chunk n p=x at *
      go_wp2_with fail
      refine (HAC.out _ hY.out).mono ?_
      rintro e w5 ⟨v5,rfl,h5⟩
      have H5:Hid (Byt wp.heap.size w0 (padL (19*(j-p)) (n / ch ^ p)) v5 w5):=by
       rw[HPC.out,show j-(p+1)+1=j-p by omega]at h5
       exact h5
      clear h5 hc1 hY HAC
      go_wp2
      go_roundw
      case rel=>exact⟨p,by omega,by go_num,H5.out⟩
      case measure=>simp[intOf]
   ·have ML:=Zh (numAt_is hA.out.lim)
    have hpos:Hid (0<n / ch ^ j):=by
     have:=hA.out.lim.pos e
     have:=bp_pos (k' - 1)
     unfold Hid;omega
    have HJ:Hid (j<4000):=chunks_few HBP.out hpos.out
    have HD:Hid (Calls Tryz.prog 124 #[.slice a' k' c',.int .u64 10000000000000000000] wr (ShortPost2 (n / ch ^ j) 10000000000000000000 wr)):=divideShort_f a' k' c' (n / ch ^ j) 10000000000000000000 wr hA.out.lim (by decide) (by decide)
    have hcl:=chunk_lt n j
    have HCH:Hid (n / ch ^ j % 10000000000000000000=chunk n j∧n / ch ^ j / 10000000000000000000=n / ch ^ (j+1)):=by
     rw[←ch_is];exact⟨rfl,chunk_next n j⟩
    have hk':(0:Int)<(k':Int):=by omega
    go_wp2_with fail
    (with_reducible refine HD.out.mono ?_)
    rintro e w2 ⟨k2,c2,r,rfl,hr,l2,b2⟩
    rw[HCH.out.1]at hr
    subst hr
    rw[HCH.out.2]at l2
    have L2:=Zh l2
    have R2:=Zh (own_keep hA.out.row b2)
    have HOB:=Zh (World.ownsRow.lt hA.out.row)
    have HS3:=Zh b2.size
    have HNEW:Hid (wr.heap.size<w2.heap.size∨k2=0):=by
     obtain⟨f2,hr2,_⟩:=l2
     rcases Nat.eq_zero_or_pos k2 with e|e
     ·exact .inr e
     ·obtain⟨b,off,e2,hl,_⟩:=hr2.2.2 e
      injection e2 with e2
      injection e2 with e2 _
      subst e2
      exact .inl hl
    have HB2:=Zh (hA.out.bel.trans (b2.mono hA.out.size))
    have HS2:Hid (w.heap.size+1≤w2.heap.size):=Nat.le_trans hA.out.size b2.size
    have HCV:=Zh (cvals_succ n j)
    clear l2 b2 hA HD
    generalize chunk n j=x at *
    go_wp2_with (at_builtin;refine wpList_append_own_at _ rfl _ _ 105 rfl (w.heap.size+1) 144 i0 (.int .u64 0) 1 8 Tryz.underlying105 hi hz0 hz1 hz2 rfl (by decide) _ _ _ rfl (R2.out.alloc _) ⟨w2.heap.size,0,none⟩ 1 1 [.int .u64 x] rfl rfl ?c1 ?c2 ?c3 ?c4 ?c5 ?_)
    case c1=>
     intro j u hj
     match j,hj with
     | 0,hj=>simp at hj;subst hj;simp[Addr.add]
    case c2=>intro u hu;simp at hu;subst hu;rfl
    case c3=>have:=HJ.out;unfold maxLen;omega
    case c4=>have:=HJ.out;omega
    case c5=>have:=HS2.out;simp;omega
    intro v' w3 hown' hgrow _ hob
    have NX:Hid (TxA (w.heap.size+1) W1 n (j+1) v' (some ⟨wr.heap.size,0,none⟩) k2 c2 w3):=by
     have s3:=HS3.out
     refine⟨by rw[HCV.out];exact hown',?_,?_,?_,?_,by have:=HJ.out;omega⟩
     ·refine (L2.out.below (bel_one w2 _)).grown hgrow (fun b off e hb=>?_)
      injection e with e
      injection e with e _
      subst e
      have:=(HOB.out _ hb.symm).2
      omega
     ·exact (HB2.out.alloc HS2.out (.cells #[.int .u64 x] 144)).grown hgrow (by simp;have:=HS2.out;omega) (fun b hb=>(HOB.out b hb).1)
     ·exact Nat.le_trans (Nat.le_trans HS2.out (by simp)) hgrow.size
     ·intro b off e hb
      injection e with e
      injection e with e _
      subst e
      rcases hob with h|h
      ·rw[h]at hb
       have:=(HOB.out _ hb.symm).2
       omega
      ·rw[h]at hb
       injection hb with hb
       omega
    clear hown' hgrow
    go_wp2
    go_roundw
    case rel=>exact⟨j+1,_,k2,c2,rfl,NX.out⟩
    case measure=>rw[numAt_is NX.out.lim,ML.out,←HCH.out.2];exact Nat.div_lt_self hpos.out (by decide)
theorem list_at(t:ByteArray)(j:Nat)(hj:j<t.size):t.data.toList[j]?=some t[j]:=by
 have h2:j<t.data.size:=hj
 simp only[Array.getElem?_toList,Array.getElem?_eq_getElem h2]
 rfl
set_option maxHeartbeats 1000000 in
theorem readChunk_c(t:ByteArray) (w:World) (hl:t.size≤19) :
  Calls Tryz.prog 183 #[.string t] w fun e w'=>∃ v:Nat,e=.returned (.tuple #[.int .u64 (v:Int),.bool (digs t.data.toList)])∧(digs t.data.toList=true→v=val t.data.toList)∧v<18446744073709551616∧w=w':=by
 obtain⟨l,hL⟩:∃ l,t.data.toList=l:=⟨_,rfl⟩
 have hlen:l.length=t.size:=by rw[←hL];simp
 have HL:=Zh hL
 have HLEN:=Zh hlen
 rw[hL]
 clear hL hlen
 go_enter Tryz.func183,Tryz.ntmps183
 go_wp2
 go_loop [4,8] (fun v i=>∃ (j m:Nat),j≤t.size∧i=.int .i64 j∧v=.int .u64 m∧m<10000000000000000000∧Hid (m=val (l.take j)∧digs (l.take j)=true)) (fun _ i=>t.size-(intOf i).toNat)
 case atStart=>exact⟨0,0,Nat.zero_le _,rfl,rfl,by omega,rfl,rfl⟩
 case round=>
  obtain⟨j,m,hj,rfl,rfl,hm,hR⟩:=hrel
  by_cases hlt:j<t.size
  ·have hlt':(j:Int)<(t.size:Int):=by omega
   have hel:=list_at t j hlt
   have hel2:l[j]?=some t[j]:=by rw[←HL.out];exact hel
   have htk:l.take (j+1)=l.take j ++ [t[j]]:=by rw[List.take_add_one,hel2];rfl
   have hmem:t[j]∈l:=List.mem_of_getElem? hel2
   have hm18:m<1000000000000000000:=by
    have h1:=val_lt hR.out.2
    rw[←hR.out.1]at h1
    have h2:(l.take j).length≤18:=by rw[List.length_take];omega
    have h3:10 ^ (l.take j).length≤10 ^ 18:=Nat.pow_le_pow_right (by decide) h2
    omega
   by_cases hd:isDig t[j]=true
   ·have hdi:=isDig_iff.1 hd
    have NX:Hid (m*10+(t[j].toNat-48)=val (l.take (j+1))∧digs (l.take (j+1))=true):=by
     refine⟨by rw[htk,val_snoc,←hR.out.1],?_⟩
     rw[htk,digs_append,hR.out.2]
     simp[digs,hd]
    have x1:(48:Int)≤(t[j].toNat:Int):=by omega
    have x2:(t[j].toNat:Int)≤57:=by omega
    have x3:¬ (t[j].toNat:Int)<48:=by omega
    have x4:¬ (57:Int)<(t[j].toNat:Int):=by omega
    have hcast:((m*10+(t[j].toNat-48):Nat):Int)=(m:Int)*10+((t[j].toNat:Int)-48):=by omega
    have HCAST:=Zh hcast
    clear hel hel2 htk hmem hd hdi hcast hR
    go_wp2
    go_round
    case rel=>exact⟨j+1,m*10+(t[j].toNat-48),by omega,by go_num,by rw[HCAST.out],by omega,NX.out⟩
    case measure=>simp[intOf];omega
   ·have E:Hid (digs l=false):=by
     unfold Hid digs
     rw[Bool.eq_false_iff]
     intro h
     exact hd (List.all_eq_true.1 h _ hmem)
    have hd2:t[j].toNat<48∨57<t[j].toNat:=by
     rcases Nat.lt_or_ge t[j].toNat 48 with h|h
     ·exact .inl h
     ·rcases Nat.lt_or_ge 57 t[j].toNat with h2|h2
      ·exact .inr h2
      ·exact absurd (isDig_iff.2 ⟨h,h2⟩) hd
    clear hel hel2 htk hmem hd hR
    rcases hd2 with h|h
    ·have x3:(t[j].toNat:Int)<48:=by omega
     go_wp2
     go_ret2
     exact⟨0,by rw[E.out];rfl,(fun h=>absurd h (by rw[E.out];decide)),by decide,rfl⟩
    ·have x3:¬ (t[j].toNat:Int)<48:=by omega
     have x4:(57:Int)<(t[j].toNat:Int):=by omega
     go_wp2
     go_ret2
     exact⟨0,by rw[E.out];rfl,(fun h=>absurd h (by rw[E.out];decide)),by decide,rfl⟩
  ·obtain rfl:j=t.size:=by omega
   have E:Hid (m=val l∧digs l=true):=by
    have h:=hR.out
    rw[List.take_of_length_le (by rw[HLEN.out];omega)]at h
    exact h
   clear hR hlt
   go_wp2
   go_ret2
   exact⟨m,by rw[E.out.2];rfl,(fun _=>E.out.1),by omega,rfl⟩
end Go.Proofs.YtghgbhmiliiohaaGreatDoor
