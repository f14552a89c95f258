/-
  The reference of package code: small functions of frames.
-/
import Derived.Test.YtghgbhmiliiohaaGreatDoorAM05
import Derived.Test.YtghgbhmiliiohaaGreatDoorAMQ
namespace Go.Proofs.YtghgbhmiliiohaaGreatDoor
open Go.RowKit Go.WideMaps Go.Maps
section
variable {f:Int→Int} {C:List Cg} {k:Nat}
end
theorem cell_three_new(w:World)(x y z:Value)(e:TypeId):∀ j v,[x,y,z][j]?=some v→(w.alloc (.cells #[x,y,z] e)).cell? ((⟨w.heap.size,0,none⟩:Addr).add j)=some v:=fun j v h=>by
 rw[add_at,Nat.zero_add,World.cell?_alloc_at _ _ _ _ rfl]
 simpa using h
theorem Cqbel_drewN(w:World)(n:Nat):Below w.heap.size w (w.drewN n):=below_drewN (Below.refl _ _) n
/-! ### What was lifted -/
/-! ### A frame that is recoded to itself -/
theorem rwithin_c(n lo hi:Int)(w:World):Calls Tryz.prog 39 #[.int .i64 n,.int .i64 lo,.int .i64 hi] w fun e w'=>e=.returned (.bool (decide (lo≤n∧n≤hi)))∧w'=w:=by
 by_cases h1:lo≤n
 ·by_cases h2:n≤hi
  ·have e:Hid (decide (lo≤n∧n≤hi)=true):=decide_eq_true ⟨h1,h2⟩
   go_enter Tryz.func39,Tryz.ntmps39
   go_wp2
   go_ret
   exact⟨by rw[e.out];rfl,rfl⟩
  ·have e:Hid (decide (lo≤n∧n≤hi)=false):=decide_eq_false fun h=>h2 h.2
   have h2':decide (n≤hi)=false:=decide_eq_false h2
   clear h2
   go_enter Tryz.func39,Tryz.ntmps39
   go_wp2
   go_ret
   exact⟨by rw[e.out];rfl,rfl⟩
 ·have e:Hid (decide (lo≤n∧n≤hi)=false):=decide_eq_false fun h=>h1 h.1
  have h1':decide (lo≤n)=false:=decide_eq_false h1
  clear h1
  go_enter Tryz.func39,Tryz.ntmps39
  go_wp2
  go_ret
  exact⟨by rw[e.out];rfl,rfl⟩
theorem titS_head{s:ByteArray}(h:0<s.size)(e:s[0].toNat=32):titS s=false:=by
 unfold titS
 have:(bts s).head?=some 32:=by
  have hl:0<(bts s).length:=by simpa[bts] using h
  rw[List.head?_eq_getElem?,List.getElem?_eq_getElem hl]
  congr 1
  have:s[0]=32:=by
   apply UInt8.toNat.inj
   exact e
  rw[←this];rfl
 rw[this];simp
theorem titS_last{s:ByteArray}{k:Nat}(h:s.size=k+1)(e:s[k].toNat=32):titS s=false:=by
 unfold titS
 have:(bts s).getLast?=some 32:=by
  have hl:(bts s).length=k+1:=by simpa[bts] using h
  rw[List.getLast?_eq_getElem?,hl,Nat.add_sub_cancel,List.getElem?_eq_getElem (by omega)]
  congr 1
  have:s[k]=32:=by
   apply UInt8.toNat.inj
   exact e
  rw[←this];rfl
 rw[this];simp
theorem titS_ok{s:ByteArray}{k:Nat}(h:s.size=k+1)(e0:s[0].toNat≠32)(e1:s[k].toNat≠32)(hb:∀ j,(hj:j<s.size)→okB s[j]=true):titS s=true:=by
 rw[titS_good hb]
 have hl:(bts s).length=k+1:=by simpa[bts] using h
 have h0:bts s≠[]:=by intro q;rw[q]at hl;simp at hl
 have h1:(bts s).head?≠some 32:=by
  rw[List.head?_eq_getElem?,List.getElem?_eq_getElem (by omega)]
  intro q
  injection q with q
  apply e0
  have:s[0]=32:=q
  rw[this];rfl
 have h2:(bts s).getLast?≠some 32:=by
  rw[List.getLast?_eq_getElem?,hl,Nat.add_sub_cancel,List.getElem?_eq_getElem (by omega)]
  intro q
  injection q with q
  apply e1
  have:s[k]=32:=q
  rw[this];rfl
 simp[h0,h1,h2]
set_option maxHeartbeats 1000000 in
theorem rtitled_c(s:ByteArray) (w:World) (hs:s.size≤9223372036854775807) :
  Calls Tryz.prog 82 #[.string s] w fun e w'=>e=.returned (.bool (titS s))∧w'=w:=by
 by_cases h0:s.size=0
 ·have hl:bts s=[]:=by
   have:(bts s).length=0:=by simpa[bts] using h0
   exact List.eq_nil_of_length_eq_zero this
  have R:Hid (titS s=false):=by unfold Hid titS;rw[hl];simp
  have f1:(s.toList == [])=true:=by rw[bts_list,hl];rfl
  clear hl h0
  go_enter Tryz.func82,Tryz.ntmps82
  go_wp2
  go_ret
  exact⟨by rw[R.out];rfl,rfl⟩
 obtain⟨m,hm⟩:∃ m,s.size=m+1:=⟨s.size-1,by omega⟩
 have f1:(s.toList == [])=false:=by
  rw[beq_eq_false_iff_ne,bts_list]
  intro q
  have:(bts s).length=s.size:=by simp[bts]
  rw[q]at this;simp at this;omega
 have hp:0<s.size:=by omega
 have hp':(0:Int)<(s.size:Int):=by omega
 by_cases h1:s[0].toNat=32
 ·have R:=Zh (titS_head hp h1)
  have g1:((s[0].toNat:Int) == 32)=true:=by rw[beq_iff_eq];omega
  clear h1
  go_enter Tryz.func82,Tryz.ntmps82
  go_wp2
  go_ret
  exact⟨by rw[R.out];rfl,rfl⟩
 have g1:((s[0].toNat:Int) == 32)=false:=by rw[beq_eq_false_iff_ne];omega
 have hm1:(s.size:Int)-1=(m:Int):=by omega
 have hmlt:m<s.size:=by omega
 have hm2:(m:Int)<(s.size:Int):=by omega
 by_cases h2:s[m].toNat=32
 ·have R:=Zh (titS_last hm h2)
  have g2:((s[m].toNat:Int) == 32)=true:=by rw[beq_iff_eq];omega
  clear h1 h2
  go_enter Tryz.func82,Tryz.ntmps82
  go_wp2
  go_ret
  exact⟨by rw[R.out];rfl,rfl⟩
 have g2:((s[m].toNat:Int) == 32)=false:=by rw[beq_eq_false_iff_ne];omega
 have HOK:=Zh (titS_ok hm h1 h2)
 clear h1 h2 h0
 go_enter Tryz.func82,Tryz.ntmps82
 go_wp2
 clear g1 g2 f1 hm1
 go_loop [3,21] (fun _ i=>∃ k:Nat,k≤s.size∧i=.int .i64 k∧Hid (∀ j,(hj:j<s.size)→j<k→okB s[j]=true)) (fun _ i=>s.size-(intOf i).toNat)
 case atStart=>exact⟨0,Nat.zero_le _,rfl,fun j _ h=>absurd h (Nat.not_lt_zero _)⟩
 case round=>
  obtain⟨k,hk,rfl,hR⟩:=hrel
  by_cases hlt:k<s.size
  ·have hlt':(k:Int)<(s.size:Int):=by omega
   have hB:=Zh (titS_bad hlt)
   have NX:Hid (okB s[k]=true→∀ j,(hj:j<s.size)→j<k+1→okB s[j]=true):=fun h j hj hk=>by
    by_cases e:j=k
    ·subst e;exact h
    ·exact hR.out j hj (by omega)
   have HW:Hid (Calls Tryz.prog 39 #[.int .i64 (s[k].toNat:Nat),.int .i64 32,.int .i64 126] w fun e w'=>e=.returned (.bool (okB s[k]))∧w'=w):=by
    have:=rwithin_c (s[k].toNat:Nat) 32 126 w
    have e:decide ((32:Int)≤(s[k].toNat:Int)∧(s[k].toNat:Int)≤126)=okB s[k]:=by
     unfold okB
     rw[Bool.eq_iff_iff,decide_eq_true_iff,decide_eq_true_iff]
     omega
    rw[e]at this
    exact this
   have hw64:wrap64 ((s[k].toNat:Nat):Int)=((s[k].toNat:Nat):Int):=by
    have:=UInt8.toNat_lt s[k]
    unfold wrap64
    omega
   clear hR HOK
   by_cases h1:okB s[k]=true
   ·have N2:=Zh (NX.out h1)
    rw[h1]at HW
    clear h1 hB NX
    go_wp2_with fail
    (with_reducible refine HW.out.mono ?_)
    rintro e w' ⟨rfl,hw⟩
    have hw:=hw.symm
    subst hw
    go_wp2
    go_round
    case rel=>exact⟨k+1,by omega,by go_num,N2.out⟩
    case measure=>simp[intOf];omega
   ·have h1':okB s[k]=false:=by simpa using h1
    have R:=Zh (hB.out h1')
    rw[h1']at HW
    clear h1 h1' hB NX
    go_wp2_with fail
    (with_reducible refine HW.out.mono ?_)
    rintro e w' ⟨rfl,hw⟩
    have hw:=hw.symm
    subst hw
    go_wp2
    go_ret
    exact⟨by rw[R.out];rfl,rfl⟩
  ·obtain rfl:k=s.size:=by omega
   have R:=Zh (HOK.out fun j hj=>hR.out j hj hj)
   clear hlt
   go_wp2
   go_ret
   exact⟨by rw[R.out];rfl,rfl⟩
def FndP(l:List Nd)(c:Int)(r:Int):Prop:=(r=-1∧∀ j,j<l.length→(nd l j).cd≠c)∨∃ j,j<l.length∧r=(j:Int)∧(nd l j).cd=c
set_option maxHeartbeats 1000000 in
theorem rfind_c(a:Option Addr) (ca:Nat) (l:List Nd) (c:Int) (w:World) (hl:RdN w a l) :
  Calls Tryz.prog 56 #[.slice a l.length ca,.int .i64 c] w fun e w'=>(∃ r:Int,e=.returned (.int .i64 r)∧FndP l c r)∧Below w.heap.size w w':=by
 have HL:=Zh hl
 have h9:=hl.1
 clear hl
 go_enter Tryz.func56,Tryz.ntmps56
 go_wp2
 go_loopw [5,9] (fun _ i wr=>∃ k:Nat,k≤l.length∧i=.int .i64 k∧Hid (Below w.heap.size w wr∧∀ j,j<k→(nd l j).cd≠c)) (fun _ i _=>l.length-(intOf i).toNat)
 case atStart=>exact⟨0,Nat.zero_le _,rfl,Below.refl _ _,fun j h=>absurd h (Nat.not_lt_zero _)⟩
 case round=>
  obtain⟨k,hk,rfl,hS⟩:=hrel
  by_cases hlt:k<l.length
  ·obtain⟨b',off,rfl,u0,u1,u2⟩:=(HL.out.below hS.out.1).at_ hlt
   have hlt':(k:Int)<(l.length:Int):=by omega
   obtain⟨W1,hW1⟩:∃ W1,wr.alloc (.cells #[.int .i64 (nd l k).cd,.int .i64 (nd l k).pr,.string (nd l k).ti] 45)=W1:=⟨_,rfl⟩
   have N1:Hid (NodeB wr W1 (nd l k)):=by unfold Hid;rw[←hW1];exact node_b _ _
   have v0:=N1.out.2.2.1
   have B1:=Zh (hS.out.1.trans (N1.out.1.mono hS.out.1.size))
   by_cases e:(nd l k).cd=c
   ·have R:Hid (FndP l c (k:Int)):=Or.inr ⟨k,hlt,rfl,e⟩
    have e':((nd l k).cd == c)=true:=by rw[beq_iff_eq];exact e
    clear hS N1 e
    go_wp2
    go_ret
    exact⟨⟨_,rfl,R.out⟩,B1.out⟩
   ·have NX:Hid (Below w.heap.size w W1∧∀ j,j<k+1→(nd l j).cd≠c):=⟨B1.out,fun j hj=>by
     by_cases q:j=k
     ·rw[q];exact e
     ·exact hS.out.2 j (by omega)⟩
    have e':((nd l k).cd == c)=false:=by rw[beq_eq_false_iff_ne];exact e
    clear hS N1 e
    go_wp2
    go_roundw
    case rel=>exact⟨k+1,by omega,by go_num,NX.out⟩
    case measure=>simp[intOf];omega
  ·obtain rfl:k=l.length:=by omega
   have R:Hid (FndP l c (-1)):=Or.inl ⟨rfl,hS.out.2⟩
   clear hlt
   go_wp2
   go_ret
   exact⟨⟨_,rfl,R.out⟩,hS.out.1⟩
end Go.Proofs.YtghgbhmiliiohaaGreatDoor
