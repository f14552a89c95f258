/-
  Ratios of package value: a fraction in four cells.
-/
import Derived.Test.YtghgbhmiliiohaaGreatDoorAMQ
import Derived.Test.YtghgbhmiliiohaaGreatDoorAM19
import Derived.Test.YtghgbhmiliiohaaGreatDoorAM17
set_option maxRecDepth 100000
namespace Go.Proofs.YtghgbhmiliiohaaGreatDoor
open Go.RowKit
def RdPost(l:List UInt8)(w:World)(e:Ending)(w':World):Prop:=
 (∃ z b a k c,zread l=some z∧e=.returned (.tuple #[.agg #[.bool b,.slice a k c],.bool true])∧Zn w' b a k c z∧z.natAbs<bp 125∧Below w.heap.size w w') ∨
 (zread l=none∧e=.returned (.tuple #[.agg #[.bool false,.slice none 0 0],.bool false])∧Below w.heap.size w w')
structure Rdg (w:World) (d:List UInt8) (p:Nat) (x:ByteArray) (a:Option Addr) (k c:Nat) (W:World):Prop where
 left:x.data.toList=d.drop p
 lim:Nm W a k c (val (d.take p))
 dig:digs (d.take p)=true
 row:p=0∨(d.length-p) % 19=0
 box:B2 W w.heap.size (.bool false) (.slice none 0 0)
 bel:Below w.heap.size w W
theorem toNat48{c:UInt8}:c=48↔c.toNat=48:=by
 constructor
 ·intro e;rw[e];rfl
 ·intro e;exact UInt8.toNat_inj.1 (by rw[e];rfl)
theorem extract_list(x:ByteArray)(a b:Nat):(x.extract a b).data.toList=(x.data.toList.drop a).take (b-a):=Lib.extract_data x a b
set_option maxHeartbeats 4000000 in
theorem Read_c(t:ByteArray) (w:World) (hds:(Lib.trimPrefix t.data.toList [45]).length≤2000) :
  Calls Tryz.prog 165 #[.string t] w (RdPost t.data.toList w):=by
 obtain⟨l,hL⟩:∃ l,t.data.toList=l:=⟨_,rfl⟩
 obtain⟨d,hd⟩:∃ d,Lib.trimPrefix l [45]=d:=⟨_,rfl⟩
 obtain⟨u,hu⟩:∃ u:ByteArray,u=⟨d.toArray⟩:=⟨_,rfl⟩
 have hul:u.data.toList=d:=by rw[hu]
 have hus:u.size=d.length:=by rw[hu];simp[ByteArray.size]
 have hts:t.size=l.length:=by rw[←hL];simp
 have HTP:Hid (∀ w,Calls Tryz.prog 98 #[.string t,.string ⟨#[45]⟩] w fun e w'=>e=.returned (.string u)∧w=w'):=fun w=>(Tryz.strings_TrimPrefix t ⟨#[45]⟩ w).mono fun e w' ⟨he,hw⟩=>⟨by rw[he,hu,←hd,←hL],hw.symm⟩
 obtain⟨neg,hneg⟩:∃ neg,decide (d.length<l.length)=neg:=⟨_,rfl⟩
 have hneg':decide ((u.size:Int)<(t.size:Int))=neg:=by rw[←hneg,hus,hts];apply decide_eq_decide.2;omega
 have hneg2:decide (u.size<t.size)=neg:=by rw[←hneg,hus,hts]
 have hov:t.size≤9223372036854775807:=by
  have h1:l.length≤d.length+1:=by
   rw[←hd]
   unfold Lib.trimPrefix
   split
   ·rw[List.length_drop];simp;omega
   ·omega
  rw[hL,hd]at hds
  omega
 have HLEN:Hid (d.length≤2000):=by rw[hL,hd]at hds;exact hds
 have HZ:Hid (zread l=if d=[]∨(d.head?=some 48∧(neg=true∨1<d.length))∨digs d=false then none else some (if neg then -(val d:Int) else val d)):=by
  unfold Hid zread
  rw[hd]
  simp only[hneg]
 rw[hL]
 have HUL:=Zh hul
 have HUS:=Zh hus
 clear hL hd hu hul hts hneg hds hus
 obtain⟨W1,hW1⟩:∃ W1,w.alloc (.cells #[.bool false,.slice none 0 0] 107)=W1:=⟨_,rfl⟩
 have J1:Hid (B2 W1 w.heap.size (.bool false) (.slice none 0 0)∧Below w.heap.size w W1):=by rw[←hW1];exact⟨B2.made _ _ _ _,bel_one _ _⟩
 cases d with
 | nil=>
  have hu0:u=⟨#[]⟩:=by
   have h:=HUL.out
   cases u with
   | mk a=>simp only[ByteArray.mk.injEq];exact Array.toList_eq_nil_iff.1 h
  subst hu0
  have EZ:Hid (zread l=none):=by unfold Hid;rw[HZ.out,if_pos (.inl rfl)]
  clear HZ HUL
  go_enter Tryz.func165,Tryz.ntmps165
  obtain⟨W9,hW9⟩:∃ W9,two W1 w.heap.size (.bool false) (.slice none 0 0)=W9:=⟨_,rfl⟩
  have R9:B2 W9 w.heap.size (.bool false) (.slice none 0 0):=by rw[←hW9];exact J1.out.1.set _ _
  have PP:Hid (RdPost l w (.returned (.tuple #[.agg #[.bool false,.slice none 0 0],.bool false])) W9):=by
   rw[←hW9]
   exact .inr ⟨EZ.out,rfl,below_two J1.out.2 (Nat.le_refl _) _ _⟩
  have q0:=J1.out.1.c0
  have q1:=J1.out.1.c1
  have g0:=J1.out.1.fr 0
  have g1:=J1.out.1.fr 1
  obtain⟨r0,r1,_,_⟩:=id R9
  unfold two at hW9
  clear R9
  go_wp2_with (go_at_call 98;refine (HTP.out _).mono ?_;rintro e w' ⟨rfl,rfl⟩)
  exact bodyPost_ret (v:=.tuple #[.agg #[.bool false,.slice none 0 0],.bool false]) (by simp[results,Tryz.results165,go_sem,r0,r1]) rfl PP.out
 | cons c r=>
  have hup:0<u.size:=by rw[HUS.out];simp
  have hne0:(u.toList == [])=false:=by rw[Lib.toList_data,HUL.out];rfl
  have hne1:¬ u.toList=[]:=by rw[Lib.toList_data,HUL.out];simp
  have hu00:u[0]=c:=by
   have h:=list_at u 0 hup
   rw[HUL.out]at h
   injection h with h
   exact h.symm
  by_cases h48:c.toNat=48∧(neg=true∨1<u.size)
  ·have EZ:Hid (zread l=none):=by
    unfold Hid
    have h3:neg=true∨1<(c::r).length:=by
     rcases h48.2 with h|h
     ·exact .inl h
     ·rw[HUS.out]at h;exact .inr h
    have h4:(c::r).head?=some 48:=by rw[toNat48.2 h48.1];rfl
    rw[HZ.out,if_pos (.inr (.inl ⟨h4,h3⟩))]
   have hx:((u[0].toNat:Int) == 48)=true:=by rw[hu00,h48.1];rfl
   have hx':(u[0].toNat:Int)=48:=by rw[hu00,h48.1];rfl
   rcases h48.2 with h|h
   ·subst h
    clear HZ HUL h48 hu00
    go_enter Tryz.func165,Tryz.ntmps165
    obtain⟨W9,hW9⟩:∃ W9,two W1 w.heap.size (.bool false) (.slice none 0 0)=W9:=⟨_,rfl⟩
    have R9:B2 W9 w.heap.size (.bool false) (.slice none 0 0):=by rw[←hW9];exact J1.out.1.set _ _
    have PP:Hid (RdPost l w (.returned (.tuple #[.agg #[.bool false,.slice none 0 0],.bool false])) W9):=by
     rw[←hW9]
     exact .inr ⟨EZ.out,rfl,below_two J1.out.2 (Nat.le_refl _) _ _⟩
    have q0:=J1.out.1.c0
    have q1:=J1.out.1.c1
    have g0:=J1.out.1.fr 0
    have g1:=J1.out.1.fr 1
    obtain⟨r0,r1,_,_⟩:=id R9
    unfold two at hW9
    clear R9
    go_wp2_with (go_at_call 98;refine (HTP.out _).mono ?_;rintro e w' ⟨rfl,rfl⟩)
    exact bodyPost_ret (v:=.tuple #[.agg #[.bool false,.slice none 0 0],.bool false]) (by simp[results,Tryz.results165,go_sem,r0,r1]) rfl PP.out
   ·cases neg
    ·have h':(1:Int)<(u.size:Int):=by omega
     clear HZ HUL h48 hu00
     go_enter Tryz.func165,Tryz.ntmps165
     obtain⟨W9,hW9⟩:∃ W9,two W1 w.heap.size (.bool false) (.slice none 0 0)=W9:=⟨_,rfl⟩
     have R9:B2 W9 w.heap.size (.bool false) (.slice none 0 0):=by rw[←hW9];exact J1.out.1.set _ _
     have PP:Hid (RdPost l w (.returned (.tuple #[.agg #[.bool false,.slice none 0 0],.bool false])) W9):=by
      rw[←hW9]
      exact .inr ⟨EZ.out,rfl,below_two J1.out.2 (Nat.le_refl _) _ _⟩
     have q0:=J1.out.1.c0
     have q1:=J1.out.1.c1
     have g0:=J1.out.1.fr 0
     have g1:=J1.out.1.fr 1
     obtain⟨r0,r1,_,_⟩:=id R9
     unfold two at hW9
     clear R9
     go_wp2_with (go_at_call 98;refine (HTP.out _).mono ?_;rintro e w' ⟨rfl,rfl⟩)
     exact bodyPost_ret (v:=.tuple #[.agg #[.bool false,.slice none 0 0],.bool false]) (by simp[results,Tryz.results165,go_sem,r0,r1]) rfl PP.out
    ·clear HZ HUL h48 hu00
     go_enter Tryz.func165,Tryz.ntmps165
     obtain⟨W9,hW9⟩:∃ W9,two W1 w.heap.size (.bool false) (.slice none 0 0)=W9:=⟨_,rfl⟩
     have R9:B2 W9 w.heap.size (.bool false) (.slice none 0 0):=by rw[←hW9];exact J1.out.1.set _ _
     have PP:Hid (RdPost l w (.returned (.tuple #[.agg #[.bool false,.slice none 0 0],.bool false])) W9):=by
      rw[←hW9]
      exact .inr ⟨EZ.out,rfl,below_two J1.out.2 (Nat.le_refl _) _ _⟩
     have q0:=J1.out.1.c0
     have q1:=J1.out.1.c1
     have g0:=J1.out.1.fr 0
     have g1:=J1.out.1.fr 1
     obtain⟨r0,r1,_,_⟩:=id R9
     unfold two at hW9
     clear R9
     go_wp2_with (go_at_call 98;refine (HTP.out _).mono ?_;rintro e w' ⟨rfl,rfl⟩)
     exact bodyPost_ret (v:=.tuple #[.agg #[.bool false,.slice none 0 0],.bool false]) (by simp[results,Tryz.results165,go_sem,r0,r1]) rfl PP.out
  ·have HZ2:Hid (zread l=if digs (c::r)=false then none else some (if neg then -(val (c::r):Int) else val (c::r))):=by
    unfold Hid
    rw[HZ.out]
    by_cases e:digs (c::r)=false
    ·rw[if_pos (.inr (.inr e)),if_pos e]
    ·rw[if_neg ?_,if_neg e]
     rintro (h1|⟨h1,h2⟩|h1)
     ·cases h1
     ·refine h48 ⟨toNat48.1 (by simpa using h1),?_⟩
      rw[HUS.out]
      exact h2
     ·exact e h1
   have hfl:((u[0].toNat:Int) == 48)=false∨(neg=false∧¬ (1:Int)<(u.size:Int)∧(u[0].toNat:Int)=48):=by
    by_cases e:c.toNat=48
    ·right
     refine⟨?_,?_⟩
     ·cases neg
      ·rfl
      ·exact absurd ⟨e,.inl rfl⟩ h48
     ·refine⟨fun h=>h48 ⟨e,.inr (by omega)⟩,?_⟩
      rw[hu00,e];rfl
    ·left
     rw[beq_eq_false_iff_ne,hu00]
     omega
   have K0:Hid (Rdg w (c::r) 0 u none 0 0 W1):=⟨HUL.out,Nm.zero _ _ _ (by omega) Pl.none_,rfl,.inl rfl,J1.out.1,J1.out.2⟩
   have HUU:=Zh hu00
   clear HZ h48 hu00 J1
   generalize hdd:c::r=d at *
   clear hdd
   rcases hfl with hx|⟨hx,hy,hz⟩
   ·have hx':¬ (u[0].toNat:Int)=48:=by
     intro e
     rw[e]at hx
     cases hx
    go_enter Tryz.func165,Tryz.ntmps165
    go_wp2_with (go_at_call 98;refine (HTP.out _).mono ?_;rintro e w' ⟨rfl,rfl⟩)
    clear hW1
    go_loopw [4,6] (fun s v wr=>∃ (x:ByteArray) (p:Nat) (a:Option Addr) (k c:Nat),s=.string x∧v=.slice a k c∧p≤d.length∧Hid (Rdg w d p x a k c wr)) (fun s _ _=>match s with | .string x=>x.size | _=>0)
    case atStart=>exact⟨u,0,none,0,0,rfl,rfl,Nat.zero_le _,K0.out⟩
    case round=>
     clear K0
     obtain⟨x,p,a,k,c',rfl,rfl,hp,hK⟩:=hrel
     have hxs:x.size=d.length-p:=by
      have h:=congrArg List.length hK.out.left
      rw[List.length_drop]at h
      simpa using h
     have HXS:=Zh hxs
     have hlenB:=HLEN.out
     by_cases hx0:0<x.size
     ·have hx0':(0:Int)<(x.size:Int):=by omega
      obtain⟨s0,hs0⟩:∃ s0,(x.size-1) % 19=s0:=⟨_,rfl⟩
      have hs19:s0<19:=by rw[←hs0];exact Nat.mod_lt _ (by decide)
      have hsle:s0+1≤x.size:=by rw[←hs0];have:=Nat.mod_le (x.size-1) 19;omega
      have e1:((x.size:Int)-1) % 19=(s0:Int):=by omega
      have hsle':(s0:Int)+1≤(x.size:Int):=by omega
      have hrow:p=0∨s0=18:=by
       rcases hK.out.row with h|h
       ·exact .inl h
       ·right;omega
      obtain⟨y,hy⟩:∃ y,x.extract 0 (s0+1)=y:=⟨_,rfl⟩
      obtain⟨x2,hx2⟩:∃ x2,x.extract (s0+1) x.size=x2:=⟨_,rfl⟩
      have hyl:y.data.toList=(d.drop p).take (s0+1):=by rw[←hy,extract_list,hK.out.left,List.drop_zero,Nat.sub_zero]
      have hx2l:x2.data.toList=d.drop (p+(s0+1)):=by
       have hxl:x.data.toList.length=x.size:=by simp
       rw[←hx2,extract_list,List.take_of_length_le (by rw[List.length_drop,hxl];omega),hK.out.left,List.drop_drop]
      have hys:y.size=s0+1:=by rw[←hy,ByteArray.size_extract];omega
      have hx2s:x2.size=d.length-(p+(s0+1)):=by rw[←hx2,ByteArray.size_extract];omega
      have htk:d.take (p+(s0+1))=d.take p ++ (d.drop p).take (s0+1):=List.take_add
      have hylen:((d.drop p).take (s0+1)).length=s0+1:=by rw[List.length_take,List.length_drop];omega
      have HCK:=Zh (fun w=>readChunk_c y w (by omega))
      rw[hyl]at HCK
      have HTK:=Zh htk
      have HX2L:=Zh hx2l
      have HX2S:=Zh hx2s
      have HYL:=Zh hylen
      have hpb:p+(s0+1)≤d.length:=by omega
      have hx2000:x.size≤2000:=by omega
      have hx2000':(x.size:Int)≤2000:=by omega
      clear hs0 hyl hx2l hys hx2s htk hylen hxs
      by_cases hdg:digs ((d.drop p).take (s0+1))=true
      ·rw[hdg]at HCK
       go_wp2_with fail
       (with_reducible refine (HCK.out _).mono ?_)
       rintro e wq ⟨v,rfl,hv,hvb,rfl⟩
       have HV:=Zh (hv trivial)
       have HTS:=Zh (timesPlus_c a k c' (val (d.take p)) 10000000000000000000 v wr hK.out.lim (by decide) hvb (Nat.lt_of_lt_of_le (val_bp hK.out.dig (by rw[List.length_take];omega)) (bp_mono (by decide))))
       clear hv HCK
       go_wp2_with fail
       (refine HTS.out.mono ?_)
       rintro e w4 ⟨a4,k4,c4,rfl,h4,b4⟩
       have NX:Hid (Rdg w d (p+(s0+1)) x2 a4 k4 c4 w4):=by
        refine⟨HX2L.out,?_,?_,?_,hK.out.box.keep b4,hK.out.bel.trans (b4.mono hK.out.bel.size)⟩
        ·rw[HTK.out,val_append,HYL.out,←HV.out]
         have e:val (d.take p)*10 ^ (s0+1)=val (d.take p)*10000000000000000000:=by
          rcases hrow with h|h
          ·subst h;simp[val]
          ·subst h;rfl
         rw[e];exact h4
        ·rw[HTK.out,digs_append,hK.out.dig,hdg];rfl
        ·have h1:=HX2S.out
         have h2:=HXS.out
         rcases hK.out.row with h|h
         ·right;omega
         ·right;omega
       clear h4 b4 hK HTS
       go_wp2
       go_roundw
       case rel=>exact⟨x2,p+(s0+1),a4,k4,c4,rfl,rfl,hpb,NX.out⟩
       case measure=>simp;have:=HX2S.out;have:=HXS.out;omega
      ·have hdf:digs ((d.drop p).take (s0+1))=false:=by simpa using hdg
       have EZ:Hid (zread l=none):=by
        unfold Hid
        rw[HZ2.out,if_pos]
        have e:d=d.take (p+(s0+1)) ++ d.drop (p+(s0+1)):=(List.take_append_drop _ _).symm
        rw[e,digs_append,HTK.out,digs_append,hdf]
        simp
       rw[hdf]at HCK
       obtain⟨W9,hW9⟩:∃ W9,two wr w.heap.size (.bool false) (.slice none 0 0)=W9:=⟨_,rfl⟩
       have R9:B2 W9 w.heap.size (.bool false) (.slice none 0 0):=by rw[←hW9];exact hK.out.box.set _ _
       have PP:Hid (RdPost l w (.returned (.tuple #[.agg #[.bool false,.slice none 0 0],.bool false])) W9):=by
        rw[←hW9]
        exact .inr ⟨EZ.out,rfl,below_two hK.out.bel (Nat.le_refl _) _ _⟩
       have q0:=hK.out.box.c0
       have q1:=hK.out.box.c1
       have g0:=hK.out.box.fr 0
       have g1:=hK.out.box.fr 1
       obtain⟨r0,r1,_,_⟩:=id R9
       unfold two at hW9
       clear R9 hK
       go_wp2_with fail
       (with_reducible refine (HCK.out _).mono ?_)
       rintro e wq ⟨v,rfl,hv,hvb,rfl⟩
       clear hv
       go_wp2_with fail
       exact bodyPost_ret (v:=.tuple #[.agg #[.bool false,.slice none 0 0],.bool false]) (by simp[results,Tryz.results165,go_sem,r0,r1]) rfl PP.out
     ·have hx0':¬ (0:Int)<(x.size:Int):=by omega
      have hpe:p=d.length:=by omega
      have hD:Hid (digs d=true∧Nm wr a k c' (val d)):=by
       have h1:=hK.out.dig
       have h2:=hK.out.lim
       rw[hpe,List.take_length]at h1 h2
       exact⟨h1,h2⟩
      have HZ3:Hid (zread l=some (zv neg (val d))):=by
       unfold Hid
       rw[HZ2.out,if_neg (by rw[hD.out.1];simp)]
       rfl
      have JX:=Zh hK.out.box
      have JB:=Zh hK.out.bel
      have HBD:Hid (val d<bp 125):=val_bp hD.out.1 hlenB
      clear hK hpe hxs
      have HWS:=Zh (withSign_c neg a k c' (val d) wr hD.out.2)
      go_wp2_with fail
      (refine HWS.out.mono ?_)
      rintro e w4 ⟨b',rfl,h4,b4⟩
      have JX4:=Zh (JX.out.keep b4)
      have JB4:=Zh (JB.out.trans (b4.mono JB.out.size))
      have HZN:=Zh h4
      clear h4 b4 JX JB HWS
      obtain⟨W9,hW9⟩:∃ W9,two w4 w.heap.size (.bool b') (.slice a k c')=W9:=⟨_,rfl⟩
      have R9:B2 W9 w.heap.size (.bool b') (.slice a k c'):=by rw[←hW9];exact JX4.out.set _ _
      have PP:Hid (RdPost l w (.returned (.tuple #[.agg #[.bool b',.slice a k c'],.bool true])) W9):=by
       rw[←hW9]
       exact .inl ⟨_,_,_,_,_,HZ3.out,rfl,HZN.out.set2 JX4.out _ _,by rw[zv_abs];exact HBD.out,below_two JB4.out (Nat.le_refl _) _ _⟩
      have q0:=JX4.out.c0
      have q1:=JX4.out.c1
      have g0:=JX4.out.fr 0
      have g1:=JX4.out.fr 1
      obtain⟨r0,r1,_,_⟩:=id R9
      unfold two at hW9
      clear R9
      go_wp2_with fail
      exact bodyPost_ret (v:=.tuple #[.agg #[.bool b',.slice a k c'],.bool true]) (by simp[results,Tryz.results165,go_sem,r0,r1]) rfl PP.out
   ·subst hx
    have hz':((u[0].toNat:Int) == 48)=true:=by rw[hz];rfl
    go_enter Tryz.func165,Tryz.ntmps165
    go_wp2_with (go_at_call 98;refine (HTP.out _).mono ?_;rintro e w' ⟨rfl,rfl⟩)
    clear hW1
    go_loopw [4,6] (fun s v wr=>∃ (x:ByteArray) (p:Nat) (a:Option Addr) (k c:Nat),s=.string x∧v=.slice a k c∧p≤d.length∧Hid (Rdg w d p x a k c wr)) (fun s _ _=>match s with | .string x=>x.size | _=>0)
    case atStart=>exact⟨u,0,none,0,0,rfl,rfl,Nat.zero_le _,K0.out⟩
    case round=>
     clear K0
     obtain⟨x,p,a,k,c',rfl,rfl,hp,hK⟩:=hrel
     have hxs:x.size=d.length-p:=by
      have h:=congrArg List.length hK.out.left
      rw[List.length_drop]at h
      simpa using h
     have HXS:=Zh hxs
     have hlenB:=HLEN.out
     by_cases hx0:0<x.size
     ·have hx0':(0:Int)<(x.size:Int):=by omega
      obtain⟨s0,hs0⟩:∃ s0,(x.size-1) % 19=s0:=⟨_,rfl⟩
      have hs19:s0<19:=by rw[←hs0];exact Nat.mod_lt _ (by decide)
      have hsle:s0+1≤x.size:=by rw[←hs0];have:=Nat.mod_le (x.size-1) 19;omega
      have e1:((x.size:Int)-1) % 19=(s0:Int):=by omega
      have hsle':(s0:Int)+1≤(x.size:Int):=by omega
      have hrow:p=0∨s0=18:=by
       rcases hK.out.row with h|h
       ·exact .inl h
       ·right;omega
      obtain⟨y,hy⟩:∃ y,x.extract 0 (s0+1)=y:=⟨_,rfl⟩
      obtain⟨x2,hx2⟩:∃ x2,x.extract (s0+1) x.size=x2:=⟨_,rfl⟩
      have hyl:y.data.toList=(d.drop p).take (s0+1):=by rw[←hy,extract_list,hK.out.left,List.drop_zero,Nat.sub_zero]
      have hx2l:x2.data.toList=d.drop (p+(s0+1)):=by
       have hxl:x.data.toList.length=x.size:=by simp
       rw[←hx2,extract_list,List.take_of_length_le (by rw[List.length_drop,hxl];omega),hK.out.left,List.drop_drop]
      have hys:y.size=s0+1:=by rw[←hy,ByteArray.size_extract];omega
      have hx2s:x2.size=d.length-(p+(s0+1)):=by rw[←hx2,ByteArray.size_extract];omega
      have htk:d.take (p+(s0+1))=d.take p ++ (d.drop p).take (s0+1):=List.take_add
      have hylen:((d.drop p).take (s0+1)).length=s0+1:=by rw[List.length_take,List.length_drop];omega
      have HCK:=Zh (fun w=>readChunk_c y w (by omega))
      rw[hyl]at HCK
      have HTK:=Zh htk
      have HX2L:=Zh hx2l
      have HX2S:=Zh hx2s
      have HYL:=Zh hylen
      have hpb:p+(s0+1)≤d.length:=by omega
      have hx2000:x.size≤2000:=by omega
      have hx2000':(x.size:Int)≤2000:=by omega
      clear hs0 hyl hx2l hys hx2s htk hylen hxs
      by_cases hdg:digs ((d.drop p).take (s0+1))=true
      ·rw[hdg]at HCK
       go_wp2_with fail
       (with_reducible refine (HCK.out _).mono ?_)
       rintro e wq ⟨v,rfl,hv,hvb,rfl⟩
       have HV:=Zh (hv trivial)
       have HTS:=Zh (timesPlus_c a k c' (val (d.take p)) 10000000000000000000 v wr hK.out.lim (by decide) hvb (Nat.lt_of_lt_of_le (val_bp hK.out.dig (by rw[List.length_take];omega)) (bp_mono (by decide))))
       clear hv HCK
       go_wp2_with fail
       (refine HTS.out.mono ?_)
       rintro e w4 ⟨a4,k4,c4,rfl,h4,b4⟩
       have NX:Hid (Rdg w d (p+(s0+1)) x2 a4 k4 c4 w4):=by
        refine⟨HX2L.out,?_,?_,?_,hK.out.box.keep b4,hK.out.bel.trans (b4.mono hK.out.bel.size)⟩
        ·rw[HTK.out,val_append,HYL.out,←HV.out]
         have e:val (d.take p)*10 ^ (s0+1)=val (d.take p)*10000000000000000000:=by
          rcases hrow with h|h
          ·subst h;simp[val]
          ·subst h;rfl
         rw[e];exact h4
        ·rw[HTK.out,digs_append,hK.out.dig,hdg];rfl
        ·have h1:=HX2S.out
         have h2:=HXS.out
         rcases hK.out.row with h|h
         ·right;omega
         ·right;omega
       clear h4 b4 hK HTS
       go_wp2
       go_roundw
       case rel=>exact⟨x2,p+(s0+1),a4,k4,c4,rfl,rfl,hpb,NX.out⟩
       case measure=>simp;have:=HX2S.out;have:=HXS.out;omega
      ·have hdf:digs ((d.drop p).take (s0+1))=false:=by simpa using hdg
       have EZ:Hid (zread l=none):=by
        unfold Hid
        rw[HZ2.out,if_pos]
        have e:d=d.take (p+(s0+1)) ++ d.drop (p+(s0+1)):=(List.take_append_drop _ _).symm
        rw[e,digs_append,HTK.out,digs_append,hdf]
        simp
       rw[hdf]at HCK
       obtain⟨W9,hW9⟩:∃ W9,two wr w.heap.size (.bool false) (.slice none 0 0)=W9:=⟨_,rfl⟩
       have R9:B2 W9 w.heap.size (.bool false) (.slice none 0 0):=by rw[←hW9];exact hK.out.box.set _ _
       have PP:Hid (RdPost l w (.returned (.tuple #[.agg #[.bool false,.slice none 0 0],.bool false])) W9):=by
        rw[←hW9]
        exact .inr ⟨EZ.out,rfl,below_two hK.out.bel (Nat.le_refl _) _ _⟩
       have q0:=hK.out.box.c0
       have q1:=hK.out.box.c1
       have g0:=hK.out.box.fr 0
       have g1:=hK.out.box.fr 1
       obtain⟨r0,r1,_,_⟩:=id R9
       unfold two at hW9
       clear R9 hK
       go_wp2_with fail
       (with_reducible refine (HCK.out _).mono ?_)
       rintro e wq ⟨v,rfl,hv,hvb,rfl⟩
       clear hv
       go_wp2_with fail
       exact bodyPost_ret (v:=.tuple #[.agg #[.bool false,.slice none 0 0],.bool false]) (by simp[results,Tryz.results165,go_sem,r0,r1]) rfl PP.out
     ·have hx0':¬ (0:Int)<(x.size:Int):=by omega
      have hpe:p=d.length:=by omega
      have hD:Hid (digs d=true∧Nm wr a k c' (val d)):=by
       have h1:=hK.out.dig
       have h2:=hK.out.lim
       rw[hpe,List.take_length]at h1 h2
       exact⟨h1,h2⟩
      have HZ3:Hid (zread l=some (zv false (val d))):=by
       unfold Hid
       rw[HZ2.out,if_neg (by rw[hD.out.1];simp)]
       rfl
      have JX:=Zh hK.out.box
      have JB:=Zh hK.out.bel
      have HBD:Hid (val d<bp 125):=val_bp hD.out.1 hlenB
      clear hK hpe hxs
      have HWS:=Zh (withSign_c false a k c' (val d) wr hD.out.2)
      go_wp2_with fail
      (refine HWS.out.mono ?_)
      rintro e w4 ⟨b',rfl,h4,b4⟩
      have JX4:=Zh (JX.out.keep b4)
      have JB4:=Zh (JB.out.trans (b4.mono JB.out.size))
      have HZN:=Zh h4
      clear h4 b4 JX JB HWS
      obtain⟨W9,hW9⟩:∃ W9,two w4 w.heap.size (.bool b') (.slice a k c')=W9:=⟨_,rfl⟩
      have R9:B2 W9 w.heap.size (.bool b') (.slice a k c'):=by rw[←hW9];exact JX4.out.set _ _
      have PP:Hid (RdPost l w (.returned (.tuple #[.agg #[.bool b',.slice a k c'],.bool true])) W9):=by
       rw[←hW9]
       exact .inl ⟨_,_,_,_,_,HZ3.out,rfl,HZN.out.set2 JX4.out _ _,by rw[zv_abs];exact HBD.out,below_two JB4.out (Nat.le_refl _) _ _⟩
      have q0:=JX4.out.c0
      have q1:=JX4.out.c1
      have g0:=JX4.out.fr 0
      have g1:=JX4.out.fr 1
      obtain⟨r0,r1,_,_⟩:=id R9
      unfold two at hW9
      clear R9
      go_wp2_with fail
      exact bodyPost_ret (v:=.tuple #[.agg #[.bool b',.slice a k c'],.bool true]) (by simp[results,Tryz.results165,go_sem,r0,r1]) rfl PP.out
def large(n d:List UInt8):Bool:=decide (2000<(Lib.trimPrefix n [45]).length) || decide (2000<d.length)
def rread(n d:List UInt8):Option (Int×Int):=
 if large n d=true then none
 else match zread n,zread d with
  | some x,some y=>if 0<y∧Int.gcd x y=1 then some (x,y) else none
  | _,_=>none
def rflt(n d:List UInt8):Int:=if large n d=true then 2 else 3
abbrev fz4:Value:=.agg #[.bool false,.slice none 0 0,.bool false,.slice none 0 0]
def FoPost(n d:List UInt8)(w:World)(e:Ending)(w':World):Prop:=
 (∃ x y b a k c b' a' k' c',rread n d=some (x,y)∧e=.returned (.tuple #[.agg #[.bool b,.slice a k c,.bool b',.slice a' k' c'],.int .i64 0])∧Zn w' b a k c x∧Zn w' b' a' k' c' y∧x.natAbs<bp 125∧y.natAbs<bp 125∧0<y∧Int.gcd x y=1∧Below w.heap.size w w') ∨
 (rread n d=none∧e=.returned (.tuple #[fz4,.int .i64 (rflt n d)])∧Below w.heap.size w w')
theorem B2.other4{W:World}{g h:Nat}{x0 x1:Value}(hb:B2 W g x0 x1)(hne:h≠g)(y0 y1 y2 y3:Value):B2 (four W h y0 y1 y2 y3) g x0 x1:=
 ⟨(four_cell hne _ _ _ _ 0).trans hb.c0,(four_cell hne _ _ _ _ 1).trans hb.c1,fun o=>by unfold four;simp only[World.frozen?_setCell];exact hb.fr o,by rw[four_size];exact hb.lt⟩
def RdAny(l:List UInt8)(w:World)(e:Ending)(w':World):Prop:=
 ∃ b a k c ok,e=.returned (.tuple #[.agg #[.bool b,.slice a k c],.bool ok])∧Below w.heap.size w w'∧(ok=true→∃ z,zread l=some z∧Zn w' b a k c z∧z.natAbs<bp 125)∧(ok=false→zread l=none)
theorem Read_any(t:ByteArray)(w:World)(hds:(Lib.trimPrefix t.data.toList [45]).length≤2000):Calls Tryz.prog 165 #[.string t] w (RdAny t.data.toList w):=
 (Read_c t w hds).mono fun e w' h=>by
  rcases h with ⟨z,b,a,k,c,h1,h2,h3,h4,h5⟩|⟨h1,h2,h3⟩
  ·exact⟨b,a,k,c,true,h2,h5,(fun _=>⟨z,h1,h3,h4⟩),(fun e=>nomatch e)⟩
  ·exact⟨false,none,0,0,false,h2,h3,(fun e=>nomatch e),(fun _=>h1)⟩
theorem trim_len(l p:List UInt8):(Lib.trimPrefix l p).length≤l.length:=by
 unfold Lib.trimPrefix
 split
 ·rw[List.length_drop];omega
 ·exact Nat.le_refl _
structure Fo (w:World) (gn gd:Nat) (s t:ByteArray) (b1:Bool) (a1:Option Addr) (k1 c1:Nat) (b2:Bool) (a2:Option Addr) (k2 c2:Nat) (W:World):Prop where
 x:B2 W w.heap.size (.string s) (.string t)
 r:B4 W (w.heap.size+1) (.bool false) (.slice none 0 0) (.bool false) (.slice none 0 0)
 n:B2 W gn (.bool b1) (.slice a1 k1 c1)
 d:B2 W gd (.bool b2) (.slice a2 k2 c2)
 hn:w.heap.size+1<gn
 hd:gn<gd
 bel:Below w.heap.size w W
theorem Fo.keep{w:World}{gn gd:Nat}{s t:ByteArray}{b1:Bool}{a1:Option Addr}{k1 c1:Nat}{b2:Bool}{a2:Option Addr}{k2 c2:Nat}{W W':World}(h:Fo w gn gd s t b1 a1 k1 c1 b2 a2 k2 c2 W)(hb:Below W.heap.size W W'):Fo w gn gd s t b1 a1 k1 c1 b2 a2 k2 c2 W':=
 ⟨h.x.keep hb,h.r.keep hb,h.n.keep hb,h.d.keep hb,h.hn,h.hd,h.bel.trans (hb.mono h.bel.size)⟩
set_option maxHeartbeats 4000000 in
theorem fractionOf_c(s t:ByteArray) (w:World) :
  Calls Tryz.prog 140 #[.agg #[.string s,.string t]] w (FoPost s.data.toList t.data.toList w):=by
 obtain⟨u,hu⟩:∃ u:ByteArray,u=⟨(Lib.trimPrefix s.data.toList [45]).toArray⟩:=⟨_,rfl⟩
 have hus:u.size=(Lib.trimPrefix s.data.toList [45]).length:=by rw[hu];simp[ByteArray.size]
 have hts:t.size=t.data.toList.length:=by simp
 have HTP:Hid (∀ w,Calls Tryz.prog 98 #[.string s,.string ⟨#[45]⟩] w fun e w'=>e=.returned (.string u)∧w=w'):=fun w=>(Tryz.strings_TrimPrefix s ⟨#[45]⟩ w).mono fun e w' ⟨he,hw⟩=>⟨by rw[he,hu],hw.symm⟩
 have HLG:Hid (large s.data.toList t.data.toList=(decide (2000<u.size) || decide (2000<t.size))):=by unfold Hid large;rw[hus,hts]
 have HUS:=Zh hus
 clear hu hus hts
 obtain⟨W0,hW0⟩:∃ W0,(w.alloc (.cells #[.string s,.string t] 32)).alloc (.cells #[.bool false,.slice none 0 0,.bool false,.slice none 0 0] 109)=W0:=⟨_,rfl⟩
 have s1:(w.alloc (.cells #[.string s,.string t] 32)).heap.size=w.heap.size+1:=by simp
 have X0:B2 W0 w.heap.size (.string s) (.string t):=by rw[←hW0];exact (B2.made w _ _ _).keep (bel_one _ _)
 have R0:B4 W0 (w.heap.size+1) (.bool false) (.slice none 0 0) (.bool false) (.slice none 0 0):=by rw[←hW0,←s1];exact B4.made _ _ _ _ _ _
 have B0:Below w.heap.size w W0:=by rw[←hW0];exact ((Below.refl _ _).alloc (Nat.le_refl _) _).alloc (by simp) _
 have S0:w.heap.size+1<W0.heap.size:=by rw[←hW0];simp
 have HX:=Zh X0
 have HR:=Zh R0
 have HB:=Zh B0
 have HS:=Zh S0
 have x0:=X0.c0
 have x1:=X0.c1
 clear X0 R0 B0 S0 s1
 by_cases hl:large s.data.toList t.data.toList=true
 ·have PF:Hid (rread s.data.toList t.data.toList=none∧rflt s.data.toList t.data.toList=2):=⟨by unfold rread;rw[if_pos hl],by unfold rflt;rw[if_pos hl]⟩
  have hl2:2000<u.size∨(¬ 2000<u.size∧2000<t.size):=by
   rw[HLG.out]at hl
   simp at hl
   omega
  clear HLG hl
  rcases hl2 with h|⟨h,h'⟩
  ·have hi:(2000:Int)<(u.size:Int):=by omega
   go_enter Tryz.func140,Tryz.ntmps140
   obtain⟨W9,hW9⟩:∃ W9,four W0 (w.heap.size+1) (.bool false) (.slice none 0 0) (.bool false) (.slice none 0 0)=W9:=⟨_,rfl⟩
   have R9:B4 W9 (w.heap.size+1) (.bool false) (.slice none 0 0) (.bool false) (.slice none 0 0):=by rw[←hW9];exact HR.out.set _ _ _ _
   have PP:Hid (FoPost s.data.toList t.data.toList w (.returned (.tuple #[fz4,.int .i64 2])) W9):=by
    rw[←hW9]
    exact .inr ⟨PF.out.1,by rw[PF.out.2],below_four HB.out (Nat.le_succ _) _ _ _ _⟩
   have q0:=HR.out.c0
   have q1:=HR.out.c1
   have q2:=HR.out.c2
   have q3:=HR.out.c3
   have g0:=HR.out.fr 0
   have g1:=HR.out.fr 1
   have g2:=HR.out.fr 2
   have g3:=HR.out.fr 3
   obtain⟨r0,r1,r2,r3,_,_⟩:=id R9
   unfold four at hW9
   clear R9
   go_wp2_with (go_at_call 98;refine (HTP.out _).mono ?_;rintro e w' ⟨rfl,rfl⟩)
   exact bodyPost_ret (v:=.tuple #[fz4,.int .i64 2]) (by simp[results,Tryz.results140,go_sem,r0,r1,r2,r3]) rfl PP.out
  ·have hi:¬ (2000:Int)<(u.size:Int):=by omega
   have hi':(2000:Int)<(t.size:Int):=by omega
   go_enter Tryz.func140,Tryz.ntmps140
   obtain⟨W9,hW9⟩:∃ W9,four W0 (w.heap.size+1) (.bool false) (.slice none 0 0) (.bool false) (.slice none 0 0)=W9:=⟨_,rfl⟩
   have R9:B4 W9 (w.heap.size+1) (.bool false) (.slice none 0 0) (.bool false) (.slice none 0 0):=by rw[←hW9];exact HR.out.set _ _ _ _
   have PP:Hid (FoPost s.data.toList t.data.toList w (.returned (.tuple #[fz4,.int .i64 2])) W9):=by
    rw[←hW9]
    exact .inr ⟨PF.out.1,by rw[PF.out.2],below_four HB.out (Nat.le_succ _) _ _ _ _⟩
   have q0:=HR.out.c0
   have q1:=HR.out.c1
   have q2:=HR.out.c2
   have q3:=HR.out.c3
   have g0:=HR.out.fr 0
   have g1:=HR.out.fr 1
   have g2:=HR.out.fr 2
   have g3:=HR.out.fr 3
   obtain⟨r0,r1,r2,r3,_,_⟩:=id R9
   unfold four at hW9
   clear R9
   go_wp2_with (go_at_call 98;refine (HTP.out _).mono ?_;rintro e w' ⟨rfl,rfl⟩)
   exact bodyPost_ret (v:=.tuple #[fz4,.int .i64 2]) (by simp[results,Tryz.results140,go_sem,r0,r1,r2,r3]) rfl PP.out
 ·have hlf:large s.data.toList t.data.toList=false:=by simpa using hl
  have hu2:¬ 2000<u.size:=by rw[HLG.out]at hlf;simp at hlf;omega
  have ht2:¬ 2000<t.size:=by rw[HLG.out]at hlf;simp at hlf;omega
  have hi:¬ (2000:Int)<(u.size:Int):=by omega
  have hi':¬ (2000:Int)<(t.size:Int):=by omega
  have HFL:Hid (rflt s.data.toList t.data.toList=3):=by unfold Hid rflt;rw[if_neg hl]
  have HRR:Hid (rread s.data.toList t.data.toList=match zread s.data.toList,zread t.data.toList with | some x,some y=>if 0<y∧Int.gcd x y=1 then some (x,y) else none | _,_=>none):=by unfold Hid rread;rw[if_neg hl]
  have HR1:=Zh (fun w=>Read_any s w (by rw[←HUS.out];omega))
  have HR2:=Zh (fun w=>Read_any t w (by have:=trim_len t.data.toList [45];simp at this ht2;omega))
  clear HLG hl hlf
  go_enter Tryz.func140,Tryz.ntmps140
  go_wp2_with (go_at_call 98;refine (HTP.out _).mono ?_;rintro e w' ⟨rfl,rfl⟩)
  refine (HR1.out _).mono ?_
  rintro e w1 ⟨b1,a1,k1,c1,ok1,rfl,bb1,hok1,hno1⟩
  clear hW0 x0 x1
  have O1:=Zh hok1
  have N1:=Zh hno1
  have HX1:=Zh (HX.out.keep bb1)
  have HR1':=Zh (HR.out.keep bb1)
  have HB1:=Zh (HB.out.trans (bb1.mono HB.out.size))
  have HS1:Hid (w.heap.size+1<w1.heap.size):=Nat.lt_of_lt_of_le HS.out bb1.size
  clear HX HR HB HS bb1 hok1 hno1 HR1
  obtain⟨W2,hW2⟩:∃ W2,w1.alloc (.cells #[.bool false,.slice none 0 0] 107)=W2:=⟨_,rfl⟩
  have D2:B2 W2 w1.heap.size (.bool false) (.slice none 0 0):=by rw[←hW2];exact B2.made _ _ _ _
  have BL2:Below w1.heap.size w1 W2:=by rw[←hW2];exact bel_one _ _
  obtain⟨gn,hgn⟩:∃ gn,w1.heap.size=gn:=⟨_,rfl⟩
  have HGN:Hid (w.heap.size+1<gn):=by rw[←hgn];exact HS1.out
  rw[hgn]at D2
  obtain⟨W3,hW3⟩:∃ W3,two W2 gn (.bool b1) (.slice a1 k1 c1)=W3:=⟨_,rfl⟩
  have gne:=HGN.out
  have X3:B2 W3 w.heap.size (.string s) (.string t):=by rw[←hW3];exact (HX1.out.keep BL2).other (by omega) _ _
  have R3:Hid (B4 W3 (w.heap.size+1) (.bool false) (.slice none 0 0) (.bool false) (.slice none 0 0)):=by rw[←hW3];exact (HR1'.out.keep BL2).other2 (by omega) _ _
  have NN3:Hid (B2 W3 gn (.bool b1) (.slice a1 k1 c1)):=by rw[←hW3];exact D2.set _ _
  have BB3:Hid (Below w.heap.size w W3):=by rw[←hW3];exact below_two (HB1.out.trans (BL2.mono HB1.out.size)) (by omega) _ _
  have GS3:Hid (gn<W3.heap.size):=NN3.out.lt
  have ZZ3:Hid (ok1=true→∃ z,zread s.data.toList=some z∧Zn W3 b1 a1 k1 c1 z∧z.natAbs<bp 125):=by
   intro h
   obtain⟨z,e1,e2,e3⟩:=O1.out h
   exact⟨z,e1,by rw[←hW3];exact (e2.below BL2).set2 D2 _ _,e3⟩
  have d0:=D2.c0
  have d1:=D2.c1
  have f0:=D2.fr 0
  have f1:=D2.fr 1
  have x0:=X3.c0
  have x1:=X3.c1
  have HX3:=Zh X3
  clear D2 BL2 X3 O1 HX1 HR1' HB1 HS1 gne
  unfold two at hW3
  go_wp2_with fail
  clear hW3 hW2 d0 d1 f0 f1 hgn
  refine (HR2.out _).mono ?_
  rintro e w4 ⟨b2,a2,k2,c2,ok2,rfl,bb4,hok2,hno2⟩
  have O2:=Zh hok2
  have N2:=Zh hno2
  have HX4:=Zh (HX3.out.keep bb4)
  have HR4:=Zh (R3.out.keep bb4)
  have HN4:=Zh (NN3.out.keep bb4)
  have HB4:=Zh (BB3.out.trans (bb4.mono BB3.out.size))
  have HS4:Hid (gn<w4.heap.size):=Nat.lt_of_lt_of_le GS3.out bb4.size
  have ZZ4:Hid (ok1=true→∃ z,zread s.data.toList=some z∧Zn w4 b1 a1 k1 c1 z∧z.natAbs<bp 125):=by
   intro h
   obtain⟨z,e1,e2,e3⟩:=ZZ3.out h
   exact⟨z,e1,e2.below bb4,e3⟩
  clear HX3 R3 NN3 BB3 GS3 ZZ3 bb4 hok2 hno2 HR2 x0 x1
  obtain⟨W5,hW5⟩:∃ W5,w4.alloc (.cells #[.bool false,.slice none 0 0] 107)=W5:=⟨_,rfl⟩
  have D5:B2 W5 w4.heap.size (.bool false) (.slice none 0 0):=by rw[←hW5];exact B2.made _ _ _ _
  have BL5:Below w4.heap.size w4 W5:=by rw[←hW5];exact bel_one _ _
  obtain⟨gd,hgd⟩:∃ gd,w4.heap.size=gd:=⟨_,rfl⟩
  have HGD:Hid (gn<gd):=by rw[←hgd];exact HS4.out
  rw[hgd]at D5
  obtain⟨W6,hW6⟩:∃ W6,two W5 gd (.bool b2) (.slice a2 k2 c2)=W6:=⟨_,rfl⟩
  have gne:=HGN.out
  have gde:=HGD.out
  have J6:Hid (Fo w gn gd s t b1 a1 k1 c1 b2 a2 k2 c2 W6):=by
   rw[←hW6]
   exact⟨(HX4.out.keep BL5).other (by omega) _ _,(HR4.out.keep BL5).other2 (by omega) _ _,(HN4.out.keep BL5).other (by omega) _ _,D5.set _ _,gne,gde,below_two (HB4.out.trans (BL5.mono HB4.out.size)) (by omega) _ _⟩
  have Z1:Hid (ok1=true→∃ z,zread s.data.toList=some z∧Zn W6 b1 a1 k1 c1 z∧z.natAbs<bp 125):=by
   intro h
   obtain⟨z,e1,e2,e3⟩:=ZZ4.out h
   exact⟨z,e1,by rw[←hW6];exact (e2.below BL5).set2 D5 _ _,e3⟩
  have Z2:Hid (ok2=true→∃ z,zread t.data.toList=some z∧Zn W6 b2 a2 k2 c2 z∧z.natAbs<bp 125):=by
   intro h
   obtain⟨z,e1,e2,e3⟩:=O2.out h
   exact⟨z,e1,by rw[←hW6];exact (e2.below BL5).set2 D5 _ _,e3⟩
  have d0:=D5.c0
  have d1:=D5.c1
  have f0:=D5.fr 0
  have f1:=D5.fr 1
  have n0:=J6.out.n.c0
  have n1:=J6.out.n.c1
  have p0:=J6.out.d.c0
  have p1:=J6.out.d.c1
  clear D5 BL5 O2 HX4 HR4 HN4 HB4 HS4 ZZ4 gne gde
  unfold two at hW6
  cases ok1
  ·have PF:Hid (rread s.data.toList t.data.toList=none∧rflt s.data.toList t.data.toList=3):=⟨by rw[HRR.out,N1.out rfl],HFL.out⟩
   clear Z1 Z2 N1 N2 HRR HFL
   obtain⟨W9,hW9⟩:∃ W9,four W6 (w.heap.size+1) (.bool false) (.slice none 0 0) (.bool false) (.slice none 0 0)=W9:=⟨_,rfl⟩
   have R9:B4 W9 (w.heap.size+1) (.bool false) (.slice none 0 0) (.bool false) (.slice none 0 0):=by rw[←hW9];exact J6.out.r.set _ _ _ _
   have PP:Hid (FoPost s.data.toList t.data.toList w (.returned (.tuple #[fz4,.int .i64 3])) W9):=by
    rw[←hW9]
    exact .inr ⟨PF.out.1,by rw[PF.out.2],below_four J6.out.bel (Nat.le_succ _) _ _ _ _⟩
   have q0:=J6.out.r.c0
   have q1:=J6.out.r.c1
   have q2:=J6.out.r.c2
   have q3:=J6.out.r.c3
   have g0:=J6.out.r.fr 0
   have g1:=J6.out.r.fr 1
   have g2:=J6.out.r.fr 2
   have g3:=J6.out.r.fr 3
   obtain⟨r0,r1,r2,r3,_,_⟩:=id R9
   unfold four at hW9
   clear R9
   go_wp2_with fail
   exact bodyPost_ret (v:=.tuple #[fz4,.int .i64 3]) (by simp[results,Tryz.results140,go_sem,r0,r1,r2,r3]) rfl PP.out
  ·cases ok2
   ·have PF:Hid (rread s.data.toList t.data.toList=none∧rflt s.data.toList t.data.toList=3):=⟨by rw[HRR.out,N2.out rfl];split<;>simp_all,HFL.out⟩
    clear Z1 Z2 N1 N2 HRR HFL
    obtain⟨W9,hW9⟩:∃ W9,four W6 (w.heap.size+1) (.bool false) (.slice none 0 0) (.bool false) (.slice none 0 0)=W9:=⟨_,rfl⟩
    have R9:B4 W9 (w.heap.size+1) (.bool false) (.slice none 0 0) (.bool false) (.slice none 0 0):=by rw[←hW9];exact J6.out.r.set _ _ _ _
    have PP:Hid (FoPost s.data.toList t.data.toList w (.returned (.tuple #[fz4,.int .i64 3])) W9):=by
     rw[←hW9]
     exact .inr ⟨PF.out.1,by rw[PF.out.2],below_four J6.out.bel (Nat.le_succ _) _ _ _ _⟩
    have q0:=J6.out.r.c0
    have q1:=J6.out.r.c1
    have q2:=J6.out.r.c2
    have q3:=J6.out.r.c3
    have g0:=J6.out.r.fr 0
    have g1:=J6.out.r.fr 1
    have g2:=J6.out.r.fr 2
    have g3:=J6.out.r.fr 3
    obtain⟨r0,r1,r2,r3,_,_⟩:=id R9
    unfold four at hW9
    clear R9
    go_wp2_with fail
    exact bodyPost_ret (v:=.tuple #[fz4,.int .i64 3]) (by simp[results,Tryz.results140,go_sem,r0,r1,r2,r3]) rfl PP.out
   ·obtain⟨x,ex,hx,hxb⟩:=Z1.out rfl
    obtain⟨y,ey,hy,hyb⟩:=Z2.out rfl
    rw[ex,ey]at HRR
    have ZX:=Zh hx
    have ZY:=Zh hy
    have XB:=Zh hxb
    have YB:=Zh hyb
    clear Z1 Z2 N1 N2 ex ey hx hy hxb hyb
    have HSG:=Zh (Sign_c b2 a2 k2 c2 y W6 ZY.out)
    by_cases hpos:0<y
    ·have hsg:decide (y.sign≤0)=false:=by rw[Int.sign_eq_one_of_pos hpos];rfl
     have HP:=Zh hpos
     clear hpos
     generalize y.sign=sy at *
     go_wp2_with fail
     clear hW6 hW5 hgd d0 d1 f0 f1
     refine HSG.out.mono ?_
     rintro e w7 ⟨rfl,b7⟩
     have J7:=Zh (J6.out.keep b7)
     have X7:=Zh (ZX.out.below b7)
     have Y7:=Zh (ZY.out.below b7)
     clear b7 J6 ZX ZY HSG n0 n1 p0 p1
     have n0:=J7.out.n.c0
     have n1:=J7.out.n.c1
     have p0:=J7.out.d.c0
     have p1:=J7.out.d.c1
     have HCM:=Zh (Common_c b1 b2 a1 a2 k1 k2 c1 c2 x y w7 X7.out Y7.out (Nat.lt_of_lt_of_le XB.out (bp_mono (by decide))) (Nat.lt_of_lt_of_le YB.out (bp_mono (by decide))))
     go_wp2_with fail
     clear n0 n1 p0 p1
     refine HCM.out.mono ?_
     rintro e w8 ⟨gb,ga,gk,gc,rfl,hg,b8⟩
     have J8:=Zh (J7.out.keep b8)
     have X8:=Zh (X7.out.below b8)
     have Y8:=Zh (Y7.out.below b8)
     have G8:=Zh hg
     clear hg b8 J7 X7 Y7 HCM
     go_wp2_with fail
     refine (Of_c 1 w8 (by decide) (by decide)).mono ?_
     rintro e w9 ⟨ob,oa,ok,oc,rfl,ho,b9⟩
     have J9:=Zh (J8.out.keep b9)
     have X9:=Zh (X8.out.below b9)
     have Y9:=Zh (Y8.out.below b9)
     have HEQ:=Zh (Equal_c gb ob ga oa gk ok gc oc _ _ w9 (G8.out.below b9) ho)
     clear ho b9 J8 X8 Y8 G8
     by_cases hone:(Int.gcd x y:Int)=1
     ·rw[decide_eq_true hone]at HEQ
      go_wp2_with fail
      refine HEQ.out.mono ?_
      rintro e wA ⟨rfl,bA⟩
      have JA:=Zh (J9.out.keep bA)
      have XA:=Zh (X9.out.below bA)
      have YA:=Zh (Y9.out.below bA)
      have PF:Hid (rread s.data.toList t.data.toList=some (x,y)∧Int.gcd x y=1):=by
       have h1:Int.gcd x y=1:=by omega
       refine⟨?_,h1⟩
       rw[HRR.out]
       rw[if_pos ⟨HP.out,h1⟩]
      clear bA J9 X9 Y9 HEQ hone HRR HFL
      have n0:=JA.out.n.c0
      have n1:=JA.out.n.c1
      have p0:=JA.out.d.c0
      have p1:=JA.out.d.c1
      obtain⟨W9,hW9⟩:∃ W9,four wA (w.heap.size+1) (.bool b1) (.slice a1 k1 c1) (.bool b2) (.slice a2 k2 c2)=W9:=⟨_,rfl⟩
      have R9:B4 W9 (w.heap.size+1) (.bool b1) (.slice a1 k1 c1) (.bool b2) (.slice a2 k2 c2):=by rw[←hW9];exact JA.out.r.set _ _ _ _
      have PP:Hid (FoPost s.data.toList t.data.toList w (.returned (.tuple #[.agg #[.bool b1,.slice a1 k1 c1,.bool b2,.slice a2 k2 c2],.int .i64 0])) W9):=by
       rw[←hW9]
       exact .inl ⟨x,y,_,_,_,_,_,_,_,_,PF.out.1,rfl,XA.out.set4 JA.out.r (NL.b _) (NL.s _ _ _) (NL.b _) (NL.s _ _ _) _ _ _ _,YA.out.set4 JA.out.r (NL.b _) (NL.s _ _ _) (NL.b _) (NL.s _ _ _) _ _ _ _,XB.out,YB.out,HP.out,PF.out.2,below_four JA.out.bel (Nat.le_succ _) _ _ _ _⟩
      have q0:=JA.out.r.c0
      have q1:=JA.out.r.c1
      have q2:=JA.out.r.c2
      have q3:=JA.out.r.c3
      have g0:=JA.out.r.fr 0
      have g1:=JA.out.r.fr 1
      have g2:=JA.out.r.fr 2
      have g3:=JA.out.r.fr 3
      obtain⟨r0,r1,r2,r3,_,_⟩:=id R9
      unfold four at hW9
      clear R9 JA XA YA
      go_wp2_with fail
      exact bodyPost_ret (v:=.tuple #[.agg #[.bool b1,.slice a1 k1 c1,.bool b2,.slice a2 k2 c2],.int .i64 0]) (by simp[results,Tryz.results140,go_sem,r0,r1,r2,r3]) rfl PP.out
     ·rw[decide_eq_false hone]at HEQ
      have PF:Hid (rread s.data.toList t.data.toList=none∧rflt s.data.toList t.data.toList=3):=by
       refine⟨?_,HFL.out⟩
       rw[HRR.out]
       rw[if_neg (fun h=>hone (by omega))]
      clear hone HRR HFL X9 Y9
      go_wp2_with fail
      refine HEQ.out.mono ?_
      rintro e wA ⟨rfl,bA⟩
      have J6:=Zh (J9.out.keep bA)
      clear bA J9 HEQ
      obtain⟨W9,hW9⟩:∃ W9,four wA (w.heap.size+1) (.bool false) (.slice none 0 0) (.bool false) (.slice none 0 0)=W9:=⟨_,rfl⟩
      have R9:B4 W9 (w.heap.size+1) (.bool false) (.slice none 0 0) (.bool false) (.slice none 0 0):=by rw[←hW9];exact J6.out.r.set _ _ _ _
      have PP:Hid (FoPost s.data.toList t.data.toList w (.returned (.tuple #[fz4,.int .i64 3])) W9):=by
       rw[←hW9]
       exact .inr ⟨PF.out.1,by rw[PF.out.2],below_four J6.out.bel (Nat.le_succ _) _ _ _ _⟩
      have q0:=J6.out.r.c0
      have q1:=J6.out.r.c1
      have q2:=J6.out.r.c2
      have q3:=J6.out.r.c3
      have g0:=J6.out.r.fr 0
      have g1:=J6.out.r.fr 1
      have g2:=J6.out.r.fr 2
      have g3:=J6.out.r.fr 3
      obtain⟨r0,r1,r2,r3,_,_⟩:=id R9
      unfold four at hW9
      clear R9
      go_wp2_with fail
      exact bodyPost_ret (v:=.tuple #[fz4,.int .i64 3]) (by simp[results,Tryz.results140,go_sem,r0,r1,r2,r3]) rfl PP.out
    ·have hsg:decide (y.sign≤0)=true:=by
      rw[decide_eq_true_iff]
      rcases zsgn y with ⟨e,_⟩|⟨e,_⟩|⟨_,e⟩
      ·rw[e];decide
      ·rw[e];decide
      ·exact absurd e hpos
     have PF:Hid (rread s.data.toList t.data.toList=none∧rflt s.data.toList t.data.toList=3):=by
      refine⟨?_,HFL.out⟩
      rw[HRR.out]
      show (if 0<y∧Int.gcd x y=1 then some (x,y) else none)=none
      rw[if_neg (fun h=>hpos h.1)]
     clear hpos HRR HFL
     generalize y.sign=sy at *
     go_wp2_with fail
     clear hW6 hW5 hgd d0 d1 f0 f1 n0 n1 p0 p1
     refine HSG.out.mono ?_
     rintro e wA ⟨rfl,bA⟩
     have J7:=Zh (J6.out.keep bA)
     clear bA J6 HSG ZX ZY
     have J6:=Zh J7.out
     clear J7
     obtain⟨W9,hW9⟩:∃ W9,four wA (w.heap.size+1) (.bool false) (.slice none 0 0) (.bool false) (.slice none 0 0)=W9:=⟨_,rfl⟩
     have R9:B4 W9 (w.heap.size+1) (.bool false) (.slice none 0 0) (.bool false) (.slice none 0 0):=by rw[←hW9];exact J6.out.r.set _ _ _ _
     have PP:Hid (FoPost s.data.toList t.data.toList w (.returned (.tuple #[fz4,.int .i64 3])) W9):=by
      rw[←hW9]
      exact .inr ⟨PF.out.1,by rw[PF.out.2],below_four J6.out.bel (Nat.le_succ _) _ _ _ _⟩
     have q0:=J6.out.r.c0
     have q1:=J6.out.r.c1
     have q2:=J6.out.r.c2
     have q3:=J6.out.r.c3
     have g0:=J6.out.r.fr 0
     have g1:=J6.out.r.fr 1
     have g2:=J6.out.r.fr 2
     have g3:=J6.out.r.fr 3
     obtain⟨r0,r1,r2,r3,_,_⟩:=id R9
     unfold four at hW9
     clear R9
     go_wp2_with fail
     exact bodyPost_ret (v:=.tuple #[fz4,.int .i64 3]) (by simp[results,Tryz.results140,go_sem,r0,r1,r2,r3]) rfl PP.out
theorem trim_tz(z:Int):Lib.trimPrefix (tz z) [45]=Lib.decDigits z.natAbs:=by
 unfold tz
 split
 ·exact trim_minus _
 ·obtain⟨c,r,e,_⟩:=head_dec z.natAbs
  have hd:=digs_dec z.natAbs
  rw[e]at hd ⊢
  have hx:isDig c=true:=by simp[digs]at hd;exact hd.1
  have:=isDig_iff.1 hx
  exact trim_plain (by omega)
def fits(x y:Int):Bool:=decide ((Lib.decDigits x.natAbs).length≤2000) && decide ((Lib.decDigits y.natAbs).length≤2000)
def ra(x y:Int):ByteArray×ByteArray×Int:=if fits x y=true then (tzB x,tzB y,0) else (⟨#[]⟩,⟨#[]⟩,2)
def RaPost(x y:Int)(w:World)(e:Ending)(w':World):Prop:=e=.returned (.tuple #[.agg #[.string (ra x y).1,.string (ra x y).2.1],.int .i64 (ra x y).2.2])∧Below w.heap.size w w'
def red(n d:Int):Int×Int:=(n.tdiv (ovG n d),d.tdiv (ovG n d))
theorem tdiv_abs_le(a b:Int):(a.tdiv b).natAbs≤a.natAbs:=by
 rw[Int.natAbs_tdiv];exact Nat.div_le_self _ _
theorem red_pos{n d:Int}(h:d≠0):0<(red n d).2:=by
 have hg:0<Int.gcd n d:=Int.gcd_pos_of_ne_zero_right n h
 obtain⟨k,hk⟩:(Int.gcd n d:Int) ∣ d:=Int.gcd_dvd_right n d
 show 0<d.tdiv (ovG n d)
 by_cases hd:d<0
 ·have e:ovG n d=-(Int.gcd n d:Int):=by unfold ovG;rw[if_pos hd]
  rw[e]
  generalize Int.gcd n d=g at *
  have hgz:(g:Int)≠0:=by omega
  rw[Int.tdiv_neg,hk,Int.mul_tdiv_cancel_left _ hgz]
  have h2:(g:Int)*k<0:=by rw[←hk];exact hd
  rcases Int.lt_or_le k 0 with h|h
  ·omega
  ·have:=Int.mul_nonneg (show (0:Int)≤g by omega) h
   omega
 ·have e:ovG n d=(Int.gcd n d:Int):=by unfold ovG;rw[if_neg hd]
  rw[e]
  generalize Int.gcd n d=g at *
  have hgz:(g:Int)≠0:=by omega
  rw[hk,Int.mul_tdiv_cancel_left _ hgz]
  have h2:0<(g:Int)*k:=by rw[←hk];omega
  rcases Int.lt_or_le 0 k with h|h
  ·exact h
  ·have:=Int.mul_nonneg (show (0:Int)≤g by omega) (show 0≤-k by omega)
   rw[Int.mul_neg]at this
   omega
def raR(n d:Int):ByteArray×ByteArray×Int:=ra (red n d).1 (red n d).2
def opS(F:Int→Int→Int→Int→Int×Int)(n d n' d':List UInt8):ByteArray×ByteArray×Int:=
 match rread n d with
 | none=>(⟨#[]⟩,⟨#[]⟩,rflt n d)
 | some (x,y)=>match rread n' d' with
  | none=>(⟨#[]⟩,⟨#[]⟩,rflt n' d')
  | some (x',y')=>raR (F x y x' y').1 (F x y x' y').2
def OpPost(r:ByteArray×ByteArray×Int)(w:World)(e:Ending)(w':World):Prop:=e=.returned (.tuple #[.agg #[.string r.1,.string r.2.1],.int .i64 r.2.2])∧Below w.heap.size w w'
def fSum(x y x' y':Int):Int×Int:=(x*y'+x'*y,y*y')
def fMul(x y x' y':Int):Int×Int:=(x*x',y*y')
structure Sa (w:World) (s t s' t':ByteArray) (W:World):Prop where
 x:B2 W w.heap.size (.string s) (.string t)
 y:B2 W (w.heap.size+1) (.string s') (.string t')
 r:B2 W (w.heap.size+1+1) (.string ⟨#[]⟩) (.string ⟨#[]⟩)
 bel:Below w.heap.size w W
theorem Sa.keep{w:World}{s t s' t':ByteArray}{W W':World}(j:Sa w s t s' t' W)(hb:Below W.heap.size W W'):Sa w s t s' t' W':=
 ⟨j.x.keep hb,j.y.keep hb,j.r.keep hb,j.bel.trans (hb.mono j.bel.size)⟩
theorem Sa.made(w:World) (s t s' t':ByteArray) (T1 T2 T3:TypeId) :
  Sa w s t s' t' (((w.alloc (.cells #[.string s,.string t] T1)).alloc (.cells #[.string s',.string t'] T2)).alloc (.cells #[.string ⟨#[]⟩,.string ⟨#[]⟩] T3)):=by
 have s1:(w.alloc (.cells #[.string s,.string t] T1)).heap.size=w.heap.size+1:=by simp
 have s2:((w.alloc (.cells #[.string s,.string t] T1)).alloc (.cells #[.string s',.string t'] T2)).heap.size=w.heap.size+1+1:=by simp
 refine⟨((B2.made w _ _ T1).keep (bel_one _ _)).keep (bel_one _ _),?_,?_,(((Below.refl _ _).alloc (Nat.le_refl _) _).alloc (by simp) _).alloc (by simp;omega) _⟩
 ·rw[←s1];exact (B2.made _ _ _ T2).keep (bel_one _ _)
 ·rw[←s2];exact B2.made _ _ _ T3
structure Fq where
 b:Bool
 a:Option Addr
 k:Nat
 c:Nat
 b':Bool
 a':Option Addr
 k':Nat
 c':Nat
def Fq.z:Fq:=⟨false,none,0,0,false,none,0,0⟩
abbrev Fq.v(f:Fq):Value:=.agg #[.bool f.b,.slice f.a f.k f.c,.bool f.b',.slice f.a' f.k' f.c']
structure Fi (W:World) (f:Fq) (x y:Int):Prop where
 n:Zn W f.b f.a f.k f.c x
 d:Zn W f.b' f.a' f.k' f.c' y
 nb:x.natAbs<bp 125
 db:y.natAbs<bp 125
 pos:0<y
 one:Int.gcd x y=1
theorem Fi.below{W W':World}{f:Fq}{x y:Int}(h:Fi W f x y)(hb:Below W.heap.size W W'):Fi W' f x y:=⟨h.n.below hb,h.d.below hb,h.nb,h.db,h.pos,h.one⟩
abbrev B4q(W:World)(g:Nat)(f:Fq):Prop:=B4 W g (.bool f.b) (.slice f.a f.k f.c) (.bool f.b') (.slice f.a' f.k' f.c')
abbrev fourq(W:World)(g:Nat)(f:Fq):World:=four W g (.bool f.b) (.slice f.a f.k f.c) (.bool f.b') (.slice f.a' f.k' f.c')
theorem Fi.set{W:World}{f:Fq}{x y:Int}(h:Fi W f x y){g:Nat}{f0:Fq}(hb:B4q W g f0)(f1:Fq):Fi (fourq W g f1) f x y:=
 ⟨h.n.set4 hb (NL.b _) (NL.s _ _ _) (NL.b _) (NL.s _ _ _) _ _ _ _,h.d.set4 hb (NL.b _) (NL.s _ _ _) (NL.b _) (NL.s _ _ _) _ _ _ _,h.nb,h.db,h.pos,h.one⟩
def FqPost(n d:List UInt8)(w:World)(e:Ending)(w':World):Prop:=
 ∃ (f:Fq) (flt:Int),e=.returned (.tuple #[f.v,.int .i64 flt])∧Below w.heap.size w w' ∧
  ((flt=0∧∃ x y,rread n d=some (x,y)∧Fi w' f x y)∨(flt≠0∧rread n d=none∧flt=rflt n d))
theorem rflt_ne(n d:List UInt8):rflt n d≠0:=by unfold rflt;split<;>decide
theorem fractionOf_q(s t:ByteArray)(w:World):Calls Tryz.prog 140 #[.agg #[.string s,.string t]] w (FqPost s.data.toList t.data.toList w):=
 (fractionOf_c s t w).mono fun e w' h=>by
  rcases h with ⟨x,y,b,a,k,c,b',a',k',c',h1,h2,h3,h4,h5,h6,h7,h8,h9⟩|⟨h1,h2,h3⟩
  ·exact⟨⟨b,a,k,c,b',a',k',c'⟩,0,h2,h9,.inl ⟨rfl,x,y,h1,h3,h4,h5,h6,h7,h8⟩⟩
  ·exact⟨Fq.z,rflt _ _,h2,h3,.inr ⟨rflt_ne _ _,h1,rfl⟩⟩
/-! ### The boxes of a fraction's texts -/
structure Rb (w:World) (b1:Bool) (a1:Option Addr) (k1 c1:Nat) (b2:Bool) (a2:Option Addr) (k2 c2:Nat) (W:World):Prop where
 x:B4 W w.heap.size (.bool b1) (.slice a1 k1 c1) (.bool b2) (.slice a2 k2 c2)
 r:B2 W (w.heap.size+1) (.string ⟨#[]⟩) (.string ⟨#[]⟩)
 bel:Below w.heap.size w W
theorem Rb.keep{w:World}{b1:Bool}{a1:Option Addr}{k1 c1:Nat}{b2:Bool}{a2:Option Addr}{k2 c2:Nat}{W W':World}(h:Rb w b1 a1 k1 c1 b2 a2 k2 c2 W)(hb:Below W.heap.size W W'):Rb w b1 a1 k1 c1 b2 a2 k2 c2 W':=
 ⟨h.x.keep hb,h.r.keep hb,h.bel.trans (hb.mono h.bel.size)⟩
def SR(g:Nat)(b1:Bool)(a1:Option Addr)(k1 c1:Nat)(b2:Bool)(a2:Option Addr)(k2 c2:Nat)(W:World):Prop:=
 W.cell? ⟨g,0,none⟩=some (.bool b1)∧W.cell? ⟨g,1,none⟩=some (.slice a1 k1 c1)∧W.cell? ⟨g,2,none⟩=some (.bool b2)∧W.cell? ⟨g,3,none⟩=some (.slice a2 k2 c2)
theorem Rb.si{w:World}{b1:Bool}{a1:Option Addr}{k1 c1:Nat}{b2:Bool}{a2:Option Addr}{k2 c2:Nat}{W:World}(h:Rb w b1 a1 k1 c1 b2 a2 k2 c2 W):SR w.heap.size b1 a1 k1 c1 b2 a2 k2 c2 W:=⟨h.x.c0,h.x.c1,h.x.c2,h.x.c3⟩
end Go.Proofs.YtghgbhmiliiohaaGreatDoor
