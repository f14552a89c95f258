/-
  Reading decimal texts of numbers of any size: Read.
  Numbers of the reference: readNatural.
  A builder of strings that grows: WriteString.
-/
import Derived.Test.YtdkphfafcmogmaaGreatDoorMo13
import Derived.Test.YtdkphfafcmogmaaGreatDoorMoRnTextM
import Derived.Test.YtdkphfafcmogmaaGreatDoorMo04
import Derived.Lib.SmallJoins
import Derived.Lib.AppendStr
namespace Go.Proofs.YtdkphfafcmogmaaGreatDoor
open Go.RowKit

def RdPost (l : List UInt8) (w : World) (e : Ending) (w' : World) : Prop :=
  (∃ z b a k c, zread l = some z ∧ e = .returned (.tuple #[.agg #[.bool b, .slice a k c], .bool true]) ∧ Zn w' b a k c z ∧ z.natAbs < bp 125 ∧ Below w.heap.size w w') ∨
  (zread l = none ∧ e = .returned (.tuple #[.agg #[.bool false, .slice none 0 0], .bool false]) ∧ Below w.heap.size w w')
/-- Where Read is: what was read, and what is left. -/
structure Rdg (w : World) (d : List UInt8) (p : Nat) (x : ByteArray) (a : Option Addr) (k c : Nat) (W : World) : Prop where
  left : x.data.toList = d.drop p
  lim : Nm W a k c (val (d.take p))
  dig : digs (d.take p) = true
  row : p = 0 ∨ (d.length - p) % 19 = 0
  box : B2 W w.heap.size (.bool false) (.slice none 0 0)
  bel : Below w.heap.size w W
theorem toNat48 {c : UInt8} : c = 48 ↔ c.toNat = 48 := by
  constructor
  · intro e; rw [e]; rfl
  · intro e; exact UInt8.toNat_inj.1 (by rw [e]; rfl)
theorem extract_list (x : ByteArray) (a b : Nat) : (x.extract a b).data.toList = (x.data.toList.drop a).take (b - a) := Lib.extract_data x a b
set_option maxRecDepth 100000 in
set_option maxHeartbeats 4000000 in
theorem Read_c (t : ByteArray) (w : World) (hds : (Lib.trimPrefix t.data.toList [45]).length ≤ 2000) :
    Calls Tryz.prog 60 #[.string t] w (RdPost t.data.toList w) := by
  obtain ⟨l, hL⟩ : ∃ l, t.data.toList = l := ⟨_, rfl⟩
  obtain ⟨d, hd⟩ : ∃ d, Lib.trimPrefix l [45] = d := ⟨_, rfl⟩
  obtain ⟨u, hu⟩ : ∃ u : ByteArray, u = ⟨d.toArray⟩ := ⟨_, rfl⟩
  have hul : u.data.toList = d := by rw [hu]
  have hus : u.size = d.length := by rw [hu]; simp [ByteArray.size]
  have hts : t.size = l.length := by rw [← hL]; simp
  have HTP : Hid (∀ w, Calls Tryz.prog 29 #[.string t, .string ⟨#[45]⟩] w fun e w' => e = .returned (.string u) ∧ w = w') := fun w => (Tryz.strings_TrimPrefix t ⟨#[45]⟩ w).mono fun e w' ⟨he, hw⟩ => ⟨by rw [he, hu, ← hd, ← hL], hw.symm⟩
  obtain ⟨neg, hneg⟩ : ∃ neg, decide (d.length < l.length) = neg := ⟨_, rfl⟩
  have hneg' : decide ((u.size : Int) < (t.size : Int)) = neg := by rw [← hneg, hus, hts]; apply decide_eq_decide.2; omega
  have hneg2 : decide (u.size < t.size) = neg := by rw [← hneg, hus, hts]
  have hov : t.size ≤ 9223372036854775807 := by
    have h1 : l.length ≤ d.length + 1 := by
      rw [← hd]
      unfold Lib.trimPrefix
      split
      · rw [List.length_drop]; simp; omega
      · omega
    rw [hL, hd] at hds
    omega
  have HLEN : Hid (d.length ≤ 2000) := by rw [hL, hd] at hds; exact hds
  have HZ : Hid (zread l = if d = [] ∨ (d.head? = some 48 ∧ (neg = true ∨ 1 < d.length)) ∨ digs d = false then none else some (if neg then -(val d : Int) else val d)) := by
    unfold Hid zread
    rw [hd]
    simp only [hneg]
  rw [hL]
  have HUL := Lib.hid hul
  have HUS := Lib.hid hus
  clear hL hd hu hul hts hneg hds hus
  obtain ⟨W1, hW1⟩ : ∃ W1, w.alloc (.cells #[.bool false, .slice none 0 0] 44) = W1 := ⟨_, rfl⟩
  have J1 : Hid (B2 W1 w.heap.size (.bool false) (.slice none 0 0) ∧ Below w.heap.size w W1) := by rw [← hW1]; exact ⟨B2.made _ _ _ _, bel_one _ _⟩
  cases d with
  | nil =>
    have hu0 : u = ⟨#[]⟩ := by
      have h := HUL.out
      cases u with
      | mk a => simp only [ByteArray.mk.injEq]; exact Array.toList_eq_nil_iff.1 h
    subst hu0
    have EZ : Hid (zread l = none) := by unfold Hid; rw [HZ.out, if_pos (.inl rfl)]
    clear HZ HUL
    go_enter Tryz.func60, Tryz.ntmps60
    obtain ⟨W9, hW9⟩ : ∃ W9, two W1 w.heap.size (.bool false) (.slice none 0 0) = W9 := ⟨_, rfl⟩
    have R9 : B2 W9 w.heap.size (.bool false) (.slice none 0 0) := by rw [← hW9]; exact J1.out.1.set _ _
    have PP : Hid (RdPost l w (.returned (.tuple #[.agg #[.bool false, .slice none 0 0], .bool false])) W9) := by
      rw [← hW9]
      exact .inr ⟨EZ.out, rfl, below_two J1.out.2 (Nat.le_refl _) _ _⟩
    have q0 := J1.out.1.c0
    have q1 := J1.out.1.c1
    have g0 := J1.out.1.fr 0
    have g1 := J1.out.1.fr 1
    obtain ⟨r0, r1, _, _⟩ := id R9
    unfold two at hW9
    clear R9
    go_wp2_with (go_at_call 29; refine (HTP.out _).mono ?_; rintro e w' ⟨rfl, rfl⟩)
    exact bodyPost_ret (v := .tuple #[.agg #[.bool false, .slice none 0 0], .bool false]) (by simp [results, Tryz.results60, go_sem, r0, r1]) rfl PP.out
  | cons c r =>
    have hup : 0 < u.size := by rw [HUS.out]; simp
    have hne0 : (u.toList == []) = false := by rw [Lib.toList_data, HUL.out]; rfl
    have hne1 : ¬ u.toList = [] := by rw [Lib.toList_data, HUL.out]; simp
    have hu00 : u[0] = c := by
      have h := list_at u 0 hup
      rw [HUL.out] at h
      injection h with h
      exact h.symm
    by_cases h48 : c.toNat = 48 ∧ (neg = true ∨ 1 < u.size)
    · have EZ : Hid (zread l = none) := by
        unfold Hid
        have h3 : neg = true ∨ 1 < (c :: r).length := by
          rcases h48.2 with h | h
          · exact .inl h
          · rw [HUS.out] at h; exact .inr h
        have h4 : (c :: r).head? = some 48 := by rw [toNat48.2 h48.1]; rfl
        rw [HZ.out, if_pos (.inr (.inl ⟨h4, h3⟩))]
      have hx : ((u[0].toNat : Int) == 48) = true := by rw [hu00, h48.1]; rfl
      have hx' : (u[0].toNat : Int) = 48 := by rw [hu00, h48.1]; rfl
      rcases h48.2 with h | h
      · subst h
        clear HZ HUL h48 hu00
        go_enter Tryz.func60, Tryz.ntmps60
        obtain ⟨W9, hW9⟩ : ∃ W9, two W1 w.heap.size (.bool false) (.slice none 0 0) = W9 := ⟨_, rfl⟩
        have R9 : B2 W9 w.heap.size (.bool false) (.slice none 0 0) := by rw [← hW9]; exact J1.out.1.set _ _
        have PP : Hid (RdPost l w (.returned (.tuple #[.agg #[.bool false, .slice none 0 0], .bool false])) W9) := by
          rw [← hW9]
          exact .inr ⟨EZ.out, rfl, below_two J1.out.2 (Nat.le_refl _) _ _⟩
        have q0 := J1.out.1.c0
        have q1 := J1.out.1.c1
        have g0 := J1.out.1.fr 0
        have g1 := J1.out.1.fr 1
        obtain ⟨r0, r1, _, _⟩ := id R9
        unfold two at hW9
        clear R9
        go_wp2_with (go_at_call 29; refine (HTP.out _).mono ?_; rintro e w' ⟨rfl, rfl⟩)
        exact bodyPost_ret (v := .tuple #[.agg #[.bool false, .slice none 0 0], .bool false]) (by simp [results, Tryz.results60, go_sem, r0, r1]) rfl PP.out
      · cases neg
        · have h' : (1 : Int) < (u.size : Int) := by omega
          clear HZ HUL h48 hu00
          go_enter Tryz.func60, Tryz.ntmps60
          obtain ⟨W9, hW9⟩ : ∃ W9, two W1 w.heap.size (.bool false) (.slice none 0 0) = W9 := ⟨_, rfl⟩
          have R9 : B2 W9 w.heap.size (.bool false) (.slice none 0 0) := by rw [← hW9]; exact J1.out.1.set _ _
          have PP : Hid (RdPost l w (.returned (.tuple #[.agg #[.bool false, .slice none 0 0], .bool false])) W9) := by
            rw [← hW9]
            exact .inr ⟨EZ.out, rfl, below_two J1.out.2 (Nat.le_refl _) _ _⟩
          have q0 := J1.out.1.c0
          have q1 := J1.out.1.c1
          have g0 := J1.out.1.fr 0
          have g1 := J1.out.1.fr 1
          obtain ⟨r0, r1, _, _⟩ := id R9
          unfold two at hW9
          clear R9
          go_wp2_with (go_at_call 29; refine (HTP.out _).mono ?_; rintro e w' ⟨rfl, rfl⟩)
          exact bodyPost_ret (v := .tuple #[.agg #[.bool false, .slice none 0 0], .bool false]) (by simp [results, Tryz.results60, go_sem, r0, r1]) rfl PP.out
        · clear HZ HUL h48 hu00
          go_enter Tryz.func60, Tryz.ntmps60
          obtain ⟨W9, hW9⟩ : ∃ W9, two W1 w.heap.size (.bool false) (.slice none 0 0) = W9 := ⟨_, rfl⟩
          have R9 : B2 W9 w.heap.size (.bool false) (.slice none 0 0) := by rw [← hW9]; exact J1.out.1.set _ _
          have PP : Hid (RdPost l w (.returned (.tuple #[.agg #[.bool false, .slice none 0 0], .bool false])) W9) := by
            rw [← hW9]
            exact .inr ⟨EZ.out, rfl, below_two J1.out.2 (Nat.le_refl _) _ _⟩
          have q0 := J1.out.1.c0
          have q1 := J1.out.1.c1
          have g0 := J1.out.1.fr 0
          have g1 := J1.out.1.fr 1
          obtain ⟨r0, r1, _, _⟩ := id R9
          unfold two at hW9
          clear R9
          go_wp2_with (go_at_call 29; refine (HTP.out _).mono ?_; rintro e w' ⟨rfl, rfl⟩)
          exact bodyPost_ret (v := .tuple #[.agg #[.bool false, .slice none 0 0], .bool false]) (by simp [results, Tryz.results60, go_sem, r0, r1]) rfl PP.out
    · have HZ2 : Hid (zread l = if digs (c :: r) = false then none else some (if neg then -(val (c :: r) : Int) else val (c :: r))) := by
        unfold Hid
        rw [HZ.out]
        by_cases e : digs (c :: r) = false
        · rw [if_pos (.inr (.inr e)), if_pos e]
        · rw [if_neg ?_, if_neg e]
          rintro (h1 | ⟨h1, h2⟩ | h1)
          · cases h1
          · refine h48 ⟨toNat48.1 (by simpa using h1), ?_⟩
            rw [HUS.out]
            exact h2
          · exact e h1
      have hfl : ((u[0].toNat : Int) == 48) = false ∨ (neg = false ∧ ¬ (1 : Int) < (u.size : Int) ∧ (u[0].toNat : Int) = 48) := by
        by_cases e : c.toNat = 48
        · right
          refine ⟨?_, ?_⟩
          · cases neg
            · rfl
            · exact absurd ⟨e, .inl rfl⟩ h48
          · refine ⟨fun h => h48 ⟨e, .inr (by omega)⟩, ?_⟩
            rw [hu00, e]; rfl
        · left
          rw [beq_eq_false_iff_ne, hu00]
          omega
      have K0 : Hid (Rdg w (c :: r) 0 u none 0 0 W1) := ⟨HUL.out, Nm.zero _ _ _ (by omega) Pl.none_, rfl, .inl rfl, J1.out.1, J1.out.2⟩
      have HUU := Lib.hid hu00
      clear HZ h48 hu00 J1
      generalize hdd : c :: r = d at *
      clear hdd
      rcases hfl with hx | ⟨hx, hy, hz⟩
      · have hx' : ¬ (u[0].toNat : Int) = 48 := by
          intro e
          rw [e] at hx
          cases hx
        go_enter Tryz.func60, Tryz.ntmps60
        go_wp2_with (go_at_call 29; refine (HTP.out _).mono ?_; rintro e w' ⟨rfl, rfl⟩)
        clear hW1
        go_loopw [4, 6] (fun s v wr => ∃ (x : ByteArray) (p : Nat) (a : Option Addr) (k c : Nat), s = .string x ∧ v = .slice a k c ∧ p ≤ d.length ∧ Hid (Rdg w d p x a k c wr)) (fun s _ _ => match s with | .string x => x.size | _ => 0)
        case atStart => exact ⟨u, 0, none, 0, 0, rfl, rfl, Nat.zero_le _, K0.out⟩
        case round =>
          clear K0
          obtain ⟨x, p, a, k, c', rfl, rfl, hp, hK⟩ := hrel
          have hxs : x.size = d.length - p := by
            have h := congrArg List.length hK.out.left
            rw [List.length_drop] at h
            simpa using h
          have HXS := Lib.hid hxs
          have hlenB := HLEN.out
          by_cases hx0 : 0 < x.size
          · have hx0' : (0 : Int) < (x.size : Int) := by omega
            obtain ⟨s0, hs0⟩ : ∃ s0, (x.size - 1) % 19 = s0 := ⟨_, rfl⟩
            have hs19 : s0 < 19 := by rw [← hs0]; exact Nat.mod_lt _ (by decide)
            have hsle : s0 + 1 ≤ x.size := by rw [← hs0]; have := Nat.mod_le (x.size - 1) 19; omega
            have e1 : ((x.size : Int) - 1) % 19 = (s0 : Int) := by omega
            have hsle' : (s0 : Int) + 1 ≤ (x.size : Int) := by omega
            have hrow : p = 0 ∨ s0 = 18 := by
              rcases hK.out.row with h | h
              · exact .inl h
              · right; omega
            obtain ⟨y, hy⟩ : ∃ y, x.extract 0 (s0 + 1) = y := ⟨_, rfl⟩
            obtain ⟨x2, hx2⟩ : ∃ x2, x.extract (s0 + 1) x.size = x2 := ⟨_, rfl⟩
            have hyl : y.data.toList = (d.drop p).take (s0 + 1) := by rw [← hy, extract_list, hK.out.left, List.drop_zero, Nat.sub_zero]
            have hx2l : x2.data.toList = d.drop (p + (s0 + 1)) := by
              have hxl : x.data.toList.length = x.size := by simp
              rw [← hx2, extract_list, List.take_of_length_le (by rw [List.length_drop, hxl]; omega), hK.out.left, List.drop_drop]
            have hys : y.size = s0 + 1 := by rw [← hy, ByteArray.size_extract]; omega
            have hx2s : x2.size = d.length - (p + (s0 + 1)) := by rw [← hx2, ByteArray.size_extract]; omega
            have htk : d.take (p + (s0 + 1)) = d.take p ++ (d.drop p).take (s0 + 1) := List.take_add
            have hylen : ((d.drop p).take (s0 + 1)).length = s0 + 1 := by rw [List.length_take, List.length_drop]; omega
            have HCK := Lib.hid (fun w => readChunk_c y w (by omega))
            rw [hyl] at HCK
            have HTK := Lib.hid htk
            have HX2L := Lib.hid hx2l
            have HX2S := Lib.hid hx2s
            have HYL := Lib.hid hylen
            have hpb : p + (s0 + 1) ≤ d.length := by omega
            have hx2000 : x.size ≤ 2000 := by omega
            have hx2000' : (x.size : Int) ≤ 2000 := by omega
            clear hs0 hyl hx2l hys hx2s htk hylen hxs
            by_cases hdg : digs ((d.drop p).take (s0 + 1)) = true
            · rw [hdg] at HCK
              go_wp2_with fail
              (with_reducible refine (HCK.out _).mono ?_)
              rintro e wq ⟨v, rfl, hv, hvb, rfl⟩
              have HV := Lib.hid (hv trivial)
              have HTS := Lib.hid (timesPlus_c a k c' (val (d.take p)) 10000000000000000000 v wr hK.out.lim (by decide) hvb (Nat.lt_of_lt_of_le (val_bp hK.out.dig (by rw [List.length_take]; omega)) (bp_mono (by decide))))
              clear hv HCK
              go_wp2_with fail
              (refine HTS.out.mono ?_)
              rintro e w4 ⟨a4, k4, c4, rfl, h4, b4⟩
              have NX : Hid (Rdg w d (p + (s0 + 1)) x2 a4 k4 c4 w4) := by
                refine ⟨HX2L.out, ?_, ?_, ?_, hK.out.box.keep b4, hK.out.bel.trans (b4.mono hK.out.bel.size)⟩
                · rw [HTK.out, val_append, HYL.out, ← HV.out]
                  have e : val (d.take p) * 10 ^ (s0 + 1) = val (d.take p) * 10000000000000000000 := by
                    rcases hrow with h | h
                    · subst h; simp [val]
                    · subst h; rfl
                  rw [e]; exact h4
                · rw [HTK.out, digs_append, hK.out.dig, hdg]; rfl
                · have h1 := HX2S.out
                  have h2 := HXS.out
                  rcases hK.out.row with h | h
                  · right; omega
                  · right; omega
              clear h4 b4 hK HTS
              go_wp2
              go_roundw
              case rel => exact ⟨x2, p + (s0 + 1), a4, k4, c4, rfl, rfl, hpb, NX.out⟩
              case measure => simp; have := HX2S.out; have := HXS.out; omega
            · have hdf : digs ((d.drop p).take (s0 + 1)) = false := by simpa using hdg
              have EZ : Hid (zread l = none) := by
                unfold Hid
                rw [HZ2.out, if_pos]
                have e : d = d.take (p + (s0 + 1)) ++ d.drop (p + (s0 + 1)) := (List.take_append_drop _ _).symm
                rw [e, digs_append, HTK.out, digs_append, hdf]
                simp
              rw [hdf] at HCK
              obtain ⟨W9, hW9⟩ : ∃ W9, two wr w.heap.size (.bool false) (.slice none 0 0) = W9 := ⟨_, rfl⟩
              have R9 : B2 W9 w.heap.size (.bool false) (.slice none 0 0) := by rw [← hW9]; exact hK.out.box.set _ _
              have PP : Hid (RdPost l w (.returned (.tuple #[.agg #[.bool false, .slice none 0 0], .bool false])) W9) := by
                rw [← hW9]
                exact .inr ⟨EZ.out, rfl, below_two hK.out.bel (Nat.le_refl _) _ _⟩
              have q0 := hK.out.box.c0
              have q1 := hK.out.box.c1
              have g0 := hK.out.box.fr 0
              have g1 := hK.out.box.fr 1
              obtain ⟨r0, r1, _, _⟩ := id R9
              unfold two at hW9
              clear R9 hK
              go_wp2_with fail
              (with_reducible refine (HCK.out _).mono ?_)
              rintro e wq ⟨v, rfl, hv, hvb, rfl⟩
              clear hv
              go_wp2_with fail
              exact bodyPost_ret (v := .tuple #[.agg #[.bool false, .slice none 0 0], .bool false]) (by simp [results, Tryz.results60, go_sem, r0, r1]) rfl PP.out
          · have hx0' : ¬ (0 : Int) < (x.size : Int) := by omega
            have hpe : p = d.length := by omega
            have hD : Hid (digs d = true ∧ Nm wr a k c' (val d)) := by
              have h1 := hK.out.dig
              have h2 := hK.out.lim
              rw [hpe, List.take_length] at h1 h2
              exact ⟨h1, h2⟩
            have HZ3 : Hid (zread l = some (zv neg (val d))) := by
              unfold Hid
              rw [HZ2.out, if_neg (by rw [hD.out.1]; simp)]
              rfl
            have JX := Lib.hid hK.out.box
            have JB := Lib.hid hK.out.bel
            have HBD : Hid (val d < bp 125) := val_bp hD.out.1 hlenB
            clear hK hpe hxs
            have HWS := Lib.hid (withSign_c neg a k c' (val d) wr hD.out.2)
            go_wp2_with fail
            (refine HWS.out.mono ?_)
            rintro e w4 ⟨b', rfl, h4, b4⟩
            have JX4 := Lib.hid (JX.out.keep b4)
            have JB4 := Lib.hid (JB.out.trans (b4.mono JB.out.size))
            have HZN := Lib.hid h4
            clear h4 b4 JX JB HWS
            obtain ⟨W9, hW9⟩ : ∃ W9, two w4 w.heap.size (.bool b') (.slice a k c') = W9 := ⟨_, rfl⟩
            have R9 : B2 W9 w.heap.size (.bool b') (.slice a k c') := by rw [← hW9]; exact JX4.out.set _ _
            have PP : Hid (RdPost l w (.returned (.tuple #[.agg #[.bool b', .slice a k c'], .bool true])) W9) := by
              rw [← hW9]
              exact .inl ⟨_, _, _, _, _, HZ3.out, rfl, HZN.out.set2 JX4.out _ _, by rw [zv_abs]; exact HBD.out, below_two JB4.out (Nat.le_refl _) _ _⟩
            have q0 := JX4.out.c0
            have q1 := JX4.out.c1
            have g0 := JX4.out.fr 0
            have g1 := JX4.out.fr 1
            obtain ⟨r0, r1, _, _⟩ := id R9
            unfold two at hW9
            clear R9
            go_wp2_with fail
            exact bodyPost_ret (v := .tuple #[.agg #[.bool b', .slice a k c'], .bool true]) (by simp [results, Tryz.results60, go_sem, r0, r1]) rfl PP.out
      · subst hx
        have hz' : ((u[0].toNat : Int) == 48) = true := by rw [hz]; rfl
        go_enter Tryz.func60, Tryz.ntmps60
        go_wp2_with (go_at_call 29; refine (HTP.out _).mono ?_; rintro e w' ⟨rfl, rfl⟩)
        clear hW1
        go_loopw [4, 6] (fun s v wr => ∃ (x : ByteArray) (p : Nat) (a : Option Addr) (k c : Nat), s = .string x ∧ v = .slice a k c ∧ p ≤ d.length ∧ Hid (Rdg w d p x a k c wr)) (fun s _ _ => match s with | .string x => x.size | _ => 0)
        case atStart => exact ⟨u, 0, none, 0, 0, rfl, rfl, Nat.zero_le _, K0.out⟩
        case round =>
          clear K0
          obtain ⟨x, p, a, k, c', rfl, rfl, hp, hK⟩ := hrel
          have hxs : x.size = d.length - p := by
            have h := congrArg List.length hK.out.left
            rw [List.length_drop] at h
            simpa using h
          have HXS := Lib.hid hxs
          have hlenB := HLEN.out
          by_cases hx0 : 0 < x.size
          · have hx0' : (0 : Int) < (x.size : Int) := by omega
            obtain ⟨s0, hs0⟩ : ∃ s0, (x.size - 1) % 19 = s0 := ⟨_, rfl⟩
            have hs19 : s0 < 19 := by rw [← hs0]; exact Nat.mod_lt _ (by decide)
            have hsle : s0 + 1 ≤ x.size := by rw [← hs0]; have := Nat.mod_le (x.size - 1) 19; omega
            have e1 : ((x.size : Int) - 1) % 19 = (s0 : Int) := by omega
            have hsle' : (s0 : Int) + 1 ≤ (x.size : Int) := by omega
            have hrow : p = 0 ∨ s0 = 18 := by
              rcases hK.out.row with h | h
              · exact .inl h
              · right; omega
            obtain ⟨y, hy⟩ : ∃ y, x.extract 0 (s0 + 1) = y := ⟨_, rfl⟩
            obtain ⟨x2, hx2⟩ : ∃ x2, x.extract (s0 + 1) x.size = x2 := ⟨_, rfl⟩
            have hyl : y.data.toList = (d.drop p).take (s0 + 1) := by rw [← hy, extract_list, hK.out.left, List.drop_zero, Nat.sub_zero]
            have hx2l : x2.data.toList = d.drop (p + (s0 + 1)) := by
              have hxl : x.data.toList.length = x.size := by simp
              rw [← hx2, extract_list, List.take_of_length_le (by rw [List.length_drop, hxl]; omega), hK.out.left, List.drop_drop]
            have hys : y.size = s0 + 1 := by rw [← hy, ByteArray.size_extract]; omega
            have hx2s : x2.size = d.length - (p + (s0 + 1)) := by rw [← hx2, ByteArray.size_extract]; omega
            have htk : d.take (p + (s0 + 1)) = d.take p ++ (d.drop p).take (s0 + 1) := List.take_add
            have hylen : ((d.drop p).take (s0 + 1)).length = s0 + 1 := by rw [List.length_take, List.length_drop]; omega
            have HCK := Lib.hid (fun w => readChunk_c y w (by omega))
            rw [hyl] at HCK
            have HTK := Lib.hid htk
            have HX2L := Lib.hid hx2l
            have HX2S := Lib.hid hx2s
            have HYL := Lib.hid hylen
            have hpb : p + (s0 + 1) ≤ d.length := by omega
            have hx2000 : x.size ≤ 2000 := by omega
            have hx2000' : (x.size : Int) ≤ 2000 := by omega
            clear hs0 hyl hx2l hys hx2s htk hylen hxs
            by_cases hdg : digs ((d.drop p).take (s0 + 1)) = true
            · rw [hdg] at HCK
              go_wp2_with fail
              (with_reducible refine (HCK.out _).mono ?_)
              rintro e wq ⟨v, rfl, hv, hvb, rfl⟩
              have HV := Lib.hid (hv trivial)
              have HTS := Lib.hid (timesPlus_c a k c' (val (d.take p)) 10000000000000000000 v wr hK.out.lim (by decide) hvb (Nat.lt_of_lt_of_le (val_bp hK.out.dig (by rw [List.length_take]; omega)) (bp_mono (by decide))))
              clear hv HCK
              go_wp2_with fail
              (refine HTS.out.mono ?_)
              rintro e w4 ⟨a4, k4, c4, rfl, h4, b4⟩
              have NX : Hid (Rdg w d (p + (s0 + 1)) x2 a4 k4 c4 w4) := by
                refine ⟨HX2L.out, ?_, ?_, ?_, hK.out.box.keep b4, hK.out.bel.trans (b4.mono hK.out.bel.size)⟩
                · rw [HTK.out, val_append, HYL.out, ← HV.out]
                  have e : val (d.take p) * 10 ^ (s0 + 1) = val (d.take p) * 10000000000000000000 := by
                    rcases hrow with h | h
                    · subst h; simp [val]
                    · subst h; rfl
                  rw [e]; exact h4
                · rw [HTK.out, digs_append, hK.out.dig, hdg]; rfl
                · have h1 := HX2S.out
                  have h2 := HXS.out
                  rcases hK.out.row with h | h
                  · right; omega
                  · right; omega
              clear h4 b4 hK HTS
              go_wp2
              go_roundw
              case rel => exact ⟨x2, p + (s0 + 1), a4, k4, c4, rfl, rfl, hpb, NX.out⟩
              case measure => simp; have := HX2S.out; have := HXS.out; omega
            · have hdf : digs ((d.drop p).take (s0 + 1)) = false := by simpa using hdg
              have EZ : Hid (zread l = none) := by
                unfold Hid
                rw [HZ2.out, if_pos]
                have e : d = d.take (p + (s0 + 1)) ++ d.drop (p + (s0 + 1)) := (List.take_append_drop _ _).symm
                rw [e, digs_append, HTK.out, digs_append, hdf]
                simp
              rw [hdf] at HCK
              obtain ⟨W9, hW9⟩ : ∃ W9, two wr w.heap.size (.bool false) (.slice none 0 0) = W9 := ⟨_, rfl⟩
              have R9 : B2 W9 w.heap.size (.bool false) (.slice none 0 0) := by rw [← hW9]; exact hK.out.box.set _ _
              have PP : Hid (RdPost l w (.returned (.tuple #[.agg #[.bool false, .slice none 0 0], .bool false])) W9) := by
                rw [← hW9]
                exact .inr ⟨EZ.out, rfl, below_two hK.out.bel (Nat.le_refl _) _ _⟩
              have q0 := hK.out.box.c0
              have q1 := hK.out.box.c1
              have g0 := hK.out.box.fr 0
              have g1 := hK.out.box.fr 1
              obtain ⟨r0, r1, _, _⟩ := id R9
              unfold two at hW9
              clear R9 hK
              go_wp2_with fail
              (with_reducible refine (HCK.out _).mono ?_)
              rintro e wq ⟨v, rfl, hv, hvb, rfl⟩
              clear hv
              go_wp2_with fail
              exact bodyPost_ret (v := .tuple #[.agg #[.bool false, .slice none 0 0], .bool false]) (by simp [results, Tryz.results60, go_sem, r0, r1]) rfl PP.out
          · have hx0' : ¬ (0 : Int) < (x.size : Int) := by omega
            have hpe : p = d.length := by omega
            have hD : Hid (digs d = true ∧ Nm wr a k c' (val d)) := by
              have h1 := hK.out.dig
              have h2 := hK.out.lim
              rw [hpe, List.take_length] at h1 h2
              exact ⟨h1, h2⟩
            have HZ3 : Hid (zread l = some (zv false (val d))) := by
              unfold Hid
              rw [HZ2.out, if_neg (by rw [hD.out.1]; simp)]
              rfl
            have JX := Lib.hid hK.out.box
            have JB := Lib.hid hK.out.bel
            have HBD : Hid (val d < bp 125) := val_bp hD.out.1 hlenB
            clear hK hpe hxs
            have HWS := Lib.hid (withSign_c false a k c' (val d) wr hD.out.2)
            go_wp2_with fail
            (refine HWS.out.mono ?_)
            rintro e w4 ⟨b', rfl, h4, b4⟩
            have JX4 := Lib.hid (JX.out.keep b4)
            have JB4 := Lib.hid (JB.out.trans (b4.mono JB.out.size))
            have HZN := Lib.hid h4
            clear h4 b4 JX JB HWS
            obtain ⟨W9, hW9⟩ : ∃ W9, two w4 w.heap.size (.bool b') (.slice a k c') = W9 := ⟨_, rfl⟩
            have R9 : B2 W9 w.heap.size (.bool b') (.slice a k c') := by rw [← hW9]; exact JX4.out.set _ _
            have PP : Hid (RdPost l w (.returned (.tuple #[.agg #[.bool b', .slice a k c'], .bool true])) W9) := by
              rw [← hW9]
              exact .inl ⟨_, _, _, _, _, HZ3.out, rfl, HZN.out.set2 JX4.out _ _, by rw [zv_abs]; exact HBD.out, below_two JB4.out (Nat.le_refl _) _ _⟩
            have q0 := JX4.out.c0
            have q1 := JX4.out.c1
            have g0 := JX4.out.fr 0
            have g1 := JX4.out.fr 1
            obtain ⟨r0, r1, _, _⟩ := id R9
            unfold two at hW9
            clear R9
            go_wp2_with fail
            exact bodyPost_ret (v := .tuple #[.agg #[.bool b', .slice a k c'], .bool true]) (by simp [results, Tryz.results60, go_sem, r0, r1]) rfl PP.out
end Go.Proofs.YtdkphfafcmogmaaGreatDoor
namespace Go.Proofs.YtdkphfafcmogmaaGreatDoor
open Go.RowKit

theorem atoi_c (s : ByteArray) (v : Int) (w : World) (hs : s.size ≤ 100000) (h : Lib.atoiAll s.data.toList = .ok v) :
    Calls Tryz.prog 63 #[.string s] w fun e w' => e = .returned (.tuple #[.int .i64 v, .nilIface]) ∧ Below w.heap.size w w' :=
  (Tryz.strconv_Atoi_ok s (by omega) v h w).mono fun _ _ ⟨he, hw⟩ => ⟨he, by
    rcases hw with hw | ⟨t, hw⟩ <;> rw [hw]
    · exact Below.refl _ _
    · exact Go.Joins.below_bytesWorld _ _ _ _ (Nat.le_refl _)⟩
/-- What is read so far. -/
structure Nrd (w : World) (l : List UInt8) (j m : Nat) (x : ByteArray) (f : Nat → Nat) (v : Value) (W : World) : Prop where
  left : x.data.toList = l.take m
  sum : val (l.take m) * tp j + Tn f j = val l
  dig : Ld f j
  row : Dg w.heap.size w f j v W
theorem Dg.below {B : Nat} {w0 w w' : World} {f : Nat → Nat} {j : Nat} {v : Value} (h : Dg B w0 f j v w) (hb : Below w.heap.size w w') : Dg B w0 f j v w' :=
  ⟨own_keep h.row hb, h.bel.trans (hb.mono h.size), Nat.le_trans h.size hb.size⟩
set_option maxRecDepth 100000 in
set_option maxHeartbeats 1000000 in
theorem readNatural_c (t : ByteArray) (w : World) (hd : digs t.data.toList = true) (hl : t.size ≤ 90000) :
    Calls Tryz.prog 32 #[.string t] w (NtPost (val t.data.toList) w) := by
  obtain ⟨i0, hi, hz0, hz1, hz2⟩ := info_int
  obtain ⟨l, hL⟩ : ∃ l, t.data.toList = l := ⟨_, rfl⟩
  have hts : t.size = l.length := by rw [← hL]; simp
  rw [hL] at hd ⊢
  have H0 : Hid (Nrd w l 0 l.length t (fun _ => 0) (.slice none 0 0) w) := ⟨by rw [hL, List.take_length], by rw [List.take_length, tp_zero, Tn_zero]; omega, fun j hj => by omega, Dg.nil w _⟩
  have HD := Lib.hid hd
  have HLB : Hid (l.length ≤ 90000) := by unfold Hid; omega
  have HTS := Lib.hid hts
  clear hL hd hl hts
  go_enter Tryz.func32, Tryz.ntmps32
  go_wp2
  go_loopw [0, 3] (fun s v wr => ∃ (j m : Nat) (x : ByteArray) (f : Nat → Nat), s = .string x ∧ x.size = m ∧ j + m ≤ l.length ∧ Hid (Nrd w l j m x f v wr)) (fun s _ _ => match s with | .string x => x.size | _ => 0)
  case atStart => exact ⟨0, l.length, t, _, rfl, HTS.out, by omega, H0.out⟩
  case round =>
    clear H0
    obtain ⟨j, m, x, f, rfl, hxm, hjm, hR⟩ := hrel
    have hm9 : m ≤ 90000 := by have := HLB.out; omega
    rcases Nat.eq_zero_or_pos m with e | e
    · subst e
      have hx0 : ¬ (0 : Int) < (x.size : Int) := by omega
      obtain ⟨a, c, rfl, h1, h2, h3, h4⟩ := hR.out.row.reads (by have := HLB.out; omega) hR.out.dig
      have hs : Tn f j = val l := by
        have h := hR.out.sum
        rw [List.take_zero, val_nil] at h
        omega
      have HB := Lib.hid hR.out.row.bel
      have HT := Lib.hid (ntrim_c a j c f wr h1 h2 h3 h4)
      rw [hs] at HT
      clear hR h1 h2 h3 h4 hs
      go_wp2_with fail
      refine HT.out.mono ?_
      rintro e w' ⟨m', rfl, hn, rfl⟩
      have RR : Hid (NtPost (val l) w (.returned (.slice a m' c)) wr) := ⟨a, m', c, rfl, hn, HB.out⟩
      clear hn HT HB
      go_wp2
      go_ret
      exact RR.out
    · have hx0 : (0 : Int) < (x.size : Int) := by omega
      have hxs : (x.size : Int) = (m : Int) := by omega
      obtain ⟨q, hq⟩ : ∃ q, m - 9 = q := ⟨_, rfl⟩
      have hqm : q ≤ m := by omega
      have hqm' : (q : Int) ≤ (m : Int) := by omega
      have hmx : max ((m : Int) - 9) 0 = (q : Int) := by omega
      obtain ⟨y, hy⟩ : ∃ y, x.extract q m = y := ⟨_, rfl⟩
      obtain ⟨z, hz⟩ : ∃ z, x.extract 0 q = z := ⟨_, rfl⟩
      have hyl : y.data.toList = (l.take m).drop (m - 9) := by rw [← hy, extract_list, hR.out.left, hq, List.take_of_length_le (by rw [List.length_drop, List.length_take]; omega)]
      have hzl : z.data.toList = l.take q := by rw [← hz, extract_list, hR.out.left, List.drop_zero, Nat.sub_zero, List.take_take, Nat.min_eq_left hqm]
      have hys : y.size ≤ 9 := by rw [← hy, ByteArray.size_extract]; omega
      have hzs : z.size = q := by rw [← hz, ByteArray.size_extract]; omega
      have hdy : digs ((l.take m).drop (m - 9)) = true := digs_drop (digs_take HD.out m) _
      have hyn : (l.take m).drop (m - 9) ≠ [] := by
        intro h
        have := congrArg List.length h
        rw [List.length_drop, List.length_take, List.length_nil] at this
        omega
      obtain ⟨bs, bl⟩ := block_more HD.out (show m ≤ l.length by omega) e hR.out.sum
      have HAT := Lib.hid (fun w => atoi_c y (val ((l.take m).drop (m - 9)) : Nat) w (by omega) (by rw [hyl]; exact atoi_digs hdy hyn (by rw [List.length_drop, List.length_take]; omega)))
      generalize val ((l.take m).drop (m - 9)) = d at *
      rw [hq] at bs
      have HS := Lib.hid bs
      have HZL := Lib.hid hzl
      have HQ : Hid (q < m) := by unfold Hid; omega
      clear bs hyl hzl hyn hdy hq
      go_wp2_with fail
      refine (HAT.out _).mono ?_
      rintro e w4 ⟨rfl, b4⟩
      have hD := Lib.hid (hR.out.row.below b4)
      have HG := Lib.hid hR.out.dig
      clear hR b4 HAT
      go_wp2_with (at_builtin; refine wpList_append_own _ rfl _ _ 50 rfl w.heap.size 3 i0 (.int .i64 0) 1 8 Tryz.underlying50 hi hz0 hz1 hz2 rfl (by decide) _ _ _ rfl (hD.out.row.alloc _) ⟨w4.heap.size, 0, none⟩ 1 1 [.int .i64 (d : Int)] rfl rfl ?c1 ?c2 ?c3 ?c4 ?c5 ?_)
      case c1 =>
        intro i u hu
        match i, hu with
        | 0, hu => simp at hu; subst hu; simp [Addr.add]
      case c2 => intro u hu; simp at hu; subst hu; rfl
      case c3 => have := HLB.out; unfold maxLen; omega
      case c4 => have := HLB.out; omega
      case c5 => have := hD.out.size; simp; omega
      intro v' w1 hown' hgrow _
      have NX : Hid (Nrd w l (j + 1) q z (put f j d) v' w1) := ⟨HZL.out, by rw [Tn_put]; exact HS.out, fun i hi => by
        by_cases ei : i = j
        · subst ei; rw [put_same]; exact bl
        · rw [put_ne ei]; exact HG.out i (by omega), hD.out.more d hown' _ hgrow⟩
      clear hown' hgrow hD
      go_wp2
      go_roundw
      case rel => exact ⟨j + 1, q, z, _, rfl, hzs, by have := HQ.out; omega, NX.out⟩
      case measure => simp; have := HQ.out; omega
end Go.Proofs.YtdkphfafcmogmaaGreatDoor
namespace Go.Proofs.YtdkphfafcmogmaaGreatDoor
open Go.RowKit

theorem sizeBuilder : (Tryz.prog.info? 95).map (·.size) = some 2 := by kernel_rfl
abbrev IsB (g : Nat) (l : List UInt8) (W : World) : Prop := Lib.IsBuilder 95 5 g g (Lib.byteCells l) W
theorem strCells_is (s : ByteArray) : Lib.strCells s = Lib.byteCells s.data.toList := by simp [Lib.strCells, Lib.byteCells]
theorem byteCells_append (a b : List UInt8) : Lib.byteCells (a ++ b) = Lib.byteCells a ++ Lib.byteCells b := by simp [Lib.byteCells]
theorem byteCells_length (a : List UInt8) : (Lib.byteCells a).length = a.length := by simp [Lib.byteCells]
set_option maxHeartbeats 1000000 in
set_option maxRecDepth 100000 in
theorem check_fresh (b : Nat) (w : World) (h0 : w.cell? ⟨b, 0, none⟩ = some (.pointer none)) (hsh : w.shape? b = some (95, 2)) (hfz : w.frozen? ⟨b, 0, none⟩ = false) :
    Calls Tryz.prog 94 #[.pointer (some ⟨b, 0, none⟩)] w fun e w' => e = .returned (.tuple #[]) ∧ w' = w.setCell ⟨b, 0, none⟩ (.pointer (some ⟨b, 0, none⟩)) := by
  obtain ⟨j, hj, hjs⟩ := Option.map_eq_some_iff.1 sizeBuilder
  have hlies : liesAt Tryz.prog Tryz.prog.depth 95 (2 / Tryz.prog.cellsOf 95) 0 95 1 = true := by kernel_rfl
  have u1 := Lib.run_to_unsafe (P := Tryz.prog) w ⟨b, 0, none⟩ Tryz.underlying92 Tryz.underlying148 hj (by rw [hjs]; decide) hsh (Nat.zero_lt_succ 1)
  have u3 := Lib.run_from_unsafe (P := Tryz.prog) w ⟨b, 0, none⟩ Tryz.underlying148 Tryz.underlying92 hj hsh hlies
  clear hsh hlies hj hjs
  go_enter Tryz.func94, Tryz.ntmps94
  go_wp2
  rw [run_callFunc_extern Tryz.func121 (by kernel_rfl) (by kernel_rfl) (by kernel_rfl) (e := Extern.AbiNoEscape.same) (by kernel_rfl)]
  rw [Lib.run_noEscape]
  simp only [Result.andThen]
  rw [Oper.upon_value]
  go_wp2
  go_end0
  exact ⟨rfl, rfl⟩
set_option maxHeartbeats 1000000 in
set_option maxRecDepth 100000 in
theorem check_used (b : Nat) (w : World) (h0 : w.cell? ⟨b, 0, none⟩ = some (.pointer (some ⟨b, 0, none⟩))) :
    Calls Tryz.prog 94 #[.pointer (some ⟨b, 0, none⟩)] w fun e w' => e = .returned (.tuple #[]) ∧ w' = w := by
  obtain ⟨j, hj, _⟩ := Option.map_eq_some_iff.1 sizeBuilder
  go_enter Tryz.func94, Tryz.ntmps94
  go_wp2
  rw [Lib.run_neq_ptr_same w _ Tryz.underlying92 hj]
  go_wp2
  go_end0
  exact ⟨rfl, rfl⟩
theorem check_any (B b : Nat) (l : List Value) (w : World) (h : Lib.IsBuilder 95 5 B b l w) :
    Calls Tryz.prog 94 #[.pointer (some ⟨b, 0, none⟩)] w fun e w' => e = .returned (.tuple #[]) ∧ Lib.BuilderAt 95 5 B b (.pointer (some ⟨b, 0, none⟩)) l w' ∧ Below B w w' ∧ w.heap.size = w'.heap.size := by
  rcases h with h | h
  · refine (check_fresh b w h.cell0 h.shape h.frozen0).mono ?_
    rintro e w' ⟨rfl, rfl⟩
    exact ⟨rfl, h.used _, (Below.refl B w).setCell (p := ⟨b, 0, none⟩) h.1 _, by simp⟩
  · refine (check_used b w h.cell0).mono ?_
    rintro e w' ⟨rfl, rfl⟩
    exact ⟨rfl, h, Below.refl B _, rfl⟩
set_option maxHeartbeats 1000000 in
set_option maxRecDepth 100000 in
theorem put_c (g : Nat) (l : List UInt8) (s : ByteArray) (w : World) (h : IsB g l w) (hl : l.length + s.size ≤ 1000000) :
    Calls Tryz.prog 65 #[.pointer (some ⟨g, 0, none⟩), .string s] w fun e w' => e = .returned (.tuple #[.int .i64 s.size, .nilIface]) ∧ IsB g (l ++ s.data.toList) w' ∧ Below g w w' := by
  obtain ⟨i0, hi, hz0, hz1, hz2⟩ := info_byte
  have HC := Lib.hid (check_any g g (Lib.byteCells l) w h)
  have HL := Lib.hid hl
  clear h hl
  go_enter Tryz.func65, Tryz.ntmps65
  go_wp2_with fail
  refine HC.out.mono ?_
  rintro e w1 ⟨rfl, ⟨_, v, hbk, hown, hne⟩, b1, _⟩
  have S1 : Hid (g < w1.heap.size) := lt_of_block hbk
  have B1 := Lib.hid b1
  have HBk := Lib.hid hbk
  have HNE := Lib.hid hne
  have HOW := Lib.hid hown
  have c0 : w1.cell? ⟨g, 0, none⟩ = some (.pointer (some ⟨g, 0, none⟩)) := by rw [Lib.cell_of_heap hbk]; rfl
  have c1 : w1.cell? ⟨g, 1, none⟩ = some v := by rw [Lib.cell_of_heap hbk]; rfl
  clear hbk hne hown b1 HC
  go_wp2_with (at_builtin; refine Lib.wpList_append_own_string _ rfl _ _ 93 9 rfl g 5 i0 Tryz.underlying93 Tryz.underlying9 hi hz0 hz1 hz2 _ _ _ rfl HOW.out s rfl ?c3 ?c4 ?c5 ?_)
  case c3 => have := HL.out; have := byteCells_length l; unfold maxLen; omega
  case c4 => have := HL.out; have := byteCells_length l; omega
  case c5 => have := S1.out; omega
  intro v' w2 hown' hgrow _
  have hb2 : w2.heap[g]? = some (.cells #[.pointer (some ⟨g, 0, none⟩), v] 95 (0, 0)) := by
    rw [hgrow.block g S1.out (fun e => HNE.out e.symm)]
    exact HBk.out
  have d0 : w2.cell? ⟨g, 0, none⟩ = some (.pointer (some ⟨g, 0, none⟩)) := by rw [Lib.cell_of_heap hb2]; rfl
  have d1 : w2.cell? ⟨g, 1, none⟩ = some v := by rw [Lib.cell_of_heap hb2]; rfl
  have f1 : w2.frozen? ⟨g, 1, none⟩ = false := Lib.frozen_of_heap hb2 1
  obtain ⟨ao, n', cap, rfl⟩ : ∃ ao n' cap, v' = .slice ao n' cap := by
    rcases hown'.2 with ⟨hv, _⟩ | ⟨g, cap, cur, hv, _⟩
    · exact ⟨_, _, _, hv⟩
    · exact ⟨_, _, _, hv⟩
  have HO2 := Lib.hid hown'
  have HB2 := Lib.hid hb2
  have HG2 := Lib.hid hgrow
  clear hown' hb2 hgrow c0 c1 hi hz0 hz1 hz2
  go_wp2
  go_ret2
  have hh := HO2.out
  refine ⟨rfl, .inr (Lib.BuilderAt.put (T := 95) (e := 5) (Nat.le_refl _) HB2.out (bs' := Lib.byteCells (l ++ s.data.toList)) (by
    rw [byteCells_append, ← strCells_is, List.length_append, Lib.strCells_length]; simpa using hh) (by decide)), ?_⟩
  exact (B1.out.grown HG2.out (by have := S1.out; omega) (fun k hk => (HOW.out.lt k hk).1)).setCell (p := ⟨g, 1, none⟩) (Nat.le_refl _) _
end Go.Proofs.YtdkphfafcmogmaaGreatDoor
