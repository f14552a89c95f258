/-
  Reading decimal texts of numbers of any size: Read.
-/
import Derived.Test.YtaibpppobblnoaaDoorWhRead
namespace Go.Proofs.YtaibpppobblnoaaDoor
open Go.RowKit

def RdPost (l : List UInt8) (w : World) (e : Ending) (w' : World) : Prop :=
  (∃ z b a k c, zread l = some z ∧ e = .returned (.tuple #[.agg #[.bool b, .slice a k c], .bool true]) ∧ Zn w' b a k c z ∧ z.natAbs < bp 125 ∧ Below w.heap.size w w') ∨
  (zread l = none ∧ e = .returned (.tuple #[.agg #[.bool false, .slice none 0 0], .bool false]) ∧ Below w.heap.size w w')
/-- Where Read is: what was read, and what is left. -/
structure Rdg (w : World) (d : List UInt8) (p : Nat) (x : ByteArray) (a : Option Addr) (k c : Nat) (W : World) : Prop where
  left : x.data.toList = d.drop p
  lim : Nm W a k c (val (d.take p))
  dig : digs (d.take p) = true
  row : p = 0 ∨ (d.length - p) % 19 = 0
  box : B2 W w.heap.size (.bool false) (.slice none 0 0)
  bel : Below w.heap.size w W
theorem toNat48 {c : UInt8} : c = 48 ↔ c.toNat = 48 := by
  constructor
  · intro e; rw [e]; rfl
  · intro e; exact UInt8.toNat_inj.1 (by rw [e]; rfl)
theorem extract_list (x : ByteArray) (a b : Nat) : (x.extract a b).data.toList = (x.data.toList.drop a).take (b - a) := Lib.extract_data x a b
set_option maxRecDepth 100000 in
set_option maxHeartbeats 4000000 in
theorem Read_c (t : ByteArray) (w : World) (hds : (Lib.trimPrefix t.data.toList [45]).length ≤ 2000) :
    Calls Tryd.prog 21 #[.string t] w (RdPost t.data.toList w) := by
  obtain ⟨l, hL⟩ : ∃ l, t.data.toList = l := ⟨_, rfl⟩
  obtain ⟨d, hd⟩ : ∃ d, Lib.trimPrefix l [45] = d := ⟨_, rfl⟩
  obtain ⟨u, hu⟩ : ∃ u : ByteArray, u = ⟨d.toArray⟩ := ⟨_, rfl⟩
  have hul : u.data.toList = d := by rw [hu]
  have hus : u.size = d.length := by rw [hu]; simp [ByteArray.size]
  have hts : t.size = l.length := by rw [← hL]; simp
  have HTP : Hid (∀ w, Calls Tryd.prog 20 #[.string t, .string ⟨#[45]⟩] w fun e w' => e = .returned (.string u) ∧ w = w') := fun w => (Tryd.strings_TrimPrefix t ⟨#[45]⟩ w).mono fun e w' ⟨he, hw⟩ => ⟨by rw [he, hu, ← hd, ← hL], hw.symm⟩
  obtain ⟨neg, hneg⟩ : ∃ neg, decide (d.length < l.length) = neg := ⟨_, rfl⟩
  have hneg' : decide ((u.size : Int) < (t.size : Int)) = neg := by rw [← hneg, hus, hts]; apply decide_eq_decide.2; omega
  have hneg2 : decide (u.size < t.size) = neg := by rw [← hneg, hus, hts]
  have hov : t.size ≤ 9223372036854775807 := by
    have h1 : l.length ≤ d.length + 1 := by
      rw [← hd]
      unfold Lib.trimPrefix
      split
      · rw [List.length_drop]; simp; omega
      · omega
    rw [hL, hd] at hds
    omega
  have HLEN : Hid (d.length ≤ 2000) := by rw [hL, hd] at hds; exact hds
  have HZ : Hid (zread l = if d = [] ∨ (d.head? = some 48 ∧ (neg = true ∨ 1 < d.length)) ∨ digs d = false then none else some (if neg then -(val d : Int) else val d)) := by
    unfold Hid zread
    rw [hd]
    simp only [hneg]
  rw [hL]
  have HUL := Lib.hid hul
  have HUS := Lib.hid hus
  clear hL hd hu hul hts hneg hds hus
  obtain ⟨W1, hW1⟩ : ∃ W1, w.alloc (.cells #[.bool false, .slice none 0 0] 37) = W1 := ⟨_, rfl⟩
  have J1 : Hid (B2 W1 w.heap.size (.bool false) (.slice none 0 0) ∧ Below w.heap.size w W1) := by rw [← hW1]; exact ⟨B2.made _ _ _ _, bel_one _ _⟩
  cases d with
  | nil =>
    have hu0 : u = ⟨#[]⟩ := by
      have h := HUL.out
      cases u with
      | mk a => simp only [ByteArray.mk.injEq]; exact Array.toList_eq_nil_iff.1 h
    subst hu0
    have EZ : Hid (zread l = none) := by unfold Hid; rw [HZ.out, if_pos (.inl rfl)]
    clear HZ HUL
    go_enter Tryd.func21, Tryd.ntmps21
    obtain ⟨W9, hW9⟩ : ∃ W9, two W1 w.heap.size (.bool false) (.slice none 0 0) = W9 := ⟨_, rfl⟩
    have R9 : B2 W9 w.heap.size (.bool false) (.slice none 0 0) := by rw [← hW9]; exact J1.out.1.set _ _
    have PP : Hid (RdPost l w (.returned (.tuple #[.agg #[.bool false, .slice none 0 0], .bool false])) W9) := by
      rw [← hW9]
      exact .inr ⟨EZ.out, rfl, below_two J1.out.2 (Nat.le_refl _) _ _⟩
    have q0 := J1.out.1.c0
    have q1 := J1.out.1.c1
    have g0 := J1.out.1.fr 0
    have g1 := J1.out.1.fr 1
    obtain ⟨r0, r1, _, _⟩ := id R9
    unfold two at hW9
    clear R9
    go_wp2_with (go_at_call 20; refine (HTP.out _).mono ?_; rintro e w' ⟨rfl, rfl⟩)
    exact bodyPost_ret (v := .tuple #[.agg #[.bool false, .slice none 0 0], .bool false]) (by simp [results, Tryd.results21, go_sem, r0, r1]) rfl PP.out
  | cons c r =>
    have hup : 0 < u.size := by rw [HUS.out]; simp
    have hne0 : (u.toList == []) = false := by rw [Lib.toList_data, HUL.out]; rfl
    have hne1 : ¬ u.toList = [] := by rw [Lib.toList_data, HUL.out]; simp
    have hu00 : u[0] = c := by
      have h := list_at u 0 hup
      rw [HUL.out] at h
      injection h with h
      exact h.symm
    by_cases h48 : c.toNat = 48 ∧ (neg = true ∨ 1 < u.size)
    · have EZ : Hid (zread l = none) := by
        unfold Hid
        have h3 : neg = true ∨ 1 < (c :: r).length := by
          rcases h48.2 with h | h
          · exact .inl h
          · rw [HUS.out] at h; exact .inr h
        have h4 : (c :: r).head? = some 48 := by rw [toNat48.2 h48.1]; rfl
        rw [HZ.out, if_pos (.inr (.inl ⟨h4, h3⟩))]
      have hx : ((u[0].toNat : Int) == 48) = true := by rw [hu00, h48.1]; rfl
      have hx' : (u[0].toNat : Int) = 48 := by rw [hu00, h48.1]; rfl
      rcases h48.2 with h | h
      · subst h
        clear HZ HUL h48 hu00
        go_enter Tryd.func21, Tryd.ntmps21
        obtain ⟨W9, hW9⟩ : ∃ W9, two W1 w.heap.size (.bool false) (.slice none 0 0) = W9 := ⟨_, rfl⟩
        have R9 : B2 W9 w.heap.size (.bool false) (.slice none 0 0) := by rw [← hW9]; exact J1.out.1.set _ _
        have PP : Hid (RdPost l w (.returned (.tuple #[.agg #[.bool false, .slice none 0 0], .bool false])) W9) := by
          rw [← hW9]
          exact .inr ⟨EZ.out, rfl, below_two J1.out.2 (Nat.le_refl _) _ _⟩
        have q0 := J1.out.1.c0
        have q1 := J1.out.1.c1
        have g0 := J1.out.1.fr 0
        have g1 := J1.out.1.fr 1
        obtain ⟨r0, r1, _, _⟩ := id R9
        unfold two at hW9
        clear R9
        go_wp2_with (go_at_call 20; refine (HTP.out _).mono ?_; rintro e w' ⟨rfl, rfl⟩)
        exact bodyPost_ret (v := .tuple #[.agg #[.bool false, .slice none 0 0], .bool false]) (by simp [results, Tryd.results21, go_sem, r0, r1]) rfl PP.out
      · cases neg
        · have h' : (1 : Int) < (u.size : Int) := by omega
          clear HZ HUL h48 hu00
          go_enter Tryd.func21, Tryd.ntmps21
          obtain ⟨W9, hW9⟩ : ∃ W9, two W1 w.heap.size (.bool false) (.slice none 0 0) = W9 := ⟨_, rfl⟩
          have R9 : B2 W9 w.heap.size (.bool false) (.slice none 0 0) := by rw [← hW9]; exact J1.out.1.set _ _
          have PP : Hid (RdPost l w (.returned (.tuple #[.agg #[.bool false, .slice none 0 0], .bool false])) W9) := by
            rw [← hW9]
            exact .inr ⟨EZ.out, rfl, below_two J1.out.2 (Nat.le_refl _) _ _⟩
          have q0 := J1.out.1.c0
          have q1 := J1.out.1.c1
          have g0 := J1.out.1.fr 0
          have g1 := J1.out.1.fr 1
          obtain ⟨r0, r1, _, _⟩ := id R9
          unfold two at hW9
          clear R9
          go_wp2_with (go_at_call 20; refine (HTP.out _).mono ?_; rintro e w' ⟨rfl, rfl⟩)
          exact bodyPost_ret (v := .tuple #[.agg #[.bool false, .slice none 0 0], .bool false]) (by simp [results, Tryd.results21, go_sem, r0, r1]) rfl PP.out
        · clear HZ HUL h48 hu00
          go_enter Tryd.func21, Tryd.ntmps21
          obtain ⟨W9, hW9⟩ : ∃ W9, two W1 w.heap.size (.bool false) (.slice none 0 0) = W9 := ⟨_, rfl⟩
          have R9 : B2 W9 w.heap.size (.bool false) (.slice none 0 0) := by rw [← hW9]; exact J1.out.1.set _ _
          have PP : Hid (RdPost l w (.returned (.tuple #[.agg #[.bool false, .slice none 0 0], .bool false])) W9) := by
            rw [← hW9]
            exact .inr ⟨EZ.out, rfl, below_two J1.out.2 (Nat.le_refl _) _ _⟩
          have q0 := J1.out.1.c0
          have q1 := J1.out.1.c1
          have g0 := J1.out.1.fr 0
          have g1 := J1.out.1.fr 1
          obtain ⟨r0, r1, _, _⟩ := id R9
          unfold two at hW9
          clear R9
          go_wp2_with (go_at_call 20; refine (HTP.out _).mono ?_; rintro e w' ⟨rfl, rfl⟩)
          exact bodyPost_ret (v := .tuple #[.agg #[.bool false, .slice none 0 0], .bool false]) (by simp [results, Tryd.results21, go_sem, r0, r1]) rfl PP.out
    · have HZ2 : Hid (zread l = if digs (c :: r) = false then none else some (if neg then -(val (c :: r) : Int) else val (c :: r))) := by
        unfold Hid
        rw [HZ.out]
        by_cases e : digs (c :: r) = false
        · rw [if_pos (.inr (.inr e)), if_pos e]
        · rw [if_neg ?_, if_neg e]
          rintro (h1 | ⟨h1, h2⟩ | h1)
          · cases h1
          · refine h48 ⟨toNat48.1 (by simpa using h1), ?_⟩
            rw [HUS.out]
            exact h2
          · exact e h1
      have hfl : ((u[0].toNat : Int) == 48) = false ∨ (neg = false ∧ ¬ (1 : Int) < (u.size : Int) ∧ (u[0].toNat : Int) = 48) := by
        by_cases e : c.toNat = 48
        · right
          refine ⟨?_, ?_⟩
          · cases neg
            · rfl
            · exact absurd ⟨e, .inl rfl⟩ h48
          · refine ⟨fun h => h48 ⟨e, .inr (by omega)⟩, ?_⟩
            rw [hu00, e]; rfl
        · left
          rw [beq_eq_false_iff_ne, hu00]
          omega
      have K0 : Hid (Rdg w (c :: r) 0 u none 0 0 W1) := ⟨HUL.out, Nm.zero _ _ _ (by omega) Pl.none_, rfl, .inl rfl, J1.out.1, J1.out.2⟩
      have HUU := Lib.hid hu00
      clear HZ h48 hu00 J1
      generalize hdd : c :: r = d at *
      clear hdd
      rcases hfl with hx | ⟨hx, hy, hz⟩
      · have hx' : ¬ (u[0].toNat : Int) = 48 := by
          intro e
          rw [e] at hx
          cases hx
        go_enter Tryd.func21, Tryd.ntmps21
        go_wp2_with (go_at_call 20; refine (HTP.out _).mono ?_; rintro e w' ⟨rfl, rfl⟩)
        clear hW1
        go_loopw [4, 6] (fun s v wr => ∃ (x : ByteArray) (p : Nat) (a : Option Addr) (k c : Nat), s = .string x ∧ v = .slice a k c ∧ p ≤ d.length ∧ Hid (Rdg w d p x a k c wr)) (fun s _ _ => match s with | .string x => x.size | _ => 0)
        case atStart => exact ⟨u, 0, none, 0, 0, rfl, rfl, Nat.zero_le _, K0.out⟩
        case round =>
          clear K0
          obtain ⟨x, p, a, k, c', rfl, rfl, hp, hK⟩ := hrel
          have hxs : x.size = d.length - p := by
            have h := congrArg List.length hK.out.left
            rw [List.length_drop] at h
            simpa using h
          have HXS := Lib.hid hxs
          have hlenB := HLEN.out
          by_cases hx0 : 0 < x.size
          · have hx0' : (0 : Int) < (x.size : Int) := by omega
            obtain ⟨s0, hs0⟩ : ∃ s0, (x.size - 1) % 19 = s0 := ⟨_, rfl⟩
            have hs19 : s0 < 19 := by rw [← hs0]; exact Nat.mod_lt _ (by decide)
            have hsle : s0 + 1 ≤ x.size := by rw [← hs0]; have := Nat.mod_le (x.size - 1) 19; omega
            have e1 : ((x.size : Int) - 1) % 19 = (s0 : Int) := by omega
            have hsle' : (s0 : Int) + 1 ≤ (x.size : Int) := by omega
            have hrow : p = 0 ∨ s0 = 18 := by
              rcases hK.out.row with h | h
              · exact .inl h
              · right; omega
            obtain ⟨y, hy⟩ : ∃ y, x.extract 0 (s0 + 1) = y := ⟨_, rfl⟩
            obtain ⟨x2, hx2⟩ : ∃ x2, x.extract (s0 + 1) x.size = x2 := ⟨_, rfl⟩
            have hyl : y.data.toList = (d.drop p).take (s0 + 1) := by rw [← hy, extract_list, hK.out.left, List.drop_zero, Nat.sub_zero]
            have hx2l : x2.data.toList = d.drop (p + (s0 + 1)) := by
              have hxl : x.data.toList.length = x.size := by simp
              rw [← hx2, extract_list, List.take_of_length_le (by rw [List.length_drop, hxl]; omega), hK.out.left, List.drop_drop]
            have hys : y.size = s0 + 1 := by rw [← hy, ByteArray.size_extract]; omega
            have hx2s : x2.size = d.length - (p + (s0 + 1)) := by rw [← hx2, ByteArray.size_extract]; omega
            have htk : d.take (p + (s0 + 1)) = d.take p ++ (d.drop p).take (s0 + 1) := List.take_add
            have hylen : ((d.drop p).take (s0 + 1)).length = s0 + 1 := by rw [List.length_take, List.length_drop]; omega
            have HCK := Lib.hid (fun w => readChunk_c y w (by omega))
            rw [hyl] at HCK
            have HTK := Lib.hid htk
            have HX2L := Lib.hid hx2l
            have HX2S := Lib.hid hx2s
            have HYL := Lib.hid hylen
            have hpb : p + (s0 + 1) ≤ d.length := by omega
            have hx2000 : x.size ≤ 2000 := by omega
            have hx2000' : (x.size : Int) ≤ 2000 := by omega
            clear hs0 hyl hx2l hys hx2s htk hylen hxs
            by_cases hdg : digs ((d.drop p).take (s0 + 1)) = true
            · rw [hdg] at HCK
              go_wp2_with fail
              (with_reducible refine (HCK.out _).mono ?_)
              rintro e wq ⟨v, rfl, hv, hvb, rfl⟩
              have HV := Lib.hid (hv trivial)
              have HTS := Lib.hid (timesPlus_c a k c' (val (d.take p)) 10000000000000000000 v wr hK.out.lim (by decide) hvb (Nat.lt_of_lt_of_le (val_bp hK.out.dig (by rw [List.length_take]; omega)) (bp_mono (by decide))))
              clear hv HCK
              go_wp2_with fail
              (refine HTS.out.mono ?_)
              rintro e w4 ⟨a4, k4, c4, rfl, h4, b4⟩
              have NX : Hid (Rdg w d (p + (s0 + 1)) x2 a4 k4 c4 w4) := by
                refine ⟨HX2L.out, ?_, ?_, ?_, hK.out.box.keep b4, hK.out.bel.trans (b4.mono hK.out.bel.size)⟩
                · rw [HTK.out, val_append, HYL.out, ← HV.out]
                  have e : val (d.take p) * 10 ^ (s0 + 1) = val (d.take p) * 10000000000000000000 := by
                    rcases hrow with h | h
                    · subst h; simp [val]
                    · subst h; rfl
                  rw [e]; exact h4
                · rw [HTK.out, digs_append, hK.out.dig, hdg]; rfl
                · have h1 := HX2S.out
                  have h2 := HXS.out
                  rcases hK.out.row with h | h
                  · right; omega
                  · right; omega
              clear h4 b4 hK HTS
              go_wp2
              go_roundw
              case rel => exact ⟨x2, p + (s0 + 1), a4, k4, c4, rfl, rfl, hpb, NX.out⟩
              case measure => simp; have := HX2S.out; have := HXS.out; omega
            · have hdf : digs ((d.drop p).take (s0 + 1)) = false := by simpa using hdg
              have EZ : Hid (zread l = none) := by
                unfold Hid
                rw [HZ2.out, if_pos]
                have e : d = d.take (p + (s0 + 1)) ++ d.drop (p + (s0 + 1)) := (List.take_append_drop _ _).symm
                rw [e, digs_append, HTK.out, digs_append, hdf]
                simp
              rw [hdf] at HCK
              obtain ⟨W9, hW9⟩ : ∃ W9, two wr w.heap.size (.bool false) (.slice none 0 0) = W9 := ⟨_, rfl⟩
              have R9 : B2 W9 w.heap.size (.bool false) (.slice none 0 0) := by rw [← hW9]; exact hK.out.box.set _ _
              have PP : Hid (RdPost l w (.returned (.tuple #[.agg #[.bool false, .slice none 0 0], .bool false])) W9) := by
                rw [← hW9]
                exact .inr ⟨EZ.out, rfl, below_two hK.out.bel (Nat.le_refl _) _ _⟩
              have q0 := hK.out.box.c0
              have q1 := hK.out.box.c1
              have g0 := hK.out.box.fr 0
              have g1 := hK.out.box.fr 1
              obtain ⟨r0, r1, _, _⟩ := id R9
              unfold two at hW9
              clear R9 hK
              go_wp2_with fail
              (with_reducible refine (HCK.out _).mono ?_)
              rintro e wq ⟨v, rfl, hv, hvb, rfl⟩
              clear hv
              go_wp2_with fail
              exact bodyPost_ret (v := .tuple #[.agg #[.bool false, .slice none 0 0], .bool false]) (by simp [results, Tryd.results21, go_sem, r0, r1]) rfl PP.out
          · have hx0' : ¬ (0 : Int) < (x.size : Int) := by omega
            have hpe : p = d.length := by omega
            have hD : Hid (digs d = true ∧ Nm wr a k c' (val d)) := by
              have h1 := hK.out.dig
              have h2 := hK.out.lim
              rw [hpe, List.take_length] at h1 h2
              exact ⟨h1, h2⟩
            have HZ3 : Hid (zread l = some (zv neg (val d))) := by
              unfold Hid
              rw [HZ2.out, if_neg (by rw [hD.out.1]; simp)]
              rfl
            have JX := Lib.hid hK.out.box
            have JB := Lib.hid hK.out.bel
            have HBD : Hid (val d < bp 125) := val_bp hD.out.1 hlenB
            clear hK hpe hxs
            have HWS := Lib.hid (withSign_c neg a k c' (val d) wr hD.out.2)
            go_wp2_with fail
            (refine HWS.out.mono ?_)
            rintro e w4 ⟨b', rfl, h4, b4⟩
            have JX4 := Lib.hid (JX.out.keep b4)
            have JB4 := Lib.hid (JB.out.trans (b4.mono JB.out.size))
            have HZN := Lib.hid h4
            clear h4 b4 JX JB HWS
            obtain ⟨W9, hW9⟩ : ∃ W9, two w4 w.heap.size (.bool b') (.slice a k c') = W9 := ⟨_, rfl⟩
            have R9 : B2 W9 w.heap.size (.bool b') (.slice a k c') := by rw [← hW9]; exact JX4.out.set _ _
            have PP : Hid (RdPost l w (.returned (.tuple #[.agg #[.bool b', .slice a k c'], .bool true])) W9) := by
              rw [← hW9]
              exact .inl ⟨_, _, _, _, _, HZ3.out, rfl, HZN.out.set2 JX4.out _ _, by rw [zv_abs]; exact HBD.out, below_two JB4.out (Nat.le_refl _) _ _⟩
            have q0 := JX4.out.c0
            have q1 := JX4.out.c1
            have g0 := JX4.out.fr 0
            have g1 := JX4.out.fr 1
            obtain ⟨r0, r1, _, _⟩ := id R9
            unfold two at hW9
            clear R9
            go_wp2_with fail
            exact bodyPost_ret (v := .tuple #[.agg #[.bool b', .slice a k c'], .bool true]) (by simp [results, Tryd.results21, go_sem, r0, r1]) rfl PP.out
      · subst hx
        have hz' : ((u[0].toNat : Int) == 48) = true := by rw [hz]; rfl
        go_enter Tryd.func21, Tryd.ntmps21
        go_wp2_with (go_at_call 20; refine (HTP.out _).mono ?_; rintro e w' ⟨rfl, rfl⟩)
        clear hW1
        go_loopw [4, 6] (fun s v wr => ∃ (x : ByteArray) (p : Nat) (a : Option Addr) (k c : Nat), s = .string x ∧ v = .slice a k c ∧ p ≤ d.length ∧ Hid (Rdg w d p x a k c wr)) (fun s _ _ => match s with | .string x => x.size | _ => 0)
        case atStart => exact ⟨u, 0, none, 0, 0, rfl, rfl, Nat.zero_le _, K0.out⟩
        case round =>
          clear K0
          obtain ⟨x, p, a, k, c', rfl, rfl, hp, hK⟩ := hrel
          have hxs : x.size = d.length - p := by
            have h := congrArg List.length hK.out.left
            rw [List.length_drop] at h
            simpa using h
          have HXS := Lib.hid hxs
          have hlenB := HLEN.out
          by_cases hx0 : 0 < x.size
          · have hx0' : (0 : Int) < (x.size : Int) := by omega
            obtain ⟨s0, hs0⟩ : ∃ s0, (x.size - 1) % 19 = s0 := ⟨_, rfl⟩
            have hs19 : s0 < 19 := by rw [← hs0]; exact Nat.mod_lt _ (by decide)
            have hsle : s0 + 1 ≤ x.size := by rw [← hs0]; have := Nat.mod_le (x.size - 1) 19; omega
            have e1 : ((x.size : Int) - 1) % 19 = (s0 : Int) := by omega
            have hsle' : (s0 : Int) + 1 ≤ (x.size : Int) := by omega
            have hrow : p = 0 ∨ s0 = 18 := by
              rcases hK.out.row with h | h
              · exact .inl h
              · right; omega
            obtain ⟨y, hy⟩ : ∃ y, x.extract 0 (s0 + 1) = y := ⟨_, rfl⟩
            obtain ⟨x2, hx2⟩ : ∃ x2, x.extract (s0 + 1) x.size = x2 := ⟨_, rfl⟩
            have hyl : y.data.toList = (d.drop p).take (s0 + 1) := by rw [← hy, extract_list, hK.out.left, List.drop_zero, Nat.sub_zero]
            have hx2l : x2.data.toList = d.drop (p + (s0 + 1)) := by
              have hxl : x.data.toList.length = x.size := by simp
              rw [← hx2, extract_list, List.take_of_length_le (by rw [List.length_drop, hxl]; omega), hK.out.left, List.drop_drop]
            have hys : y.size = s0 + 1 := by rw [← hy, ByteArray.size_extract]; omega
            have hx2s : x2.size = d.length - (p + (s0 + 1)) := by rw [← hx2, ByteArray.size_extract]; omega
            have htk : d.take (p + (s0 + 1)) = d.take p ++ (d.drop p).take (s0 + 1) := List.take_add
            have hylen : ((d.drop p).take (s0 + 1)).length = s0 + 1 := by rw [List.length_take, List.length_drop]; omega
            have HCK := Lib.hid (fun w => readChunk_c y w (by omega))
            rw [hyl] at HCK
            have HTK := Lib.hid htk
            have HX2L := Lib.hid hx2l
            have HX2S := Lib.hid hx2s
            have HYL := Lib.hid hylen
            have hpb : p + (s0 + 1) ≤ d.length := by omega
            have hx2000 : x.size ≤ 2000 := by omega
            have hx2000' : (x.size : Int) ≤ 2000 := by omega
            clear hs0 hyl hx2l hys hx2s htk hylen hxs
            by_cases hdg : digs ((d.drop p).take (s0 + 1)) = true
            · rw [hdg] at HCK
              go_wp2_with fail
              (with_reducible refine (HCK.out _).mono ?_)
              rintro e wq ⟨v, rfl, hv, hvb, rfl⟩
              have HV := Lib.hid (hv trivial)
              have HTS := Lib.hid (timesPlus_c a k c' (val (d.take p)) 10000000000000000000 v wr hK.out.lim (by decide) hvb (Nat.lt_of_lt_of_le (val_bp hK.out.dig (by rw [List.length_take]; omega)) (bp_mono (by decide))))
              clear hv HCK
              go_wp2_with fail
              (refine HTS.out.mono ?_)
              rintro e w4 ⟨a4, k4, c4, rfl, h4, b4⟩
              have NX : Hid (Rdg w d (p + (s0 + 1)) x2 a4 k4 c4 w4) := by
                refine ⟨HX2L.out, ?_, ?_, ?_, hK.out.box.keep b4, hK.out.bel.trans (b4.mono hK.out.bel.size)⟩
                · rw [HTK.out, val_append, HYL.out, ← HV.out]
                  have e : val (d.take p) * 10 ^ (s0 + 1) = val (d.take p) * 10000000000000000000 := by
                    rcases hrow with h | h
                    · subst h; simp [val]
                    · subst h; rfl
                  rw [e]; exact h4
                · rw [HTK.out, digs_append, hK.out.dig, hdg]; rfl
                · have h1 := HX2S.out
                  have h2 := HXS.out
                  rcases hK.out.row with h | h
                  · right; omega
                  · right; omega
              clear h4 b4 hK HTS
              go_wp2
              go_roundw
              case rel => exact ⟨x2, p + (s0 + 1), a4, k4, c4, rfl, rfl, hpb, NX.out⟩
              case measure => simp; have := HX2S.out; have := HXS.out; omega
            · have hdf : digs ((d.drop p).take (s0 + 1)) = false := by simpa using hdg
              have EZ : Hid (zread l = none) := by
                unfold Hid
                rw [HZ2.out, if_pos]
                have e : d = d.take (p + (s0 + 1)) ++ d.drop (p + (s0 + 1)) := (List.take_append_drop _ _).symm
                rw [e, digs_append, HTK.out, digs_append, hdf]
                simp
              rw [hdf] at HCK
              obtain ⟨W9, hW9⟩ : ∃ W9, two wr w.heap.size (.bool false) (.slice none 0 0) = W9 := ⟨_, rfl⟩
              have R9 : B2 W9 w.heap.size (.bool false) (.slice none 0 0) := by rw [← hW9]; exact hK.out.box.set _ _
              have PP : Hid (RdPost l w (.returned (.tuple #[.agg #[.bool false, .slice none 0 0], .bool false])) W9) := by
                rw [← hW9]
                exact .inr ⟨EZ.out, rfl, below_two hK.out.bel (Nat.le_refl _) _ _⟩
              have q0 := hK.out.box.c0
              have q1 := hK.out.box.c1
              have g0 := hK.out.box.fr 0
              have g1 := hK.out.box.fr 1
              obtain ⟨r0, r1, _, _⟩ := id R9
              unfold two at hW9
              clear R9 hK
              go_wp2_with fail
              (with_reducible refine (HCK.out _).mono ?_)
              rintro e wq ⟨v, rfl, hv, hvb, rfl⟩
              clear hv
              go_wp2_with fail
              exact bodyPost_ret (v := .tuple #[.agg #[.bool false, .slice none 0 0], .bool false]) (by simp [results, Tryd.results21, go_sem, r0, r1]) rfl PP.out
          · have hx0' : ¬ (0 : Int) < (x.size : Int) := by omega
            have hpe : p = d.length := by omega
            have hD : Hid (digs d = true ∧ Nm wr a k c' (val d)) := by
              have h1 := hK.out.dig
              have h2 := hK.out.lim
              rw [hpe, List.take_length] at h1 h2
              exact ⟨h1, h2⟩
            have HZ3 : Hid (zread l = some (zv false (val d))) := by
              unfold Hid
              rw [HZ2.out, if_neg (by rw [hD.out.1]; simp)]
              rfl
            have JX := Lib.hid hK.out.box
            have JB := Lib.hid hK.out.bel
            have HBD : Hid (val d < bp 125) := val_bp hD.out.1 hlenB
            clear hK hpe hxs
            have HWS := Lib.hid (withSign_c false a k c' (val d) wr hD.out.2)
            go_wp2_with fail
            (refine HWS.out.mono ?_)
            rintro e w4 ⟨b', rfl, h4, b4⟩
            have JX4 := Lib.hid (JX.out.keep b4)
            have JB4 := Lib.hid (JB.out.trans (b4.mono JB.out.size))
            have HZN := Lib.hid h4
            clear h4 b4 JX JB HWS
            obtain ⟨W9, hW9⟩ : ∃ W9, two w4 w.heap.size (.bool b') (.slice a k c') = W9 := ⟨_, rfl⟩
            have R9 : B2 W9 w.heap.size (.bool b') (.slice a k c') := by rw [← hW9]; exact JX4.out.set _ _
            have PP : Hid (RdPost l w (.returned (.tuple #[.agg #[.bool b', .slice a k c'], .bool true])) W9) := by
              rw [← hW9]
              exact .inl ⟨_, _, _, _, _, HZ3.out, rfl, HZN.out.set2 JX4.out _ _, by rw [zv_abs]; exact HBD.out, below_two JB4.out (Nat.le_refl _) _ _⟩
            have q0 := JX4.out.c0
            have q1 := JX4.out.c1
            have g0 := JX4.out.fr 0
            have g1 := JX4.out.fr 1
            obtain ⟨r0, r1, _, _⟩ := id R9
            unfold two at hW9
            clear R9
            go_wp2_with fail
            exact bodyPost_ret (v := .tuple #[.agg #[.bool b', .slice a k c'], .bool true]) (by simp [results, Tryd.results21, go_sem, r0, r1]) rfl PP.out
end Go.Proofs.YtaibpppobblnoaaDoor
