/-
  Ratios in the reference: open, both.
  The reference's exact fractions: FracOf, ShortRatio.
  Package weight: shortOf, fraction.
  Package whole: Bits; package weight: isLong.
-/
import Derived.Test.YtchdfekajjeflaaGreatDoorM15
import Derived.Test.YtchdfekajjeflaaGreatDoorM17
import Derived.Test.YtchdfekajjeflaaGreatDoorM04
namespace Go.Proofs.YtchdfekajjeflaaGreatDoor
open Go.RowKit

/-- What a sound ratio is. -/
theorem rread_is {n d : List UInt8} {x y : Int} (h : rread n d = some (x, y)) :
    large n d = false ∧ sound n d = true ∧ x = zv (Lib.hasPrefix n [45]) (val (Lib.trimPrefix n [45])) ∧ y = (val d : Int) ∧ Nat.gcd (val (Lib.trimPrefix n [45])) (val d) = 1 ∧ Lib.hasPrefix n [45] = decide (x < 0) := by
  have hl : large n d = false := by
    cases e : large n d with
    | false => rfl
    | true => unfold rread at h; rw [if_pos e] at h; cases h
  have hs : sound n d = true := by
    cases e : sound n d with
    | true => rfl
    | false => rw [rread_no e] at h; cases h
  have e := rread_yes hl hs
  rw [h] at e
  by_cases hg : Nat.gcd (val (Lib.trimPrefix n [45])) (val d) = 1
  · rw [if_pos hg] at e
    injection e with e
    injection e with e1 e2
    refine ⟨hl, hs, e1, e2, hg, ?_⟩
    unfold sound at hs
    simp only [Bool.and_eq_true, Bool.not_eq_true', decide_eq_false_iff_not] at hs
    rw [e1]
    cases hb : Lib.hasPrefix n [45] with
    | false => rw [zv_false]; simp
    | true =>
      rw [zv_true]
      have hp : 0 < val (Lib.trimPrefix n [45]) := val_pos hs.1.1.1 (fun e => hs.1.1.2 (by
        rcases trim_cases n with ⟨r, q1, q2, _⟩ | ⟨_, q3, _⟩
        · rw [q1, ← q2, e]
        · rw [hb] at q3; cases q3))
      have : -((val (Lib.trimPrefix n [45]) : Nat) : Int) < 0 := by omega
      exact (decide_eq_true this).symm
  · rw [if_neg hg] at e
    cases e
theorem rread_pos' {n d : List UInt8} {x y : Int} (h : rread n d = some (x, y)) : 0 < y := by
  unfold rread at h
  split at h
  · cases h
  · split at h
    · split at h
      · next hp => injection h with h; injection h with h1 h2; rw [← h2]; exact hp.1
      · cases h
    · cases h
theorem val_pos_den {n d : List UInt8} {x y : Int} (h : rread n d = some (x, y)) : 0 < y.natAbs ∧ y.natAbs < tp 223 ∧ x.natAbs < tp 223 := by
  obtain ⟨hl, hs, e1, e2, _⟩ := rread_is h
  have hp := (rread_pos' h)
  unfold sound at hs
  simp only [Bool.and_eq_true, Bool.not_eq_true', decide_eq_false_iff_not] at hs
  unfold large at hl
  simp only [Bool.or_eq_false_iff, decide_eq_false_iff_not] at hl
  refine ⟨by omega, ?_, ?_⟩
  · rw [e2, Int.natAbs_natCast]
    exact val_tp (numB_iff.1 hs.1.2).2.2 (by omega)
  · rw [e1, zv_abs]
    exact val_tp (numB_iff.1 hs.1.1.1).2.2 (by omega)
structure Opn (w : World) (s t : ByteArray) (W : World) : Prop where
  x : B2 W w.heap.size (.string s) (.string t)
  r : B3 W (w.heap.size + 1) (.bool false) (.slice none 0 0) (.slice none 0 0)
  bel : Below w.heap.size w W
theorem Opn.keep {w : World} {s t : ByteArray} {W W' : World} (h : Opn w s t W) (hb : Below W.heap.size W W') : Opn w s t W' :=
  ⟨h.x.keep hb, h.r.keep hb, h.bel.trans (hb.mono h.bel.size)⟩
theorem Opn.s2 {w : World} {s t : ByteArray} {W : World} (h : Opn w s t W) : S2 w.heap.size s t W := ⟨h.x.c0, h.x.c1⟩
theorem Opn.done {w : World} {s t : ByteArray} {W : World} (h : Opn w s t W) (y0 y1 y2 : Value) : S2 w.heap.size s t (three W (w.heap.size + 1) y0 y1 y2) :=
  ⟨(h.x.other3 (by omega) _ _ _).c0, (h.x.other3 (by omega) _ _ _).c1⟩
/-- A store into boxes changes no number that lies elsewhere. -/
theorem Nt.set {W : World} {a : Option Addr} {k c n : Nat} (h : Nt W a k c n) {p : Addr} {u : Value} (hu : W.cell? p = some u) (hne : ∀ m, u ≠ .int .i64 m) (x : Value) : Nt (W.setCell p x) a k c n := by
  obtain ⟨f, h1, h2⟩ := h
  refine ⟨f, ⟨h1.1, h1.2.1, fun h0 => ?_⟩, h2⟩
  obtain ⟨b, off, e, hl, hc⟩ := h1.2.2 h0
  refine ⟨b, off, e, by simpa using hl, fun j hj => ?_⟩
  rw [World.cell?_setCell_other _ _ _ _ (by rintro rfl; rw [hc j hj] at hu; injection hu with hu; exact hne _ hu.symm)]
  exact hc j hj
theorem Nt.set3 {W : World} {a : Option Addr} {k c n : Nat} (h : Nt W a k c n) {g : Nat} {b : Bool} {p1 p2 : Option Addr} {k1 k2 c1 c2 : Nat} (hb : B3 W g (.bool b) (.slice p1 k1 c1) (.slice p2 k2 c2)) (y0 y1 y2 : Value) : Nt (three W g y0 y1 y2) a k c n := by
  unfold three
  refine Nt.set (Nt.set (Nt.set h hb.c0 (fun m e => nomatch e) y0) (u := .slice p1 k1 c1) ?_ (fun m e => nomatch e) y1) (u := .slice p2 k2 c2) ?_ (fun m e => nomatch e) y2
  · rw [World.cell?_setCell_other _ _ _ _ (addr_ne (by decide))]; exact hb.c1
  · rw [World.cell?_setCell_other _ _ _ _ (addr_ne (by decide)), World.cell?_setCell_other _ _ _ _ (addr_ne (by decide))]; exact hb.c2
def OnP (b : Bool) (x y : Int) (w : World) (e : Ending) (w' : World) : Prop :=
  ∃ a k c a' k' c', e = .returned (.agg #[.bool b, .slice a k c, .slice a' k' c']) ∧ Nt w' a k c x.natAbs ∧ Nt w' a' k' c' y.natAbs ∧ Below w.heap.size w w'
set_option maxRecDepth 100000 in
set_option maxHeartbeats 4000000 in
theorem open_c (s t : ByteArray) (x y : Int) (w : World) (hr : rread s.data.toList t.data.toList = some (x, y)) :
    Calls Tryz.prog 28 #[.agg #[.string s, .string t]] w (OnP (decide (x < 0)) x y w) := by
  obtain ⟨hl, hs, e1, e2, _, e4⟩ := rread_is hr
  unfold sound at hs
  simp only [Bool.and_eq_true, Bool.not_eq_true', decide_eq_false_iff_not] at hs
  unfold large at hl
  simp only [Bool.or_eq_false_iff, decide_eq_false_iff_not] at hl
  obtain ⟨u, hu⟩ : ∃ u : ByteArray, u = ⟨(Lib.trimPrefix s.data.toList [45]).toArray⟩ := ⟨_, rfl⟩
  have hul : u.data.toList = Lib.trimPrefix s.data.toList [45] := by rw [hu]
  have hus : u.size = (Lib.trimPrefix s.data.toList [45]).length := by rw [hu]; simp [ByteArray.size]
  have hts : t.size = t.data.toList.length := by simp
  have HTP : Hid (∀ w, Calls Tryz.prog 20 #[.string s, .string ⟨#[45]⟩] w fun e w' => e = .returned (.string u) ∧ w = w') := fun w => (Tryz.strings_TrimPrefix s ⟨#[45]⟩ w).mono fun e w' ⟨he, hw⟩ => ⟨by rw [he, hu], hw.symm⟩
  have HHP : Hid (∀ w, Calls Tryz.prog 48 #[.string s, .string ⟨#[45]⟩] w fun e w' => e = .returned (.bool (decide (x < 0))) ∧ w = w') := fun w => (Tryz.strings_HasPrefix s ⟨#[45]⟩ w).mono fun e w' ⟨he, hw⟩ => ⟨by rw [he, ← e4], hw.symm⟩
  have RU := Lib.hid (fun w => readNatural_c u w (by rw [hul]; exact (numB_iff.1 hs.1.1.1).2.2) (by omega))
  have RT := Lib.hid (fun w => readNatural_c t w (numB_iff.1 hs.1.2).2.2 (by omega))
  have vx : val u.data.toList = x.natAbs := by rw [e1, zv_abs, hul]
  have vy : val t.data.toList = y.natAbs := by rw [e2, Int.natAbs_natCast]
  rw [vx] at RU
  rw [vy] at RT
  clear hu hul hus hts hs hl e1 e2 e4 vx vy hr
  obtain ⟨W0, hW0⟩ : ∃ W0, (w.alloc (.cells #[.string s, .string t] 29)).alloc (.cells #[.bool false, .slice none 0 0, .slice none 0 0] 65) = W0 := ⟨_, rfl⟩
  have s1 : (w.alloc (.cells #[.string s, .string t] 29)).heap.size = w.heap.size + 1 := by simp
  have J0 : Hid (Opn w s t W0) := ⟨by rw [← hW0]; exact (B2.made w _ _ _).keep (bel_one _ _), by rw [← hW0, ← s1]; exact B3.made _ _ _ _ _, by rw [← hW0]; exact ((Below.refl _ _).alloc (Nat.le_refl _) _).alloc (by simp) _⟩
  clear s1
  generalize decide (x < 0) = b at *
  go_enter Tryz.func28, Tryz.ntmps28
  go_wp2_with fail
  clear hW0
  refine wp_region_noPanic ?_
  refine wp_region_held_drew (S := S2 w.heap.size s t) (by kernel_rfl) (J0.out.keep (Below.refl _ _).drew).s2 (fun hS => ?_)
  have J1 := Lib.hid (J0.out.keep (Below.refl _ _).drew)
  clear J0
  refine wpAnyH_take (i := 0) (v := ?v0z29) rfl (by kernel_rfl) (by kernel_rfl) (by kernel_rfl) (fun _ _ _ h => h) (Or.inl ⟨by rfl, ?hy0z29⟩) (by assumption) ?rest0z29
  case hy0z29 =>
    intro w hSw
    dsimp only [S2] at hSw
    go_simp
    try with_reducible rfl
  simp only [Act.put, List.getElem_toArray, List.getElem_cons_succ, List.getElem_cons_zero, List.setIfInBounds_toArray, List.set_cons_zero, List.set_cons_succ]
  refine wpAnyH_take (i := 1) (v := ?v1z30) rfl (by kernel_rfl) (by kernel_rfl) (by kernel_rfl) (fun _ _ _ h => h) (Or.inl ⟨by rfl, ?hy1z30⟩) (by assumption) ?rest1z30
  case hy1z30 =>
    intro w hSw
    dsimp only [S2] at hSw
    go_simp
    try with_reducible rfl
  simp only [Act.put, List.getElem_toArray, List.getElem_cons_succ, List.getElem_cons_zero, List.setIfInBounds_toArray, List.set_cons_zero, List.set_cons_succ]
  refine wpAnyH_take (i := 3) (v := ?v3z31) rfl (by kernel_rfl) (by kernel_rfl) (by kernel_rfl) (fun _ _ _ h => h) (Or.inl ⟨by rfl, ?hy3z31⟩) (by assumption) ?rest3z31
  case hy3z31 =>
    intro w hSw
    dsimp only [S2] at hSw
    go_simp
    try with_reducible rfl
  simp only [Act.put, List.getElem_toArray, List.getElem_cons_succ, List.getElem_cons_zero, List.setIfInBounds_toArray, List.set_cons_zero, List.set_cons_succ]
  refine wpAnyH_take (i := 4) (v := ?v4z32) rfl (by kernel_rfl) (by kernel_rfl) (by kernel_rfl) (fun _ _ _ h => h) (Or.inl ⟨by rfl, ?hy4z32⟩) (by assumption) ?rest4z32
  case hy4z32 =>
    intro w hSw
    dsimp only [S2] at hSw
    go_simp
    try with_reducible rfl
  simp only [Act.put, List.getElem_toArray, List.getElem_cons_succ, List.getElem_cons_zero, List.setIfInBounds_toArray, List.set_cons_zero, List.set_cons_succ]
  refine wpAnyH_take (i := 7) (v := ?v7z33) rfl (by kernel_rfl) (by kernel_rfl) (by kernel_rfl) (fun _ _ _ h => h) (Or.inl ⟨by rfl, ?hy7z33⟩) (by assumption) ?rest7z33
  case hy7z33 =>
    intro w hSw
    dsimp only [S2] at hSw
    go_simp
    try with_reducible rfl
  simp only [Act.put, List.getElem_toArray, List.getElem_cons_succ, List.getElem_cons_zero, List.setIfInBounds_toArray, List.set_cons_zero, List.set_cons_succ]
  refine wpAnyH_take (i := 8) (v := ?v8z34) rfl (by kernel_rfl) (by kernel_rfl) (by kernel_rfl) (fun _ _ _ h => h) (Or.inl ⟨by rfl, ?hy8z34⟩) (by assumption) ?rest8z34
  case hy8z34 =>
    intro w hSw
    dsimp only [S2] at hSw
    go_simp
    try with_reducible rfl
  simp only [Act.put, List.getElem_toArray, List.getElem_cons_succ, List.getElem_cons_zero, List.setIfInBounds_toArray, List.set_cons_zero, List.set_cons_succ]
  refine wpAnyH_ready (rs := [2]) (by kernel_rfl) (by simp) ?_
  refine AllReadyH.cons rfl (fun K hK => ?_) AllReadyH.nil
  go_simp
  refine (HHP.out _).mono ?_
  rintro e W ⟨rfl, rfl⟩
  try go_simp
  refine hK.out _ _ hS (fun _ => ?_)
  clear hK K
  try simp only [Act.put, List.setIfInBounds_toArray, List.set_cons_zero, List.set_cons_succ]
  refine wpAnyH_ready (rs := [5]) (by kernel_rfl) (by simp) ?_
  refine AllReadyH.cons rfl (fun K hK => ?_) AllReadyH.nil
  go_simp
  refine (HTP.out _).mono ?_
  rintro e W ⟨rfl, rfl⟩
  try go_simp
  refine hK.out _ _ hS (fun _ => ?_)
  clear hK K
  try simp only [Act.put, List.setIfInBounds_toArray, List.set_cons_zero, List.set_cons_succ]
  refine wpAnyH_ready (rs := [6]) (by kernel_rfl) (by simp) ?_
  refine AllReadyH.cons rfl (fun K hK => ?_) AllReadyH.nil
  go_simp
  refine (RU.out _).mono ?_
  rintro e W2 ⟨a, k, c, rfl, hp, bc⟩
  try go_simp
  have J2 := Lib.hid (J1.out.keep bc)
  have hT := J2.out.s2
  have HP := Lib.hid hp
  refine hK.out _ _ hT (fun _ => ?_)
  clear hK K hS bc J1 hp
  have hS := hT
  clear hT
  try simp only [Act.put, List.setIfInBounds_toArray, List.set_cons_zero, List.set_cons_succ]
  refine wpAnyH_ready (rs := [9]) (by kernel_rfl) (by simp) ?_
  refine AllReadyH.cons rfl (fun K hK => ?_) AllReadyH.nil
  go_simp
  refine (RT.out _).mono ?_
  rintro e W3 ⟨a', k', c', rfl, hd, bc⟩
  try go_simp
  have J3 := Lib.hid (J2.out.keep bc)
  have hT := J3.out.s2
  have HP3 := Lib.hid (HP.out.below bc)
  have HD := Lib.hid hd
  refine hK.out _ _ hT (fun _ => ?_)
  clear hK K hS bc J2 hd HP
  have hS := hT
  clear hT
  try simp only [Act.put, List.setIfInBounds_toArray, List.set_cons_zero, List.set_cons_succ]
  refine wpAnyH_take (i := 10) (v := ?v10z35) rfl (by kernel_rfl) (by kernel_rfl) (by kernel_rfl) (fun _ _ _ h => h) (Or.inl ⟨by rfl, ?hy10z35⟩) (by assumption) ?rest10z35
  case hy10z35 =>
    intro w hSw
    dsimp only [S2] at hSw
    go_simp
    try with_reducible rfl
  simp only [Act.put, List.getElem_toArray, List.getElem_cons_succ, List.getElem_cons_zero, List.setIfInBounds_toArray, List.set_cons_zero, List.set_cons_succ]
  refine wpAnyH_ready (rs := [11]) (by kernel_rfl) (by simp) ?_
  refine AllReadyH.cons rfl (fun K hK => ?_) AllReadyH.nil
  have q0 := J3.out.r.c0
  have q1 := J3.out.r.c1
  have q2 := J3.out.r.c2
  have g0 := J3.out.r.fr 0
  have g1 := J3.out.r.fr 1
  have g2 := J3.out.r.fr 2
  go_simp
  clear q0 q1 q2 g0 g1 g2
  have hT := J3.out.done (.bool b) (.slice a k c) (.slice a' k' c')
  have R9 := J3.out.r.set (.bool b) (.slice a k c) (.slice a' k' c')
  have PP : Hid (OnP b x y w (.returned (.agg #[.bool b, .slice a k c, .slice a' k' c'])) (three W3 (w.heap.size + 1) (.bool b) (.slice a k c) (.slice a' k' c'))) :=
    ⟨_, _, _, _, _, _, rfl, HP3.out.set3 J3.out.r _ _ _, HD.out.set3 J3.out.r _ _ _, below_three J3.out.bel (by omega) _ _ _⟩
  unfold three at hT R9 PP
  refine hK.out _ _ hT (fun _ => ?_)
  clear hK K hS
  try simp only [Act.put, List.setIfInBounds_toArray, List.set_cons_zero, List.set_cons_succ]
  refine wpAnyH_done (by kernel_rfl) ?_ _
  refine NoPanic.normal ?_
  obtain ⟨r0, r1, r2, _, _⟩ := id R9
  clear hT R9
  go_wp2_with fail
  exact bodyPost_ret (v := .agg #[.bool b, .slice a k c, .slice a' k' c']) (by simp [results, Tryz.results28, go_sem, r0, r1, r2]) rfl PP.out
end Go.Proofs.YtchdfekajjeflaaGreatDoor
namespace Go.Proofs.YtchdfekajjeflaaGreatDoor
open Go.RowKit

/-- What ShortRatio says. -/
def shS (n d : List UInt8) : Int := if ck n d ≠ 0 then ck n d else if 12 < (Lib.trimPrefix n [45]).length ∨ 12 < d.length then 2 else 0
set_option maxRecDepth 100000 in
set_option maxHeartbeats 4000000 in
theorem fracOf_c (s t : ByteArray) (x y : Int) (w : World) (hr : rread s.data.toList t.data.toList = some (x, y)) :
    Calls Tryz.prog 14 #[.agg #[.string s, .string t]] w (OnP (decide (x < 0)) x y w) := by
  obtain ⟨W0, hW0⟩ : ∃ W0, (w.alloc (.cells #[.string s, .string t] 29)).alloc (.cells #[.bool false, .slice none 0 0, .slice none 0 0] 50) = W0 := ⟨_, rfl⟩
  have s1 : (w.alloc (.cells #[.string s, .string t] 29)).heap.size = w.heap.size + 1 := by simp
  have X0 : B2 W0 w.heap.size (.string s) (.string t) := by rw [← hW0]; exact (B2.made w _ _ _).keep (bel_one _ _)
  have R0 : Hid (Q3 W0 (w.heap.size + 1) (.bool false) (.slice none 0 0) (.slice none 0 0)) := by rw [← hW0, ← s1]; exact Q3.made _ _ _ _ _
  have B0 : Hid (Below w.heap.size w W0) := by rw [← hW0]; exact ((Below.refl _ _).alloc (Nat.le_refl _) _).alloc (by simp) _
  have HO := Lib.hid (open_c s t x y W0 hr)
  obtain ⟨sb, hsb⟩ : ∃ sb, decide (x < 0) = sb := ⟨_, rfl⟩
  rw [hsb] at HO ⊢
  have x0 := X0.c0
  have x1 := X0.c1
  clear X0 s1 hr hsb
  go_enter Tryz.func14, Tryz.ntmps14
  go_wp2_with fail
  clear hW0 x0 x1
  (with_reducible refine HO.out.mono ?_)
  rintro e w2 ⟨qa, qk, qc, pa, pk, pc, rfl, l1, l2, b2⟩
  have R2 := Lib.hid (R0.out.keep b2)
  have B2 := Lib.hid (B0.out.trans (b2.mono B0.out.size))
  have L1 := Lib.hid l1
  have L2 := Lib.hid l2
  clear HO R0 B0 l1 l2 b2
  obtain ⟨W3, hW3⟩ : ∃ W3, w2.alloc (.cells #[.bool false, .slice none 0 0, .slice none 0 0] 65) = W3 := ⟨_, rfl⟩
  have J3 : Q3 W3 w2.heap.size (.bool false) (.slice none 0 0) (.slice none 0 0) := by rw [← hW3]; exact Q3.made _ _ _ _ _
  have b3 : Below w2.heap.size w2 W3 := by rw [← hW3]; exact bel_one _ _
  have R3 : Hid (Q3 W3 (w.heap.size + 1) (.bool false) (.slice none 0 0) (.slice none 0 0)) := R2.out.keep b3
  have GE : Hid (w.heap.size + 1 < w2.heap.size) := R2.out.lt
  have B3 : Hid (Below w.heap.size w W3) := B2.out.trans (b3.mono B2.out.size)
  obtain ⟨WX, hWX⟩ : ∃ WX, trio W3 w2.heap.size (.bool sb) (.slice qa qk qc) (.slice pa pk pc) = WX := ⟨_, rfl⟩
  have RX : Q3 WX w2.heap.size (.bool sb) (.slice qa qk qc) (.slice pa pk pc) := by rw [← hWX]; exact J3.set _ _ _
  have BX : Hid (Below w.heap.size w WX) := by rw [← hWX]; exact below_trio B3.out B2.out.size _ _ _
  have bx : Below w2.heap.size w2 WX := by rw [← hWX]; exact below_trio b3 (Nat.le_refl _) _ _ _
  have R9 : Q3 WX (w.heap.size + 1) (.bool false) (.slice none 0 0) (.slice none 0 0) := R2.out.keep bx
  obtain ⟨WY, hWY⟩ : ∃ WY, trio WX (w.heap.size + 1) (.bool sb) (.slice qa qk qc) (.slice pa pk pc) = WY := ⟨_, rfl⟩
  have RY : Q3 WY (w.heap.size + 1) (.bool sb) (.slice qa qk qc) (.slice pa pk pc) := by rw [← hWY]; exact R9.set _ _ _
  have PP : Hid (OnP sb x y w (.returned (.agg #[.bool sb, .slice qa qk qc, .slice pa pk pc])) WY) := by
    rw [← hWY]
    exact ⟨_, _, _, _, _, _, rfl, (L1.out.below bx).trio R9 (NI.b _) (NI.s _ _ _) (NI.s _ _ _) _ _ _, (L2.out.below bx).trio R9 (NI.b _) (NI.s _ _ _) (NI.s _ _ _) _ _ _, below_trio BX.out (by omega) _ _ _⟩
  obtain ⟨r0, r1, r2, rf, _⟩ := J3
  have rf0 := rf 0
  have rf1 := rf 1
  have rf2 := rf 2
  obtain ⟨t0, t1, t2, _, _⟩ := RX
  obtain ⟨u0, u1, u2, uf, _⟩ := R9
  have uf0 := uf 0
  have uf1 := uf 1
  have uf2 := uf 2
  obtain ⟨v0, v1, v2, _, _⟩ := RY
  clear rf uf L1 L2 B2 B3 R2 R3 BX bx b3 GE
  unfold trio at hWX hWY
  go_wp2_with fail
  exact bodyPost_ret (v := .agg #[.bool sb, .slice qa qk qc, .slice pa pk pc]) (by simp [results, Tryz.results14, go_sem, v0, v1, v2]) rfl PP.out
set_option maxRecDepth 100000 in
set_option maxHeartbeats 4000000 in
theorem shortRatio_c (s t : ByteArray) (w : World) (hE : Pow w) :
    Calls Tryz.prog 13 #[.agg #[.string s, .string t]] w fun e w' => e = .returned (.int .i64 (shS s.data.toList t.data.toList)) ∧ Below w.heap.size w w' := by
  obtain ⟨u, hu⟩ : ∃ u : ByteArray, u = ⟨(Lib.trimPrefix s.data.toList [45]).toArray⟩ := ⟨_, rfl⟩
  have hus : u.size = (Lib.trimPrefix s.data.toList [45]).length := by rw [hu]; simp [ByteArray.size]
  have hts : t.size = t.data.toList.length := by simp
  have HTP : Hid (∀ w, Calls Tryz.prog 20 #[.string s, .string ⟨#[45]⟩] w fun e w' => e = .returned (.string u) ∧ w = w') := fun w => (Tryz.strings_TrimPrefix s ⟨#[45]⟩ w).mono fun e w' ⟨he, hw⟩ => ⟨by rw [he, hu], hw.symm⟩
  have HSH : Hid (shS s.data.toList t.data.toList = if ck s.data.toList t.data.toList ≠ 0 then ck s.data.toList t.data.toList else if 12 < u.size ∨ 12 < t.size then 2 else 0) := by unfold Hid shS; rw [hus, hts]
  clear hu hus hts
  obtain ⟨W0, hW0⟩ : ∃ W0, w.alloc (.cells #[.string s, .string t] 29) = W0 := ⟨_, rfl⟩
  have X0 : Hid (B2 W0 w.heap.size (.string s) (.string t)) := by rw [← hW0]; exact B2.made w _ _ _
  have B0 : Hid (Below w.heap.size w W0) := by rw [← hW0]; exact bel_one _ _
  have HC := Lib.hid (rCheckRatio_c s t W0 (hE.below B0.out))
  generalize shS s.data.toList t.data.toList = res at *
  unfold CkPost at HC
  generalize ck s.data.toList t.data.toList = cc at *
  have x0 := X0.out.c0
  have x1 := X0.out.c1
  clear hE
  go_enter Tryz.func13, Tryz.ntmps13
  go_wp2_with fail
  clear hW0 x0 x1
  (with_reducible refine HC.out.mono ?_)
  rintro e w1 ⟨rfl, b1⟩
  have X1 := X0.out.keep b1
  have BB := Lib.hid (B0.out.trans (b1.mono B0.out.size))
  have x0 := X1.c0
  have x1 := X1.c1
  clear X0 B0 HC X1 b1
  by_cases hz : cc = 0
  · subst hz
    by_cases hu : 12 < u.size
    · have hi : (12 : Int) < (u.size : Int) := by omega
      have RS : Hid (res = 2) := by have h := HSH.out; rw [if_neg (by simp), if_pos (.inl hu)] at h; exact h
      clear HSH hu
      go_wp2_with (go_at_call 20; refine (HTP.out _).mono ?_; rintro e w' ⟨rfl, rfl⟩)
      go_ret
      exact ⟨by rw [RS.out]; rfl, BB.out⟩
    · have hi : ¬ (12 : Int) < (u.size : Int) := by omega
      by_cases ht : 12 < t.size
      · have hj : (12 : Int) < (t.size : Int) := by omega
        have RS : Hid (res = 2) := by have h := HSH.out; rw [if_neg (by simp), if_pos (.inr ht)] at h; exact h
        clear HSH hu ht
        go_wp2_with (go_at_call 20; refine (HTP.out _).mono ?_; rintro e w' ⟨rfl, rfl⟩)
        go_ret
        exact ⟨by rw [RS.out]; rfl, BB.out⟩
      · have hj : ¬ (12 : Int) < (t.size : Int) := by omega
        have RS : Hid (res = 0) := by have h := HSH.out; rw [if_neg (by simp), if_neg (by omega)] at h; exact h
        clear HSH hu ht
        go_wp2_with (go_at_call 20; refine (HTP.out _).mono ?_; rintro e w' ⟨rfl, rfl⟩)
        go_ret
        exact ⟨by rw [RS.out]; rfl, BB.out⟩
  · have hne : (cc == 0) = false := by rw [beq_eq_false_iff_ne]; exact hz
    have hne2 : (cc != 0) = true := by simp [hz]
    have RS : Hid (res = cc) := by have h := HSH.out; rw [if_pos hz] at h; exact h
    clear HSH hz
    go_wp2_with fail
    go_ret
    exact ⟨by rw [RS.out]; rfl, BB.out⟩
end Go.Proofs.YtchdfekajjeflaaGreatDoor
namespace Go.Proofs.YtchdfekajjeflaaGreatDoor
open Go.RowKit

/-- What shortOf answers. -/
def SoPost (n d : List UInt8) (w : World) (e : Ending) (w' : World) : Prop :=
  ∃ (f : Fq) (flt : Int), e = .returned (.tuple #[f.v, .int .i64 flt]) ∧ Below w.heap.size w w' ∧ flt = shS n d ∧ (flt = 0 → ∃ x y, rread n d = some (x, y) ∧ Fi w' f x y)
theorem Zn.two {W : World} {b : Bool} {a : Option Addr} {k c : Nat} {z : Int} (h : Zn W b a k c z) {W' : World} (hb : Below W.heap.size W W') : Zn W' b a k c z := h.below hb
set_option maxRecDepth 100000 in
set_option maxHeartbeats 4000000 in
theorem shortOf_c (s t : ByteArray) (w : World) :
    Calls Tryz.prog 7 #[.agg #[.string s, .string t]] w (SoPost s.data.toList t.data.toList w) := by
  obtain ⟨u, hu⟩ : ∃ u : ByteArray, u = ⟨(Lib.trimPrefix s.data.toList [45]).toArray⟩ := ⟨_, rfl⟩
  have hus : u.size = (Lib.trimPrefix s.data.toList [45]).length := by rw [hu]; simp [ByteArray.size]
  have hts : t.size = t.data.toList.length := by simp
  have HUS := Lib.hid hus
  have HTS := Lib.hid hts
  have HTP : Hid (∀ w, Calls Tryz.prog 20 #[.string s, .string ⟨#[45]⟩] w fun e w' => e = .returned (.string u) ∧ w = w') := fun w => (Tryz.strings_TrimPrefix s ⟨#[45]⟩ w).mono fun e w' ⟨he, hw⟩ => ⟨by rw [he, hu], hw.symm⟩
  have HSH : Hid (shS s.data.toList t.data.toList = if ck s.data.toList t.data.toList ≠ 0 then ck s.data.toList t.data.toList else if 12 < u.size ∨ 12 < t.size then 2 else 0) := by unfold Hid shS; rw [hus, hts]
  clear hu hus hts
  obtain ⟨W0, hW0⟩ : ∃ W0, (w.alloc (.cells #[.string s, .string t] 29)).alloc (.cells #[.bool false, .slice none 0 0, .bool false, .slice none 0 0] 38) = W0 := ⟨_, rfl⟩
  have s1 : (w.alloc (.cells #[.string s, .string t] 29)).heap.size = w.heap.size + 1 := by simp
  have X0 : Hid (B2 W0 w.heap.size (.string s) (.string t)) := by rw [← hW0]; exact (B2.made w _ _ _).keep (bel_one _ _)
  have R0 : Hid (B4 W0 (w.heap.size + 1) (.bool false) (.slice none 0 0) (.bool false) (.slice none 0 0)) := by rw [← hW0, ← s1]; exact B4.made _ _ _ _ _ _
  have B0 : Hid (Below w.heap.size w W0) := by rw [← hW0]; exact ((Below.refl _ _).alloc (Nat.le_refl _) _).alloc (by simp) _
  have HC := Lib.hid (CheckRatio_c s t W0)
  have HCK : Hid (ck s.data.toList t.data.toList = 0 → ∃ x y, rread s.data.toList t.data.toList = some (x, y) ∧ zread s.data.toList = some x ∧ zread t.data.toList = some y ∧ 0 < y ∧ Int.gcd x y = 1) := by
    intro h
    unfold ck at h
    by_cases hs : (rread s.data.toList t.data.toList).isSome = true
    · obtain ⟨p, hp⟩ := Option.isSome_iff_exists.1 hs
      have hp2 := hp
      unfold rread at hp2
      by_cases hl : large s.data.toList t.data.toList = true
      · rw [if_pos hl] at hp2; cases hp2
      · rw [if_neg hl] at hp2
        cases h1 : zread s.data.toList with
        | none => rw [h1] at hp2; cases hp2
        | some x =>
          cases h2 : zread t.data.toList with
          | none => rw [h1, h2] at hp2; cases hp2
          | some y =>
            rw [h1, h2] at hp2
            by_cases h3 : 0 < y ∧ Int.gcd x y = 1
            · simp only [if_pos h3] at hp2
              injection hp2 with e
              subst e
              exact ⟨x, y, hp, rfl, rfl, h3.1, h3.2⟩
            · simp only [if_neg h3] at hp2
              cases hp2
    · rw [if_neg hs] at h
      exact absurd h (rflt_ne _ _)
  unfold CkPost at HC
  generalize ck s.data.toList t.data.toList = cc at *
  have x0 := X0.out.c0
  have x1 := X0.out.c1
  clear s1
  go_enter Tryz.func7, Tryz.ntmps7
  go_wp2_with fail
  clear hW0 x0 x1
  (with_reducible refine HC.out.mono ?_)
  rintro e w1 ⟨rfl, b1⟩
  have X1 := Lib.hid (X0.out.keep b1)
  have R1 := Lib.hid (R0.out.keep b1)
  have BB := Lib.hid (B0.out.trans (b1.mono B0.out.size))
  have x0 := X1.out.c0
  have x1 := X1.out.c1
  clear X0 R0 B0 HC b1
  by_cases hz : cc = 0
  · subst hz
    by_cases hu : 12 < u.size
    · have hi : (12 : Int) < (u.size : Int) := by omega
      have RS : Hid (shS s.data.toList t.data.toList = 2) := by have h := HSH.out; rw [if_neg (by simp), if_pos (.inl hu)] at h; exact h
      have NZ : Hid ((2 : Int) ≠ 0) := by unfold Hid; decide
      clear HSH hu HCK
      obtain ⟨W9, hW9⟩ : ∃ W9, four w1 (w.heap.size + 1) (.bool false) (.slice none 0 0) (.bool false) (.slice none 0 0) = W9 := ⟨_, rfl⟩
      have R9 : B4 W9 (w.heap.size + 1) (.bool false) (.slice none 0 0) (.bool false) (.slice none 0 0) := by rw [← hW9]; exact R1.out.set _ _ _ _
      have PP : Hid (SoPost s.data.toList t.data.toList w (.returned (.tuple #[fz4, .int .i64 2])) W9) := by
        rw [← hW9]
        exact ⟨Fq.z, 2, rfl, below_four BB.out (Nat.le_succ _) _ _ _ _, RS.out.symm, fun h => absurd h NZ.out⟩
      have q0 := R1.out.c0
      have q1 := R1.out.c1
      have q2 := R1.out.c2
      have q3 := R1.out.c3
      have g0 := R1.out.fr 0
      have g1 := R1.out.fr 1
      have g2 := R1.out.fr 2
      have g3 := R1.out.fr 3
      obtain ⟨r0, r1, r2, r3, _, _⟩ := id R9
      unfold four at hW9
      clear R9
      go_wp2_with (go_at_call 20; refine (HTP.out _).mono ?_; rintro e w' ⟨rfl, rfl⟩)
      exact bodyPost_ret (v := .tuple #[fz4, .int .i64 2]) (by simp [results, Tryz.results7, go_sem, r0, r1, r2, r3]) rfl PP.out
    · have hi : ¬ (12 : Int) < (u.size : Int) := by omega
      by_cases ht : 12 < t.size
      · have hj : (12 : Int) < (t.size : Int) := by omega
        have RS : Hid (shS s.data.toList t.data.toList = 2) := by have h := HSH.out; rw [if_neg (by simp), if_pos (.inr ht)] at h; exact h
        have NZ : Hid ((2 : Int) ≠ 0) := by unfold Hid; decide
        clear HSH hu ht HCK
        obtain ⟨W9, hW9⟩ : ∃ W9, four w1 (w.heap.size + 1) (.bool false) (.slice none 0 0) (.bool false) (.slice none 0 0) = W9 := ⟨_, rfl⟩
        have R9 : B4 W9 (w.heap.size + 1) (.bool false) (.slice none 0 0) (.bool false) (.slice none 0 0) := by rw [← hW9]; exact R1.out.set _ _ _ _
        have PP : Hid (SoPost s.data.toList t.data.toList w (.returned (.tuple #[fz4, .int .i64 2])) W9) := by
          rw [← hW9]
          exact ⟨Fq.z, 2, rfl, below_four BB.out (Nat.le_succ _) _ _ _ _, RS.out.symm, fun h => absurd h NZ.out⟩
        have q0 := R1.out.c0
        have q1 := R1.out.c1
        have q2 := R1.out.c2
        have q3 := R1.out.c3
        have g0 := R1.out.fr 0
        have g1 := R1.out.fr 1
        have g2 := R1.out.fr 2
        have g3 := R1.out.fr 3
        obtain ⟨r0, r1, r2, r3, _, _⟩ := id R9
        unfold four at hW9
        clear R9
        go_wp2_with (go_at_call 20; refine (HTP.out _).mono ?_; rintro e w' ⟨rfl, rfl⟩)
        exact bodyPost_ret (v := .tuple #[fz4, .int .i64 2]) (by simp [results, Tryz.results7, go_sem, r0, r1, r2, r3]) rfl PP.out
      · have hj : ¬ (12 : Int) < (t.size : Int) := by omega
        have RS : Hid (shS s.data.toList t.data.toList = 0) := by have h := HSH.out; rw [if_neg (by simp), if_neg (by omega)] at h; exact h
        obtain ⟨x, y, hr, hzs, hzt, hyp, hg1⟩ := HCK.out rfl
        have HR1 := Lib.hid (fun w => Read_c s w (by rw [← HUS.out]; omega))
        have HR2 := Lib.hid (fun w => Read_c t w (by have := trim_len t.data.toList [45]; rw [← HTS.out] at this; omega))
        have HRR := Lib.hid hr
        have HZS := Lib.hid hzs
        have HZT := Lib.hid hzt
        have HPG : Hid (0 < y ∧ Int.gcd x y = 1) := ⟨hyp, hg1⟩
        clear HSH hu ht HCK hr hzs hzt hyp hg1
        go_wp2_with (go_at_call 20; refine (HTP.out _).mono ?_; rintro e w' ⟨rfl, rfl⟩)
        refine (HR1.out _).mono ?_
        rintro e w2 hpost
        obtain ⟨b1, a1, k1, c1, rfl, z1, n1, b2⟩ : ∃ b a k c, e = .returned (.tuple #[.agg #[.bool b, .slice a k c], .bool true]) ∧ Zn w2 b a k c x ∧ x.natAbs < bp 125 ∧ Below w1.heap.size w1 w2 := by
          rcases hpost with ⟨z, b, a, k, c, h1, h2, h3, h4, h5⟩ | ⟨h1, _⟩
          · rw [HZS.out] at h1
            injection h1 with h1
            subst h1
            exact ⟨b, a, k, c, h2, h3, h4, h5⟩
          · rw [HZS.out] at h1; cases h1
        clear hpost x0 x1
        obtain ⟨WA1, hWA1⟩ : ∃ W, w2.alloc (.cells #[.bool false, .slice none 0 0] 36) = W := ⟨_, rfl⟩
        have J1 : B2 WA1 w2.heap.size (.bool false) (.slice none 0 0) := by rw [← hWA1]; exact B2.made _ _ _ _
        obtain ⟨WX1, hWX1⟩ : ∃ W, two WA1 w2.heap.size (.bool b1) (.slice a1 k1 c1) = W := ⟨_, rfl⟩
        have bx1 : Below w2.heap.size w2 WX1 := by rw [← hWX1]; exact below_two (by rw [← hWA1]; exact bel_one _ _) (Nat.le_refl _) _ _
        have G1 : Hid (B2 WX1 w2.heap.size (.bool b1) (.slice a1 k1 c1)) := by rw [← hWX1]; exact J1.set _ _
        have j10 := J1.c0
        have j11 := J1.c1
        have j1f0 := J1.fr 0
        have j1f1 := J1.fr 1
        clear J1
        unfold two at hWX1
        have X2 := Lib.hid ((X1.out.keep b2).keep bx1)
        have R2 := Lib.hid ((R1.out.keep b2).keep bx1)
        have BB2 := Lib.hid ((BB.out.trans (b2.mono BB.out.size)).trans (bx1.mono (BB.out.trans (b2.mono BB.out.size)).size))
        have ZA : Hid (Zn WX1 b1 a1 k1 c1 x ∧ x.natAbs < bp 125) := ⟨z1.below bx1, n1⟩
        have x0 := X2.out.c0
        have x1 := X2.out.c1
        have SE : Hid (w.heap.size + 1 < w2.heap.size) := (R1.out.keep b2).lt
        clear X1 R1 BB b2 bx1 z1 n1 HR1
        go_wp2_with fail
        clear hWX1 hWA1 j10 j11 j1f0 j1f1 x0 x1
        refine (HR2.out _).mono ?_
        rintro e w4 hpost
        obtain ⟨b2, a2, k2, c2, rfl, z2, n2, bb⟩ : ∃ b a k c, e = .returned (.tuple #[.agg #[.bool b, .slice a k c], .bool true]) ∧ Zn w4 b a k c y ∧ y.natAbs < bp 125 ∧ Below WX1.heap.size WX1 w4 := by
          rcases hpost with ⟨z, b, a, k, c, h1, h2, h3, h4, h5⟩ | ⟨h1, _⟩
          · rw [HZT.out] at h1
            injection h1 with h1
            subst h1
            exact ⟨b, a, k, c, h2, h3, h4, h5⟩
          · rw [HZT.out] at h1; cases h1
        clear hpost
        obtain ⟨WA2, hWA2⟩ : ∃ W, w4.alloc (.cells #[.bool false, .slice none 0 0] 36) = W := ⟨_, rfl⟩
        have J2 : B2 WA2 w4.heap.size (.bool false) (.slice none 0 0) := by rw [← hWA2]; exact B2.made _ _ _ _
        obtain ⟨WX2, hWX2⟩ : ∃ W, two WA2 w4.heap.size (.bool b2) (.slice a2 k2 c2) = W := ⟨_, rfl⟩
        have bx2 : Below w4.heap.size w4 WX2 := by rw [← hWX2]; exact below_two (by rw [← hWA2]; exact bel_one _ _) (Nat.le_refl _) _ _
        have G2 : Hid (B2 WX2 w4.heap.size (.bool b2) (.slice a2 k2 c2)) := by rw [← hWX2]; exact J2.set _ _
        have j20 := J2.c0
        have j21 := J2.c1
        have j2f0 := J2.fr 0
        have j2f1 := J2.fr 1
        clear J2
        unfold two at hWX2
        have R3 := Lib.hid ((R2.out.keep bb).keep bx2)
        have BB3 := Lib.hid ((BB2.out.trans (bb.mono BB2.out.size)).trans (bx2.mono (BB2.out.trans (bb.mono BB2.out.size)).size))
        have ZA2 : Hid (Zn WX2 b1 a1 k1 c1 x ∧ Zn WX2 b2 a2 k2 c2 y ∧ y.natAbs < bp 125) := ⟨(ZA.out.1.below bb).below bx2, z2.below bx2, n2⟩
        have G12 := Lib.hid ((G1.out.keep bb).keep bx2)
        obtain ⟨W9, hW9⟩ : ∃ W9, four WX2 (w.heap.size + 1) (.bool b1) (.slice a1 k1 c1) (.bool b2) (.slice a2 k2 c2) = W9 := ⟨_, rfl⟩
        have R9 : B4 W9 (w.heap.size + 1) (.bool b1) (.slice a1 k1 c1) (.bool b2) (.slice a2 k2 c2) := by rw [← hW9]; exact R3.out.set _ _ _ _
        have PP : Hid (SoPost s.data.toList t.data.toList w (.returned (.tuple #[.agg #[.bool b1, .slice a1 k1 c1, .bool b2, .slice a2 k2 c2], .int .i64 0])) W9) := by
          rw [← hW9]
          exact ⟨⟨b1, a1, k1, c1, b2, a2, k2, c2⟩, 0, rfl, below_four BB3.out (Nat.le_succ _) _ _ _ _, RS.out.symm, fun _ => ⟨x, y, HRR.out, ⟨ZA2.out.1.set4 R3.out (NL.b _) (NL.s _ _ _) (NL.b _) (NL.s _ _ _) _ _ _ _, ZA2.out.2.1.set4 R3.out (NL.b _) (NL.s _ _ _) (NL.b _) (NL.s _ _ _) _ _ _ _, ZA.out.2, ZA2.out.2.2, HPG.out.1, HPG.out.2⟩⟩⟩
        have m0 := G12.out.c0
        have m1 := G12.out.c1
        have p0 := G2.out.c0
        have p1 := G2.out.c1
        have q0 := R3.out.c0
        have q1 := R3.out.c1
        have q2 := R3.out.c2
        have q3 := R3.out.c3
        have g0 := R3.out.fr 0
        have g1 := R3.out.fr 1
        have g2 := R3.out.fr 2
        have g3 := R3.out.fr 3
        obtain ⟨r0, r1, r2, r3, _, _⟩ := id R9
        unfold four at hW9
        clear R9 G1 G2 G12 R2 R3 X2 BB2 BB3 bb bx2 z2 n2 HR2
        go_wp2_with fail
        exact bodyPost_ret (v := .tuple #[.agg #[.bool b1, .slice a1 k1 c1, .bool b2, .slice a2 k2 c2], .int .i64 0]) (by simp [results, Tryz.results7, go_sem, r0, r1, r2, r3]) rfl PP.out
  · have hne : (cc == 0) = false := by rw [beq_eq_false_iff_ne]; exact hz
    have hne2 : (cc != 0) = true := by simp [hz]
    have RS : Hid (shS s.data.toList t.data.toList = cc) := by have h := HSH.out; rw [if_pos hz] at h; exact h
    have NZ : Hid (cc ≠ 0) := hz
    clear HSH hz HCK
    obtain ⟨W9, hW9⟩ : ∃ W9, four w1 (w.heap.size + 1) (.bool false) (.slice none 0 0) (.bool false) (.slice none 0 0) = W9 := ⟨_, rfl⟩
    have R9 : B4 W9 (w.heap.size + 1) (.bool false) (.slice none 0 0) (.bool false) (.slice none 0 0) := by rw [← hW9]; exact R1.out.set _ _ _ _
    have PP : Hid (SoPost s.data.toList t.data.toList w (.returned (.tuple #[fz4, .int .i64 cc])) W9) := by
      rw [← hW9]
      exact ⟨Fq.z, cc, rfl, below_four BB.out (Nat.le_succ _) _ _ _ _, RS.out.symm, fun h => absurd h NZ.out⟩
    have q0 := R1.out.c0
    have q1 := R1.out.c1
    have q2 := R1.out.c2
    have q3 := R1.out.c3
    have g0 := R1.out.fr 0
    have g1 := R1.out.fr 1
    have g2 := R1.out.fr 2
    have g3 := R1.out.fr 3
    obtain ⟨r0, r1, r2, r3, _, _⟩ := id R9
    unfold four at hW9
    clear R9
    go_wp2_with fail
    exact bodyPost_ret (v := .tuple #[fz4, .int .i64 cc]) (by simp [results, Tryz.results7, go_sem, r0, r1, r2, r3]) rfl PP.out
/-- A whole number as a fraction. -/
def FrnP (z : Int) (w : World) (e : Ending) (w' : World) : Prop :=
  ∃ f : Fq, e = .returned f.v ∧ Zn w' f.b f.a f.k f.c z ∧ Zn w' f.b' f.a' f.k' f.c' 1 ∧ Below w.heap.size w w'
set_option maxRecDepth 100000 in
set_option maxHeartbeats 4000000 in
theorem fraction_c (z : Int) (w : World) (hl : -9223372036854775808 ≤ z) (hh : z ≤ 9223372036854775807) :
    Calls Tryz.prog 10 #[.int .i64 z] w (FrnP z w) := by
  obtain ⟨W0, hW0⟩ : ∃ W0, w.alloc (.cells #[.bool false, .slice none 0 0, .bool false, .slice none 0 0] 38) = W0 := ⟨_, rfl⟩
  have R0 : Hid (B4 W0 w.heap.size (.bool false) (.slice none 0 0) (.bool false) (.slice none 0 0)) := by rw [← hW0]; exact B4.made _ _ _ _ _ _
  have B0 : Hid (Below w.heap.size w W0) := by rw [← hW0]; exact bel_one _ _
  have H1 := Lib.hid (fun W => Of_c z W hl hh)
  have H2 := Lib.hid (fun W => Of_c 1 W (by decide) (by decide))
  go_enter Tryz.func10, Tryz.ntmps10
  go_wp2_with fail
  clear hW0
  refine (H1.out _).mono ?_
  rintro e w1 ⟨b1, a1, k1, c1, rfl, z1, bb1⟩
  have R1 := Lib.hid (R0.out.keep bb1)
  have B1 := Lib.hid (B0.out.trans (bb1.mono B0.out.size))
  have Z1 := Lib.hid z1
  clear R0 B0 z1 bb1 H1
  go_wp2_with fail
  refine (H2.out _).mono ?_
  rintro e w2 ⟨b2, a2, k2, c2, rfl, z2, bb2⟩
  have R2 := Lib.hid (R1.out.keep bb2)
  have BX := Lib.hid (B1.out.trans (bb2.mono B1.out.size))
  have Z12 := Lib.hid (Z1.out.below bb2)
  have Z2 := Lib.hid z2
  clear R1 B1 Z1 z2 bb2 H2
  obtain ⟨W9, hW9⟩ : ∃ W9, four w2 w.heap.size (.bool b1) (.slice a1 k1 c1) (.bool b2) (.slice a2 k2 c2) = W9 := ⟨_, rfl⟩
  have R9 : B4 W9 w.heap.size (.bool b1) (.slice a1 k1 c1) (.bool b2) (.slice a2 k2 c2) := by rw [← hW9]; exact R2.out.set _ _ _ _
  have PP : Hid (FrnP z w (.returned (.agg #[.bool b1, .slice a1 k1 c1, .bool b2, .slice a2 k2 c2])) W9) := by
    rw [← hW9]
    exact ⟨⟨b1, a1, k1, c1, b2, a2, k2, c2⟩, rfl, Z12.out.set4 R2.out (NL.b _) (NL.s _ _ _) (NL.b _) (NL.s _ _ _) _ _ _ _, Z2.out.set4 R2.out (NL.b _) (NL.s _ _ _) (NL.b _) (NL.s _ _ _) _ _ _ _, below_four BX.out (Nat.le_refl _) _ _ _ _⟩
  have q0 := R2.out.c0
  have q1 := R2.out.c1
  have q2 := R2.out.c2
  have q3 := R2.out.c3
  have g0 := R2.out.fr 0
  have g1 := R2.out.fr 1
  have g2 := R2.out.fr 2
  have g3 := R2.out.fr 3
  obtain ⟨r0, r1, r2, r3, _, _⟩ := id R9
  unfold four at hW9
  clear R9 R2 BX Z12 Z2
  go_wp2_with fail
  exact bodyPost_ret (v := .agg #[.bool b1, .slice a1 k1 c1, .bool b2, .slice a2 k2 c2]) (by simp [results, Tryz.results10, go_sem, r0, r1, r2, r3]) rfl PP.out
end Go.Proofs.YtchdfekajjeflaaGreatDoor
namespace Go.Proofs.YtchdfekajjeflaaGreatDoor
open Go.RowKit

/-- q is how many binary digits n has. -/
def BitsIs (n q : Nat) : Prop := n < 2 ^ q ∧ (0 < q → 2 ^ (q - 1) ≤ n)
theorem bits_is {f : Nat → Nat} {m b : Nat} (hl : Lb f m) (h1 : 2 ^ b ≤ f m) (h2 : f m < 2 ^ (b + 1)) : BitsIs (S f (m + 1)) (64 * m + (b + 1)) := by
  have hs := S_lt hl
  have e : bp m = 2 ^ (64 * m) := by
    rw [bp_pow, Nat.pow_mul]
  rw [S_succ]
  constructor
  · rw [Nat.pow_add, ← e]
    have h3 : (f m + 1) * bp m ≤ 2 ^ (b + 1) * bp m := Nat.mul_le_mul_right _ h2
    rw [Nat.succ_mul] at h3
    rw [Nat.mul_comm (bp m)]
    omega
  · intro _
    have e2 : 64 * m + (b + 1) - 1 = 64 * m + b := by omega
    rw [e2, Nat.pow_add, ← e, Nat.mul_comm]
    have h3 : 2 ^ b * bp m ≤ f m * bp m := Nat.mul_le_mul_right _ h1
    omega
/-- The cells that Bits reads. -/
def SBt (g : Nat) (a : Option Addr) (k c : Nat) (p : Addr) (t : Nat) (W : World) : Prop :=
  W.cell? ⟨g, 1, none⟩ = some (.slice a k c) ∧ W.cell? p = some (.int .u64 (t : Int))
set_option maxRecDepth 100000 in
set_option maxHeartbeats 4000000 in
theorem Bits_c (b : Bool) (a : Option Addr) (k c : Nat) (z : Int) (w : World) (h : Zn w b a k c z) :
    Calls Tryz.prog 66 #[.agg #[.bool b, .slice a k c]] w fun e w' => ∃ q : Nat, e = .returned (.int .i64 (q : Int)) ∧ BitsIs z.natAbs q ∧ q ≤ 6400064 ∧ Below w.heap.size w w' := by
  obtain ⟨n, ⟨f, hr, hkc, hc9, htop, hS0, hpl⟩, hsg, hz⟩ := h
  have hab : z.natAbs = n := by rw [hz, zv_abs]
  rw [hab]
  clear hab hz hsg z
  obtain ⟨W0, hW0⟩ : ∃ W0, w.alloc (.cells #[.bool b, .slice a k c] 36) = W0 := ⟨_, rfl⟩
  have X0 : Hid (B2 W0 w.heap.size (.bool b) (.slice a k c)) := by rw [← hW0]; exact B2.made w _ _ _
  have B0 : Hid (Below w.heap.size w W0) := by rw [← hW0]; exact bel_one _ _
  have x1 := X0.out.c1
  rcases Nat.eq_zero_or_pos k with e | e
  · subst e
    have HB : Hid (BitsIs n 0) := by
      rw [← hS0]
      exact ⟨by show 0 < 1; decide, fun h => absurd h (Nat.lt_irrefl _)⟩
    clear hr htop hS0 hpl hkc
    go_enter Tryz.func66, Tryz.ntmps66
    go_wp2_with fail
    go_ret
    exact ⟨0, rfl, HB.out, by omega, B0.out⟩
  · obtain ⟨m, hm⟩ : ∃ m, k = m + 1 := ⟨k - 1, by omega⟩
    obtain ⟨hk9, hlb, hcell⟩ := hr
    obtain ⟨bb, off, rfl, hbl, hcs⟩ := hcell e
    have hft : f m ≠ 0 := by
      rcases htop with h | h
      · omega
      · rw [hm] at h; exact h
    have hfl : f m < 18446744073709551616 := hlb m (by omega)
    obtain ⟨q, hq1, hq2, hq3⟩ := bitLen_ex (f m) (by omega) hfl
    have hq9 : q < 64 := by
      rcases Nat.lt_or_ge q 64 with h | h
      · exact h
      · have h2 : 2 ^ 64 ≤ 2 ^ q := Nat.pow_le_pow_right (by decide) h
        have h3 : (2 : Nat) ^ 64 = 18446744073709551616 := by decide
        omega
    have HB : Hid (BitsIs n (64 * m + (q + 1))) := by
      rw [← hS0, hm]
      exact bits_is (fun j hj => hlb j (by omega)) hq2 hq3
    have SC : Hid (SBt w.heap.size (some ⟨bb, off, none⟩) k c ⟨bb, off + m, none⟩ (f m) W0) := ⟨X0.out.c1, by rw [B0.out.cell (p := ⟨bb, off + m, none⟩) hbl]; exact hcs m (by omega)⟩
    have hkI : ¬ (k : Int) = 0 := by omega
    have hkN : ¬ k = 0 := by omega
    have hmk : (m : Int) < (k : Int) := by omega
    have hw1 : IntKind.i64.wrap ((k : Int) - 1) = (m : Int) := by rw [IntKind.wrap_i64] <;> omega
    have hw2 : IntKind.i64.wrap (64 * (m : Int)) = ((64 * m : Nat) : Int) := by rw [IntKind.wrap_i64] <;> omega
    have hw3 : IntKind.i64.wrap (((64 * m : Nat) : Int) + ((Lib.bitLen (f m) : Nat) : Int)) = ((64 * m + (q + 1) : Nat) : Int) := by rw [hq1, IntKind.wrap_i64] <;> omega
    have HLN : Hid (∀ W, Calls Tryz.prog 91 #[.int .u64 (f m : Int)] W fun e w' => e = .returned (.int .i64 (Lib.bitLen (f m))) ∧ w' = W) := fun W => Tryz.bits_Len64 (f m : Int) W (by omega) (by omega)
    have HQ : Hid (64 * m + (q + 1) ≤ 6400064) := by unfold Hid; omega
    obtain ⟨t, ht⟩ : ∃ t, f m = t := ⟨_, rfl⟩
    rw [ht] at SC HLN hw3
    obtain ⟨Q, hQ⟩ : ∃ Q, 64 * m + (q + 1) = Q := ⟨_, rfl⟩
    rw [hQ] at HB hw3 HQ
    obtain ⟨M, hM⟩ : ∃ M, 64 * m = M := ⟨_, rfl⟩
    rw [hM] at hw2 hw3
    have BL := B0
    clear hcs hft hfl hq1 hq2 hq3 hq9 hlb hm hS0 hpl htop ht hQ hM hkc hbl hk9 X0 hc9
    go_enter Tryz.func66, Tryz.ntmps66
    go_wp2_with fail
    clear hW0 x1
    refine wp_region_noPanic ?_
    refine wp_region_held_drew (S := SBt w.heap.size (some ⟨bb, off, none⟩) k c ⟨bb, off + m, none⟩ t) (by kernel_rfl) (by exact SC.out) (fun hS => ?_)
    have B1 : Hid (Below w.heap.size w W0.drew) := B0.out.trans ((Below.refl _ _).drew.mono B0.out.size)
    have S1 : Hid (SBt w.heap.size (some ⟨bb, off, none⟩) k c ⟨bb, off + m, none⟩ t W0.drew) := SC.out
    clear SC B0 BL
    generalize W0.drew = WD at *
    refine wpAnyH_take (i := 0) (v := ?v0z1) rfl (by kernel_rfl) (by kernel_rfl) (by kernel_rfl) (fun _ _ _ h => h) (Or.inl ⟨by rfl, ?hy0z1⟩) (by assumption) ?rest0z1
    case hy0z1 =>
      intro w hSw
      dsimp only [SBt] at hSw
      go_simp
      try with_reducible rfl
    simp only [Act.put, List.getElem_toArray, List.getElem_cons_succ, List.getElem_cons_zero, List.setIfInBounds_toArray, List.set_cons_zero, List.set_cons_succ]
    refine wpAnyH_take (i := 1) (v := ?v1z2) rfl (by kernel_rfl) (by kernel_rfl) (by kernel_rfl) (fun _ _ _ h => h) (Or.inl ⟨by rfl, ?hy1z2⟩) (by assumption) ?rest1z2
    case hy1z2 =>
      intro w hSw
      dsimp only [SBt] at hSw
      go_simp
      try with_reducible rfl
    simp only [Act.put, List.getElem_toArray, List.getElem_cons_succ, List.getElem_cons_zero, List.setIfInBounds_toArray, List.set_cons_zero, List.set_cons_succ]
    refine wpAnyH_take (i := 2) (v := ?v2z3) rfl (by kernel_rfl) (by kernel_rfl) (by kernel_rfl) (fun _ _ _ h => h) (Or.inl ⟨by rfl, ?hy2z3⟩) (by assumption) ?rest2z3
    case hy2z3 =>
      intro w hSw
      dsimp only [SBt] at hSw
      go_simp
      try with_reducible rfl
    simp only [Act.put, List.getElem_toArray, List.getElem_cons_succ, List.getElem_cons_zero, List.setIfInBounds_toArray, List.set_cons_zero, List.set_cons_succ]
    refine wpAnyH_take (i := 3) (v := ?v3z4) rfl (by kernel_rfl) (by kernel_rfl) (by kernel_rfl) (fun _ _ _ h => h) (Or.inl ⟨by rfl, ?hy3z4⟩) (by assumption) ?rest3z4
    case hy3z4 =>
      intro w hSw
      dsimp only [SBt] at hSw
      go_simp
      try with_reducible rfl
    simp only [Act.put, List.getElem_toArray, List.getElem_cons_succ, List.getElem_cons_zero, List.setIfInBounds_toArray, List.set_cons_zero, List.set_cons_succ]
    refine wpAnyH_take (i := 4) (v := ?v4z5) rfl (by kernel_rfl) (by kernel_rfl) (by kernel_rfl) (fun _ _ _ h => h) (Or.inl ⟨by rfl, ?hy4z5⟩) (by assumption) ?rest4z5
    case hy4z5 =>
      intro w hSw
      dsimp only [SBt] at hSw
      go_simp
      try with_reducible rfl
    simp only [Act.put, List.getElem_toArray, List.getElem_cons_succ, List.getElem_cons_zero, List.setIfInBounds_toArray, List.set_cons_zero, List.set_cons_succ]
    refine wpAnyH_take (i := 5) (v := ?v5z6) rfl (by kernel_rfl) (by kernel_rfl) (by kernel_rfl) (fun _ _ _ h => h) (Or.inl ⟨by rfl, ?hy5z6⟩) (by assumption) ?rest5z6
    case hy5z6 =>
      intro w hSw
      dsimp only [SBt] at hSw
      go_simp
      try with_reducible rfl
    simp only [Act.put, List.getElem_toArray, List.getElem_cons_succ, List.getElem_cons_zero, List.setIfInBounds_toArray, List.set_cons_zero, List.set_cons_succ]
    refine wpAnyH_take (i := 6) (v := ?v6z7) rfl (by kernel_rfl) (by kernel_rfl) (by kernel_rfl) (fun _ _ _ h => h) (Or.inl ⟨by rfl, ?hy6z7⟩) (by assumption) ?rest6z7
    case hy6z7 =>
      intro w hSw
      dsimp only [SBt] at hSw
      go_simp
      try with_reducible rfl
    simp only [Act.put, List.getElem_toArray, List.getElem_cons_succ, List.getElem_cons_zero, List.setIfInBounds_toArray, List.set_cons_zero, List.set_cons_succ]
    refine wpAnyH_take (i := 7) (v := ?v7z8) rfl (by kernel_rfl) (by kernel_rfl) (by kernel_rfl) (fun _ _ _ h => h) (Or.inl ⟨by rfl, ?hy7z8⟩) (by assumption) ?rest7z8
    case hy7z8 =>
      intro w hSw
      dsimp only [SBt] at hSw
      go_simp
      try with_reducible rfl
    simp only [Act.put, List.getElem_toArray, List.getElem_cons_succ, List.getElem_cons_zero, List.setIfInBounds_toArray, List.set_cons_zero, List.set_cons_succ]
    refine wpAnyH_take (i := 8) (v := ?v8z9) rfl (by kernel_rfl) (by kernel_rfl) (by kernel_rfl) (fun _ _ _ h => h) (Or.inl ⟨by rfl, ?hy8z9⟩) (by assumption) ?rest8z9
    case hy8z9 =>
      intro w hSw
      dsimp only [SBt] at hSw
      go_simp
      try with_reducible rfl
    simp only [Act.put, List.getElem_toArray, List.getElem_cons_succ, List.getElem_cons_zero, List.setIfInBounds_toArray, List.set_cons_zero, List.set_cons_succ]
    refine wpAnyH_take (i := 9) (v := ?v9z10) rfl (by kernel_rfl) (by kernel_rfl) (by kernel_rfl) (fun _ _ _ h => h) (Or.inl ⟨by rfl, ?hy9z10⟩) (by assumption) ?rest9z10
    case hy9z10 =>
      intro w hSw
      dsimp only [SBt] at hSw
      go_simp
      try with_reducible rfl
    simp only [Act.put, List.getElem_toArray, List.getElem_cons_succ, List.getElem_cons_zero, List.setIfInBounds_toArray, List.set_cons_zero, List.set_cons_succ]
    refine wpAnyH_take (i := 10) (v := ?v10z11) rfl (by kernel_rfl) (by kernel_rfl) (by kernel_rfl) (fun _ _ _ h => h) (Or.inl ⟨by rfl, ?hy10z11⟩) (by assumption) ?rest10z11
    case hy10z11 =>
      intro w hSw
      dsimp only [SBt] at hSw
      go_simp
      try with_reducible rfl
    simp only [Act.put, List.getElem_toArray, List.getElem_cons_succ, List.getElem_cons_zero, List.setIfInBounds_toArray, List.set_cons_zero, List.set_cons_succ]
    refine wpAnyH_take (i := 11) (v := ?v11z12) rfl (by kernel_rfl) (by kernel_rfl) (by kernel_rfl) (fun _ _ _ h => h) (Or.inl ⟨by rfl, ?hy11z12⟩) (by assumption) ?rest11z12
    case hy11z12 =>
      intro w hSw
      dsimp only [SBt] at hSw
      go_simp
      try with_reducible rfl
    simp only [Act.put, List.getElem_toArray, List.getElem_cons_succ, List.getElem_cons_zero, List.setIfInBounds_toArray, List.set_cons_zero, List.set_cons_succ]
    refine wpAnyH_take (i := 12) (v := ?v12z13) rfl (by kernel_rfl) (by kernel_rfl) (by kernel_rfl) (fun _ _ _ h => h) (Or.inl ⟨by rfl, ?hy12z13⟩) (by assumption) ?rest12z13
    case hy12z13 =>
      intro w hSw
      dsimp only [SBt] at hSw
      go_simp
      try with_reducible rfl
    simp only [Act.put, List.getElem_toArray, List.getElem_cons_succ, List.getElem_cons_zero, List.setIfInBounds_toArray, List.set_cons_zero, List.set_cons_succ]
    refine wpAnyH_ready (rs := [13]) (by kernel_rfl) (by simp) ?_
    refine AllReadyH.cons rfl (fun K hK => ?_) AllReadyH.nil
    go_simp
    refine (HLN.out _).mono ?_
    rintro e W2 ⟨rfl, rfl⟩
    try go_simp
    have hT := S1.out
    refine hK.out _ _ hT (fun _ => ?_)
    clear hK K hS
    have hS := hT
    clear hT
    try simp only [Act.put, List.setIfInBounds_toArray, List.set_cons_zero, List.set_cons_succ]
    refine wpAnyH_take (i := 14) (v := ?v14z14) rfl (by kernel_rfl) (by kernel_rfl) (by kernel_rfl) (fun _ _ _ h => h) (Or.inl ⟨by rfl, ?hy14z14⟩) (by assumption) ?rest14z14
    case hy14z14 =>
      intro w hSw
      dsimp only [SBt] at hSw
      go_simp
      try with_reducible rfl
    simp only [Act.put, List.getElem_toArray, List.getElem_cons_succ, List.getElem_cons_zero, List.setIfInBounds_toArray, List.set_cons_zero, List.set_cons_succ]
    refine wpAnyH_take (i := 15) (v := ?v15z15) rfl (by kernel_rfl) (by kernel_rfl) (by kernel_rfl) (fun _ _ _ h => h) (Or.inl ⟨by rfl, ?hy15z15⟩) (by assumption) ?rest15z15
    case hy15z15 =>
      intro w hSw
      dsimp only [SBt] at hSw
      go_simp
      try with_reducible rfl
    simp only [Act.put, List.getElem_toArray, List.getElem_cons_succ, List.getElem_cons_zero, List.setIfInBounds_toArray, List.set_cons_zero, List.set_cons_succ]
    refine wpAnyH_done (by kernel_rfl) ?_ _
    refine NoPanic.normal ?_
    go_wp2_with fail
    go_ret
    exact ⟨Q, rfl, HB.out, HQ.out, B1.out⟩
theorem ten_two (p : Nat) {b : Nat} (hb : 133 * p ≤ b) : 10 ^ (40 * p) ≤ 2 ^ b := by
  have e1 : (10 ^ 40) ^ p = 10 ^ (40 * p) := (Nat.pow_mul 10 40 p).symm
  have e2 : (2 ^ 133) ^ p = 2 ^ (133 * p) := (Nat.pow_mul 2 133 p).symm
  have h : (10 ^ 40) ^ p ≤ (2 ^ 133) ^ p := Nat.pow_le_pow_left (by decide) p
  rw [e1, e2] at h
  exact Nat.le_trans h (Nat.pow_le_pow_right (by decide) hb)
theorem long_digits {n q : Nat} (h : BitsIs n q) (hq : 6666 < q) : 2000 < (Lib.decDigits n).length := by
  obtain ⟨P, hP⟩ : ∃ P, P = 50 := ⟨_, rfl⟩
  obtain ⟨A, hA⟩ : ∃ A, A = 40 * P := ⟨_, rfl⟩
  obtain ⟨B, hB⟩ : ∃ B, B = 6666 := ⟨_, rfl⟩
  have h1 : 2 ^ B ≤ n := Nat.le_trans (Nat.pow_le_pow_right (by decide) (by omega)) (h.2 (by omega))
  have h2 : 10 ^ A ≤ n := by rw [hA]; exact Nat.le_trans (ten_two P (by omega)) h1
  have e0 : 2000 = A := by omega
  rw [e0]
  rcases Nat.lt_or_ge A (Lib.decDigits n).length with l | l
  · exact l
  · exfalso
    have h3 : n < 10 ^ (Lib.decDigits n).length := by have := val_lt (digs_dec n); rw [val_dec] at this; exact this
    have h4 : 10 ^ (Lib.decDigits n).length ≤ 10 ^ A := Nat.pow_le_pow_right (by decide) l
    omega
set_option maxRecDepth 100000 in
set_option maxHeartbeats 4000000 in
theorem isLong_c (b : Bool) (a : Option Addr) (k c : Nat) (z : Int) (w : World) (h : Zn w b a k c z) :
    Calls Tryz.prog 43 #[.agg #[.bool b, .slice a k c]] w fun e w' => ∃ l : Bool, e = .returned (.bool l) ∧ (l = true → 2000 < (Lib.decDigits z.natAbs).length) ∧ Below w.heap.size w w' := by
  obtain ⟨W0, hW0⟩ : ∃ W0, w.alloc (.cells #[.bool b, .slice a k c] 36) = W0 := ⟨_, rfl⟩
  have X0 : Hid (B2 W0 w.heap.size (.bool b) (.slice a k c)) := by rw [← hW0]; exact B2.made w _ _ _
  have B0 : Hid (Below w.heap.size w W0) := by rw [← hW0]; exact bel_one _ _
  have HB := Lib.hid (Bits_c b a k c z W0 (h.below B0.out))
  have x0 := X0.out.c0
  have x1 := X0.out.c1
  clear h
  go_enter Tryz.func43, Tryz.ntmps43
  go_wp2_with fail
  clear hW0 x0 x1
  refine HB.out.mono ?_
  rintro e w1 ⟨q, rfl, hq, hq9, b1⟩
  have BB := Lib.hid (B0.out.trans (b1.mono B0.out.size))
  have HQ := Lib.hid hq
  clear HB B0 X0 b1 hq
  by_cases hl : 6666 < q
  · have hi : (6666 : Int) < (q : Int) := by omega
    have HL := Lib.hid hl
    clear hl hq9
    go_wp2_with fail
    go_ret
    exact ⟨true, rfl, fun _ => (long_digits HQ.out HL.out), BB.out⟩
  · have hi : ¬ (6666 : Int) < (q : Int) := by omega
    have hd : decide ((6666 : Int) < (q : Int)) = false := decide_eq_false hi
    clear hl hq9
    go_wp2_with fail
    go_ret
    exact ⟨false, by first | rfl | (rw [hd]; rfl), (fun h => nomatch h), BB.out⟩
end Go.Proofs.YtchdfekajjeflaaGreatDoor
