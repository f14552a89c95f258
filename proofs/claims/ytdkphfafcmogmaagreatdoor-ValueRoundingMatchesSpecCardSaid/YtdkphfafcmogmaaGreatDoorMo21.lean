/-
  Ratios in the reference: open, both.
  Ratios in the reference: what the walks of its operations share.
  Ratios: Inverse, amountOf and RatioOf of the reference; RatioOf and CheckRatio of package value.
-/
import Derived.Test.YtdkphfafcmogmaaGreatDoorMo20
namespace Go.Proofs.YtdkphfafcmogmaaGreatDoor
open Go.RowKit

/-- What a sound ratio is. -/
theorem rread_is {n d : List UInt8} {x y : Int} (h : rread n d = some (x, y)) :
    large n d = false ∧ sound n d = true ∧ x = zv (Lib.hasPrefix n [45]) (val (Lib.trimPrefix n [45])) ∧ y = (val d : Int) ∧ Nat.gcd (val (Lib.trimPrefix n [45])) (val d) = 1 ∧ Lib.hasPrefix n [45] = decide (x < 0) := by
  have hl : large n d = false := by
    cases e : large n d with
    | false => rfl
    | true => unfold rread at h; rw [if_pos e] at h; cases h
  have hs : sound n d = true := by
    cases e : sound n d with
    | true => rfl
    | false => rw [rread_no e] at h; cases h
  have e := rread_yes hl hs
  rw [h] at e
  by_cases hg : Nat.gcd (val (Lib.trimPrefix n [45])) (val d) = 1
  · rw [if_pos hg] at e
    injection e with e
    injection e with e1 e2
    refine ⟨hl, hs, e1, e2, hg, ?_⟩
    unfold sound at hs
    simp only [Bool.and_eq_true, Bool.not_eq_true', decide_eq_false_iff_not] at hs
    rw [e1]
    cases hb : Lib.hasPrefix n [45] with
    | false => rw [zv_false]; simp
    | true =>
      rw [zv_true]
      have hp : 0 < val (Lib.trimPrefix n [45]) := val_pos hs.1.1.1 (fun e => hs.1.1.2 (by
        rcases trim_cases n with ⟨r, q1, q2, _⟩ | ⟨_, q3, _⟩
        · rw [q1, ← q2, e]
        · rw [hb] at q3; cases q3))
      have : -((val (Lib.trimPrefix n [45]) : Nat) : Int) < 0 := by omega
      exact (decide_eq_true this).symm
  · rw [if_neg hg] at e
    cases e
theorem rread_pos' {n d : List UInt8} {x y : Int} (h : rread n d = some (x, y)) : 0 < y := by
  unfold rread at h
  split at h
  · cases h
  · split at h
    · split at h
      · next hp => injection h with h; injection h with h1 h2; rw [← h2]; exact hp.1
      · cases h
    · cases h
theorem val_pos_den {n d : List UInt8} {x y : Int} (h : rread n d = some (x, y)) : 0 < y.natAbs ∧ y.natAbs < tp 223 ∧ x.natAbs < tp 223 := by
  obtain ⟨hl, hs, e1, e2, _⟩ := rread_is h
  have hp := (rread_pos' h)
  unfold sound at hs
  simp only [Bool.and_eq_true, Bool.not_eq_true', decide_eq_false_iff_not] at hs
  unfold large at hl
  simp only [Bool.or_eq_false_iff, decide_eq_false_iff_not] at hl
  refine ⟨by omega, ?_, ?_⟩
  · rw [e2, Int.natAbs_natCast]
    exact val_tp (numB_iff.1 hs.1.2).2.2 (by omega)
  · rw [e1, zv_abs]
    exact val_tp (numB_iff.1 hs.1.1.1).2.2 (by omega)
structure Opn (w : World) (s t : ByteArray) (W : World) : Prop where
  x : B2 W w.heap.size (.string s) (.string t)
  r : B3 W (w.heap.size + 1) (.bool false) (.slice none 0 0) (.slice none 0 0)
  bel : Below w.heap.size w W
theorem Opn.keep {w : World} {s t : ByteArray} {W W' : World} (h : Opn w s t W) (hb : Below W.heap.size W W') : Opn w s t W' :=
  ⟨h.x.keep hb, h.r.keep hb, h.bel.trans (hb.mono h.bel.size)⟩
theorem Opn.s2 {w : World} {s t : ByteArray} {W : World} (h : Opn w s t W) : S2 w.heap.size s t W := ⟨h.x.c0, h.x.c1⟩
theorem Opn.done {w : World} {s t : ByteArray} {W : World} (h : Opn w s t W) (y0 y1 y2 : Value) : S2 w.heap.size s t (three W (w.heap.size + 1) y0 y1 y2) :=
  ⟨(h.x.other3 (by omega) _ _ _).c0, (h.x.other3 (by omega) _ _ _).c1⟩
/-- A store into boxes changes no number that lies elsewhere. -/
theorem Nt.set {W : World} {a : Option Addr} {k c n : Nat} (h : Nt W a k c n) {p : Addr} {u : Value} (hu : W.cell? p = some u) (hne : ∀ m, u ≠ .int .i64 m) (x : Value) : Nt (W.setCell p x) a k c n := by
  obtain ⟨f, h1, h2⟩ := h
  refine ⟨f, ⟨h1.1, h1.2.1, fun h0 => ?_⟩, h2⟩
  obtain ⟨b, off, e, hl, hc⟩ := h1.2.2 h0
  refine ⟨b, off, e, by simpa using hl, fun j hj => ?_⟩
  rw [World.cell?_setCell_other _ _ _ _ (by rintro rfl; rw [hc j hj] at hu; injection hu with hu; exact hne _ hu.symm)]
  exact hc j hj
theorem Nt.set3 {W : World} {a : Option Addr} {k c n : Nat} (h : Nt W a k c n) {g : Nat} {b : Bool} {p1 p2 : Option Addr} {k1 k2 c1 c2 : Nat} (hb : B3 W g (.bool b) (.slice p1 k1 c1) (.slice p2 k2 c2)) (y0 y1 y2 : Value) : Nt (three W g y0 y1 y2) a k c n := by
  unfold three
  refine Nt.set (Nt.set (Nt.set h hb.c0 (fun m e => nomatch e) y0) (u := .slice p1 k1 c1) ?_ (fun m e => nomatch e) y1) (u := .slice p2 k2 c2) ?_ (fun m e => nomatch e) y2
  · rw [World.cell?_setCell_other _ _ _ _ (addr_ne (by decide))]; exact hb.c1
  · rw [World.cell?_setCell_other _ _ _ _ (addr_ne (by decide)), World.cell?_setCell_other _ _ _ _ (addr_ne (by decide))]; exact hb.c2
def OnP (b : Bool) (x y : Int) (w : World) (e : Ending) (w' : World) : Prop :=
  ∃ a k c a' k' c', e = .returned (.agg #[.bool b, .slice a k c, .slice a' k' c']) ∧ Nt w' a k c x.natAbs ∧ Nt w' a' k' c' y.natAbs ∧ Below w.heap.size w w'
set_option maxRecDepth 100000 in
set_option maxHeartbeats 4000000 in
theorem open_c (s t : ByteArray) (x y : Int) (w : World) (hr : rread s.data.toList t.data.toList = some (x, y)) :
    Calls Tryz.prog 37 #[.agg #[.string s, .string t]] w (OnP (decide (x < 0)) x y w) := by
  obtain ⟨hl, hs, e1, e2, _, e4⟩ := rread_is hr
  unfold sound at hs
  simp only [Bool.and_eq_true, Bool.not_eq_true', decide_eq_false_iff_not] at hs
  unfold large at hl
  simp only [Bool.or_eq_false_iff, decide_eq_false_iff_not] at hl
  obtain ⟨u, hu⟩ : ∃ u : ByteArray, u = ⟨(Lib.trimPrefix s.data.toList [45]).toArray⟩ := ⟨_, rfl⟩
  have hul : u.data.toList = Lib.trimPrefix s.data.toList [45] := by rw [hu]
  have hus : u.size = (Lib.trimPrefix s.data.toList [45]).length := by rw [hu]; simp [ByteArray.size]
  have hts : t.size = t.data.toList.length := by simp
  have HTP : Hid (∀ w, Calls Tryz.prog 29 #[.string s, .string ⟨#[45]⟩] w fun e w' => e = .returned (.string u) ∧ w = w') := fun w => (Tryz.strings_TrimPrefix s ⟨#[45]⟩ w).mono fun e w' ⟨he, hw⟩ => ⟨by rw [he, hu], hw.symm⟩
  have HHP : Hid (∀ w, Calls Tryz.prog 70 #[.string s, .string ⟨#[45]⟩] w fun e w' => e = .returned (.bool (decide (x < 0))) ∧ w = w') := fun w => (Tryz.strings_HasPrefix s ⟨#[45]⟩ w).mono fun e w' ⟨he, hw⟩ => ⟨by rw [he, ← e4], hw.symm⟩
  have RU := Lib.hid (fun w => readNatural_c u w (by rw [hul]; exact (numB_iff.1 hs.1.1.1).2.2) (by omega))
  have RT := Lib.hid (fun w => readNatural_c t w (numB_iff.1 hs.1.2).2.2 (by omega))
  have vx : val u.data.toList = x.natAbs := by rw [e1, zv_abs, hul]
  have vy : val t.data.toList = y.natAbs := by rw [e2, Int.natAbs_natCast]
  rw [vx] at RU
  rw [vy] at RT
  clear hu hul hus hts hs hl e1 e2 e4 vx vy hr
  obtain ⟨W0, hW0⟩ : ∃ W0, (w.alloc (.cells #[.string s, .string t] 23)).alloc (.cells #[.bool false, .slice none 0 0, .slice none 0 0] 53) = W0 := ⟨_, rfl⟩
  have s1 : (w.alloc (.cells #[.string s, .string t] 23)).heap.size = w.heap.size + 1 := by simp
  have J0 : Hid (Opn w s t W0) := ⟨by rw [← hW0]; exact (B2.made w _ _ _).keep (bel_one _ _), by rw [← hW0, ← s1]; exact B3.made _ _ _ _ _, by rw [← hW0]; exact ((Below.refl _ _).alloc (Nat.le_refl _) _).alloc (by simp) _⟩
  clear s1
  generalize decide (x < 0) = b at *
  go_enter Tryz.func37, Tryz.ntmps37
  go_wp2_with fail
  clear hW0
  refine wp_region_noPanic ?_
  refine wp_region_held_drew (S := S2 w.heap.size s t) (by kernel_rfl) (J0.out.keep (Below.refl _ _).drew).s2 (fun hS => ?_)
  have J1 := Lib.hid (J0.out.keep (Below.refl _ _).drew)
  clear J0
  refine wpAnyH_take (i := 0) (v := ?v0z29) rfl (by kernel_rfl) (by kernel_rfl) (by kernel_rfl) (fun _ _ _ h => h) (Or.inl ⟨by rfl, ?hy0z29⟩) (by assumption) ?rest0z29
  case hy0z29 =>
    intro w hSw
    dsimp only [S2] at hSw
    go_simp
    try with_reducible rfl
  simp only [Act.put, List.getElem_toArray, List.getElem_cons_succ, List.getElem_cons_zero, List.setIfInBounds_toArray, List.set_cons_zero, List.set_cons_succ]
  refine wpAnyH_take (i := 1) (v := ?v1z30) rfl (by kernel_rfl) (by kernel_rfl) (by kernel_rfl) (fun _ _ _ h => h) (Or.inl ⟨by rfl, ?hy1z30⟩) (by assumption) ?rest1z30
  case hy1z30 =>
    intro w hSw
    dsimp only [S2] at hSw
    go_simp
    try with_reducible rfl
  simp only [Act.put, List.getElem_toArray, List.getElem_cons_succ, List.getElem_cons_zero, List.setIfInBounds_toArray, List.set_cons_zero, List.set_cons_succ]
  refine wpAnyH_take (i := 3) (v := ?v3z31) rfl (by kernel_rfl) (by kernel_rfl) (by kernel_rfl) (fun _ _ _ h => h) (Or.inl ⟨by rfl, ?hy3z31⟩) (by assumption) ?rest3z31
  case hy3z31 =>
    intro w hSw
    dsimp only [S2] at hSw
    go_simp
    try with_reducible rfl
  simp only [Act.put, List.getElem_toArray, List.getElem_cons_succ, List.getElem_cons_zero, List.setIfInBounds_toArray, List.set_cons_zero, List.set_cons_succ]
  refine wpAnyH_take (i := 4) (v := ?v4z32) rfl (by kernel_rfl) (by kernel_rfl) (by kernel_rfl) (fun _ _ _ h => h) (Or.inl ⟨by rfl, ?hy4z32⟩) (by assumption) ?rest4z32
  case hy4z32 =>
    intro w hSw
    dsimp only [S2] at hSw
    go_simp
    try with_reducible rfl
  simp only [Act.put, List.getElem_toArray, List.getElem_cons_succ, List.getElem_cons_zero, List.setIfInBounds_toArray, List.set_cons_zero, List.set_cons_succ]
  refine wpAnyH_take (i := 7) (v := ?v7z33) rfl (by kernel_rfl) (by kernel_rfl) (by kernel_rfl) (fun _ _ _ h => h) (Or.inl ⟨by rfl, ?hy7z33⟩) (by assumption) ?rest7z33
  case hy7z33 =>
    intro w hSw
    dsimp only [S2] at hSw
    go_simp
    try with_reducible rfl
  simp only [Act.put, List.getElem_toArray, List.getElem_cons_succ, List.getElem_cons_zero, List.setIfInBounds_toArray, List.set_cons_zero, List.set_cons_succ]
  refine wpAnyH_take (i := 8) (v := ?v8z34) rfl (by kernel_rfl) (by kernel_rfl) (by kernel_rfl) (fun _ _ _ h => h) (Or.inl ⟨by rfl, ?hy8z34⟩) (by assumption) ?rest8z34
  case hy8z34 =>
    intro w hSw
    dsimp only [S2] at hSw
    go_simp
    try with_reducible rfl
  simp only [Act.put, List.getElem_toArray, List.getElem_cons_succ, List.getElem_cons_zero, List.setIfInBounds_toArray, List.set_cons_zero, List.set_cons_succ]
  refine wpAnyH_ready (rs := [2]) (by kernel_rfl) (by simp) ?_
  refine AllReadyH.cons rfl (fun K hK => ?_) AllReadyH.nil
  go_simp
  refine (HHP.out _).mono ?_
  rintro e W ⟨rfl, rfl⟩
  try go_simp
  refine hK.out _ _ hS (fun _ => ?_)
  clear hK K
  try simp only [Act.put, List.setIfInBounds_toArray, List.set_cons_zero, List.set_cons_succ]
  refine wpAnyH_ready (rs := [5]) (by kernel_rfl) (by simp) ?_
  refine AllReadyH.cons rfl (fun K hK => ?_) AllReadyH.nil
  go_simp
  refine (HTP.out _).mono ?_
  rintro e W ⟨rfl, rfl⟩
  try go_simp
  refine hK.out _ _ hS (fun _ => ?_)
  clear hK K
  try simp only [Act.put, List.setIfInBounds_toArray, List.set_cons_zero, List.set_cons_succ]
  refine wpAnyH_ready (rs := [6]) (by kernel_rfl) (by simp) ?_
  refine AllReadyH.cons rfl (fun K hK => ?_) AllReadyH.nil
  go_simp
  refine (RU.out _).mono ?_
  rintro e W2 ⟨a, k, c, rfl, hp, bc⟩
  try go_simp
  have J2 := Lib.hid (J1.out.keep bc)
  have hT := J2.out.s2
  have HP := Lib.hid hp
  refine hK.out _ _ hT (fun _ => ?_)
  clear hK K hS bc J1 hp
  have hS := hT
  clear hT
  try simp only [Act.put, List.setIfInBounds_toArray, List.set_cons_zero, List.set_cons_succ]
  refine wpAnyH_ready (rs := [9]) (by kernel_rfl) (by simp) ?_
  refine AllReadyH.cons rfl (fun K hK => ?_) AllReadyH.nil
  go_simp
  refine (RT.out _).mono ?_
  rintro e W3 ⟨a', k', c', rfl, hd, bc⟩
  try go_simp
  have J3 := Lib.hid (J2.out.keep bc)
  have hT := J3.out.s2
  have HP3 := Lib.hid (HP.out.below bc)
  have HD := Lib.hid hd
  refine hK.out _ _ hT (fun _ => ?_)
  clear hK K hS bc J2 hd HP
  have hS := hT
  clear hT
  try simp only [Act.put, List.setIfInBounds_toArray, List.set_cons_zero, List.set_cons_succ]
  refine wpAnyH_take (i := 10) (v := ?v10z35) rfl (by kernel_rfl) (by kernel_rfl) (by kernel_rfl) (fun _ _ _ h => h) (Or.inl ⟨by rfl, ?hy10z35⟩) (by assumption) ?rest10z35
  case hy10z35 =>
    intro w hSw
    dsimp only [S2] at hSw
    go_simp
    try with_reducible rfl
  simp only [Act.put, List.getElem_toArray, List.getElem_cons_succ, List.getElem_cons_zero, List.setIfInBounds_toArray, List.set_cons_zero, List.set_cons_succ]
  refine wpAnyH_ready (rs := [11]) (by kernel_rfl) (by simp) ?_
  refine AllReadyH.cons rfl (fun K hK => ?_) AllReadyH.nil
  have q0 := J3.out.r.c0
  have q1 := J3.out.r.c1
  have q2 := J3.out.r.c2
  have g0 := J3.out.r.fr 0
  have g1 := J3.out.r.fr 1
  have g2 := J3.out.r.fr 2
  go_simp
  clear q0 q1 q2 g0 g1 g2
  have hT := J3.out.done (.bool b) (.slice a k c) (.slice a' k' c')
  have R9 := J3.out.r.set (.bool b) (.slice a k c) (.slice a' k' c')
  have PP : Hid (OnP b x y w (.returned (.agg #[.bool b, .slice a k c, .slice a' k' c'])) (three W3 (w.heap.size + 1) (.bool b) (.slice a k c) (.slice a' k' c'))) :=
    ⟨_, _, _, _, _, _, rfl, HP3.out.set3 J3.out.r _ _ _, HD.out.set3 J3.out.r _ _ _, below_three J3.out.bel (by omega) _ _ _⟩
  unfold three at hT R9 PP
  refine hK.out _ _ hT (fun _ => ?_)
  clear hK K hS
  try simp only [Act.put, List.setIfInBounds_toArray, List.set_cons_zero, List.set_cons_succ]
  refine wpAnyH_done (by kernel_rfl) ?_ _
  refine NoPanic.normal ?_
  obtain ⟨r0, r1, r2, _, _⟩ := id R9
  clear hT R9
  go_wp2_with fail
  exact bodyPost_ret (v := .agg #[.bool b, .slice a k c, .slice a' k' c']) (by simp [results, Tryz.results37, go_sem, r0, r1, r2]) rfl PP.out
/-- What both says. -/
def bk (n d n' d' : List UInt8) : Int := if ck n d = 0 then ck n' d' else ck n d
structure Two (w : World) (s t s' t' : ByteArray) (W : World) : Prop where
  x : B2 W w.heap.size (.string s) (.string t)
  y : B2 W (w.heap.size + 1) (.string s') (.string t')
  bel : Below w.heap.size w W
theorem Two.keep {w : World} {s t s' t' : ByteArray} {W W' : World} (h : Two w s t s' t' W) (hb : Below W.heap.size W W') : Two w s t s' t' W' :=
  ⟨h.x.keep hb, h.y.keep hb, h.bel.trans (hb.mono h.bel.size)⟩
theorem Two.made (w : World) (s t s' t' : ByteArray) (T1 T2 : TypeId) : Two w s t s' t' ((w.alloc (.cells #[.string s, .string t] T1)).alloc (.cells #[.string s', .string t'] T2)) :=
  have s1 : (w.alloc (.cells #[.string s, .string t] T1)).heap.size = w.heap.size + 1 := by simp
  ⟨(B2.made w _ _ _).keep (bel_one _ _), by rw [← s1]; exact B2.made _ _ _ _, ((Below.refl _ _).alloc (Nat.le_refl _) _).alloc (by simp) _⟩
set_option maxRecDepth 100000 in
set_option maxHeartbeats 4000000 in
theorem both_c (s t s' t' : ByteArray) (w : World) (hE : Pow w) :
    Calls Tryz.prog 36 #[.agg #[.string s, .string t], .agg #[.string s', .string t']] w fun e w' => e = .returned (.int .i64 (bk s.data.toList t.data.toList s'.data.toList t'.data.toList)) ∧ Below w.heap.size w w' := by
  obtain ⟨W0, hW0⟩ : ∃ W0, (w.alloc (.cells #[.string s, .string t] 23)).alloc (.cells #[.string s', .string t'] 23) = W0 := ⟨_, rfl⟩
  have J0 : Hid (Two w s t s' t' W0) := by rw [← hW0]; exact Two.made _ _ _ _ _ _ _
  have HE := Lib.hid hE
  have C1 := Lib.hid (fun w hE => rCheckRatio_c s t w hE)
  have C2 := Lib.hid (fun w hE => rCheckRatio_c s' t' w hE)
  have RS : Hid (bk s.data.toList t.data.toList s'.data.toList t'.data.toList = if ck s.data.toList t.data.toList = 0 then ck s'.data.toList t'.data.toList else ck s.data.toList t.data.toList) := rfl
  unfold CkPost at C1 C2
  generalize ck s.data.toList t.data.toList = p at *
  generalize ck s'.data.toList t'.data.toList = q at *
  generalize bk s.data.toList t.data.toList s'.data.toList t'.data.toList = r at *
  clear hE
  have x0 := J0.out.x.c0
  have x1 := J0.out.x.c1
  go_enter Tryz.func36, Tryz.ntmps36
  go_wp2_with fail
  clear hW0 x0 x1
  refine (C1.out _ (HE.out.below J0.out.bel)).mono ?_
  rintro e w1 ⟨rfl, b1⟩
  have J1 := Lib.hid (J0.out.keep b1)
  clear b1 J0
  by_cases hp : p = 0
  · subst hp
    have RS2 : Hid (r = q) := by unfold Hid; rw [RS.out, if_pos rfl]
    have y0 := J1.out.y.c0
    have y1 := J1.out.y.c1
    go_wp2_with fail
    refine (C2.out _ (HE.out.below J1.out.bel)).mono ?_
    rintro e w2 ⟨rfl, b2⟩
    have BB := Lib.hid (J1.out.bel.trans (b2.mono J1.out.bel.size))
    clear b2
    go_wp2_with fail
    go_ret
    exact ⟨by rw [RS2.out]; rfl, BB.out⟩
  · have hne : (p == 0) = false := by rw [beq_eq_false_iff_ne]; exact hp
    have hne2 : (p != 0) = true := by simp [hp]
    have RS2 : Hid (r = p) := by unfold Hid; rw [RS.out, if_neg hp]
    go_wp2_with fail
    go_ret
    exact ⟨by rw [RS2.out]; rfl, J1.out.bel⟩
end Go.Proofs.YtdkphfafcmogmaaGreatDoor
namespace Go.Proofs.YtdkphfafcmogmaaGreatDoor
open Go.RowKit

/-- A fraction's three cells. -/
structure Rq where
  b : Bool
  a : Option Addr
  k : Nat
  c : Nat
  a' : Option Addr
  k' : Nat
  c' : Nat
abbrev B3q (W : World) (g : Nat) (f : Rq) : Prop := B3 W g (.bool f.b) (.slice f.a f.k f.c) (.slice f.a' f.k' f.c')
/-- The cells of two arguments. -/
def S22 (g : Nat) (s t s' t' : ByteArray) (W : World) : Prop :=
  W.cell? ⟨g, 0, none⟩ = some (.string s) ∧ W.cell? ⟨g, 1, none⟩ = some (.string t) ∧ W.cell? ⟨g + 1, 0, none⟩ = some (.string s') ∧ W.cell? ⟨g + 1, 1, none⟩ = some (.string t')
/-- The cells of two fractions. -/
def S33 (g h : Nat) (f q : Rq) (W : World) : Prop :=
  W.cell? ⟨g, 0, none⟩ = some (.bool f.b) ∧ W.cell? ⟨g, 1, none⟩ = some (.slice f.a f.k f.c) ∧ W.cell? ⟨g, 2, none⟩ = some (.slice f.a' f.k' f.c') ∧
  W.cell? ⟨h, 0, none⟩ = some (.bool q.b) ∧ W.cell? ⟨h, 1, none⟩ = some (.slice q.a q.k q.c) ∧ W.cell? ⟨h, 2, none⟩ = some (.slice q.a' q.k' q.c')
theorem Sa.s22 {w : World} {s t s' t' : ByteArray} {W : World} (h : Sa w s t s' t' W) : S22 w.heap.size s t s' t' W := ⟨h.x.c0, h.x.c1, h.y.c0, h.y.c1⟩
theorem Two.s22 {w : World} {s t s' t' : ByteArray} {W : World} (h : Two w s t s' t' W) : S22 w.heap.size s t s' t' W := ⟨h.x.c0, h.x.c1, h.y.c0, h.y.c1⟩
theorem Sa.three {w : World} {s t s' t' : ByteArray} {W : World} (h : Sa w s t s' t' W) {g : Nat} (hg : w.heap.size + 1 + 1 < g) (y0 y1 y2 : Value) : Sa w s t s' t' (three W g y0 y1 y2) :=
  ⟨h.x.other3 (by omega) _ _ _, h.y.other3 (by omega) _ _ _, h.r.other3 (by omega) _ _ _, below_three h.bel (by omega) _ _ _⟩
theorem Two.three {w : World} {s t s' t' : ByteArray} {W : World} (h : Two w s t s' t' W) {g : Nat} (hg : w.heap.size + 1 < g) (y0 y1 y2 : Value) : Two w s t s' t' (three W g y0 y1 y2) :=
  ⟨h.x.other3 (by omega) _ _ _, h.y.other3 (by omega) _ _ _, below_three h.bel (by omega) _ _ _⟩
theorem Sa.lo {w : World} {s t s' t' : ByteArray} {W : World} (h : Sa w s t s' t' W) : w.heap.size + 1 + 1 < W.heap.size := h.r.lt
theorem Two.lo {w : World} {s t s' t' : ByteArray} {W : World} (h : Two w s t s' t' W) : w.heap.size + 1 < W.heap.size := h.y.lt
/-- Two fractions in boxes. -/
structure Od (w : World) (lo g h : Nat) (f q : Rq) (x y x' y' : Int) (W : World) : Prop where
  bf : B3q W g f
  bh : B3q W h q
  n : Nt W f.a f.k f.c x.natAbs
  d : Nt W f.a' f.k' f.c' y.natAbs
  n' : Nt W q.a q.k q.c x'.natAbs
  d' : Nt W q.a' q.k' q.c' y'.natAbs
  fb : f.b = decide (x < 0)
  qb : q.b = decide (x' < 0)
  lf : lo < g
  lh : lo < h
  bel : Below w.heap.size w W
theorem Od.keep {w : World} {lo g h : Nat} {f q : Rq} {x y x' y' : Int} {W W' : World} (o : Od w lo g h f q x y x' y' W) (hb : Below W.heap.size W W') : Od w lo g h f q x y x' y' W' :=
  ⟨o.bf.keep hb, o.bh.keep hb, o.n.below hb, o.d.below hb, o.n'.below hb, o.d'.below hb, o.fb, o.qb, o.lf, o.lh, o.bel.trans (hb.mono o.bel.size)⟩
theorem Od.s33 {w : World} {lo g h : Nat} {f q : Rq} {x y x' y' : Int} {W : World} (o : Od w lo g h f q x y x' y' W) : S33 g h f q W := ⟨o.bf.c0, o.bf.c1, o.bf.c2, o.bh.c0, o.bh.c1, o.bh.c2⟩
theorem Od.done {w : World} {lo g h : Nat} {f q : Rq} {x y x' y' : Int} {W : World} (o : Od w lo g h f q x y x' y' W) (y0 y1 : Value) : S33 g h f q (two W lo y0 y1) :=
  have hf := o.lf; have hh := o.lh
  ⟨(o.bf.other2 (by omega) _ _).c0, (o.bf.other2 (by omega) _ _).c1, (o.bf.other2 (by omega) _ _).c2, (o.bh.other2 (by omega) _ _).c0, (o.bh.other2 (by omega) _ _).c1, (o.bh.other2 (by omega) _ _).c2⟩
/-! ### Bounds, signs -/
theorem tp_mul_lt {a b i j : Nat} (ha : a < tp i) (hb : b < tp j) : a * b < tp (i + j) := by
  rw [tp_add]
  exact Nat.mul_lt_mul_of_lt_of_le ha (Nat.le_of_lt hb) (tp_pos j)
theorem tp_sum_lt {a b i : Nat} (ha : a < tp i) (hb : b < tp i) : a + b < tp (i + 1) := by
  rw [tp_succ]
  omega
theorem zv_dec (x : Int) : zv (decide (x < 0)) x.natAbs = x := by
  by_cases h : x < 0
  · rw [decide_eq_true h, zv_true]; omega
  · rw [decide_eq_false h, zv_false]; omega
theorem zv_times (x y : Int) (hy : 0 < y) : zv (decide (x < 0)) (x.natAbs * y.natAbs) = x * y := by
  have h := zv_mul (decide (x < 0)) false x.natAbs y.natAbs
  rw [zv_dec, zv_false, Int.natAbs_of_nonneg (by omega)] at h
  have e : (decide (x < 0) != false) = decide (x < 0) := by cases decide (x < 0) <;> rfl
  rw [e] at h
  exact h
/-- both's answer, and the parts. -/
theorem bk_zero {n d n' d' : List UInt8} (h : bk n d n' d' = 0) : ∃ x y x' y', rread n d = some (x, y) ∧ rread n' d' = some (x', y') := by
  unfold bk at h
  have k : ∀ {n d}, ck n d = 0 → ∃ x y, rread n d = some (x, y) := fun {n d} h => by
    unfold ck at h
    cases e : rread n d with
    | some p => exact ⟨p.1, p.2, rfl⟩
    | none => rw [e, if_neg (by simp)] at h; exact absurd h (rflt_ne _ _)
  by_cases h1 : ck n d = 0
  · rw [if_pos h1] at h
    obtain ⟨x, y, e1⟩ := k h1
    obtain ⟨x', y', e2⟩ := k h
    exact ⟨x, y, x', y', e1, e2⟩
  · rw [if_neg h1] at h
    exact absurd h h1
theorem ck_some {n d : List UInt8} {p : Int × Int} (h : rread n d = some p) : ck n d = 0 := by unfold ck; rw [h]; rfl
theorem ck_none {n d : List UInt8} (h : rread n d = none) : ck n d = rflt n d := by unfold ck; rw [h]; rfl
theorem bk_opS {F : Int → Int → Int → Int → Int × Int} {n d n' d' : List UInt8} (h : bk n d n' d' ≠ 0) : opS F n d n' d' = (⟨#[]⟩, ⟨#[]⟩, bk n d n' d') := by
  unfold opS
  unfold bk at h ⊢
  cases e : rread n d with
  | none =>
    rw [ck_none e, if_neg (rflt_ne _ _)]
  | some p =>
    rw [ck_some e, if_pos rfl] at h ⊢
    cases e2 : rread n' d' with
    | none => rw [ck_none e2]
    | some q => rw [ck_some e2] at h; exact absurd rfl h
theorem bk_orS {n d n' d' : List UInt8} (h : bk n d n' d' ≠ 0) : orS n d n' d' = (0, bk n d n' d') := by
  unfold orS
  unfold bk at h ⊢
  cases e : rread n d with
  | none =>
    rw [ck_none e, if_neg (rflt_ne _ _)]
  | some p =>
    rw [ck_some e, if_pos rfl] at h ⊢
    cases e2 : rread n' d' with
    | none => rw [ck_none e2]
    | some q => rw [ck_some e2] at h; exact absurd rfl h
end Go.Proofs.YtdkphfafcmogmaaGreatDoor
namespace Go.Proofs.YtdkphfafcmogmaaGreatDoor
open Go.RowKit

theorem raR_abs (n d : Int) (hd : d ≠ 0) : raR n d = raR (zv (decide (n < 0) != decide (d < 0)) n.natAbs) (d.natAbs : Int) := by
  have hg : ovG (zv (decide (n < 0) != decide (d < 0)) n.natAbs) (d.natAbs : Int) = ((Int.gcd n d : Nat) : Int) := by
    unfold ovG
    rw [if_neg (by omega)]
    unfold Int.gcd
    rw [zv_abs, Int.natAbs_natCast]
  have h2 : (d.natAbs : Int).tdiv ((Int.gcd n d : Nat) : Int) = ((d.natAbs / Int.gcd n d : Nat) : Int) := tdiv_zv false d.natAbs _
  have hn : n = zv (decide (n < 0)) n.natAbs := (zv_dec n).symm
  have hdd : d = zv (decide (d < 0)) d.natAbs := (zv_dec d).symm
  have k1 : n.tdiv ((Int.gcd n d : Nat) : Int) = zv (decide (n < 0)) (n.natAbs / Int.gcd n d) := by
    have := tdiv_zv (decide (n < 0)) n.natAbs (Int.gcd n d)
    rw [← hn] at this
    exact this
  have k2 : d.tdiv ((Int.gcd n d : Nat) : Int) = zv (decide (d < 0)) (d.natAbs / Int.gcd n d) := by
    have := tdiv_zv (decide (d < 0)) d.natAbs (Int.gcd n d)
    rw [← hdd] at this
    exact this
  have e : red n d = (zv (decide (n < 0) != decide (d < 0)) (n.natAbs / Int.gcd n d), ((d.natAbs / Int.gcd n d : Nat) : Int)) := by
    unfold red ovG
    by_cases h : d < 0
    · rw [if_pos h, Int.tdiv_neg, Int.tdiv_neg, k1, k2, decide_eq_true h, zv_true, ← zv_minus, Int.neg_neg]
      congr 2
      cases decide (n < 0) <;> rfl
    · rw [if_neg h, k1, k2, decide_eq_false h, zv_false]
      congr 2
      cases decide (n < 0) <;> rfl
  unfold raR
  rw [e]
  unfold red
  rw [hg, tdiv_zv, h2]
theorem amountOf_c (z : Int) (w : World) (h0 : -9223372036854775808 ≤ z) (h1 : z ≤ 9223372036854775807) :
    Calls Tryz.prog 27 #[.int .i64 z] w (NtPost z.natAbs w) := by
  by_cases hz : 0 ≤ z
  · obtain ⟨n, rfl⟩ : ∃ n : Nat, z = n := ⟨z.natAbs, by omega⟩
    have HS := Lib.hid (nsmall_c n w (by omega))
    have e : ((n : Int)).natAbs = n := by omega
    rw [e]
    clear e h0 h1
    go_enter Tryz.func27, Tryz.ntmps27
    go_wp2_with fail
    refine HS.out.mono ?_
    rintro e w1 ⟨a, k, c, rfl, hn, b⟩
    have RR : Hid (NtPost n w (.returned (.slice a k c)) w1) := ⟨a, k, c, rfl, hn, b⟩
    clear hn b HS
    go_wp2_with fail
    go_ret
    exact RR.out
  · obtain ⟨m, rfl⟩ : ∃ m : Nat, z = -((m : Int) + 1) := ⟨z.natAbs - 1, by omega⟩
    have HS := Lib.hid (fun w => nsmall_c m w (by omega))
    have H1 := Lib.hid (fun w => nsmall_c 1 w (by omega))
    have e : (-((m : Int) + 1)).natAbs = m + 1 := by omega
    have x1 : ¬ (0 : Int) ≤ -((m : Int) + 1) := by omega
    have e1 : -((m : Int) + 1) + 1 = -(m : Int) := by omega
    have e2 : IntKind.i64.wrap (-(m : Int)) = -(m : Int) := by rw [IntKind.wrap_i64]; omega
    have e3 : - -(m : Int) = (m : Int) := by omega
    have e4 : IntKind.i64.wrap (m : Int) = (m : Int) := by rw [IntKind.wrap_i64]; omega
    have HM : Hid (m < 9223372036854775808) := by unfold Hid; omega
    rw [e]
    clear e hz
    generalize -((m : Int) + 1) = z at *
    go_enter Tryz.func27, Tryz.ntmps27
    go_wp2_with fail
    refine (HS.out _).mono ?_
    rintro e w1 ⟨a, k, c, rfl, hn, b⟩
    have N1 := Lib.hid hn
    have B1 := Lib.hid b
    clear hn b HS
    go_wp2_with fail
    refine (H1.out _).mono ?_
    rintro e w2 ⟨a2, k2, c2, rfl, hn, b⟩
    have N2 := Lib.hid (N1.out.below b)
    have O2 := Lib.hid hn
    have B2 := Lib.hid (B1.out.trans (b.mono B1.out.size))
    have HP := Lib.hid (nplus_c a a2 k k2 c c2 m 1 w2 N2.out O2.out (by have := N2.out.len (K := 3) (by rw [tp_three]; have := HM.out; omega); omega) (by have := O2.out.len (K := 1) (by rw [tp_one]; decide); omega))
    clear hn b H1 N1 B1
    go_wp2_with fail
    refine HP.out.mono ?_
    rintro e w3 ⟨a3, k3, c3, rfl, hn, b⟩
    have RR : Hid (NtPost (m + 1) w (.returned (.slice a3 k3 c3)) w3) := ⟨a3, k3, c3, rfl, hn, B2.out.trans (b.mono B2.out.size)⟩
    clear hn b HP
    go_wp2_with fail
    go_ret
    exact RR.out
set_option maxRecDepth 100000 in
set_option maxHeartbeats 4000000 in
theorem rInverse_c (s t : ByteArray) (w : World) (hE : Pow w) :
    Calls Tryz.prog 14 #[.agg #[.string s, .string t]] w (OpPost (ivS s.data.toList t.data.toList) w) := by
  obtain ⟨W0, hW0⟩ : ∃ W0, (w.alloc (.cells #[.string s, .string t] 23)).alloc (.cells #[.string ⟨#[]⟩, .string ⟨#[]⟩] 23) = W0 := ⟨_, rfl⟩
  have s1 : (w.alloc (.cells #[.string s, .string t] 23)).heap.size = w.heap.size + 1 := by simp
  have X0 : Hid (B2 W0 w.heap.size (.string s) (.string t)) := by rw [← hW0]; exact (B2.made w _ _ _).keep (bel_one _ _)
  have JR0 : Hid (B2 W0 (w.heap.size + 1) (.string ⟨#[]⟩) (.string ⟨#[]⟩)) := by rw [← hW0, ← s1]; exact B2.made _ _ _ _
  have JB0 : Hid (Below w.heap.size w W0) := by rw [← hW0]; exact ((Below.refl _ _).alloc (Nat.le_refl _) _).alloc (by simp) _
  have HE := Lib.hid (fun W (h : Below w.heap.size w W) => hE.below h)
  have HC := Lib.hid (rCheckRatio_c s t W0 (HE.out _ JB0.out))
  unfold CkPost at HC
  obtain ⟨flt, hflt⟩ : ∃ flt, ck s.data.toList t.data.toList = flt := ⟨_, rfl⟩
  rw [hflt] at HC
  have HF := Lib.hid hflt
  have x0 := X0.out.c0
  have x1 := X0.out.c1
  clear hflt hE s1
  go_enter Tryz.func14, Tryz.ntmps14
  go_wp2_with fail
  clear hW0 x0 x1
  (with_reducible refine HC.out.mono ?_)
  rintro e w1 ⟨rfl, b1⟩
  have X1 := Lib.hid (X0.out.keep b1)
  have JR1 := Lib.hid (JR0.out.keep b1)
  have JB1 := Lib.hid (JB0.out.trans (b1.mono JB0.out.size))
  clear b1 X0 JR0 JB0 HC
  by_cases hz : flt = 0
  · subst hz
    obtain ⟨x, y, e1⟩ : ∃ x y, rread s.data.toList t.data.toList = some (x, y) := by
      have h := HF.out
      unfold ck at h
      cases e : rread s.data.toList t.data.toList with
      | some p => exact ⟨p.1, p.2, rfl⟩
      | none => rw [e, if_neg (by simp)] at h; exact absurd h (rflt_ne _ _)
    have HO := Lib.hid (fun w => open_c s t x y w e1)
    have P1 := Lib.hid (rread_pos' e1)
    have V1 := Lib.hid (val_pos_den e1)
    have E1 := Lib.hid e1
    obtain ⟨b, hb⟩ : ∃ b, decide (x < 0) = b := ⟨_, rfl⟩
    rw [hb] at HO
    have FB : Hid (b = decide (x < 0)) := hb.symm
    have x0 := X1.out.c0
    have x1 := X1.out.c1
    clear e1 HF hb
    go_wp2_with fail
    clear x0 x1 X1
    (with_reducible refine (HO.out _).mono ?_)
    rintro e w5 ⟨a, k, c, a', k', c', rfl, hn, hd, b5⟩
    have JR5 := JR1.out.keep b5
    have JB5 := JB1.out.trans (b5.mono JB1.out.size)
    obtain ⟨WA, hWA⟩ : ∃ W, w5.alloc (.cells #[.bool false, .slice none 0 0, .slice none 0 0] 53) = W := ⟨_, rfl⟩
    have D1 : B3 WA w5.heap.size (.bool false) (.slice none 0 0) (.slice none 0 0) := by rw [← hWA]; exact B3.made _ _ _ _ _
    obtain ⟨WB, hWB⟩ : ∃ W, three WA w5.heap.size (.bool b) (.slice a k c) (.slice a' k' c') = W := ⟨_, rfl⟩
    have hb : Below w5.heap.size w5 WB := by rw [← hWB]; exact below_three (by rw [← hWA]; exact bel_one _ _) (Nat.le_refl _) _ _ _
    have JR6 := Lib.hid (JR5.keep hb)
    have JB6 := Lib.hid (JB5.trans (hb.mono JB5.size))
    have N6 := Lib.hid (hn.below hb)
    have D6 := Lib.hid (hd.below hb)
    have D2 : Hid (B3 WB w5.heap.size (.bool b) (.slice a k c) (.slice a' k' c')) := by rw [← hWB]; exact D1.set _ _ _
    have a0 := D1.c0
    have a1 := D1.c1
    have a2 := D1.c2
    have af0 := D1.fr 0
    have af1 := D1.fr 1
    have af2 := D1.fr 2
    have p0 := D2.out.c0
    have p1 := D2.out.c1
    have p2 := D2.out.c2
    unfold three at hWB
    clear D1 hb hn hd b5 JR5 JB5 JR1 JB1 HO
    rcases Nat.eq_zero_or_pos k with e0 | e0
    · subst e0
      have RS : Hid (ivS s.data.toList t.data.toList = (⟨#[]⟩, ⟨#[]⟩, 19)) := by
        unfold Hid ivS
        rw [E1.out]
        have hx : x = 0 := by have := N6.out.lt; rw [tp_zero] at this; omega
        exact if_pos hx
      obtain ⟨W9, hW9⟩ : ∃ W9, two WB (w.heap.size + 1) (.string ⟨#[]⟩) (.string ⟨#[]⟩) = W9 := ⟨_, rfl⟩
      have R9 : B2 W9 (w.heap.size + 1) (.string ⟨#[]⟩) (.string ⟨#[]⟩) := by rw [← hW9]; exact JR6.out.set _ _
      have PP : Hid (OpPost (ivS s.data.toList t.data.toList) w (.returned (.tuple #[.agg #[.string ⟨#[]⟩, .string ⟨#[]⟩], .int .i64 19])) W9) := by
        rw [← hW9]
        exact ⟨by rw [RS.out], below_two JB6.out (by omega) _ _⟩
      have c0 := JR6.out.c0
      have c1 := JR6.out.c1
      have cf0 := JR6.out.fr 0
      have cf1 := JR6.out.fr 1
      obtain ⟨r0, r1, _, _⟩ := id R9
      unfold two at hW9
      clear R9
      go_wp2_with fail
      exact bodyPost_ret (v := .tuple #[.agg #[.string ⟨#[]⟩, .string ⟨#[]⟩], .int .i64 19]) (by simp [results, Tryz.results14, go_sem, r0, r1]) rfl PP.out
    · have e0' : ((k : Int) == 0) = false := by rw [beq_eq_false_iff_ne]; omega
      have e0'' : (k == 0) = false := by rw [beq_eq_false_iff_ne]; omega
      have hx : 0 < x.natAbs := by have h1 := N6.out.pos e0; have := tp_pos (k - 1); omega
      have HSH := shut_c b a' a k' k c' c _ _ WB D6.out N6.out hx (by have := D6.out.len V1.out.2.1; omega) (by have := N6.out.len V1.out.2.2; omega) (HE.out _ JB6.out)
      have ey : zv b y.natAbs = zv (decide (y < 0) != decide (x < 0)) y.natAbs := by
        have := P1.out
        rw [decide_eq_false (show ¬ y < 0 by omega), FB.out]
        cases decide (x < 0) <;> rfl
      rw [ey, ← raR_abs y x (by omega)] at HSH
      have RS : ivS s.data.toList t.data.toList = raR y x := by
        unfold ivS
        rw [E1.out]
        exact if_neg (by omega)
      obtain ⟨rr, hrr⟩ : ∃ rr, raR y x = rr := ⟨_, rfl⟩
      rw [hrr] at HSH RS
      have RS2 := Lib.hid RS
      have HSH := Lib.hid HSH
      clear ey hx RS hrr N6 D6
      go_wp2_with fail
      clear hWA hWB a0 a1 a2 af0 af1 af2 p0 p1 p2
      (with_reducible refine HSH.out.mono ?_)
      rintro e w8 ⟨rfl, b8⟩
      have JR8 := Lib.hid (JR6.out.keep b8)
      have JB8 := Lib.hid (JB6.out.trans (b8.mono JB6.out.size))
      clear b8 HSH
      obtain ⟨W9, hW9⟩ : ∃ W9, two w8 (w.heap.size + 1) (.string rr.1) (.string rr.2.1) = W9 := ⟨_, rfl⟩
      have R9 : B2 W9 (w.heap.size + 1) (.string rr.1) (.string rr.2.1) := by rw [← hW9]; exact JR8.out.set _ _
      have PP : Hid (OpPost (ivS s.data.toList t.data.toList) w (.returned (.tuple #[.agg #[.string rr.1, .string rr.2.1], .int .i64 rr.2.2])) W9) := by
        rw [← hW9]
        exact ⟨by rw [RS2.out], below_two JB8.out (by omega) _ _⟩
      have c0 := JR8.out.c0
      have c1 := JR8.out.c1
      have cf0 := JR8.out.fr 0
      have cf1 := JR8.out.fr 1
      obtain ⟨r0, r1, _, _⟩ := id R9
      unfold two at hW9
      clear R9
      go_wp2_with fail
      exact bodyPost_ret (v := .tuple #[.agg #[.string rr.1, .string rr.2.1], .int .i64 rr.2.2]) (by simp [results, Tryz.results14, go_sem, r0, r1]) rfl PP.out
  · have hne : (flt == 0) = false := by rw [beq_eq_false_iff_ne]; exact hz
    have hne2 : (flt != 0) = true := by simp [hz]
    have RS2 : Hid (ivS s.data.toList t.data.toList = (⟨#[]⟩, ⟨#[]⟩, flt)) := by
      unfold Hid ivS
      have h := HF.out
      cases e : rread s.data.toList t.data.toList with
      | some p => rw [ck_some e] at h; exact absurd h.symm hz
      | none => rw [ck_none e] at h; rw [h]
    clear hz HF
    obtain ⟨W9, hW9⟩ : ∃ W9, two w1 (w.heap.size + 1) (.string ⟨#[]⟩) (.string ⟨#[]⟩) = W9 := ⟨_, rfl⟩
    have R9 : B2 W9 (w.heap.size + 1) (.string ⟨#[]⟩) (.string ⟨#[]⟩) := by rw [← hW9]; exact JR1.out.set _ _
    have PP : Hid (OpPost (ivS s.data.toList t.data.toList) w (.returned (.tuple #[.agg #[.string ⟨#[]⟩, .string ⟨#[]⟩], .int .i64 flt])) W9) := by
      rw [← hW9]
      exact ⟨by rw [RS2.out], below_two JB1.out (by omega) _ _⟩
    have c0 := JR1.out.c0
    have c1 := JR1.out.c1
    have cf0 := JR1.out.fr 0
    have cf1 := JR1.out.fr 1
    obtain ⟨r0, r1, _, _⟩ := id R9
    unfold two at hW9
    clear R9
    go_wp2_with fail
    exact bodyPost_ret (v := .tuple #[.agg #[.string ⟨#[]⟩, .string ⟨#[]⟩], .int .i64 flt]) (by simp [results, Tryz.results14, go_sem, r0, r1]) rfl PP.out
/-- RatioOf's answer. -/
def roS (n d : Int) : ByteArray × ByteArray × Int := if d = 0 then (⟨#[]⟩, ⟨#[]⟩, 19) else raR n d
set_option maxRecDepth 100000 in
set_option maxHeartbeats 4000000 in
theorem RatioOf_c (n d : Int) (w : World) (n0 : -9223372036854775808 ≤ n) (n1 : n ≤ 9223372036854775807) (d0 : -9223372036854775808 ≤ d) (d1 : d ≤ 9223372036854775807) :
    Calls Tryz.prog 5 #[.int .i64 n, .int .i64 d] w (OpPost (roS n d) w) := by
  obtain ⟨W0, hW0⟩ : ∃ W0, w.alloc (.cells #[.string ⟨#[]⟩, .string ⟨#[]⟩] 23) = W0 := ⟨_, rfl⟩
  have JR0 : Hid (B2 W0 w.heap.size (.string ⟨#[]⟩) (.string ⟨#[]⟩)) := by rw [← hW0]; exact B2.made _ _ _ _
  have JB0 : Hid (Below w.heap.size w W0) := by rw [← hW0]; exact bel_one _ _
  by_cases hz : d = 0
  · subst hz
    have RS : Hid (roS n 0 = (⟨#[]⟩, ⟨#[]⟩, 19)) := rfl
    go_enter Tryz.func5, Tryz.ntmps5
    obtain ⟨W9, hW9⟩ : ∃ W9, two W0 (w.heap.size) (.string ⟨#[]⟩) (.string ⟨#[]⟩) = W9 := ⟨_, rfl⟩
    have R9 : B2 W9 (w.heap.size) (.string ⟨#[]⟩) (.string ⟨#[]⟩) := by rw [← hW9]; exact JR0.out.set _ _
    have PP : Hid (OpPost (roS n 0) w (.returned (.tuple #[.agg #[.string ⟨#[]⟩, .string ⟨#[]⟩], .int .i64 19])) W9) := by
      rw [← hW9]
      exact ⟨by rw [RS.out], below_two JB0.out (by omega) _ _⟩
    have c0 := JR0.out.c0
    have c1 := JR0.out.c1
    have cf0 := JR0.out.fr 0
    have cf1 := JR0.out.fr 1
    obtain ⟨r0, r1, _, _⟩ := id R9
    unfold two at hW9
    clear R9
    go_wp2_with fail
    exact bodyPost_ret (v := .tuple #[.agg #[.string ⟨#[]⟩, .string ⟨#[]⟩], .int .i64 19]) (by simp [results, Tryz.results5, go_sem, r0, r1]) rfl PP.out
  · have hne : (d == 0) = false := by rw [beq_eq_false_iff_ne]; exact hz
    have RS : Hid (roS n d = raR n d) := by unfold Hid roS; rw [if_neg hz]
    have bn : n.natAbs < bp 2000 := Nat.lt_of_lt_of_le (show n.natAbs < bp 1 by rw [bp_one]; omega) (bp_mono (by decide))
    have bd : d.natAbs < bp 2000 := Nat.lt_of_lt_of_le (show d.natAbs < bp 1 by rw [bp_one]; omega) (bp_mono (by decide))
    have O1 := Lib.hid (fun w => Of_c n w n0 n1)
    have O2 := Lib.hid (fun w => Of_c d w d0 d1)
    have BN := Lib.hid bn
    have BD := Lib.hid bd
    have HZ := Lib.hid hz
    clear hz bn bd
    go_enter Tryz.func5, Tryz.ntmps5
    go_wp2_with fail
    clear hW0
    (with_reducible refine (O1.out _).mono ?_)
    rintro e w1 ⟨ba, a, k, c, rfl, hn, b1⟩
    have N1 := Lib.hid hn
    have JR1 := Lib.hid (JR0.out.keep b1)
    have JB1 := Lib.hid (JB0.out.trans (b1.mono JB0.out.size))
    clear hn b1 O1 JR0 JB0
    go_wp2_with fail
    (with_reducible refine (O2.out _).mono ?_)
    rintro e w2 ⟨bb, a', k', c', rfl, hd, b2⟩
    have N2 := Lib.hid (N1.out.below b2)
    have D2 := Lib.hid hd
    have JR2 := Lib.hid (JR1.out.keep b2)
    have JB2 := Lib.hid (JB1.out.trans (b2.mono JB1.out.size))
    have HV := Lib.hid (Over_c ba bb a a' k k' c c' n d w2 N2.out D2.out HZ.out BN.out BD.out)
    clear hd b2 O2 JR1 JB1 N1
    go_wp2_with fail
    refine HV.out.mono ?_
    rintro e w6 ⟨ob, oa, ok, oc, ob', oa', ok', oc', rfl, hn, hd, b6⟩
    have JR6 := Lib.hid (JR2.out.keep b6)
    have JB6 := Lib.hid (JB2.out.trans (b6.mono JB2.out.size))
    have HRO := Lib.hid (ratioOf_c ob oa ok oc ob' oa' ok' oc' _ _ w6 hn hd (Nat.lt_of_le_of_lt (tdiv_abs_le _ _) BN.out) (Nat.lt_of_le_of_lt (tdiv_abs_le _ _) BD.out) (red_pos (n := n) (d := d) HZ.out))
    obtain ⟨rr, hrr⟩ : ∃ rr, raR n d = rr := ⟨_, rfl⟩
    have RS2 : Hid (roS n d = rr) := by rw [← hrr]; exact RS.out
    have HRO2 : Hid (Calls Tryz.prog 23 #[.agg #[.bool ob, .slice oa ok oc, .bool ob', .slice oa' ok' oc']] w6 (OpPost rr w6)) := by rw [← hrr]; exact HRO.out
    clear hn hd b6 hrr HRO RS HV JR2 JB2
    go_wp2_with fail
    refine HRO2.out.mono ?_
    rintro e w8 ⟨rfl, b8⟩
    have JR8 := Lib.hid (JR6.out.keep b8)
    have JB8 := Lib.hid (JB6.out.trans (b8.mono JB6.out.size))
    clear b8 HRO2 JR6 JB6
    obtain ⟨W9, hW9⟩ : ∃ W9, two w8 (w.heap.size) (.string rr.1) (.string rr.2.1) = W9 := ⟨_, rfl⟩
    have R9 : B2 W9 (w.heap.size) (.string rr.1) (.string rr.2.1) := by rw [← hW9]; exact JR8.out.set _ _
    have PP : Hid (OpPost (roS n d) w (.returned (.tuple #[.agg #[.string rr.1, .string rr.2.1], .int .i64 rr.2.2])) W9) := by
      rw [← hW9]
      exact ⟨by rw [RS2.out], below_two JB8.out (by omega) _ _⟩
    have c0 := JR8.out.c0
    have c1 := JR8.out.c1
    have cf0 := JR8.out.fr 0
    have cf1 := JR8.out.fr 1
    obtain ⟨r0, r1, _, _⟩ := id R9
    unfold two at hW9
    clear R9
    go_wp2_with fail
    exact bodyPost_ret (v := .tuple #[.agg #[.string rr.1, .string rr.2.1], .int .i64 rr.2.2]) (by simp [results, Tryz.results5, go_sem, r0, r1]) rfl PP.out
set_option maxRecDepth 100000 in
set_option maxHeartbeats 4000000 in
theorem rRatioOf_c (n d : Int) (w : World) (n0 : -9223372036854775808 ≤ n) (n1 : n ≤ 9223372036854775807) (d0 : -9223372036854775808 ≤ d) (d1 : d ≤ 9223372036854775807) (hE : Pow w) :
    Calls Tryz.prog 6 #[.int .i64 n, .int .i64 d] w (OpPost (roS n d) w) := by
  obtain ⟨W0, hW0⟩ : ∃ W0, w.alloc (.cells #[.string ⟨#[]⟩, .string ⟨#[]⟩] 23) = W0 := ⟨_, rfl⟩
  have JR0 : Hid (B2 W0 w.heap.size (.string ⟨#[]⟩) (.string ⟨#[]⟩)) := by rw [← hW0]; exact B2.made _ _ _ _
  have JB0 : Hid (Below w.heap.size w W0) := by rw [← hW0]; exact bel_one _ _
  have HE := Lib.hid (fun W (h : Below w.heap.size w W) => hE.below h)
  clear hE
  by_cases hz : d = 0
  · subst hz
    have RS : Hid (roS n 0 = (⟨#[]⟩, ⟨#[]⟩, 19)) := rfl
    go_enter Tryz.func6, Tryz.ntmps6
    obtain ⟨W9, hW9⟩ : ∃ W9, two W0 (w.heap.size) (.string ⟨#[]⟩) (.string ⟨#[]⟩) = W9 := ⟨_, rfl⟩
    have R9 : B2 W9 (w.heap.size) (.string ⟨#[]⟩) (.string ⟨#[]⟩) := by rw [← hW9]; exact JR0.out.set _ _
    have PP : Hid (OpPost (roS n 0) w (.returned (.tuple #[.agg #[.string ⟨#[]⟩, .string ⟨#[]⟩], .int .i64 19])) W9) := by
      rw [← hW9]
      exact ⟨by rw [RS.out], below_two JB0.out (by omega) _ _⟩
    have c0 := JR0.out.c0
    have c1 := JR0.out.c1
    have cf0 := JR0.out.fr 0
    have cf1 := JR0.out.fr 1
    obtain ⟨r0, r1, _, _⟩ := id R9
    unfold two at hW9
    clear R9
    go_wp2_with fail
    exact bodyPost_ret (v := .tuple #[.agg #[.string ⟨#[]⟩, .string ⟨#[]⟩], .int .i64 19]) (by simp [results, Tryz.results6, go_sem, r0, r1]) rfl PP.out
  · have hne : (d == 0) = false := by rw [beq_eq_false_iff_ne]; exact hz
    have RS : Hid (roS n d = raR n d) := by unfold Hid roS; rw [if_neg hz]
    have O1 := Lib.hid (fun w => amountOf_c n w n0 n1)
    have O2 := Lib.hid (fun w => amountOf_c d w d0 d1)
    have BN : Hid (n.natAbs < tp 3) := by unfold Hid; rw [tp_three]; omega
    have BD : Hid (d.natAbs < tp 3 ∧ 0 < d.natAbs) := ⟨by rw [tp_three]; omega, by omega⟩
    have HZ := Lib.hid hz
    obtain ⟨bn, hbn⟩ : ∃ b, decide (n < 0) = b := ⟨_, rfl⟩
    obtain ⟨bd, hbd⟩ : ∃ b, decide (d < 0) = b := ⟨_, rfl⟩
    have HRA : Hid (raR (zv (bn != bd) n.natAbs) (d.natAbs : Int) = raR n d) := by unfold Hid; rw [← hbn, ← hbd, ← raR_abs n d hz]
    clear hz
    go_enter Tryz.func6, Tryz.ntmps6
    go_wp2_with fail
    clear hW0
    (with_reducible refine (O1.out _).mono ?_)
    rintro e w1 ⟨a, k, c, rfl, hn, b1⟩
    have N1 := Lib.hid hn
    have JR1 := Lib.hid (JR0.out.keep b1)
    have JB1 := Lib.hid (JB0.out.trans (b1.mono JB0.out.size))
    clear hn b1 O1 JR0 JB0
    go_wp2_with fail
    (with_reducible refine (O2.out _).mono ?_)
    rintro e w2 ⟨a', k', c', rfl, hd, b2⟩
    have N2 := Lib.hid (N1.out.below b2)
    have D2 := Lib.hid hd
    have JR6 := Lib.hid (JR1.out.keep b2)
    have JB6 := Lib.hid (JB1.out.trans (b2.mono JB1.out.size))
    have HSH := shut_c (bn != bd) a a' k k' c c' n.natAbs d.natAbs w2 N2.out D2.out BD.out.2 (by have := N2.out.len BN.out; omega) (by have := D2.out.len BD.out.1; omega) (HE.out _ JB6.out)
    rw [HRA.out] at HSH
    obtain ⟨rr, hrr⟩ : ∃ rr, raR n d = rr := ⟨_, rfl⟩
    have RS2 : Hid (roS n d = rr) := by rw [← hrr]; exact RS.out
    rw [hrr] at HSH
    have HSH := Lib.hid HSH
    clear hd b2 O2 JR1 JB1 N1 hrr HRA RS
    go_wp2_with fail
    (refine HSH.out.mono ?_)
    rintro e w8 ⟨rfl, b8⟩
    have JR8 := Lib.hid (JR6.out.keep b8)
    have JB8 := Lib.hid (JB6.out.trans (b8.mono JB6.out.size))
    clear b8 HSH JR6 JB6
    obtain ⟨W9, hW9⟩ : ∃ W9, two w8 (w.heap.size) (.string rr.1) (.string rr.2.1) = W9 := ⟨_, rfl⟩
    have R9 : B2 W9 (w.heap.size) (.string rr.1) (.string rr.2.1) := by rw [← hW9]; exact JR8.out.set _ _
    have PP : Hid (OpPost (roS n d) w (.returned (.tuple #[.agg #[.string rr.1, .string rr.2.1], .int .i64 rr.2.2])) W9) := by
      rw [← hW9]
      exact ⟨by rw [RS2.out], below_two JB8.out (by omega) _ _⟩
    have c0 := JR8.out.c0
    have c1 := JR8.out.c1
    have cf0 := JR8.out.fr 0
    have cf1 := JR8.out.fr 1
    obtain ⟨r0, r1, _, _⟩ := id R9
    unfold two at hW9
    clear R9
    go_wp2_with fail
    exact bodyPost_ret (v := .tuple #[.agg #[.string rr.1, .string rr.2.1], .int .i64 rr.2.2]) (by simp [results, Tryz.results6, go_sem, r0, r1]) rfl PP.out
set_option maxRecDepth 100000 in
set_option maxHeartbeats 4000000 in
theorem CheckRatio_c (s t : ByteArray) (w : World) :
    Calls Tryz.prog 7 #[.agg #[.string s, .string t]] w (CkPost s.data.toList t.data.toList w) := by
  obtain ⟨W0, hW0⟩ : ∃ W0, w.alloc (.cells #[.string s, .string t] 23) = W0 := ⟨_, rfl⟩
  have X0 : B2 W0 w.heap.size (.string s) (.string t) := by rw [← hW0]; exact B2.made _ _ _ _
  have JB0 : Hid (Below w.heap.size w W0) := by rw [← hW0]; exact bel_one _ _
  have x0 := X0.c0
  have x1 := X0.c1
  have H1 := Lib.hid (fun w => fractionOf_q s t w)
  clear X0
  go_enter Tryz.func7, Tryz.ntmps7
  go_wp2_with fail
  clear hW0 x0 x1
  refine (H1.out _).mono ?_
  rintro e w1 ⟨f, flt, rfl, b1, hpost⟩
  have HF : Hid (ck s.data.toList t.data.toList = flt) := by
    rcases hpost with ⟨h0, x, y, h1, _⟩ | ⟨_, h1, h2⟩
    · unfold Hid; rw [ck_some h1, h0]
    · unfold Hid; rw [ck_none h1, h2]
  have JB1 := JB0.out.trans (b1.mono JB0.out.size)
  obtain ⟨W5, hW5⟩ : ∃ W5, laid1 w1 f 46 = W5 := ⟨_, rfl⟩
  have LD := laid1_is (W := w1) f 46
  rw [hW5] at LD
  obtain ⟨WA, hWA⟩ : ∃ WA, w1.alloc (.cells #[.bool false, .slice none 0 0, .bool false, .slice none 0 0] 46) = WA := ⟨_, rfl⟩
  have D1 : B4q WA w1.heap.size Fq.z := by rw [← hWA]; exact B4.made _ _ _ _ _ _
  have hW5' : fourq WA w1.heap.size f = W5 := by rw [← hW5, ← hWA]; rfl
  have JB5 : Hid (Below w.heap.size w W5) := JB1.trans (LD.1.mono JB1.size)
  clear hW5 LD b1 hpost H1 JB1 JB0
  have a0 := D1.c0
  have a1 := D1.c1
  have a2 := D1.c2
  have a3 := D1.c3
  have af0 := D1.fr 0
  have af1 := D1.fr 1
  have af2 := D1.fr 2
  have af3 := D1.fr 3
  clear D1
  simp only [Fq.z] at a0 a1 a2 a3
  unfold fourq four at hW5'
  go_wp2_with fail
  go_ret
  exact ⟨by rw [HF.out]; rfl, JB5.out⟩
end Go.Proofs.YtdkphfafcmogmaaGreatDoor
