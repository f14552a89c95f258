/-
  Ratios in the reference: open, both.
  Fractions of the reference: shut.
  The reference's ratios: both.
  Ratios in the reference: what the walks of its operations share.
-/
import Derived.Test.YtfijhkaalpinhaaGreatDoorRn15
import Derived.Test.YtfijhkaalpinhaaGreatDoorRn14
namespace Go.Proofs.YtfijhkaalpinhaaGreatDoor
open Go.RowKit

/-- What a sound ratio is. -/
theorem rread_is {n d : List UInt8} {x y : Int} (h : rread n d = some (x, y)) :
    large n d = false ∧ sound n d = true ∧ x = zv (Lib.hasPrefix n [45]) (val (Lib.trimPrefix n [45])) ∧ y = (val d : Int) ∧ Nat.gcd (val (Lib.trimPrefix n [45])) (val d) = 1 ∧ Lib.hasPrefix n [45] = decide (x < 0) := by
  have hl : large n d = false := by
    cases e : large n d with
    | false => rfl
    | true => unfold rread at h; rw [if_pos e] at h; cases h
  have hs : sound n d = true := by
    cases e : sound n d with
    | true => rfl
    | false => rw [rread_no e] at h; cases h
  have e := rread_yes hl hs
  rw [h] at e
  by_cases hg : Nat.gcd (val (Lib.trimPrefix n [45])) (val d) = 1
  · rw [if_pos hg] at e
    injection e with e
    injection e with e1 e2
    refine ⟨hl, hs, e1, e2, hg, ?_⟩
    unfold sound at hs
    simp only [Bool.and_eq_true, Bool.not_eq_true', decide_eq_false_iff_not] at hs
    rw [e1]
    cases hb : Lib.hasPrefix n [45] with
    | false => rw [zv_false]; simp
    | true =>
      rw [zv_true]
      have hp : 0 < val (Lib.trimPrefix n [45]) := val_pos hs.1.1.1 (fun e => hs.1.1.2 (by
        rcases trim_cases n with ⟨r, q1, q2, _⟩ | ⟨_, q3, _⟩
        · rw [q1, ← q2, e]
        · rw [hb] at q3; cases q3))
      have : -((val (Lib.trimPrefix n [45]) : Nat) : Int) < 0 := by omega
      exact (decide_eq_true this).symm
  · rw [if_neg hg] at e
    cases e
theorem rread_pos' {n d : List UInt8} {x y : Int} (h : rread n d = some (x, y)) : 0 < y := by
  unfold rread at h
  split at h
  · cases h
  · split at h
    · split at h
      · next hp => injection h with h; injection h with h1 h2; rw [← h2]; exact hp.1
      · cases h
    · cases h
theorem val_pos_den {n d : List UInt8} {x y : Int} (h : rread n d = some (x, y)) : 0 < y.natAbs ∧ y.natAbs < tp 223 ∧ x.natAbs < tp 223 := by
  obtain ⟨hl, hs, e1, e2, _⟩ := rread_is h
  have hp := (rread_pos' h)
  unfold sound at hs
  simp only [Bool.and_eq_true, Bool.not_eq_true', decide_eq_false_iff_not] at hs
  unfold large at hl
  simp only [Bool.or_eq_false_iff, decide_eq_false_iff_not] at hl
  refine ⟨by omega, ?_, ?_⟩
  · rw [e2, Int.natAbs_natCast]
    exact val_tp (numB_iff.1 hs.1.2).2.2 (by omega)
  · rw [e1, zv_abs]
    exact val_tp (numB_iff.1 hs.1.1.1).2.2 (by omega)
structure Opn (w : World) (s t : ByteArray) (W : World) : Prop where
  x : B2 W w.heap.size (.string s) (.string t)
  r : B3 W (w.heap.size + 1) (.bool false) (.slice none 0 0) (.slice none 0 0)
  bel : Below w.heap.size w W
theorem Opn.keep {w : World} {s t : ByteArray} {W W' : World} (h : Opn w s t W) (hb : Below W.heap.size W W') : Opn w s t W' :=
  ⟨h.x.keep hb, h.r.keep hb, h.bel.trans (hb.mono h.bel.size)⟩
theorem Opn.s2 {w : World} {s t : ByteArray} {W : World} (h : Opn w s t W) : S2 w.heap.size s t W := ⟨h.x.c0, h.x.c1⟩
theorem Opn.done {w : World} {s t : ByteArray} {W : World} (h : Opn w s t W) (y0 y1 y2 : Value) : S2 w.heap.size s t (three W (w.heap.size + 1) y0 y1 y2) :=
  ⟨(h.x.other3 (by omega) _ _ _).c0, (h.x.other3 (by omega) _ _ _).c1⟩
/-- A store into boxes changes no number that lies elsewhere. -/
theorem Nt.set {W : World} {a : Option Addr} {k c n : Nat} (h : Nt W a k c n) {p : Addr} {u : Value} (hu : W.cell? p = some u) (hne : ∀ m, u ≠ .int .i64 m) (x : Value) : Nt (W.setCell p x) a k c n := by
  obtain ⟨f, h1, h2⟩ := h
  refine ⟨f, ⟨h1.1, h1.2.1, fun h0 => ?_⟩, h2⟩
  obtain ⟨b, off, e, hl, hc⟩ := h1.2.2 h0
  refine ⟨b, off, e, by simpa using hl, fun j hj => ?_⟩
  rw [World.cell?_setCell_other _ _ _ _ (by rintro rfl; rw [hc j hj] at hu; injection hu with hu; exact hne _ hu.symm)]
  exact hc j hj
theorem Nt.set3 {W : World} {a : Option Addr} {k c n : Nat} (h : Nt W a k c n) {g : Nat} {b : Bool} {p1 p2 : Option Addr} {k1 k2 c1 c2 : Nat} (hb : B3 W g (.bool b) (.slice p1 k1 c1) (.slice p2 k2 c2)) (y0 y1 y2 : Value) : Nt (three W g y0 y1 y2) a k c n := by
  unfold three
  refine Nt.set (Nt.set (Nt.set h hb.c0 (fun m e => nomatch e) y0) (u := .slice p1 k1 c1) ?_ (fun m e => nomatch e) y1) (u := .slice p2 k2 c2) ?_ (fun m e => nomatch e) y2
  · rw [World.cell?_setCell_other _ _ _ _ (addr_ne (by decide))]; exact hb.c1
  · rw [World.cell?_setCell_other _ _ _ _ (addr_ne (by decide)), World.cell?_setCell_other _ _ _ _ (addr_ne (by decide))]; exact hb.c2
def OnP (b : Bool) (x y : Int) (w : World) (e : Ending) (w' : World) : Prop :=
  ∃ a k c a' k' c', e = .returned (.agg #[.bool b, .slice a k c, .slice a' k' c']) ∧ Nt w' a k c x.natAbs ∧ Nt w' a' k' c' y.natAbs ∧ Below w.heap.size w w'
set_option maxRecDepth 100000 in
set_option maxHeartbeats 4000000 in
theorem open_c (s t : ByteArray) (x y : Int) (w : World) (hr : rread s.data.toList t.data.toList = some (x, y)) :
    Calls Tryz.prog 37 #[.agg #[.string s, .string t]] w (OnP (decide (x < 0)) x y w) := by
  obtain ⟨hl, hs, e1, e2, _, e4⟩ := rread_is hr
  unfold sound at hs
  simp only [Bool.and_eq_true, Bool.not_eq_true', decide_eq_false_iff_not] at hs
  unfold large at hl
  simp only [Bool.or_eq_false_iff, decide_eq_false_iff_not] at hl
  obtain ⟨u, hu⟩ : ∃ u : ByteArray, u = ⟨(Lib.trimPrefix s.data.toList [45]).toArray⟩ := ⟨_, rfl⟩
  have hul : u.data.toList = Lib.trimPrefix s.data.toList [45] := by rw [hu]
  have hus : u.size = (Lib.trimPrefix s.data.toList [45]).length := by rw [hu]; simp [ByteArray.size]
  have hts : t.size = t.data.toList.length := by simp
  have HTP : Hid (∀ w, Calls Tryz.prog 29 #[.string s, .string ⟨#[45]⟩] w fun e w' => e = .returned (.string u) ∧ w = w') := fun w => (Tryz.strings_TrimPrefix s ⟨#[45]⟩ w).mono fun e w' ⟨he, hw⟩ => ⟨by rw [he, hu], hw.symm⟩
  have HHP : Hid (∀ w, Calls Tryz.prog 70 #[.string s, .string ⟨#[45]⟩] w fun e w' => e = .returned (.bool (decide (x < 0))) ∧ w = w') := fun w => (Tryz.strings_HasPrefix s ⟨#[45]⟩ w).mono fun e w' ⟨he, hw⟩ => ⟨by rw [he, ← e4], hw.symm⟩
  have RU := Lib.hid (fun w => readNatural_c u w (by rw [hul]; exact (numB_iff.1 hs.1.1.1).2.2) (by omega))
  have RT := Lib.hid (fun w => readNatural_c t w (numB_iff.1 hs.1.2).2.2 (by omega))
  have vx : val u.data.toList = x.natAbs := by rw [e1, zv_abs, hul]
  have vy : val t.data.toList = y.natAbs := by rw [e2, Int.natAbs_natCast]
  rw [vx] at RU
  rw [vy] at RT
  clear hu hul hus hts hs hl e1 e2 e4 vx vy hr
  obtain ⟨W0, hW0⟩ : ∃ W0, (w.alloc (.cells #[.string s, .string t] 23)).alloc (.cells #[.bool false, .slice none 0 0, .slice none 0 0] 53) = W0 := ⟨_, rfl⟩
  have s1 : (w.alloc (.cells #[.string s, .string t] 23)).heap.size = w.heap.size + 1 := by simp
  have J0 : Hid (Opn w s t W0) := ⟨by rw [← hW0]; exact (B2.made w _ _ _).keep (bel_one _ _), by rw [← hW0, ← s1]; exact B3.made _ _ _ _ _, by rw [← hW0]; exact ((Below.refl _ _).alloc (Nat.le_refl _) _).alloc (by simp) _⟩
  clear s1
  generalize decide (x < 0) = b at *
  go_enter Tryz.func37, Tryz.ntmps37
  go_wp2_with fail
  clear hW0
  refine wp_region_noPanic ?_
  refine wp_region_held_drew (S := S2 w.heap.size s t) (by kernel_rfl) (J0.out.keep (Below.refl _ _).drew).s2 (fun hS => ?_)
  have J1 := Lib.hid (J0.out.keep (Below.refl _ _).drew)
  clear J0
  refine wpAnyH_take (i := 0) (v := ?v0z29) rfl (by kernel_rfl) (by kernel_rfl) (by kernel_rfl) (fun _ _ _ h => h) (Or.inl ⟨by rfl, ?hy0z29⟩) (by assumption) ?rest0z29
  case hy0z29 =>
    intro w hSw
    dsimp only [S2] at hSw
    go_simp
    try with_reducible rfl
  simp only [Act.put, List.getElem_toArray, List.getElem_cons_succ, List.getElem_cons_zero, List.setIfInBounds_toArray, List.set_cons_zero, List.set_cons_succ]
  refine wpAnyH_take (i := 1) (v := ?v1z30) rfl (by kernel_rfl) (by kernel_rfl) (by kernel_rfl) (fun _ _ _ h => h) (Or.inl ⟨by rfl, ?hy1z30⟩) (by assumption) ?rest1z30
  case hy1z30 =>
    intro w hSw
    dsimp only [S2] at hSw
    go_simp
    try with_reducible rfl
  simp only [Act.put, List.getElem_toArray, List.getElem_cons_succ, List.getElem_cons_zero, List.setIfInBounds_toArray, List.set_cons_zero, List.set_cons_succ]
  refine wpAnyH_take (i := 3) (v := ?v3z31) rfl (by kernel_rfl) (by kernel_rfl) (by kernel_rfl) (fun _ _ _ h => h) (Or.inl ⟨by rfl, ?hy3z31⟩) (by assumption) ?rest3z31
  case hy3z31 =>
    intro w hSw
    dsimp only [S2] at hSw
    go_simp
    try with_reducible rfl
  simp only [Act.put, List.getElem_toArray, List.getElem_cons_succ, List.getElem_cons_zero, List.setIfInBounds_toArray, List.set_cons_zero, List.set_cons_succ]
  refine wpAnyH_take (i := 4) (v := ?v4z32) rfl (by kernel_rfl) (by kernel_rfl) (by kernel_rfl) (fun _ _ _ h => h) (Or.inl ⟨by rfl, ?hy4z32⟩) (by assumption) ?rest4z32
  case hy4z32 =>
    intro w hSw
    dsimp only [S2] at hSw
    go_simp
    try with_reducible rfl
  simp only [Act.put, List.getElem_toArray, List.getElem_cons_succ, List.getElem_cons_zero, List.setIfInBounds_toArray, List.set_cons_zero, List.set_cons_succ]
  refine wpAnyH_take (i := 7) (v := ?v7z33) rfl (by kernel_rfl) (by kernel_rfl) (by kernel_rfl) (fun _ _ _ h => h) (Or.inl ⟨by rfl, ?hy7z33⟩) (by assumption) ?rest7z33
  case hy7z33 =>
    intro w hSw
    dsimp only [S2] at hSw
    go_simp
    try with_reducible rfl
  simp only [Act.put, List.getElem_toArray, List.getElem_cons_succ, List.getElem_cons_zero, List.setIfInBounds_toArray, List.set_cons_zero, List.set_cons_succ]
  refine wpAnyH_take (i := 8) (v := ?v8z34) rfl (by kernel_rfl) (by kernel_rfl) (by kernel_rfl) (fun _ _ _ h => h) (Or.inl ⟨by rfl, ?hy8z34⟩) (by assumption) ?rest8z34
  case hy8z34 =>
    intro w hSw
    dsimp only [S2] at hSw
    go_simp
    try with_reducible rfl
  simp only [Act.put, List.getElem_toArray, List.getElem_cons_succ, List.getElem_cons_zero, List.setIfInBounds_toArray, List.set_cons_zero, List.set_cons_succ]
  refine wpAnyH_ready (rs := [2]) (by kernel_rfl) (by simp) ?_
  refine AllReadyH.cons rfl (fun K hK => ?_) AllReadyH.nil
  go_simp
  refine (HHP.out _).mono ?_
  rintro e W ⟨rfl, rfl⟩
  try go_simp
  refine hK.out _ _ hS (fun _ => ?_)
  clear hK K
  try simp only [Act.put, List.setIfInBounds_toArray, List.set_cons_zero, List.set_cons_succ]
  refine wpAnyH_ready (rs := [5]) (by kernel_rfl) (by simp) ?_
  refine AllReadyH.cons rfl (fun K hK => ?_) AllReadyH.nil
  go_simp
  refine (HTP.out _).mono ?_
  rintro e W ⟨rfl, rfl⟩
  try go_simp
  refine hK.out _ _ hS (fun _ => ?_)
  clear hK K
  try simp only [Act.put, List.setIfInBounds_toArray, List.set_cons_zero, List.set_cons_succ]
  refine wpAnyH_ready (rs := [6]) (by kernel_rfl) (by simp) ?_
  refine AllReadyH.cons rfl (fun K hK => ?_) AllReadyH.nil
  go_simp
  refine (RU.out _).mono ?_
  rintro e W2 ⟨a, k, c, rfl, hp, bc⟩
  try go_simp
  have J2 := Lib.hid (J1.out.keep bc)
  have hT := J2.out.s2
  have HP := Lib.hid hp
  refine hK.out _ _ hT (fun _ => ?_)
  clear hK K hS bc J1 hp
  have hS := hT
  clear hT
  try simp only [Act.put, List.setIfInBounds_toArray, List.set_cons_zero, List.set_cons_succ]
  refine wpAnyH_ready (rs := [9]) (by kernel_rfl) (by simp) ?_
  refine AllReadyH.cons rfl (fun K hK => ?_) AllReadyH.nil
  go_simp
  refine (RT.out _).mono ?_
  rintro e W3 ⟨a', k', c', rfl, hd, bc⟩
  try go_simp
  have J3 := Lib.hid (J2.out.keep bc)
  have hT := J3.out.s2
  have HP3 := Lib.hid (HP.out.below bc)
  have HD := Lib.hid hd
  refine hK.out _ _ hT (fun _ => ?_)
  clear hK K hS bc J2 hd HP
  have hS := hT
  clear hT
  try simp only [Act.put, List.setIfInBounds_toArray, List.set_cons_zero, List.set_cons_succ]
  refine wpAnyH_take (i := 10) (v := ?v10z35) rfl (by kernel_rfl) (by kernel_rfl) (by kernel_rfl) (fun _ _ _ h => h) (Or.inl ⟨by rfl, ?hy10z35⟩) (by assumption) ?rest10z35
  case hy10z35 =>
    intro w hSw
    dsimp only [S2] at hSw
    go_simp
    try with_reducible rfl
  simp only [Act.put, List.getElem_toArray, List.getElem_cons_succ, List.getElem_cons_zero, List.setIfInBounds_toArray, List.set_cons_zero, List.set_cons_succ]
  refine wpAnyH_ready (rs := [11]) (by kernel_rfl) (by simp) ?_
  refine AllReadyH.cons rfl (fun K hK => ?_) AllReadyH.nil
  have q0 := J3.out.r.c0
  have q1 := J3.out.r.c1
  have q2 := J3.out.r.c2
  have g0 := J3.out.r.fr 0
  have g1 := J3.out.r.fr 1
  have g2 := J3.out.r.fr 2
  go_simp
  clear q0 q1 q2 g0 g1 g2
  have hT := J3.out.done (.bool b) (.slice a k c) (.slice a' k' c')
  have R9 := J3.out.r.set (.bool b) (.slice a k c) (.slice a' k' c')
  have PP : Hid (OnP b x y w (.returned (.agg #[.bool b, .slice a k c, .slice a' k' c'])) (three W3 (w.heap.size + 1) (.bool b) (.slice a k c) (.slice a' k' c'))) :=
    ⟨_, _, _, _, _, _, rfl, HP3.out.set3 J3.out.r _ _ _, HD.out.set3 J3.out.r _ _ _, below_three J3.out.bel (by omega) _ _ _⟩
  unfold three at hT R9 PP
  refine hK.out _ _ hT (fun _ => ?_)
  clear hK K hS
  try simp only [Act.put, List.setIfInBounds_toArray, List.set_cons_zero, List.set_cons_succ]
  refine wpAnyH_done (by kernel_rfl) ?_ _
  refine NoPanic.normal ?_
  obtain ⟨r0, r1, r2, _, _⟩ := id R9
  clear hT R9
  go_wp2_with fail
  exact bodyPost_ret (v := .agg #[.bool b, .slice a k c, .slice a' k' c']) (by simp [results, Tryz.results37, go_sem, r0, r1, r2]) rfl PP.out
end Go.Proofs.YtfijhkaalpinhaaGreatDoor
namespace Go.Proofs.YtfijhkaalpinhaaGreatDoor
open Go.RowKit

/-- The boxes of shut, and what lies in memory. -/
structure Sh (w : World) (b : Bool) (a1 : Option Addr) (k1 c1 : Nat) (a2 : Option Addr) (k2 c2 p d : Nat) (W : World) : Prop where
  x : B3 W w.heap.size (.bool b) (.slice a1 k1 c1) (.slice a2 k2 c2)
  r : B2 W (w.heap.size + 1) (.string ⟨#[]⟩) (.string ⟨#[]⟩)
  n : Nt W a1 k1 c1 p
  e : Nt W a2 k2 c2 d
  pow : Pow W
  bel : Below w.heap.size w W
theorem Sh.keep {w : World} {b : Bool} {a1 : Option Addr} {k1 c1 : Nat} {a2 : Option Addr} {k2 c2 p d : Nat} {W W' : World} (h : Sh w b a1 k1 c1 a2 k2 c2 p d W) (hb : Below W.heap.size W W') : Sh w b a1 k1 c1 a2 k2 c2 p d W' :=
  ⟨h.x.keep hb, h.r.keep hb, h.n.below hb, h.e.below hb, h.pow.below hb, h.bel.trans (hb.mono h.bel.size)⟩
set_option maxRecDepth 100000 in
set_option maxHeartbeats 4000000 in
theorem shut_c (b : Bool) (a1 a2 : Option Addr) (k1 k2 c1 c2 p d : Nat) (w : World) (h1 : Nt w a1 k1 c1 p) (h2 : Nt w a2 k2 c2 d) (hd : 0 < d) (hk1 : k1 ≤ 99000) (hk2 : k2 ≤ 99000) (hE : Pow w) :
    Calls Tryz.prog 26 #[.agg #[.bool b, .slice a1 k1 c1, .slice a2 k2 c2]] w (OpPost (raR (zv b p) d) w) := by
  obtain ⟨W0, hW0⟩ : ∃ W0, (w.alloc (.cells #[.bool b, .slice a1 k1 c1, .slice a2 k2 c2] 53)).alloc (.cells #[.string ⟨#[]⟩, .string ⟨#[]⟩] 23) = W0 := ⟨_, rfl⟩
  have s1 : (w.alloc (.cells #[.bool b, .slice a1 k1 c1, .slice a2 k2 c2] 53)).heap.size = w.heap.size + 1 := by simp
  have B0 : Below w.heap.size w W0 := by rw [← hW0]; exact ((Below.refl _ _).alloc (Nat.le_refl _) _).alloc (by simp) _
  have J0 : Hid (Sh w b a1 k1 c1 a2 k2 c2 p d W0) := ⟨by rw [← hW0]; exact (B3.made w _ _ _ _).keep (bel_one _ _), by rw [← hW0, ← s1]; exact B2.made _ _ _ _, h1.below B0, h2.below B0, hE.below B0, B0⟩
  obtain ⟨g, hg⟩ : ∃ g, Nat.gcd p d = g := ⟨_, rfl⟩
  obtain ⟨m, hm⟩ : ∃ m, p / g = m := ⟨_, rfl⟩
  obtain ⟨e, he⟩ : ∃ e, d / g = e := ⟨_, rfl⟩
  have hgp : 0 < g := by rw [← hg]; exact Nat.gcd_pos_of_pos_right _ hd
  have RS : Hid (raR (zv b p) d = shV b m e) := by unfold Hid; rw [raR_zv b p d hd, hg, hm, he]
  have HC := Lib.hid (fun W (h : Sh w b a1 k1 c1 a2 k2 c2 p d W) => ncommon_c a1 a2 k1 k2 c1 c2 p d W h.n h.e hk1 hk2)
  rw [hg] at HC
  have HN := Lib.hid (fun W q k c (h : Sh w b a1 k1 c1 a2 k2 c2 p d W) (hq : Nt W q k c g) => nover_c a1 q k1 k c1 c p g W h.n hq hgp hk1)
  have HM := Lib.hid (fun W q k c (h : Sh w b a1 k1 c1 a2 k2 c2 p d W) (hq : Nt W q k c g) => nover_c a2 q k2 k c2 c d g W h.e hq hgp hk2)
  rw [hm] at HN
  rw [he] at HM
  clear s1 B0 h1 h2 hE hd hk1 hk2 hg hm he hgp
  have x0 := J0.out.x.c0
  have x1 := J0.out.x.c1
  have x2 := J0.out.x.c2
  go_enter Tryz.func26, Tryz.ntmps26
  go_wp2_with fail
  clear hW0
  (with_reducible refine (HC.out _ J0.out).mono ?_)
  rintro e w1 ⟨ga, gk, gc, rfl, hg, b1⟩
  have J1 := Lib.hid (J0.out.keep b1)
  clear x0 x1 x2
  have HG := Lib.hid hg
  clear hg b1 J0 HC
  have x0 := J1.out.x.c0
  have x1 := J1.out.x.c1
  have x2 := J1.out.x.c2
  go_wp2_with fail
  (with_reducible refine (HN.out _ _ _ _ J1.out HG.out).mono ?_)
  rintro e w2 ⟨na, nk, nc, ra, rk, rc, rfl, hn, _, b2⟩
  have J2 := Lib.hid (J1.out.keep b2)
  clear x0 x1 x2
  have HG2 := Lib.hid (HG.out.below b2)
  have HNN := Lib.hid hn
  clear hn b2 J1 HN HG
  have x0 := J2.out.x.c0
  have x1 := J2.out.x.c1
  have x2 := J2.out.x.c2
  go_wp2_with fail
  (with_reducible refine (HM.out _ _ _ _ J2.out HG2.out).mono ?_)
  rintro e w3 ⟨ea, ek, ec, ra2, rk2, rc2, rfl, hn, _, b3⟩
  have J3 := Lib.hid (J2.out.keep b3)
  clear x0 x1 x2
  have HNN3 := Lib.hid (HNN.out.below b3)
  have HEE := Lib.hid hn
  clear hn b3 J2 HM HG2 HNN
  have x0 := J3.out.x.c0
  have x1 := J3.out.x.c1
  have x2 := J3.out.x.c2
  have HT1 := Lib.hid (rtext_c na nk nc m w3 HNN3.out J3.out.pow)
  have HL : Hid (0 < nk ↔ 0 < m) := ⟨fun h => Nat.lt_of_lt_of_le (tp_pos (nk - 1)) (HNN3.out.pos h), fun h => HNN3.out.one h⟩
  go_wp2_with fail
  (with_reducible refine (HT1.out).mono ?_)
  rintro e w4 ⟨rfl, b4⟩
  have J4 := Lib.hid (J3.out.keep b4)
  clear x0 x1 x2
  have HEE4 := Lib.hid (HEE.out.below b4)
  clear b4 J3 HT1 HNN3 HEE
  have x0 := J4.out.x.c0
  have x1 := J4.out.x.c1
  have x2 := J4.out.x.c2
  have HT2 := Lib.hid (rtext_c ea ek ec e w4 HEE4.out J4.out.pow)
  go_wp2_with fail
  (with_reducible refine (HT2.out).mono ?_)
  rintro e w5 ⟨rfl, b5⟩
  have J5 := Lib.hid (J4.out.keep b5)
  clear x0 x1 x2
  clear b5 J4 HT2 HEE4
  have x0 := J5.out.x.c0
  have x1 := J5.out.x.c1
  have x2 := J5.out.x.c2
  clear x0 x1 x2
  obtain ⟨WA, hWA⟩ : ∃ W, w5.alloc (.cells #[.string ⟨#[]⟩, .string ⟨#[]⟩] 23) = W := ⟨_, rfl⟩
  have D1 : B2 WA w5.heap.size (.string ⟨#[]⟩) (.string ⟨#[]⟩) := by rw [← hWA]; exact B2.made _ _ _ _
  obtain ⟨WB, hWB⟩ : ∃ W, two WA w5.heap.size (.string (decB m)) (.string (decB e)) = W := ⟨_, rfl⟩
  have hb : Below w5.heap.size w5 WB := by rw [← hWB]; exact below_two (by rw [← hWA]; exact bel_one _ _) (Nat.le_refl _) _ _
  have J6 := Lib.hid (J5.out.keep hb)
  have GE : Hid (w.heap.size + 1 < w5.heap.size) := J5.out.r.lt
  have D2 : Hid (B2 WB w5.heap.size (.string (decB m)) (.string (decB e))) := by rw [← hWB]; exact D1.set _ _
  have a0 := D1.c0
  have a1' := D1.c1
  have af0 := D1.fr 0
  have af1 := D1.fr 1
  unfold two at hWB
  clear D1 hb J5
  have JR := Lib.hid J6.out.r
  have JB := Lib.hid J6.out.bel
  have p0 := D2.out.c0
  have p1 := D2.out.c1
  have q0 := J6.out.x.c0
  have hms := decB_size m
  have hes := decB_size e
  by_cases f1 : (Lib.decDigits m).length ≤ 2000
  · have i1 : ¬ (2000 : Int) < ((decB m).size : Int) := by omega
    by_cases f2 : (Lib.decDigits e).length ≤ 2000
    · have i2 : ¬ (2000 : Int) < ((decB e).size : Int) := by omega
      have VS : Hid (shV b m e = ((if (b && decide (0 < m)) = true then ⟨#[45]⟩ ++ decB m else decB m), decB e, 0)) := by unfold Hid shV; rw [if_pos (by simp [f1, f2])]
      have hmb : ¬ (9223372036854775807 : Int) < 1 + ((decB m).size : Int) := by omega
      have hmb' : ¬ 9223372036854775807 < 1 + (decB m).size := by omega
      clear f1 f2 hms hes
      cases b
      · have RS2 : Hid (raR (zv false p) d = (decB m, decB e, 0)) := by unfold Hid; rw [RS.out, VS.out]; rfl
        clear RS VS hmb hmb'
        obtain ⟨W9, hW9⟩ : ∃ W9, two WB (w.heap.size + 1) (.string (decB m)) (.string (decB e)) = W9 := ⟨_, rfl⟩
        have R9 : B2 W9 (w.heap.size + 1) (.string (decB m)) (.string (decB e)) := by rw [← hW9]; exact JR.out.set _ _
        have PP : Hid (OpPost (raR (zv false p) d) w (.returned (.tuple #[.agg #[.string (decB m), .string (decB e)], .int .i64 0])) W9) := by
          rw [← hW9]
          exact ⟨by rw [RS2.out], below_two JB.out (by omega) _ _⟩
        have c0 := JR.out.c0
        have c1' := JR.out.c1
        have cf0 := JR.out.fr 0
        have cf1 := JR.out.fr 1
        obtain ⟨r0, r1, _, _⟩ := id R9
        unfold two at hW9
        clear R9
        go_wp2_with fail
        exact bodyPost_ret (v := .tuple #[.agg #[.string (decB m), .string (decB e)], .int .i64 0]) (by simp [results, Tryz.results26, go_sem, r0, r1]) rfl PP.out
      · rcases Nat.eq_zero_or_pos nk with e0 | e0
        · subst e0
          have RS2 : Hid (raR (zv true p) d = (decB m, decB e, 0)) := by
            unfold Hid
            rw [RS.out, VS.out]
            have : ¬ 0 < m := fun h => absurd (HL.out.2 h) (by omega)
            simp [this]
          clear RS VS HL hmb hmb'
          obtain ⟨W9, hW9⟩ : ∃ W9, two WB (w.heap.size + 1) (.string (decB m)) (.string (decB e)) = W9 := ⟨_, rfl⟩
          have R9 : B2 W9 (w.heap.size + 1) (.string (decB m)) (.string (decB e)) := by rw [← hW9]; exact JR.out.set _ _
          have PP : Hid (OpPost (raR (zv true p) d) w (.returned (.tuple #[.agg #[.string (decB m), .string (decB e)], .int .i64 0])) W9) := by
            rw [← hW9]
            exact ⟨by rw [RS2.out], below_two JB.out (by omega) _ _⟩
          have c0 := JR.out.c0
          have c1' := JR.out.c1
          have cf0 := JR.out.fr 0
          have cf1 := JR.out.fr 1
          obtain ⟨r0, r1, _, _⟩ := id R9
          unfold two at hW9
          clear R9
          go_wp2_with fail
          exact bodyPost_ret (v := .tuple #[.agg #[.string (decB m), .string (decB e)], .int .i64 0]) (by simp [results, Tryz.results26, go_sem, r0, r1]) rfl PP.out
        · have e0' : (0 : Int) < (nk : Int) := by omega
          have hm0 : 0 < m := HL.out.1 e0
          have RS2 : Hid (raR (zv true p) d = (⟨#[45]⟩ ++ decB m, decB e, 0)) := by
            unfold Hid
            rw [RS.out, VS.out]
            simp [hm0]
          clear RS VS HL hm0
          obtain ⟨WC, hWC⟩ : ∃ W, WB.setCell ⟨w5.heap.size, 0, none⟩ (.string (⟨#[45]⟩ ++ decB m)) = W := ⟨_, rfl⟩
          have JR2 : Hid (B2 WC (w.heap.size + 1) (.string ⟨#[]⟩) (.string ⟨#[]⟩)) := by
            rw [← hWC]
            have ne : ∀ o, (⟨w5.heap.size, 0, none⟩ : Addr) ≠ ⟨w.heap.size + 1, o, none⟩ := fun o e => by injection e with e1 _; have := GE.out; omega
            exact ⟨(World.cell?_setCell_other _ _ _ _ (ne 0)).trans JR.out.c0, (World.cell?_setCell_other _ _ _ _ (ne 1)).trans JR.out.c1, fun o => by rw [World.frozen?_setCell]; exact JR.out.fr o, by simpa using JR.out.lt⟩
          have JB2 : Hid (Below w.heap.size w WC) := by
            rw [← hWC]
            exact JB.out.setCell (p := ⟨w5.heap.size, 0, none⟩) (by have := GE.out; show w.heap.size ≤ w5.heap.size; omega) _
          have v0 : WC.cell? ⟨w5.heap.size, 0, none⟩ = some (.string (⟨#[45]⟩ ++ decB m)) := by rw [← hWC]; exact World.cell?_setCell_same _ _ _ p0
          have v1 : WC.cell? ⟨w5.heap.size, 1, none⟩ = some (.string (decB e)) := by rw [← hWC, World.cell?_setCell_other _ _ _ _ (addr_ne (by decide))]; exact p1
          have pf0 := D2.out.fr 0
          clear JR JB D2 J6
          have JR := JR2
          have JB := JB2
          clear JR2 JB2
          obtain ⟨W9, hW9⟩ : ∃ W9, two WC (w.heap.size + 1) (.string (⟨#[45]⟩ ++ decB m)) (.string (decB e)) = W9 := ⟨_, rfl⟩
          have R9 : B2 W9 (w.heap.size + 1) (.string (⟨#[45]⟩ ++ decB m)) (.string (decB e)) := by rw [← hW9]; exact JR.out.set _ _
          have PP : Hid (OpPost (raR (zv true p) d) w (.returned (.tuple #[.agg #[.string (⟨#[45]⟩ ++ decB m), .string (decB e)], .int .i64 0])) W9) := by
            rw [← hW9]
            exact ⟨by rw [RS2.out], below_two JB.out (by omega) _ _⟩
          have c0 := JR.out.c0
          have c1' := JR.out.c1
          have cf0 := JR.out.fr 0
          have cf1 := JR.out.fr 1
          obtain ⟨r0, r1, _, _⟩ := id R9
          unfold two at hW9
          clear R9
          go_wp2_with fail
          exact bodyPost_ret (v := .tuple #[.agg #[.string (⟨#[45]⟩ ++ decB m), .string (decB e)], .int .i64 0]) (by simp [results, Tryz.results26, go_sem, r0, r1]) rfl PP.out
    · have i2 : (2000 : Int) < ((decB e).size : Int) := by omega
      have RS2 : Hid (raR (zv b p) d = (⟨#[]⟩, ⟨#[]⟩, 2)) := by unfold Hid; rw [RS.out]; unfold shV; rw [if_neg (by simp [f2])]
      clear f1 f2 RS hms hes
      obtain ⟨W9, hW9⟩ : ∃ W9, two WB (w.heap.size + 1) (.string ⟨#[]⟩) (.string ⟨#[]⟩) = W9 := ⟨_, rfl⟩
      have R9 : B2 W9 (w.heap.size + 1) (.string ⟨#[]⟩) (.string ⟨#[]⟩) := by rw [← hW9]; exact JR.out.set _ _
      have PP : Hid (OpPost (raR (zv b p) d) w (.returned (.tuple #[.agg #[.string ⟨#[]⟩, .string ⟨#[]⟩], .int .i64 2])) W9) := by
        rw [← hW9]
        exact ⟨by rw [RS2.out], below_two JB.out (by omega) _ _⟩
      have c0 := JR.out.c0
      have c1' := JR.out.c1
      have cf0 := JR.out.fr 0
      have cf1 := JR.out.fr 1
      obtain ⟨r0, r1, _, _⟩ := id R9
      unfold two at hW9
      clear R9
      go_wp2_with fail
      exact bodyPost_ret (v := .tuple #[.agg #[.string ⟨#[]⟩, .string ⟨#[]⟩], .int .i64 2]) (by simp [results, Tryz.results26, go_sem, r0, r1]) rfl PP.out
  · have i1 : (2000 : Int) < ((decB m).size : Int) := by omega
    have RS2 : Hid (raR (zv b p) d = (⟨#[]⟩, ⟨#[]⟩, 2)) := by unfold Hid; rw [RS.out]; unfold shV; rw [if_neg (by simp [f1])]
    clear f1 RS hms hes
    obtain ⟨W9, hW9⟩ : ∃ W9, two WB (w.heap.size + 1) (.string ⟨#[]⟩) (.string ⟨#[]⟩) = W9 := ⟨_, rfl⟩
    have R9 : B2 W9 (w.heap.size + 1) (.string ⟨#[]⟩) (.string ⟨#[]⟩) := by rw [← hW9]; exact JR.out.set _ _
    have PP : Hid (OpPost (raR (zv b p) d) w (.returned (.tuple #[.agg #[.string ⟨#[]⟩, .string ⟨#[]⟩], .int .i64 2])) W9) := by
      rw [← hW9]
      exact ⟨by rw [RS2.out], below_two JB.out (by omega) _ _⟩
    have c0 := JR.out.c0
    have c1' := JR.out.c1
    have cf0 := JR.out.fr 0
    have cf1 := JR.out.fr 1
    obtain ⟨r0, r1, _, _⟩ := id R9
    unfold two at hW9
    clear R9
    go_wp2_with fail
    exact bodyPost_ret (v := .tuple #[.agg #[.string ⟨#[]⟩, .string ⟨#[]⟩], .int .i64 2]) (by simp [results, Tryz.results26, go_sem, r0, r1]) rfl PP.out
end Go.Proofs.YtfijhkaalpinhaaGreatDoor
namespace Go.Proofs.YtfijhkaalpinhaaGreatDoor
open Go.RowKit

/-- What both says. -/
def bk (n d n' d' : List UInt8) : Int := if ck n d = 0 then ck n' d' else ck n d
structure Two (w : World) (s t s' t' : ByteArray) (W : World) : Prop where
  x : B2 W w.heap.size (.string s) (.string t)
  y : B2 W (w.heap.size + 1) (.string s') (.string t')
  bel : Below w.heap.size w W
theorem Two.keep {w : World} {s t s' t' : ByteArray} {W W' : World} (h : Two w s t s' t' W) (hb : Below W.heap.size W W') : Two w s t s' t' W' :=
  ⟨h.x.keep hb, h.y.keep hb, h.bel.trans (hb.mono h.bel.size)⟩
theorem Two.made (w : World) (s t s' t' : ByteArray) (T1 T2 : TypeId) : Two w s t s' t' ((w.alloc (.cells #[.string s, .string t] T1)).alloc (.cells #[.string s', .string t'] T2)) :=
  have s1 : (w.alloc (.cells #[.string s, .string t] T1)).heap.size = w.heap.size + 1 := by simp
  ⟨(B2.made w _ _ _).keep (bel_one _ _), by rw [← s1]; exact B2.made _ _ _ _, ((Below.refl _ _).alloc (Nat.le_refl _) _).alloc (by simp) _⟩
set_option maxRecDepth 100000 in
set_option maxHeartbeats 4000000 in
theorem both_c (s t s' t' : ByteArray) (w : World) (hE : Pow w) :
    Calls Tryz.prog 36 #[.agg #[.string s, .string t], .agg #[.string s', .string t']] w fun e w' => e = .returned (.int .i64 (bk s.data.toList t.data.toList s'.data.toList t'.data.toList)) ∧ Below w.heap.size w w' := by
  obtain ⟨W0, hW0⟩ : ∃ W0, (w.alloc (.cells #[.string s, .string t] 23)).alloc (.cells #[.string s', .string t'] 23) = W0 := ⟨_, rfl⟩
  have J0 : Hid (Two w s t s' t' W0) := by rw [← hW0]; exact Two.made _ _ _ _ _ _ _
  have HE := Lib.hid hE
  have C1 := Lib.hid (fun w hE => rCheckRatio_c s t w hE)
  have C2 := Lib.hid (fun w hE => rCheckRatio_c s' t' w hE)
  have RS : Hid (bk s.data.toList t.data.toList s'.data.toList t'.data.toList = if ck s.data.toList t.data.toList = 0 then ck s'.data.toList t'.data.toList else ck s.data.toList t.data.toList) := rfl
  unfold CkPost at C1 C2
  generalize ck s.data.toList t.data.toList = p at *
  generalize ck s'.data.toList t'.data.toList = q at *
  generalize bk s.data.toList t.data.toList s'.data.toList t'.data.toList = r at *
  clear hE
  have x0 := J0.out.x.c0
  have x1 := J0.out.x.c1
  go_enter Tryz.func36, Tryz.ntmps36
  go_wp2_with fail
  clear hW0 x0 x1
  refine (C1.out _ (HE.out.below J0.out.bel)).mono ?_
  rintro e w1 ⟨rfl, b1⟩
  have J1 := Lib.hid (J0.out.keep b1)
  clear b1 J0
  by_cases hp : p = 0
  · subst hp
    have RS2 : Hid (r = q) := by unfold Hid; rw [RS.out, if_pos rfl]
    have y0 := J1.out.y.c0
    have y1 := J1.out.y.c1
    go_wp2_with fail
    refine (C2.out _ (HE.out.below J1.out.bel)).mono ?_
    rintro e w2 ⟨rfl, b2⟩
    have BB := Lib.hid (J1.out.bel.trans (b2.mono J1.out.bel.size))
    clear b2
    go_wp2_with fail
    go_ret
    exact ⟨by rw [RS2.out]; rfl, BB.out⟩
  · have hne : (p == 0) = false := by rw [beq_eq_false_iff_ne]; exact hp
    have hne2 : (p != 0) = true := by simp [hp]
    have RS2 : Hid (r = p) := by unfold Hid; rw [RS.out, if_neg hp]
    go_wp2_with fail
    go_ret
    exact ⟨by rw [RS2.out]; rfl, J1.out.bel⟩
end Go.Proofs.YtfijhkaalpinhaaGreatDoor
namespace Go.Proofs.YtfijhkaalpinhaaGreatDoor
open Go.RowKit

/-- A fraction's three cells. -/
structure Rq where
  b : Bool
  a : Option Addr
  k : Nat
  c : Nat
  a' : Option Addr
  k' : Nat
  c' : Nat
abbrev B3q (W : World) (g : Nat) (f : Rq) : Prop := B3 W g (.bool f.b) (.slice f.a f.k f.c) (.slice f.a' f.k' f.c')
/-- The cells of two arguments. -/
def S22 (g : Nat) (s t s' t' : ByteArray) (W : World) : Prop :=
  W.cell? ⟨g, 0, none⟩ = some (.string s) ∧ W.cell? ⟨g, 1, none⟩ = some (.string t) ∧ W.cell? ⟨g + 1, 0, none⟩ = some (.string s') ∧ W.cell? ⟨g + 1, 1, none⟩ = some (.string t')
/-- The cells of two fractions. -/
def S33 (g h : Nat) (f q : Rq) (W : World) : Prop :=
  W.cell? ⟨g, 0, none⟩ = some (.bool f.b) ∧ W.cell? ⟨g, 1, none⟩ = some (.slice f.a f.k f.c) ∧ W.cell? ⟨g, 2, none⟩ = some (.slice f.a' f.k' f.c') ∧
  W.cell? ⟨h, 0, none⟩ = some (.bool q.b) ∧ W.cell? ⟨h, 1, none⟩ = some (.slice q.a q.k q.c) ∧ W.cell? ⟨h, 2, none⟩ = some (.slice q.a' q.k' q.c')
theorem Sa.s22 {w : World} {s t s' t' : ByteArray} {W : World} (h : Sa w s t s' t' W) : S22 w.heap.size s t s' t' W := ⟨h.x.c0, h.x.c1, h.y.c0, h.y.c1⟩
theorem Two.s22 {w : World} {s t s' t' : ByteArray} {W : World} (h : Two w s t s' t' W) : S22 w.heap.size s t s' t' W := ⟨h.x.c0, h.x.c1, h.y.c0, h.y.c1⟩
theorem Sa.three {w : World} {s t s' t' : ByteArray} {W : World} (h : Sa w s t s' t' W) {g : Nat} (hg : w.heap.size + 1 + 1 < g) (y0 y1 y2 : Value) : Sa w s t s' t' (three W g y0 y1 y2) :=
  ⟨h.x.other3 (by omega) _ _ _, h.y.other3 (by omega) _ _ _, h.r.other3 (by omega) _ _ _, below_three h.bel (by omega) _ _ _⟩
theorem Two.three {w : World} {s t s' t' : ByteArray} {W : World} (h : Two w s t s' t' W) {g : Nat} (hg : w.heap.size + 1 < g) (y0 y1 y2 : Value) : Two w s t s' t' (three W g y0 y1 y2) :=
  ⟨h.x.other3 (by omega) _ _ _, h.y.other3 (by omega) _ _ _, below_three h.bel (by omega) _ _ _⟩
theorem Sa.lo {w : World} {s t s' t' : ByteArray} {W : World} (h : Sa w s t s' t' W) : w.heap.size + 1 + 1 < W.heap.size := h.r.lt
theorem Two.lo {w : World} {s t s' t' : ByteArray} {W : World} (h : Two w s t s' t' W) : w.heap.size + 1 < W.heap.size := h.y.lt
/-- Two fractions in boxes. -/
structure Od (w : World) (lo g h : Nat) (f q : Rq) (x y x' y' : Int) (W : World) : Prop where
  bf : B3q W g f
  bh : B3q W h q
  n : Nt W f.a f.k f.c x.natAbs
  d : Nt W f.a' f.k' f.c' y.natAbs
  n' : Nt W q.a q.k q.c x'.natAbs
  d' : Nt W q.a' q.k' q.c' y'.natAbs
  fb : f.b = decide (x < 0)
  qb : q.b = decide (x' < 0)
  lf : lo < g
  lh : lo < h
  bel : Below w.heap.size w W
theorem Od.keep {w : World} {lo g h : Nat} {f q : Rq} {x y x' y' : Int} {W W' : World} (o : Od w lo g h f q x y x' y' W) (hb : Below W.heap.size W W') : Od w lo g h f q x y x' y' W' :=
  ⟨o.bf.keep hb, o.bh.keep hb, o.n.below hb, o.d.below hb, o.n'.below hb, o.d'.below hb, o.fb, o.qb, o.lf, o.lh, o.bel.trans (hb.mono o.bel.size)⟩
theorem Od.s33 {w : World} {lo g h : Nat} {f q : Rq} {x y x' y' : Int} {W : World} (o : Od w lo g h f q x y x' y' W) : S33 g h f q W := ⟨o.bf.c0, o.bf.c1, o.bf.c2, o.bh.c0, o.bh.c1, o.bh.c2⟩
theorem Od.done {w : World} {lo g h : Nat} {f q : Rq} {x y x' y' : Int} {W : World} (o : Od w lo g h f q x y x' y' W) (y0 y1 : Value) : S33 g h f q (two W lo y0 y1) :=
  have hf := o.lf; have hh := o.lh
  ⟨(o.bf.other2 (by omega) _ _).c0, (o.bf.other2 (by omega) _ _).c1, (o.bf.other2 (by omega) _ _).c2, (o.bh.other2 (by omega) _ _).c0, (o.bh.other2 (by omega) _ _).c1, (o.bh.other2 (by omega) _ _).c2⟩
/-! ### Bounds, signs -/
theorem tp_mul_lt {a b i j : Nat} (ha : a < tp i) (hb : b < tp j) : a * b < tp (i + j) := by
  rw [tp_add]
  exact Nat.mul_lt_mul_of_lt_of_le ha (Nat.le_of_lt hb) (tp_pos j)
theorem tp_sum_lt {a b i : Nat} (ha : a < tp i) (hb : b < tp i) : a + b < tp (i + 1) := by
  rw [tp_succ]
  omega
theorem zv_dec (x : Int) : zv (decide (x < 0)) x.natAbs = x := by
  by_cases h : x < 0
  · rw [decide_eq_true h, zv_true]; omega
  · rw [decide_eq_false h, zv_false]; omega
theorem zv_times (x y : Int) (hy : 0 < y) : zv (decide (x < 0)) (x.natAbs * y.natAbs) = x * y := by
  have h := zv_mul (decide (x < 0)) false x.natAbs y.natAbs
  rw [zv_dec, zv_false, Int.natAbs_of_nonneg (by omega)] at h
  have e : (decide (x < 0) != false) = decide (x < 0) := by cases decide (x < 0) <;> rfl
  rw [e] at h
  exact h
/-- both's answer, and the parts. -/
theorem bk_zero {n d n' d' : List UInt8} (h : bk n d n' d' = 0) : ∃ x y x' y', rread n d = some (x, y) ∧ rread n' d' = some (x', y') := by
  unfold bk at h
  have k : ∀ {n d}, ck n d = 0 → ∃ x y, rread n d = some (x, y) := fun {n d} h => by
    unfold ck at h
    cases e : rread n d with
    | some p => exact ⟨p.1, p.2, rfl⟩
    | none => rw [e, if_neg (by simp)] at h; exact absurd h (rflt_ne _ _)
  by_cases h1 : ck n d = 0
  · rw [if_pos h1] at h
    obtain ⟨x, y, e1⟩ := k h1
    obtain ⟨x', y', e2⟩ := k h
    exact ⟨x, y, x', y', e1, e2⟩
  · rw [if_neg h1] at h
    exact absurd h h1
theorem bk_opS {F : Int → Int → Int → Int → Int × Int} {n d n' d' : List UInt8} (h : bk n d n' d' ≠ 0) : opS F n d n' d' = (⟨#[]⟩, ⟨#[]⟩, bk n d n' d') := by
  unfold opS
  unfold bk at h ⊢
  cases e : rread n d with
  | none =>
    rw [ck_none e, if_neg (rflt_ne _ _)]
  | some p =>
    rw [ck_some e, if_pos rfl] at h ⊢
    cases e2 : rread n' d' with
    | none => rw [ck_none e2]
    | some q => rw [ck_some e2] at h; exact absurd rfl h
theorem bk_orS {n d n' d' : List UInt8} (h : bk n d n' d' ≠ 0) : orS n d n' d' = (0, bk n d n' d') := by
  unfold orS
  unfold bk at h ⊢
  cases e : rread n d with
  | none =>
    rw [ck_none e, if_neg (rflt_ne _ _)]
  | some p =>
    rw [ck_some e, if_pos rfl] at h ⊢
    cases e2 : rread n' d' with
    | none => rw [ck_none e2]
    | some q => rw [ck_some e2] at h; exact absurd rfl h
end Go.Proofs.YtfijhkaalpinhaaGreatDoor
