/-
  Package edit: the reference's Fails and Passes, with all errors.
  Package edit: the reference's search.
  Package edit: First of the reference.
  Package edit: First of the reference, with all errors.
-/
import Derived.Test.YtadfmplafehjlaaDoorEP10
import Derived.Laws.OwnMore
namespace Go.Proofs.YtadfmplafehjlaaDoor
open Go.RowKit Go.WideMaps Go.Maps

set_option maxRecDepth 100000 in
set_option maxHeartbeats 4000000 in
theorem rFails_c (a : Option Addr) (c : Nat) (l : List Fd) (a2 : Option Addr) (c2 : Nat) (E : List Ed) (a3 : Option Addr) (c3 : Nat) (r : List Int) (w : World) (hl : RdF w a l) (hE : RdE w a2 E) (hr : Rd w a3 r) (hEnv : Env w) (hc1 : l.length ≤ c) (hc2 : E.length ≤ c2) :
    Calls Tryd.prog 9 #[.agg #[.slice a l.length c, .slice a2 E.length c2], .slice a3 r.length c3] w (FaP l E r w) := by
  obtain ⟨W1, hW1⟩ : ∃ W, w.alloc (.cells #[.slice a l.length c, .slice a2 E.length c2] 25) = W := ⟨_, rfl⟩
  have b1 : Below w.heap.size w W1 := by rw [← hW1]; exact bel_one _ _
  have B1 := Lib.hid b1
  have x0 : W1.cell? ⟨w.heap.size, 0, none⟩ = some (.slice a l.length c) := by rw [← hW1, World.cell?_alloc_new]; rfl
  have x1 : W1.cell? ⟨w.heap.size, 1, none⟩ = some (.slice a2 E.length c2) := by rw [← hW1, World.cell?_alloc_new]; rfl
  have X : Hid (∀ V, Below W1.heap.size W1 V → V.cell? ⟨w.heap.size, 0, none⟩ = some (.slice a l.length c) ∧ V.cell? ⟨w.heap.size, 1, none⟩ = some (.slice a2 E.length c2)) := fun V hV =>
    ⟨(hV.cell (p := ⟨w.heap.size, 0, none⟩) (cellLt x0)).trans x0, (hV.cell (p := ⟨w.heap.size, 1, none⟩) (cellLt x1)).trans x1⟩
  have C1 : Hid (Calls Tryd.prog 29 #[.agg #[.slice a l.length c, .slice a2 E.length c2]] W1 (IntP (planS l E) W1)) := rCheckPlan_c a c l a2 c2 E W1 (hl.below b1) (hE.below b1) (hEnv.below b1) hc1 hc2
  have C2 : Hid (∀ V, Below w.heap.size w V → Calls Tryd.prog 30 #[.agg #[.slice a l.length c, .slice a2 E.length c2], .slice a3 r.length c3] V (IvP (.int .i64 (recE l.length r)) V)) := fun V hV =>
    rcheckRec_c a c l.length a2 E.length c2 a3 c3 r V hl.1 (hr.below hV)
  have C3 : Hid (∀ V, Below w.heap.size w V → Ok l E → RecOk l r → Calls Tryd.prog 31 #[.agg #[.slice a l.length c, .slice a2 E.length c2], .slice a3 r.length c3] V (NuP (toI (flL E r)) V)) := fun V hV hok hrk =>
    rfailed_c a l.length c a2 c2 E a3 c3 r V (hE.below hV) (hr.below hV) hok.m60 fun n hn => by rw [hok.sl n hn, hrk.1]
  obtain ⟨f, hf⟩ : ∃ f, recE l.length r = f := ⟨_, rfl⟩
  obtain ⟨g, hg⟩ : ∃ f, planS l E = f := ⟨_, rfl⟩
  unfold IntP at C1
  unfold IvP at C2
  rw [hf] at C2
  rw [hg] at C1
  have HF : Hid (frS l E r = if g ≠ 0 then g else f) := by unfold Hid frS; rw [hg, hf]
  have HG := Lib.hid hg
  obtain ⟨n, hn⟩ : ∃ n, l.length = n := ⟨_, rfl⟩
  obtain ⟨m, hm⟩ : ∃ n, E.length = n := ⟨_, rfl⟩
  obtain ⟨k, hk⟩ : ∃ n, r.length = n := ⟨_, rfl⟩
  rw [hn] at C1 C2 C3 x0 hW1 X
  rw [hm] at C1 C2 C3 x1 hW1 X
  rw [hk] at C2 C3
  rw [hn, hm, hk]
  clear hl hE hr hEnv hc1 hc2 b1 hf hg hn hm hk
  go_enter Tryd.func9, Tryd.ntmps9
  go_wp2_with fail
  refine C1.out.mono ?_
  rintro e1 w2 ⟨rfl, b2⟩
  have XB := Lib.hid b2
  have B2 : Hid (Below w.heap.size w w2) := B1.out.trans (b2.mono B1.out.size)
  obtain ⟨y0, y1⟩ := X.out w2 XB.out
  clear b2 x0 x1 hW1
  by_cases h0 : g = 0
  · subst h0
    have C4 := Lib.hid (C2.out w2 B2.out)
    clear C1 C2
    go_wp2_with fail
    refine C4.out.mono ?_
    rintro e1 w3 ⟨rfl, b3⟩
    have XB3 : Hid (Below W1.heap.size W1 w3) := XB.out.trans (b3.mono XB.out.size)
    have B3 : Hid (Below w.heap.size w w3) := B2.out.trans (b3.mono B2.out.size)
    obtain ⟨z0, z1⟩ := X.out w3 XB3.out
    have HF2 : Hid (frS l E r = f) := by unfold Hid; rw [HF.out]; simp
    clear b3 y0 y1 C4 HF
    by_cases h1 : f = 0
    · have hfr := fr_ok (HF2.out.trans h1)
      have C5 := Lib.hid (C3.out w3 B3.out hfr.1 hfr.2)
      have HOK := Lib.hid hfr
      have H0 := Lib.hid (HF2.out.trans h1)
      subst h1
      unfold NuP at C5
      clear hfr C3 HF2
      go_wp2_with fail
      refine C5.out.mono ?_
      rintro e1 w6 ⟨v, rfl, hv, b6⟩
      obtain ⟨av, cv, hve, hrd⟩ := rdI_own hv (by rw [toI_len]; have := lst_len (flB E r) E.length; have := HOK.out.1.m60; show (lst _ _).length ≤ _; omega)
      have PP : Hid (FaP l E r w (.returned (.tuple #[v, .int .i64 0])) w6) := by
        refine ⟨B3.out.trans (b6.mono B3.out.size), .inr ⟨H0.out, av, cv, ?_, hrd⟩⟩
        rw [hve]
      clear hv b6 hve hrd C5
      go_wp2
      go_ret2
      exact PP.out
    · have g2 : (f != 0) = true := by simpa using h1
      have PP : Hid (FaP l E r w (.returned (.tuple #[.slice none 0 0, .int .i64 f])) w3) := by
        refine ⟨B3.out, .inl ⟨?_, ?_⟩⟩
        · rw [HF2.out]; exact h1
        · rw [HF2.out]
      clear C3 h1
      go_wp2
      go_ret2
      exact PP.out
  · have g2 : (g != 0) = true := by simpa using h0
    have PP : Hid (FaP l E r w (.returned (.tuple #[.slice none 0 0, .int .i64 g])) w2) := by
      refine ⟨B2.out, .inl ⟨?_, ?_⟩⟩
      · rw [HF.out, if_pos h0]; exact h0
      · rw [HF.out, if_pos h0]
    clear C1 C2 C3 h0
    go_wp2
    go_ret2
    exact PP.out
set_option maxRecDepth 100000 in
set_option maxHeartbeats 4000000 in
theorem rPasses_c (a : Option Addr) (c : Nat) (l : List Fd) (a2 : Option Addr) (c2 : Nat) (E : List Ed) (a3 : Option Addr) (c3 : Nat) (r : List Int) (w : World) (hl : RdF w a l) (hE : RdE w a2 E) (hr : Rd w a3 r) (hEnv : Env w) (hc1 : l.length ≤ c) (hc2 : E.length ≤ c2) :
    Calls Tryd.prog 12 #[.agg #[.slice a l.length c, .slice a2 E.length c2], .slice a3 r.length c3] w (PsP l E r w) := by
  obtain ⟨W1, hW1⟩ : ∃ W, w.alloc (.cells #[.slice a l.length c, .slice a2 E.length c2] 25) = W := ⟨_, rfl⟩
  have b1 : Below w.heap.size w W1 := by rw [← hW1]; exact bel_one _ _
  have B1 := Lib.hid b1
  have x0 : W1.cell? ⟨w.heap.size, 0, none⟩ = some (.slice a l.length c) := by rw [← hW1, World.cell?_alloc_new]; rfl
  have x1 : W1.cell? ⟨w.heap.size, 1, none⟩ = some (.slice a2 E.length c2) := by rw [← hW1, World.cell?_alloc_new]; rfl
  have X : Hid (∀ V, Below W1.heap.size W1 V → V.cell? ⟨w.heap.size, 0, none⟩ = some (.slice a l.length c) ∧ V.cell? ⟨w.heap.size, 1, none⟩ = some (.slice a2 E.length c2)) := fun V hV =>
    ⟨(hV.cell (p := ⟨w.heap.size, 0, none⟩) (cellLt x0)).trans x0, (hV.cell (p := ⟨w.heap.size, 1, none⟩) (cellLt x1)).trans x1⟩
  have C1 : Hid (Calls Tryd.prog 9 #[.agg #[.slice a l.length c, .slice a2 E.length c2], .slice a3 r.length c3] W1 (FaP l E r W1)) := rFails_c a c l a2 c2 E a3 c3 r W1 (hl.below b1) (hE.below b1) (hr.below b1) (hEnv.below b1) hc1 hc2
  have C3 : Hid (∀ V, Below w.heap.size w V → Ok l E → RecOk l r → Calls Tryd.prog 33 #[.agg #[.slice a l.length c, .slice a2 E.length c2], .slice a3 r.length c3] V (IvP (.bool (paB l E r)) V)) := fun V hV hok hrk =>
    rpasses_c a c l a2 c2 E a3 c3 r V (hl.below hV) (hE.below hV) (hr.below hV) hok hrk.1
  obtain ⟨f, hf⟩ : ∃ f, frS l E r = f := ⟨_, rfl⟩
  have HF := Lib.hid hf
  obtain ⟨q, hq⟩ : ∃ q, paB l E r = q := ⟨_, rfl⟩
  have HQ := Lib.hid hq
  unfold FaP at C1
  unfold IvP at C3
  rw [hf] at C1
  rw [hq] at C3
  obtain ⟨n, hn⟩ : ∃ n, l.length = n := ⟨_, rfl⟩
  obtain ⟨m, hm⟩ : ∃ n, E.length = n := ⟨_, rfl⟩
  obtain ⟨k, hk⟩ : ∃ n, r.length = n := ⟨_, rfl⟩
  rw [hn] at C1 C3 x0 hW1 X
  rw [hm] at C1 C3 x1 hW1 X
  rw [hk] at C1 C3
  rw [hn, hm, hk]
  clear hl hE hr hEnv hc1 hc2 b1 hf hn hm hk hq
  go_enter Tryd.func12, Tryd.ntmps12
  go_wp2_with fail
  refine C1.out.mono ?_
  rintro e1 w2 ⟨b2, h2⟩
  have XB := Lib.hid b2
  have B2 : Hid (Below w.heap.size w w2) := B1.out.trans (b2.mono B1.out.size)
  obtain ⟨y0, y1⟩ := X.out w2 XB.out
  clear b2 x0 x1 hW1
  rcases h2 with ⟨h0, rfl⟩ | ⟨h0, av, cv, rfl, _⟩
  · have g2 : (f != 0) = true := by simpa using h0
    have PP : Hid (PsP l E r w (.returned (.tuple #[.bool false, .int .i64 f])) w2) := by
      refine ⟨B2.out, .inl ⟨?_, ?_⟩⟩
      · rw [HF.out]; exact h0
      · rw [HF.out]
    clear C1 C3 h0
    go_wp2
    go_ret2
    exact PP.out
  · have hfr := fr_ok (HF.out.trans h0)
    have C5 := Lib.hid (C3.out w2 B2.out hfr.1 hfr.2)
    have H0 := Lib.hid (HF.out.trans h0)
    subst h0
    clear hfr C3 HF C1
    obtain ⟨zl, hzl⟩ : ∃ z, (toI (flL E r)).length = z := ⟨_, rfl⟩
    rw [hzl]
    clear hzl
    go_wp2_with fail
    refine C5.out.mono ?_
    rintro e1 w6 ⟨rfl, b6⟩
    have PP : Hid (PsP l E r w (.returned (.tuple #[.bool q, .int .i64 0])) w6) := by
      refine ⟨B2.out.trans (b6.mono B2.out.size), .inr ⟨H0.out, ?_⟩⟩
      rw [HQ.out]
    clear b6 C5
    go_wp2
    go_ret2
    exact PP.out
end Go.Proofs.YtadfmplafehjlaaDoor
namespace Go.Proofs.YtadfmplafehjlaaDoor
open Go.RowKit Go.WideMaps Go.Maps

/-- Two records that differ in some fields alone. -/
def AgR (f : List Nat) (a b : List Int) : Prop := a.length = b.length ∧ ∀ j, j < a.length → j ∉ f → fn a j = fn b j
theorem AgR.refl (f : List Nat) (a : List Int) : AgR f a a := ⟨rfl, fun _ _ _ => rfl⟩
theorem AgR.trans {f : List Nat} {a b c : List Int} (h : AgR f a b) (k : AgR f b c) : AgR f a c :=
  ⟨h.1.trans k.1, fun j hj hn => (h.2 j hj hn).trans (k.2 j (by rw [← h.1]; exact hj) hn)⟩
theorem AgR.set {f : List Nat} {a b : List Int} {i : Nat} (c : Int) (h : AgR (i :: f) a b) (hi : i < a.length) : AgR f (a.set i c) (b.set i c) :=
  ⟨by simp [h.1], fun j hj hn => by
    have hj : j < a.length := by simpa using hj
    rw [fn_set hi, fn_set (by rw [← h.1]; exact hi)]
    by_cases e : j = i
    · rw [if_pos e, if_pos e]
    · rw [if_neg e, if_neg e]; exact h.2 j hj (by simp [e, hn])⟩
theorem AgR.more {f : List Nat} {a b : List Int} (i : Nat) (h : AgR f a b) : AgR (i :: f) a b :=
  ⟨h.1, fun j hj hn => h.2 j hj (fun e => hn (by simp [e]))⟩
theorem AgR.put {f : List Nat} {a : List Int} {i : Nat} (c : Int) (hi : i < a.length) : AgR (i :: f) (a.set i c) a :=
  ⟨by simp, fun j hj hn => by rw [fn_set hi, if_neg (fun e => hn (by simp [e]))]⟩
theorem fil_agr {l : List Fd} {E : List Ed} : ∀ (f : List Nat) (a b : List Int), (∀ x, x ∈ f → x < a.length) → AgR f a b → fil l E f a = fil l E f b
  | [], a, b, _, h => by
    have e : a = b := list_fn h.1 fun j hj => h.2 j hj (by simp)
    rw [e]
  | i :: f, a, b, hx, h => by
    show (fd l i).cs.findSome? _ = (fd l i).cs.findSome? _
    have hi := hx i (by simp)
    refine fs_congr fun c _ => ?_
    exact fil_agr f _ _ (fun x hm => by rw [List.length_set]; exact hx x (by simp [hm])) (h.set c hi)
theorem fs_none {β : Type} {F : Int → Option β} {cs : List Int} (h : ∀ q, q < cs.length → F (fn cs q) = none) : cs.findSome? F = none := by
  rw [List.findSome?_eq_none_iff]
  intro x hx
  obtain ⟨k, hk, rfl⟩ := List.getElem_of_mem hx
  have := h k hk
  unfold fn at this
  simpa [List.getD, hk] using this
theorem fs_some {β : Type} {F : Int → Option β} : ∀ {cs : List Int} {j : Nat} {y : β}, j < cs.length → (∀ q, q < j → F (fn cs q) = none) → F (fn cs j) = some y → cs.findSome? F = some y
  | [], _, _, hj, _, _ => by simp at hj
  | c :: cs, 0, y, _, _, h => by
    have h : F c = some y := h
    rw [List.findSome?_cons, h]
  | c :: cs, j + 1, y, hj, h0, h => by
    have h1 : F c = none := h0 0 (by omega)
    rw [List.findSome?_cons, h1]
    exact fs_some (j := j) (by simpa using hj) (fun q hq => h0 (q + 1) (by omega)) h
/-- A record in memory that is written to. -/
structure NowAt (w : World) (nb o : Nat) (r : List Int) : Prop where
  lt : nb < w.heap.size
  at_ : ∀ j, j < r.length → w.cell? ⟨nb, o + j, none⟩ = some (.int .i64 (fn r j))
  fr : ∀ o, w.frozen? ⟨nb, o, none⟩ = false
theorem NowAt.rd {w : World} {nb o : Nat} {r : List Int} (h : NowAt w nb o r) (hl : r.length ≤ 9223372036854775807) : Rd w (some ⟨nb, o, none⟩) r := ⟨hl, fun _ => ⟨nb, o, rfl, h.lt, h.at_⟩⟩
theorem NowAt.below {w w' : World} {nb o : Nat} {r : List Int} (h : NowAt w nb o r) (hb : Below w.heap.size w w') : NowAt w' nb o r :=
  ⟨Nat.lt_of_lt_of_le h.lt hb.size, fun j hj => (hb.cell (p := ⟨nb, o + j, none⟩) h.lt).trans (h.at_ j hj), fun q => (hb.frozen (p := ⟨nb, q, none⟩) h.lt).trans (h.fr q)⟩
theorem NowAt.set {w : World} {nb o : Nat} {r : List Int} (h : NowAt w nb o r) {i : Nat} (hi : i < r.length) (c : Int) : NowAt (w.setCell ⟨nb, o + i, none⟩ (.int .i64 c)) nb o (r.set i c) := by
  refine ⟨by simpa using h.lt, fun j hj => ?_, fun q => by rw [World.frozen?_setCell]; exact h.fr q⟩
  have hj2 : j < r.length := by simpa using hj
  rw [fn_set hi]
  by_cases e : j = i
  · rw [if_pos e, e, World.cell?_setCell_same _ _ _ (h.at_ i hi)]
  · rw [World.cell?_setCell_other _ _ _ _ (fun q => by injection q with _ q; omega), if_neg e, h.at_ j hj2]
theorem kx_set {w : World} {nb o : Nat} {v : Value} : Kx (fun b => b = nb) w (w.setCell ⟨nb, o, none⟩ v) :=
  Kx.of_grown (r := nb) (grown_set w _ _ _) (.inl rfl)
/-- What fill does. -/
def FilP (l : List Fd) (E : List Ed) (g : List Nat) (r : List Int) (nb o : Nat) (w : World) (e : Ending) (w' : World) : Prop :=
  Kx (fun b => b = nb) w w' ∧ ((∃ r', fil l E g r = some r' ∧ r'.length = r.length ∧ e = .returned (.bool true) ∧ NowAt w' nb o r') ∨
    (fil l E g r = none ∧ e = .returned (.bool false) ∧ ∃ r', AgR g r' r ∧ NowAt w' nb o r'))
theorem drop_at {f g : List Nat} {k i : Nat} (h : f.drop k = i :: g) : k < f.length ∧ f.drop (k + 1) = g ∧ fn (toI f) k = (i : Int) := by
  have hk : k < f.length := by
    rcases Nat.lt_or_ge k f.length with q | q
    · exact q
    · rw [List.drop_eq_nil_of_le q] at h; cases h
  have e := List.drop_eq_getElem_cons hk
  rw [h] at e
  injection e with e1 e2
  refine ⟨hk, e2.symm, ?_⟩
  unfold fn toI
  rw [List.getD_eq_getElem?_getD, List.getElem?_map, List.getElem?_eq_getElem hk, ← e1]
  rfl
set_option maxRecDepth 100000 in
set_option maxHeartbeats 8000000 in
theorem fill_c (a : Option Addr) (c : Nat) (l : List Fd) (a2 : Option Addr) (c2 : Nat) (E : List Ed) (fa : Option Addr) (fc : Nat) (f : List Nat) (nb o nc : Nat) (w0 : World) (hl : RdF w0 a l) (hE : RdE w0 a2 E) (hf : Rd w0 fa (toI f)) (hok : Ok l E) (hn : w0.heap.size ≤ nb) (hfl : ∀ x, x ∈ f → x < l.length) :
    ∀ (g : List Nat) (k : Nat) (r : List Int) (w : World), k ≤ f.length → f.drop k = g → r.length = l.length → Below w0.heap.size w0 w → NowAt w nb o r →
    Calls Tryd.prog 60 #[.agg #[.slice a l.length c, .slice a2 E.length c2], .slice (some ⟨nb, o, none⟩) l.length nc, .slice fa (toI f).length fc, .int .i64 k] w (FilP l E g r nb o w) := by
  have HL := Lib.hid hl
  have HE := Lib.hid hE
  have HFR := Lib.hid hf
  have HOK := Lib.hid hok
  have HNB := Lib.hid hn
  have HFL := Lib.hid hfl
  obtain ⟨n, hnn⟩ : ∃ n, l.length = n := ⟨_, rfl⟩
  obtain ⟨m, hm⟩ : ∃ n, E.length = n := ⟨_, rfl⟩
  have HN := Lib.hid hnn
  have HM := Lib.hid hm
  have n12 : n ≤ 12 := by rw [← hnn]; exact hok.n12
  obtain ⟨fl, hfll⟩ : ∃ n, (toI f).length = n := ⟨_, rfl⟩
  have HFLL := Lib.hid hfll
  have fl64 : fl ≤ 9223372036854775807 := by rw [← hfll]; exact hf.1
  rw [hfll, hnn, hm]
  clear hl hE hf hok hn hfl hnn hm hfll
  intro g
  induction g with
  | nil =>
    intro k r w hkl hd hrl0 hb hN
    have hrl : r.length = l.length := hrl0.trans HN.out.symm
    have ek : k = fl := by
      have h1 : f.length ≤ k := List.drop_eq_nil_iff.1 hd
      have h2 := HFLL.out
      rw [toI_len] at h2; omega
    subst ek
    obtain ⟨W1, hW1⟩ : ∃ W, w.alloc (.cells #[.slice a n c, .slice a2 m c2] 25) = W := ⟨_, rfl⟩
    have b1 : Below w.heap.size w W1 := by rw [← hW1]; exact bel_one _ _
    have B1 := Lib.hid b1
    have bw1 : Below w0.heap.size w0 W1 := hb.trans (b1.mono hb.size)
    have x0 : W1.cell? ⟨w.heap.size, 0, none⟩ = some (.slice a n c) := by rw [← hW1, World.cell?_alloc_new]; rfl
    have x1 : W1.cell? ⟨w.heap.size, 1, none⟩ = some (.slice a2 m c2) := by rw [← hW1, World.cell?_alloc_new]; rfl
    have C := rpasses_c a c l a2 c2 E (some ⟨nb, o, none⟩) nc r W1 (HL.out.below bw1) (HE.out.below bw1) ((hN.below b1).rd (by have := HOK.out.n12; omega)) HOK.out hrl
    unfold IvP at C
    rw [hrl, HN.out, HM.out] at C
    have C := Lib.hid C
    obtain ⟨q, hq⟩ : ∃ q, paB l E r = q := ⟨_, rfl⟩
    rw [hq] at C
    have PP : Hid (∀ V, Below W1.heap.size W1 V → FilP l E [] r nb o w (.returned (.bool q)) V) := fun V hV => by
      have b2 := b1.trans (hV.mono b1.size)
      refine ⟨Kx.of_below b2, ?_⟩
      have hf : fil l E [] r = if q = true then some r else none := by rw [← hq]; rfl
      rw [hf]
      cases q with
      | true => exact .inl ⟨r, by simp, rfl, rfl, hN.below b2⟩
      | false => exact .inr ⟨by simp, rfl, r, AgR.refl _ _, hN.below b2⟩
    clear hd hrl hrl0 hb hN b1 bw1 hq hkl
    go_enter Tryd.func60, Tryd.ntmps60
    go_wp2_with fail
    refine C.out.mono ?_
    rintro e1 w2 ⟨rfl, b2⟩
    have QQ := Lib.hid (PP.out w2 b2)
    clear b2 x0 x1 hW1 C PP
    go_wp2
    go_ret
    exact QQ.out
  | cons i g ih =>
    intro k r w hkl hd hrl0 hb hN
    have hrl : r.length = l.length := hrl0.trans HN.out.symm
    obtain ⟨hkf, hd2, hfi⟩ := drop_at hd
    have IH := Lib.hid ih
    have hkfl : k < fl := by have h2 := HFLL.out; rw [toI_len] at h2; omega
    have hk1 : (k : Int) < (fl : Int) := by omega
    have hk2 : ((k : Int) == (fl : Int)) = false := by rw [beq_eq_false_iff_ne]; omega
    have hk0 : (0 : Int) ≤ (k : Int) := by omega
    have hil : i < l.length := HFL.out i (by rw [← hd2] at hd; exact List.mem_of_mem_drop (by rw [hd]; simp))
    have hi1 : (i : Int) < (n : Int) := by have := HN.out; omega
    have hi0 : (0 : Int) ≤ (i : Int) := by omega
    obtain ⟨z, hzz⟩ : ∃ z, w.heap.size = z := ⟨_, rfl⟩
    obtain ⟨W1, hW1⟩ : ∃ W, w.alloc (.cells #[.slice a n c, .slice a2 m c2] 25) = W := ⟨_, rfl⟩
    have b1 : Below w.heap.size w W1 := by rw [← hW1]; exact bel_one _ _
    have B1 := Lib.hid b1
    have BW1 : Hid (Below w0.heap.size w0 W1) := hb.trans (b1.mono hb.size)
    have x0 : W1.cell? ⟨z, 0, none⟩ = some (.slice a n c) := by rw [← hW1, ← hzz, World.cell?_alloc_new]; rfl
    have x1 : W1.cell? ⟨z, 1, none⟩ = some (.slice a2 m c2) := by rw [← hW1, ← hzz, World.cell?_alloc_new]; rfl
    have NZ : Hid (z ≠ nb) := fun e => by have := hN.lt; omega
    have X : Hid (∀ V, Kx (fun b => b = nb) W1 V → V.cell? ⟨z, 0, none⟩ = some (.slice a n c) ∧ V.cell? ⟨z, 1, none⟩ = some (.slice a2 m c2) ∧ Below w0.heap.size w0 V) := fun V hV =>
      ⟨hV.cell x0 (fun e => NZ.out e), hV.cell x1 (fun e => NZ.out e), BW1.out.trans (hV.below BW1.out.size (fun b e => by rw [e]; exact HNB.out))⟩
    obtain ⟨fb, fo, rfl, _, hfc⟩ := HFR.out.2 (by rw [HFLL.out]; omega)
    have hfc := hfc k (by rw [HFLL.out]; exact hkfl)
    rw [hfi] at hfc
    have XF : Hid (∀ V, Kx (fun b => b = nb) W1 V → V.cell? ⟨fb, fo + k, none⟩ = some (.int .i64 i)) := fun V hV =>
      ((X.out V hV).2.2.cell (p := ⟨fb, fo + k, none⟩) (cellLt hfc)).trans hfc
    obtain ⟨eb, eo, rfl, u0, ⟨ga, gc, u1, hrd⟩, u2⟩ := HL.out.at_ hil
    obtain ⟨y, hy⟩ : ∃ y, (fd l i).cs.length = y := ⟨_, rfl⟩
    have HY := Lib.hid hy
    have HRD := Lib.hid hrd
    have y20 : y ≤ 20 := by rw [← hy]; exact HOK.out.c20 i hil
    rw [hy] at u1
    have c1 : W1.cell? ⟨eb, eo + i * 3 + 1, none⟩ = some (.slice ga y gc) := (BW1.out.cell (p := ⟨eb, eo + i * 3 + 1, none⟩) (cellLt u1)).trans u1
    have c2' : W1.cell? ⟨fb, fo + k, none⟩ = some (.int .i64 i) := XF.out W1 (Kx.refl _ _)
    have HN1 := Lib.hid (hN.below b1)
    have HRL := Lib.hid hrl
    have HD2 := Lib.hid hd2
    have HKF := Lib.hid hkf
    have HIL := Lib.hid hil
    have HDI : Hid (∀ x, x ∈ g → x < l.length) := fun x hx => HFL.out x (List.mem_of_mem_drop (by rw [hd]; simp [hx]))
    clear hkl hd hrl hrl0 hb hN hkf hd2 hfi hkfl hil b1 hfc u0 u1 u2 hrd hy ih
    go_enter Tryd.func60, Tryd.ntmps60
    go_wp2_with fail
    go_region
    obtain ⟨WD, hWD⟩ : ∃ W, W1.drew = W := ⟨_, rfl⟩
    have BD : Hid (Below W1.heap.size W1 WD) := by unfold Hid; rw [← hWD]; exact (Below.refl _ _).drew
    rw [hWD]
    have NN := Lib.hid (HN1.out.below BD.out)
    clear hWD x0 x1 c1 c2' hW1 hfc
    go_wp2
    go_loopw [10, 28] (fun _ iv wr => ∃ (j : Nat) (rj : List Int), iv = .int .i64 j ∧ Hid (j ≤ y ∧ Kx (fun b => b = nb) W1 wr ∧ AgR (i :: g) rj r ∧ NowAt wr nb o rj ∧ ∀ q, q < j → fil l E g (r.set i (fn (fd l i).cs q)) = none)) (fun _ iv _ => y - (intOf iv).toNat)
    case atStart => exact ⟨0, r, rfl, Nat.zero_le _, Kx.of_below BD.out, AgR.refl _ _, NN.out, fun q hq => absurd hq (by omega)⟩
    case round =>
      clear NN
      obtain ⟨j, rj, rfl, hS⟩ := hrel
      obtain ⟨hj, hkx, hag, hnow, hno⟩ := hS.out
      have hrjl : rj.length = l.length := by rw [hag.1]; exact HRL.out
      have hirj : i < rj.length := by rw [hrjl]; exact HIL.out
      by_cases hlt : j < y
      · have hlt' : (j : Int) < (y : Int) := by omega
        obtain ⟨z0, z1, zb⟩ := X.out wr hkx
        have z2 := XF.out wr hkx
        obtain ⟨gb, go, rfl, _, hgc⟩ := (HRD.out.below zb).2 (by rw [HY.out]; omega)
        have z3 := hgc j (by rw [HY.out]; exact hlt)
        obtain ⟨x, hx⟩ : ∃ x, fn (fd l i).cs j = x := ⟨_, rfl⟩
        have HX := Lib.hid hx
        rw [hx] at z3
        have z4 := hnow.at_ i hirj
        have z5 := hnow.fr (o + i)
        obtain ⟨W4, hW4⟩ : ∃ W, wr.setCell ⟨nb, o + i, none⟩ (.int .i64 x) = W := ⟨_, rfl⟩
        have KX4 : Hid (Kx (fun b => b = nb) W1 W4) := by unfold Hid; rw [← hW4]; exact hkx.trans kx_set
        have HN4 : NowAt W4 nb o (rj.set i x) := by rw [← hW4]; exact hnow.set hirj x
        obtain ⟨y0, y1, yb⟩ := X.out W4 KX4.out
        have hfeq : fil l E g (rj.set i x) = fil l E g (r.set i x) := fil_agr g _ _ (fun x hx => by rw [List.length_set, hrjl]; exact HDI.out x hx) (hag.set x hirj)
        have C := IH.out (k + 1) (rj.set i x) W4 HKF.out HD2.out (by rw [List.length_set]; exact hrjl.trans HN.out) yb HN4
        have ek1 : ((k + 1 : Nat) : Int) = (k : Int) + 1 := by omega
        rw [ek1] at C
        unfold FilP at C
        rw [hfeq] at C
        have C := Lib.hid C
        have AG : Hid (AgR (i :: g) (rj.set i x) r) := (AgR.put x hirj).trans hag
        have HLn : Hid ((rj.set i x).length = r.length) := by unfold Hid; rw [List.length_set, hag.1]
        have HFE := Lib.hid hfeq
        have HNO := Lib.hid hno
        obtain ⟨v4, hv4⟩ : ∃ v, fn rj i = v := ⟨_, rfl⟩
        rw [hv4] at z4
        clear hS hj hkx hag hnow hno hrjl hirj zb yb hgc hx hfeq HN4 hv4
        have hjl : Hid (j < (fd l i).cs.length) := by unfold Hid; rw [HY.out]; exact hlt
        go_wp2_with fail
        refine C.out.mono ?_
        rintro e1 w5 ⟨hk5, h5⟩
        have K5 : Hid (Kx (fun b => b = nb) W1 w5) := KX4.out.trans hk5
        rcases h5 with ⟨r5, hf5, hl5, rfl, hn5⟩ | ⟨hf5, rfl, r5, ha5, hn5⟩
        · have PP : Hid (FilP l E (i :: g) r nb o w (.returned (.bool true)) w5) := by
            refine ⟨(Kx.of_below B1.out).trans K5.out, .inl ⟨r5, ?_, by rw [hl5]; exact HLn.out, rfl, hn5⟩⟩
            exact fs_some hjl.out HNO.out (by rw [HX.out]; exact hf5)
          clear hk5 hf5 hl5 hn5 y0 y1 z0 z1 z2 z3 z4 z5 hW4 C
          go_wp2
          go_ret
          exact PP.out
        · have NX : Hid (j + 1 ≤ y ∧ Kx (fun b => b = nb) W1 w5 ∧ AgR (i :: g) r5 r ∧ NowAt w5 nb o r5 ∧ ∀ q, q < j + 1 → fil l E g (r.set i (fn (fd l i).cs q)) = none) := by
            refine ⟨hlt, K5.out, (ha5.more i).trans AG.out, hn5, fun q hq => ?_⟩
            by_cases e : q = j
            · rw [e, HX.out]; exact hf5
            · exact HNO.out q (by omega)
          clear hk5 hf5 ha5 hn5 y0 y1 z0 z1 z2 z3 z4 z5 hW4 C
          go_wp2
          go_roundw
          case rel => exact ⟨j + 1, r5, by go_num, NX.out⟩
          case measure => simp [intOf]; omega
      · have hlt' : ¬ (j : Int) < (y : Int) := by omega
        have PP : Hid (FilP l E (i :: g) r nb o w (.returned (.bool false)) wr) := by
          refine ⟨(Kx.of_below B1.out).trans hkx, .inr ⟨?_, rfl, rj, hag, hnow⟩⟩
          exact fs_none fun q hq => hno q (by have := HY.out; omega)
        clear hlt hS hkx hag hnow hno
        go_wp2
        go_ret
        exact PP.out
end Go.Proofs.YtadfmplafehjlaaDoor
namespace Go.Proofs.YtadfmplafehjlaaDoor
open Go.RowKit Go.WideMaps Go.Maps

def FstO (o : Option (List Int)) (w : World) (e : Ending) (w' : World) : Prop :=
  Below w.heap.size w w' ∧ ((∃ r' a c, o = some r' ∧ e = .returned (.tuple #[.slice a r'.length c, .bool true]) ∧ Rd w' a r') ∨ (o = none ∧ e = .returned (.tuple #[.slice none 0 0, .bool false])))
def frE (n : Nat) (f : List Int) (k : Nat) : Int := if fn f k < 0 ∨ (n : Int) ≤ fn f k then 1 else if k ≠ 0 ∧ fn f k ≤ fn f (k - 1) then 7 else 0
def freS (n : Nat) (f : List Int) : Int := fe (frE n f) f.length
def frfS (l : List Fd) (E : List Ed) (r f : List Int) : Int := if frS l E r ≠ 0 then frS l E r else freS l.length f
def natL (f : List Int) : List Nat := f.map Int.toNat
theorem nat_back {n : Nat} {f : List Int} (h : freS n f = 0) : toI (natL f) = f ∧ (∀ x, x ∈ natL f → x < n) ∧ (natL f).Pairwise (· < ·) := by
  have h1 : ∀ k, k < f.length → frE n f k = 0 := fun k hk => fe_zero h k hk
  have h2 : ∀ k, k < f.length → 0 ≤ fn f k ∧ fn f k < n ∧ (k ≠ 0 → fn f (k - 1) < fn f k) := fun k hk => by
    have := h1 k hk
    unfold frE at this
    split at this
    · cases this
    · split at this
      · cases this
      · rename_i a b
        refine ⟨by omega, by omega, fun h0 => ?_⟩
        have : ¬ fn f k ≤ fn f (k - 1) := fun q => b ⟨h0, q⟩
        omega
  have at_ : ∀ k (hk : k < f.length), fn f k = f[k] := fun k hk => by unfold fn; simp [List.getD, hk]
  have mono : ∀ b a, a < b → b < f.length → fn f a < fn f b := by
    intro b
    induction b with
    | zero => intro a ha; omega
    | succ b ih =>
      intro a ha hb
      have h3 := (h2 (b + 1) hb).2.2 (by omega)
      rw [Nat.add_sub_cancel] at h3
      by_cases e : a = b
      · rw [e]; exact h3
      · have := ih a (by omega) (by omega); omega
  refine ⟨?_, fun x hx => ?_, ?_⟩
  · unfold toI natL
    rw [List.map_map]
    conv => rhs; rw [← List.map_id f]
    refine List.map_congr_left fun x hx => ?_
    obtain ⟨k, hk, rfl⟩ := List.getElem_of_mem hx
    have := (h2 k hk).1
    rw [at_ k hk] at this
    simp [Int.toNat_of_nonneg this]
  · unfold natL at hx
    obtain ⟨y, hy, rfl⟩ := List.mem_map.1 hx
    obtain ⟨k, hk, rfl⟩ := List.getElem_of_mem hy
    have := h2 k hk
    rw [at_ k hk] at this
    omega
  · unfold natL
    rw [List.pairwise_map, List.pairwise_iff_getElem]
    intro i j hi hj hij
    have := mono j i hij hj
    have h3 := h2 i hi
    rw [at_ i hi] at this h3
    rw [at_ j hj] at this
    omega
set_option maxRecDepth 100000 in
set_option maxHeartbeats 4000000 in
theorem rfirst_c (a : Option Addr) (c : Nat) (l : List Fd) (a2 : Option Addr) (c2 : Nat) (E : List Ed) (a3 : Option Addr) (c3 : Nat) (r : List Int) (fa : Option Addr) (fc : Nat) (f : List Nat) (w : World) (hl : RdF w a l) (hE : RdE w a2 E) (hr : Rd w a3 r) (hf : Rd w fa (toI f)) (hok : Ok l E) (hrl : r.length = l.length) (hfl : ∀ x, x ∈ f → x < l.length) :
    Calls Tryd.prog 36 #[.agg #[.slice a l.length c, .slice a2 E.length c2], .slice a3 r.length c3, .slice fa (toI f).length fc] w (FstO (fil l E f r) w) := by
  obtain ⟨W1, hW1⟩ : ∃ W, w.alloc (.cells #[.slice a l.length c, .slice a2 E.length c2] 25) = W := ⟨_, rfl⟩
  have b1 : Below w.heap.size w W1 := by rw [← hW1]; exact bel_one _ _
  have B1 := Lib.hid b1
  have x0 : W1.cell? ⟨w.heap.size, 0, none⟩ = some (.slice a l.length c) := by rw [← hW1, World.cell?_alloc_new]; rfl
  have x1 : W1.cell? ⟨w.heap.size, 1, none⟩ = some (.slice a2 E.length c2) := by rw [← hW1, World.cell?_alloc_new]; rfl
  have X : Hid (∀ V, Below W1.heap.size W1 V → V.cell? ⟨w.heap.size, 0, none⟩ = some (.slice a l.length c) ∧ V.cell? ⟨w.heap.size, 1, none⟩ = some (.slice a2 E.length c2)) := fun V hV =>
    ⟨(hV.cell (p := ⟨w.heap.size, 0, none⟩) (cellLt x0)).trans x0, (hV.cell (p := ⟨w.heap.size, 1, none⟩) (cellLt x1)).trans x1⟩
  have h1 := hok.n1
  have h12 := hok.n12
  have hr1 := hr.below b1
  obtain ⟨rb, ro, rfl, hrb, hrc⟩ := hr1.2 (by omega)
  have C1 := Lib.hid (Tryd.slices_Clone_int rb ro r.length c3 r W1 (Nat.le_refl _) (by omega) hrc)
  have C2 : Hid (∀ nb nc V, Below W1.heap.size W1 V → W1.heap.size ≤ nb → NowAt V nb 0 r → Calls Tryd.prog 60 #[.agg #[.slice a l.length c, .slice a2 E.length c2], .slice (some ⟨nb, 0, none⟩) l.length nc, .slice fa (toI f).length fc, .int .i64 (0 : Nat)] V (FilP l E f r nb 0 V)) := fun nb nc V hV hnb hN =>
    fill_c a c l a2 c2 E fa fc f nb 0 nc W1 (hl.below b1) (hE.below b1) (hf.below b1) hok hnb hfl f 0 r V (Nat.zero_le _) rfl hrl hV hN
  rw [List.take_length] at C1
  obtain ⟨n, hn⟩ : ∃ n, l.length = n := ⟨_, rfl⟩
  obtain ⟨m, hm⟩ : ∃ n, E.length = n := ⟨_, rfl⟩
  obtain ⟨k, hk⟩ : ∃ n, (toI f).length = n := ⟨_, rfl⟩
  have HRL := Lib.hid hrl
  have HN := Lib.hid hn
  have n12 : n ≤ 12 := by rw [← hn]; exact h12
  rw [hn] at C2 x0 hW1 X
  rw [hm] at C2 x1 hW1 X
  rw [hk] at C2
  rw [hrl, hn] at C1
  rw [hn, hm, hk, hrl, hn]
  clear hl hE hr hf hok hrl hfl b1 h1 h12 hr1 hrb hrc hn hm hk
  go_enter Tryd.func36, Tryd.ntmps36
  go_wp2_with fail
  refine C1.out.mono ?_
  rintro e1 w2 ⟨v, rfl, hown, hv0, b2⟩
  have B2 : Hid (Below w.heap.size w w2) := B1.out.trans (b2.mono B1.out.size)
  obtain ⟨y0, y1⟩ := X.out w2 b2
  obtain ⟨g, cap, hvg, _, hlt⟩ : ∃ g cap, v = .slice (some ⟨g, 0, none⟩) n cap ∧ W1.heap.size ≤ g ∧ g < w2.heap.size := by
    rcases hown.2 with ⟨e, _⟩ | ⟨g, cap, cur, e, hg, _⟩
    · exact absurd e hv0
    · have hb : v.ownBlock = some g := by rw [e]; rfl
      exact ⟨g, cap, e, (hown.lt g hb).1, (hown.lt g hb).2⟩
  subst hvg
  have NW : Hid (NowAt w2 g 0 r) := by
    refine ⟨hlt, fun j hj => ?_, fun o => hown.frozenAt o⟩
    have hj2 : j < n * 1 := by rw [Nat.mul_one, ← HN.out, ← HRL.out]; exact hj
    rw [Nat.zero_add, hown.cellAt j hj2, List.getElem?_map, List.getElem?_eq_getElem hj]
    unfold fn; simp [List.getD, hj]
  have C3 := C2.out g cap w2 b2 ‹_› NW.out
  unfold FilP at C3
  have C3 := Lib.hid C3
  have HG : Hid (W1.heap.size ≤ g) := ‹_›
  clear hown hv0 b2 x0 x1 hW1 C1 C2 hlt
  go_wp2_with fail
  refine C3.out.mono ?_
  rintro e1 w3 ⟨hk3, h3⟩
  have B3 : Hid (Below w.heap.size w w3) := B2.out.trans (hk3.below B2.out.size (fun b e => by rw [e]; exact Nat.le_trans B1.out.size HG.out))
  rcases h3 with ⟨r', hf', hl', rfl, hn'⟩ | ⟨hf', rfl, r', _, _⟩
  · have PP : Hid (FstO (fil l E f r) w (.returned (.tuple #[.slice (some ⟨g, 0, none⟩) n cap, .bool true])) w3) := by
      refine ⟨B3.out, .inl ⟨r', some ⟨g, 0, none⟩, cap, hf', ?_, hn'.rd ?_⟩⟩
      · rw [hl', HRL.out, HN.out]
      · rw [hl', HRL.out, HN.out]; omega
    clear hk3 hf' hl' hn' C3 y0 y1
    go_wp2
    go_ret2
    exact PP.out
  · have PP : Hid (FstO (fil l E f r) w (.returned (.tuple #[.slice none 0 0, .bool false])) w3) := ⟨B3.out, .inr ⟨hf', rfl⟩⟩
    clear hk3 hf' C3 y0 y1
    go_wp2
    go_ret2
    exact PP.out
end Go.Proofs.YtadfmplafehjlaaDoor
namespace Go.Proofs.YtadfmplafehjlaaDoor
open Go.RowKit Go.WideMaps Go.Maps

def FirP (l : List Fd) (E : List Ed) (r f : List Int) (w : World) (e : Ending) (w' : World) : Prop :=
  Below w.heap.size w w' ∧ ((frfS l E r f ≠ 0 ∧ e = .returned (.tuple #[.slice none 0 0, .bool false, .int .i64 (frfS l E r f)])) ∨
    (frfS l E r f = 0 ∧ ((∃ r' a c, fil l E (natL f) r = some r' ∧ e = .returned (.tuple #[.slice a r'.length c, .bool true, .int .i64 0]) ∧ Rd w' a r') ∨
      (fil l E (natL f) r = none ∧ e = .returned (.tuple #[.slice none 0 0, .bool false, .int .i64 0])))))
theorem frE_1 {n : Nat} {f : List Int} {k : Nat} (h : fn f k < 0 ∨ (n : Int) ≤ fn f k) : frE n f k = 1 := by unfold frE; rw [if_pos h]
theorem frE_7 {n : Nat} {f : List Int} {k : Nat} (h : ¬ (fn f k < 0 ∨ (n : Int) ≤ fn f k)) (h2 : k ≠ 0 ∧ fn f k ≤ fn f (k - 1)) : frE n f k = 7 := by unfold frE; rw [if_neg h, if_pos h2]
theorem frE_0 {n : Nat} {f : List Int} {k : Nat} (h : ¬ (fn f k < 0 ∨ (n : Int) ≤ fn f k)) (h2 : ¬ (k ≠ 0 ∧ fn f k ≤ fn f (k - 1))) : frE n f k = 0 := by unfold frE; rw [if_neg h, if_neg h2]
set_option maxRecDepth 100000 in
set_option maxHeartbeats 8000000 in
theorem rFirst_c (a : Option Addr) (c : Nat) (l : List Fd) (a2 : Option Addr) (c2 : Nat) (E : List Ed) (a3 : Option Addr) (c3 : Nat) (r : List Int) (fa : Option Addr) (fc : Nat) (f : List Int) (w : World) (hl : RdF w a l) (hE : RdE w a2 E) (hr : Rd w a3 r) (hf : Rd w fa f) (hEnv : Env w) (hc1 : l.length ≤ c) (hc2 : E.length ≤ c2) :
    Calls Tryd.prog 14 #[.agg #[.slice a l.length c, .slice a2 E.length c2], .slice a3 r.length c3, .slice fa f.length fc] w (FirP l E r f w) := by
  obtain ⟨z, hzz⟩ : ∃ z, w.heap.size = z := ⟨_, rfl⟩
  obtain ⟨W1, hW1⟩ : ∃ W, w.alloc (.cells #[.slice a l.length c, .slice a2 E.length c2] 25) = W := ⟨_, rfl⟩
  have b1 : Below w.heap.size w W1 := by rw [← hW1]; exact bel_one _ _
  have B1 := Lib.hid b1
  have x0 : W1.cell? ⟨z, 0, none⟩ = some (.slice a l.length c) := by rw [← hW1, ← hzz, World.cell?_alloc_new]; rfl
  have x1 : W1.cell? ⟨z, 1, none⟩ = some (.slice a2 E.length c2) := by rw [← hW1, ← hzz, World.cell?_alloc_new]; rfl
  have X : Hid (∀ V, Below W1.heap.size W1 V → V.cell? ⟨z, 0, none⟩ = some (.slice a l.length c) ∧ V.cell? ⟨z, 1, none⟩ = some (.slice a2 E.length c2)) := fun V hV =>
    ⟨(hV.cell (p := ⟨z, 0, none⟩) (cellLt x0)).trans x0, (hV.cell (p := ⟨z, 1, none⟩) (cellLt x1)).trans x1⟩
  have C1 : Hid (Calls Tryd.prog 9 #[.agg #[.slice a l.length c, .slice a2 E.length c2], .slice a3 r.length c3] W1 (FaP l E r W1)) := rFails_c a c l a2 c2 E a3 c3 r W1 (hl.below b1) (hE.below b1) (hr.below b1) (hEnv.below b1) hc1 hc2
  have C3 : Hid (∀ V, Below w.heap.size w V → Ok l E → RecOk l r → freS l.length f = 0 → Calls Tryd.prog 36 #[.agg #[.slice a l.length c, .slice a2 E.length c2], .slice a3 r.length c3, .slice fa f.length fc] V (FstO (fil l E (natL f) r) V)) := fun V hV hok hrk h0 => by
    have h := nat_back h0
    have := rfirst_c a c l a2 c2 E a3 c3 r fa fc (natL f) V (hl.below hV) (hE.below hV) (hr.below hV) (by rw [h.1]; exact hf.below hV) hok hrk.1 h.2.1
    rw [h.1] at this
    exact this
  have HFR := Lib.hid hf
  obtain ⟨fl, hfl⟩ : ∃ n, f.length = n := ⟨_, rfl⟩
  have HFL := Lib.hid hfl
  have fl64 : fl ≤ 9223372036854775807 := by rw [← hfl]; exact hf.1
  obtain ⟨g, hg⟩ : ∃ f, frS l E r = f := ⟨_, rfl⟩
  obtain ⟨o, ho⟩ : ∃ o, fil l E (natL f) r = o := ⟨_, rfl⟩
  have HO := Lib.hid ho
  unfold FaP at C1
  unfold FstO at C3
  rw [hg] at C1
  rw [ho] at C3
  have HG := Lib.hid hg
  obtain ⟨n, hn⟩ : ∃ n, l.length = n := ⟨_, rfl⟩
  obtain ⟨m, hm⟩ : ∃ n, E.length = n := ⟨_, rfl⟩
  obtain ⟨k3, hk⟩ : ∃ n, r.length = n := ⟨_, rfl⟩
  have HF : Hid (frfS l E r f = if g ≠ 0 then g else freS n f) := by unfold Hid frfS; rw [hg, hn]
  have HN := Lib.hid hn
  rw [hn] at C1 C3 x0 hW1 X
  rw [hm] at C1 C3 x1 hW1 X
  rw [hk] at C1 C3
  rw [hfl] at C3
  rw [hn, hm, hk, hfl]
  clear hl hE hr hf hEnv hc1 hc2 b1 hg hn hm hk hfl ho
  go_enter Tryd.func14, Tryd.ntmps14
  go_wp2_with fail
  refine C1.out.mono ?_
  rintro e1 w2 ⟨b2, h2⟩
  have XB := Lib.hid b2
  have B2 : Hid (Below w.heap.size w w2) := B1.out.trans (b2.mono B1.out.size)
  obtain ⟨y0, y1⟩ := X.out w2 XB.out
  clear b2 x0 x1 hW1
  rcases h2 with ⟨h0, rfl⟩ | ⟨h0, av, cv, rfl, _⟩
  · have g2 : (g != 0) = true := by simpa using h0
    have PP : Hid (FirP l E r f w (.returned (.tuple #[.slice none 0 0, .bool false, .int .i64 g])) w2) := by
      refine ⟨B2.out, .inl ⟨?_, ?_⟩⟩
      · rw [HF.out, if_pos h0]; exact h0
      · rw [HF.out, if_pos h0]
    clear C1 C3 h0
    go_wp2
    go_ret3
    exact PP.out
  · have hfr := fr_ok (HG.out.trans h0)
    have HFR0 := Lib.hid hfr
    have HF2 : Hid (frfS l E r f = freS n f) := by unfold Hid; rw [HF.out, if_neg (by simpa using h0)]
    have n12 : n ≤ 12 := by rw [← HN.out]; exact hfr.1.n12
    have n1 : 1 ≤ n := by rw [← HN.out]; exact hfr.1.n1
    have C4 : Hid (freS n f = 0 → _) := fun h => C3.out w2 B2.out hfr.1 hfr.2 h
    have XF : Hid (∀ j, j < fl → ∃ b off, fa = some ⟨b, off, none⟩ ∧ ∀ q, q < fl → w2.cell? ⟨b, off + q, none⟩ = some (.int .i64 (fn f q))) := fun j hj => by
      obtain ⟨b, off, e, _, hc⟩ := (HFR.out.below B2.out).2 (by rw [HFL.out]; omega)
      exact ⟨b, off, e, fun q hq => hc q (by rw [HFL.out]; exact hq)⟩
    subst h0
    clear hfr C3 HF C1 HFR
    obtain ⟨zl, hzl⟩ : ∃ z, (toI (flL E r)).length = z := ⟨_, rfl⟩
    rw [hzl]
    clear hzl
    go_wp2_with fail
    go_loopw [11, 12, 26] (fun _ _ iv wr => ∃ k : Nat, iv = .int .i64 k ∧ Hid (k ≤ fl ∧ fe (frE n f) k = 0 ∧ w2 = wr)) (fun _ _ iv _ => fl - (intOf iv).toNat)
    case atStart => exact ⟨0, rfl, Nat.zero_le _, rfl, rfl⟩
    case round =>
      obtain ⟨k, rfl, hS⟩ := hrel
      obtain ⟨hk, hfe, rfl⟩ := hS.out
      by_cases hlt : k < fl
      · have hlt' : (k : Int) < (fl : Int) := by omega
        obtain ⟨b, off, rfl, hcs⟩ := XF.out k hlt
        have c0 := hcs k hlt
        have HCS := Lib.hid hcs
        obtain ⟨x, hx⟩ : ∃ x, fn f k = x := ⟨_, rfl⟩
        rw [hx] at c0
        have C := rwithin_c x 0 ((n : Int) - 1) w2
        obtain ⟨q, hq⟩ : ∃ q, (decide (0 ≤ x) && decide (x ≤ (n : Int) - 1)) = q := ⟨_, rfl⟩
        rw [hq] at C
        have C := Lib.hid C
        have HX := Lib.hid hx
        have NXT : Hid (frE n f k = 0 → k + 1 ≤ fl ∧ fe (frE n f) (k + 1) = 0 ∧ w2 = w2) := fun h => ⟨hlt, by rw [fe_next hfe]; exact h, rfl⟩
        have BAD : Hid (∀ v, frE n f k = v → v ≠ 0 → FirP l E r f w (.returned (.tuple #[.slice none 0 0, .bool false, .int .i64 v])) w2) := fun v h hv => by
          have e : frfS l E r f = v := by
            rw [HF2.out]; unfold freS
            rw [HFL.out, fe_at hlt hfe (by rw [h]; exact hv), h]
          exact ⟨B2.out, .inl ⟨by rw [e]; exact hv, by rw [e]⟩⟩
        cases q with
        | false =>
          have PP := Lib.hid (BAD.out 1 (frE_1 (by
            rw [HX.out]
            rw [Bool.and_eq_false_iff, decide_eq_false_iff_not, decide_eq_false_iff_not] at hq
            omega)) (by decide))
          clear hS hk hfe hcs hx hq NXT BAD
          go_wp2_with fail
          refine C.out.mono ?_
          rintro e w4 ⟨rfl, rfl⟩
          go_wp2
          go_ret3
          exact PP.out
        | true =>
          have hin : Hid (¬ (fn f k < 0 ∨ (n : Int) ≤ fn f k)) := by
            unfold Hid
            rw [HX.out]
            rw [Bool.and_eq_true, decide_eq_true_iff, decide_eq_true_iff] at hq
            omega
          by_cases hk0 : k = 0
          · have NX := Lib.hid (NXT.out (frE_0 hin.out (fun h => h.1 hk0)))
            have hkz : ¬ (0 : Int) < (k : Int) := by omega
            clear hS hk hfe hcs hx hq NXT BAD hk0
            go_wp2_with fail
            refine C.out.mono ?_
            rintro e w4 ⟨rfl, rfl⟩
            go_wp2
            go_roundw
            case rel => exact ⟨k + 1, by go_num, NX.out⟩
            case measure => simp [intOf]; omega
          · obtain ⟨j, rfl⟩ : ∃ j, k = j + 1 := ⟨k - 1, by omega⟩
            have hm1 : ((j + 1 : Nat) : Int) - 1 = (j : Int) := by omega
            have hkz : (0 : Int) < ((j + 1 : Nat) : Int) := by omega
            have hj1 : (j : Int) < (fl : Int) := by omega
            have c9 := hcs j (by omega)
            obtain ⟨y, hy⟩ : ∃ y, fn f j = y := ⟨_, rfl⟩
            rw [hy] at c9
            have HY : Hid (fn f (j + 1 - 1) = y) := by unfold Hid; rw [Nat.add_sub_cancel]; exact hy
            by_cases hxy : x ≤ y
            · have PP := Lib.hid (BAD.out 7 (frE_7 hin.out ⟨by omega, by rw [HX.out, HY.out]; exact hxy⟩) (by decide))
              clear hS hk hfe hcs hx hq NXT BAD hk0 hy
              go_wp2_with fail
              refine C.out.mono ?_
              rintro e w4 ⟨rfl, rfl⟩
              go_wp2
              go_ret3
              exact PP.out
            · have NX := Lib.hid (NXT.out (frE_0 hin.out (fun h => by have h := h.2; rw [HX.out, HY.out] at h; exact hxy h)))
              clear hS hk hfe hcs hx hq NXT BAD hk0 hy
              go_wp2_with fail
              refine C.out.mono ?_
              rintro e w4 ⟨rfl, rfl⟩
              go_wp2
              go_roundw
              case rel => exact ⟨j + 1 + 1, by go_num, NX.out⟩
              case measure => simp [intOf]; omega
      · have hlt' : ¬ (k : Int) < (fl : Int) := by omega
        have h0 : freS n f = 0 := by
          unfold freS
          rw [HFL.out]
          have e : k = fl := by omega
          rw [← e]; exact hfe
        have C5 := Lib.hid (C4.out h0)
        have H0 := Lib.hid h0
        clear hlt hS hk hfe h0 C4
        go_wp2_with fail
        refine C5.out.mono ?_
        rintro e1 w4 ⟨b4, h4⟩
        have B4 : Hid (Below w.heap.size w w4) := B2.out.trans (b4.mono B2.out.size)
        rcases h4 with ⟨r', ra, rc, hro, rfl, hrd⟩ | ⟨hro, rfl⟩
        · obtain ⟨rl, hrl⟩ : ∃ rl, r'.length = rl := ⟨_, rfl⟩
          have PP : Hid (FirP l E r f w (.returned (.tuple #[.slice ra rl rc, .bool true, .int .i64 0])) w4) :=
            ⟨B4.out, .inr ⟨by rw [HF2.out]; exact H0.out, .inl ⟨r', ra, rc, HO.out.trans hro, by rw [hrl], hrd⟩⟩⟩
          rw [hrl]
          clear b4 hro hrd C5 hrl
          go_wp2
          go_ret3
          exact PP.out
        · have PP : Hid (FirP l E r f w (.returned (.tuple #[.slice none 0 0, .bool false, .int .i64 0])) w4) :=
            ⟨B4.out, .inr ⟨by rw [HF2.out]; exact H0.out, .inr ⟨HO.out.trans hro, rfl⟩⟩⟩
          clear b4 hro C5
          go_wp2
          go_ret3
          exact PP.out
end Go.Proofs.YtadfmplafehjlaaDoor
