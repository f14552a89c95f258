/-
  The law of Least: its fields are enough, and no fields that weigh less are.
  The reference's Least with its errors; the law that compares both.
-/
import Derived.Test.YtadfmplafehjlaaDoorEN15
import Derived.Test.YtadfmplafehjlaaDoorEN16
namespace Go.Proofs.YtadfmplafehjlaaDoor
open Go.RowKit Go.WideMaps Go.Maps Go.Shelf

/-- What Least gives, with its fault. -/
def leE (l : List Fd) (E : List Ed) (r : List Int) : Int := if frS l E r ≠ 0 then frS l E r else if pss l E = [] then 9 else 0
theorem le_res {l : List Fd} {E : List Ed} {r : List Int} {w : World} {e : Ending} {w' : World} (h : LeaP l E r w e w') : Below w.heap.size w w' ∧ ((leE l E r ≠ 0 ∧ e = .returned (.tuple #[.slice none 0 0, .int .i64 (leE l E r)])) ∨
    (leE l E r = 0 ∧ frS l E r = 0 ∧ ∃ C a c, LsC l E r C ∧ e = .returned (.tuple #[.slice a (toI (lst (chB l r C) l.length)).length c, .int .i64 0]) ∧ Rd w' a (toI (lst (chB l r C) l.length)))) := by
  obtain ⟨hb, ⟨h0, he⟩ | ⟨h0, ⟨hp, he⟩ | ⟨C, a, c, hC, he, hr⟩⟩⟩ := h
  · refine ⟨hb, .inl ⟨?_, ?_⟩⟩
    · unfold leE; rw [if_pos h0]; exact h0
    · unfold leE; rw [if_pos h0]; exact he
  · have e : leE l E r = 9 := by unfold leE; rw [if_neg (by simpa using h0), if_pos hp]
    exact ⟨hb, .inl ⟨by rw [e]; decide, by rw [e]; exact he⟩⟩
  · have hne : pss l E ≠ [] := fun q => by have := hC.1; rw [q] at this; cases this
    have e : leE l E r = 0 := by unfold leE; rw [if_neg (by simpa using h0), if_neg hne]
    exact ⟨hb, .inr ⟨e, h0, C, a, c, hC, he, hr⟩⟩
/-- The fields of Least are those of a sound call of First, and a record that passes is found. -/
theorem ls_first {l : List Fd} {E : List Ed} {r : List Int} (h0 : frS l E r = 0) {C : Nat → Nat} (hC : LsC l E r C) : frfS l E r (toI (lst (chB l r C) l.length)) = 0 ∧ ∃ x, fil l E (natL (toI (lst (chB l r C) l.length))) r = some x ∧ frS l E x = 0 ∧ paB l E x = true := by
  obtain ⟨hok, hr⟩ := fr_ok h0
  refine ⟨?_, ?_⟩
  · unfold frfS
    rw [if_neg (by simpa using h0)]
    exact fre_ok (fun x hx => (mem_lst.1 hx).1) (lst_inc _ _)
  · rw [natL_toI]
    have h1 := ls_fil hok hr.1 hC.1
    cases e : fil l E (lst (chB l r C) l.length) r with
    | none => exact absurd e h1
    | some x =>
      obtain ⟨q1, q2, _⟩ := fil_some _ r x (fun i hi => by rw [hr.1]; exact (mem_lst.1 hi).1) e
      exact ⟨x, rfl, fr_some h0 (by rw [q1]; exact hr.1) q2, q2⟩
set_option maxRecDepth 100000 in
set_option maxHeartbeats 8000000 in
theorem law_leastis (a : Option Addr) (c : Nat) (l : List Fd) (a2 : Option Addr) (c2 : Nat) (E : List Ed) (a3 : Option Addr) (c3 : Nat) (r : List Int) (fa : Option Addr) (fc : Nat) (f : List Int) (w : World) (hl : RdF w a l) (hE : RdE w a2 E) (hr : Rd w a3 r) (hf : Rd w fa f) (hst : ∀ u, u ∈ l → u.nm.size ≤ 9223372036854775807) (hst2 : ∀ u, u ∈ E → u.nm.size ≤ 9223372036854775807)
    (hT : TabAt 0 Lib.deBruijn64tab w) (ht : 0 < w.heap.size) :
    Calls Tryd.prog 7 #[.agg #[.slice a l.length c, .slice a2 E.length c2], .slice a3 r.length c3, .slice fa f.length fc] w fun e w' => e = .returned (.bool true) ∧ Below w.heap.size w w' := by
  have mixed : Tryd.prog.follows .mixedOrders = true := by kernel_rfl
  obtain ⟨z, hzz⟩ : ∃ z, w.heap.size = z := ⟨_, rfl⟩
  obtain ⟨W1, hW1⟩ : ∃ W, w.alloc (.cells #[.slice a l.length c, .slice a2 E.length c2] 25) = W := ⟨_, rfl⟩
  have b1 : Below w.heap.size w W1 := by rw [← hW1]; exact bel_one _ _
  have B1 := Lib.hid b1
  have x0 : W1.cell? ⟨z, 0, none⟩ = some (.slice a l.length c) := by rw [← hW1, ← hzz, World.cell?_alloc_new]; rfl
  have x1 : W1.cell? ⟨z, 1, none⟩ = some (.slice a2 E.length c2) := by rw [← hW1, ← hzz, World.cell?_alloc_new]; rfl
  have X : Hid (∀ V, Below W1.heap.size W1 V → V.cell? ⟨z, 0, none⟩ = some (.slice a l.length c) ∧ V.cell? ⟨z, 1, none⟩ = some (.slice a2 E.length c2)) := fun V hV =>
    ⟨(hV.cell (p := ⟨z, 0, none⟩) (cellLt x0)).trans x0, (hV.cell (p := ⟨z, 1, none⟩) (cellLt x1)).trans x1⟩
  have lw : ∀ V, Below W1.heap.size W1 V → Below w.heap.size w V := fun V hV => b1.trans (hV.mono b1.size)
  have C1 : Hid (∀ V, Below W1.heap.size W1 V → Calls Tryd.prog 22 #[.agg #[.slice a l.length c, .slice a2 E.length c2], .slice a3 r.length c3] V fun e w' => Below V.heap.size V w' ∧ ((leE l E r ≠ 0 ∧ e = .returned (.tuple #[.slice none 0 0, .int .i64 (leE l E r)])) ∨
      (leE l E r = 0 ∧ frS l E r = 0 ∧ ∃ C a c, LsC l E r C ∧ e = .returned (.tuple #[.slice a (toI (lst (chB l r C) l.length)).length c, .int .i64 0]) ∧ Rd w' a (toI (lst (chB l r C) l.length))))) := fun V hV =>
    (Least_c a c l a2 c2 E a3 c3 r V (hl.below (lw V hV)) (hE.below (lw V hV)) (hr.below (lw V hV)) hst hst2 (tab_below hT ht (lw V hV)) (Nat.lt_of_lt_of_le ht (lw V hV).size)).mono fun e w' h => le_res h
  have C3 : Hid (∀ (ax : Option Addr) (cx : Nat) (x : List Int) V, Below W1.heap.size W1 V → Rd V ax x → Calls Tryd.prog 11 #[.agg #[.slice a l.length c, .slice a2 E.length c2], .slice ax x.length cx] V fun e w' => e = .returned (.tuple #[.bool (psB l E x), .int .i64 (frS l E x)]) ∧ Below V.heap.size V w') := fun ax cx x V hV hx =>
    (Passes_c a c l a2 c2 E ax cx x V (hl.below (lw V hV)) (hE.below (lw V hV)) hx hst hst2 (tab_below hT ht (lw V hV)) (Nat.lt_of_lt_of_le ht (lw V hV).size)).mono fun e w' h => ps_res h
  have C5 : Hid (∀ (ag : Option Addr) (cg : Nat) (g : List Int) V, Below W1.heap.size W1 V → Rd V ag g → Calls Tryd.prog 13 #[.agg #[.slice a l.length c, .slice a2 E.length c2], .slice a3 r.length c3, .slice ag g.length cg] V fun e w' => ∃ a c, e = .returned (.tuple #[.slice a (fiL l E r g).length c, .bool (fiB l E r g), .int .i64 (frfS l E r g)]) ∧ Rd w' a (fiL l E r g) ∧ Below V.heap.size V w') := fun ag cg g V hV hg =>
    (First_c a c l a2 c2 E a3 c3 r ag cg g V (hl.below (lw V hV)) (hE.below (lw V hV)) (hr.below (lw V hV)) hg hst hst2 (tab_below hT ht (lw V hV)) (Nat.lt_of_lt_of_le ht (lw V hV).size)).mono fun e w' h => fi_res h
  have C6 : Hid (∀ (ag : Option Addr) (cg : Nat) (g : List Nat) V, Ok l E → Below W1.heap.size W1 V → Rd V ag (toI g) → (∀ x, x ∈ g → x < l.length) → g.length ≤ 12 → Calls Tryd.prog 24 #[.slice ag (toI g).length cg, .pointer (some ⟨z, 0, none⟩)] V fun e w' => e = .returned (.int .i64 (wsL l g : Nat)) ∧ w' = V) := fun ag cg g V hok hV hg hgl hgn =>
    weight_c z a c l E ag cg g V (hl.below (lw V hV)) hok hg hgl hgn (X.out V hV).1
  have HFF := Lib.hid hf
  have LW := Lib.hid lw
  obtain ⟨f0, hf0⟩ : ∃ x, leE l E r = x := ⟨_, rfl⟩
  rw [hf0] at C1
  obtain ⟨n, hn⟩ : ∃ n, l.length = n := ⟨_, rfl⟩
  obtain ⟨m, hm⟩ : ∃ n, E.length = n := ⟨_, rfl⟩
  obtain ⟨k, hk⟩ : ∃ n, r.length = n := ⟨_, rfl⟩
  have HN := Lib.hid hn
  rw [hn] at C1 C3 C5 x0 X hW1
  rw [hm] at C1 C3 C5 x1 X hW1
  rw [hk] at C1 C5
  rw [hn, hm, hk]
  clear hl hE hr hf hst hst2 hT b1 lw hn hm hk hf0
  go_enter Tryd.func7, Tryd.ntmps7
  go_wp2_with fail
  clear hW1 x0 x1
  refine (C1.out W1 (Below.refl _ _)).mono ?_
  rintro e1 w2 ⟨b2, ⟨h0, rfl⟩ | ⟨h0, hfr, C, la, lc, hC, rfl, hrd⟩⟩
  · have S2 := Lib.hid b2
    have g1 : (f0 != 0) = true := by simpa using h0
    clear b2 h0 C1
    go_wp2_with fail
    go_ret
    exact ⟨rfl, LW.out w2 S2.out⟩
  · have S2 := Lib.hid b2
    have HFR := Lib.hid hfr
    have HC := Lib.hid hC
    have HOK := Lib.hid (fr_ok hfr)
    obtain ⟨hff, x, hfx, hxf, hxp⟩ := ls_first hfr hC
    obtain ⟨G, hG⟩ : ∃ G, lst (chB l r C) n = G := ⟨_, rfl⟩
    rw [HN.out, hG] at hff hfx
    rw [hG] at hrd
    have HGG := Lib.hid hG
    have F1 : Hid (fiL l E r (toI G) = x ∧ fiB l E r (toI G) = true) := by
      unfold Hid fiL fiB
      rw [if_neg (by simpa using hff), if_neg (by simpa using hff), hfx]
      exact ⟨rfl, rfl⟩
    have P1 : Hid (psB l E x = true) := by
      unfold Hid psB
      rw [if_neg (by simpa using hxf)]; exact hxp
    have C51 := Lib.hid (C5.out la lc (toI G) w2 S2.out hrd)
    have RG := Lib.hid hrd
    rw [F1.out.1, F1.out.2, hff] at C51
    rw [hG]
    have C3x := Lib.hid fun ax cx V h1 h2 => C3.out ax cx x V h1 h2
    rw [P1.out, hxf] at C3x
    obtain ⟨q, hq⟩ : ∃ q, x.length = q := ⟨_, rfl⟩
    rw [hq] at C51 C3x
    have HGL : Hid ((∀ i, i ∈ G → i < l.length) ∧ G.length ≤ 12) := by
      have h1 := lst_le (chB l r C) n
      have h2 := HOK.out.1.n12
      rw [HN.out] at h2
      refine ⟨fun i hi => ?_, by rw [← hG]; omega⟩
      rw [← hG] at hi
      rw [HN.out]; exact (mem_lst.1 hi).1
    obtain ⟨gl, hgl⟩ : ∃ q, (toI G).length = q := ⟨_, rfl⟩
    have C6G := Lib.hid fun V h1 h2 => C6.out la lc G V HOK.out.1 h1 h2 HGL.out.1 HGL.out.2
    rw [hgl] at C51 C6G ⊢
    clear b2 hfr hC hff hfx hxf hxp hG hrd hq hgl h0 C1 C3
    obtain ⟨v0, v1⟩ := X.out w2 S2.out
    go_wp2_with fail
    clear v0 v1
    refine C51.out.mono ?_
    rintro e1 w3 ⟨xa, xc, rfl, r3, b3⟩
    have S3 : Hid (Below W1.heap.size W1 w3) := S2.out.trans (b3.mono S2.out.size)
    have R3 := Lib.hid r3
    have RG3 := Lib.hid (RG.out.below b3)
    clear r3 b3 C51
    obtain ⟨v0, v1⟩ := X.out w3 S3.out
    go_wp2_with fail
    clear v0 v1
    refine (C3x.out xa xc w3 S3.out R3.out).mono ?_
    rintro e1 w4 ⟨rfl, b4⟩
    have S4 : Hid (Below W1.heap.size W1 w4) := S3.out.trans (b4.mono S3.out.size)
    have RG4 := Lib.hid (RG3.out.below b4)
    clear b4 C3x
    obtain ⟨v0, v1⟩ := X.out w4 S4.out
    go_wp2_with fail
    clear v0 v1
    refine (C5.out fa fc f w4 S4.out (HFF.out.below (LW.out w4 S4.out))).mono ?_
    rintro e1 w5 ⟨ya, yc, rfl, r5, b5⟩
    have S5 : Hid (Below W1.heap.size W1 w5) := S4.out.trans (b5.mono S4.out.size)
    have RG5 := Lib.hid (RG4.out.below b5)
    clear b5 r5
    by_cases hgs : frfS l E r f = 0
    · have HGS := Lib.hid hgs
      cases hib : fiB l E r f with
      | false =>
        rw [hgs]
        clear hgs hib C5 C6 C6G
        go_wp2_with fail
        go_ret
        exact ⟨rfl, LW.out w5 S5.out⟩
      | true =>
        have hfr2 : freS l.length f = 0 := by
          have := HGS.out
          unfold frfS at this
          rw [if_neg (by rw [HFR.out]; simp)] at this
          exact this
        obtain ⟨e1, e2, e3⟩ := nat_back hfr2
        obtain ⟨G2, hG2⟩ : ∃ G2, natL f = G2 := ⟨_, rfl⟩
        have hfl : ∃ y, fil l E G2 r = some y := by
          unfold fiB at hib
          rw [if_neg (by simpa using hgs), hG2] at hib
          exact Option.isSome_iff_exists.1 hib
        rw [hG2] at e1 e2 e3
        obtain ⟨y, hy⟩ := hfl
        have HWL : Hid (wsL l G ≤ wsL l G2) := by
          have := ls_weigh HOK.out.1 HOK.out.2.1 HC.out e2 hy
          rw [HN.out, HGG.out] at this
          exact this
        have HG2 : Hid ((∀ i, i ∈ G2 → i < l.length) ∧ G2.length ≤ 12) := by
          have h1 := inc_short l.length G2 e2 (List.Pairwise.imp (fun h => Nat.ne_of_lt h) e3)
          have h2 := HOK.out.1.n12
          exact ⟨e2, by omega⟩
        have C62 := Lib.hid (C6.out fa fc G2 w5 HOK.out.1 S5.out (by rw [e1]; exact HFF.out.below (LW.out w5 S5.out)) HG2.out.1 HG2.out.2)
        have C63 := Lib.hid (C6G.out w5 S5.out RG5.out)
        rw [e1] at C62
        obtain ⟨s1, hs1⟩ : ∃ s, wsL l G = s := ⟨_, rfl⟩
        obtain ⟨s2, hs2⟩ : ∃ s, wsL l G2 = s := ⟨_, rfl⟩
        rw [hs1] at C63 HWL
        rw [hs2] at C62 HWL
        have hle : (s1 : Int) ≤ (s2 : Int) := by have := HWL.out; omega
        rw [hgs]
        obtain ⟨fl, hfl⟩ : ∃ q, f.length = q := ⟨_, rfl⟩
        rw [hfl] at C62 ⊢
        clear hgs hib C5 C6 C6G hfr2 e1 e2 e3 hG2 hy hs1 hs2 hfl
        go_wp2_with fail
        refine C62.out.mono ?_
        rintro e1 w6 ⟨rfl, rfl⟩
        go_wp2_with fail
        refine C63.out.mono ?_
        rintro e1 w7 ⟨rfl, rfl⟩
        go_wp2_with fail
        go_ret
        exact ⟨rfl, LW.out _ S5.out⟩
    · obtain ⟨gs, hgs2⟩ : ∃ x, frfS l E r f = x := ⟨_, rfl⟩
      rw [hgs2] at hgs ⊢
      have g1 : (gs != 0) = true := by simpa using hgs
      clear hgs hgs2 C5 C6 C6G
      go_wp2_with fail
      go_ret
      exact ⟨rfl, LW.out w5 S5.out⟩
end Go.Proofs.YtadfmplafehjlaaDoor
namespace Go.Proofs.YtadfmplafehjlaaDoor
open Go.RowKit Go.WideMaps Go.Maps Go.Shelf

set_option maxRecDepth 100000 in
set_option maxHeartbeats 8000000 in
theorem rLeast_c (a : Option Addr) (c : Nat) (l : List Fd) (a2 : Option Addr) (c2 : Nat) (E : List Ed) (a3 : Option Addr) (c3 : Nat) (r : List Int) (w : World) (hl : RdF w a l) (hE : RdE w a2 E) (hr : Rd w a3 r) (hEnv : Env w) (hc1 : l.length ≤ c) (hc2 : E.length ≤ c2) :
    Calls Tryd.prog 23 #[.agg #[.slice a l.length c, .slice a2 E.length c2], .slice a3 r.length c3] w (LeaP l E r w) := by
  obtain ⟨W1, hW1⟩ : ∃ W, w.alloc (.cells #[.slice a l.length c, .slice a2 E.length c2] 25) = W := ⟨_, rfl⟩
  obtain ⟨z, hz⟩ : ∃ z, w.heap.size = z := ⟨_, rfl⟩
  have b1 : Below w.heap.size w W1 := by rw [← hW1]; exact bel_one _ _
  have B1 := Lib.hid b1
  have x0 : W1.cell? ⟨z, 0, none⟩ = some (.slice a l.length c) := by rw [← hW1, ← hz, World.cell?_alloc_new]; rfl
  have x1 : W1.cell? ⟨z, 1, none⟩ = some (.slice a2 E.length c2) := by rw [← hW1, ← hz, World.cell?_alloc_new]; rfl
  have X : Hid (∀ V, Below W1.heap.size W1 V → S2e ⟨z, 0, none⟩ ⟨z, 1, none⟩ (.slice a l.length c) (.slice a2 E.length c2) V) := fun V hV =>
    ⟨(hV.cell (p := ⟨z, 0, none⟩) (cellLt x0)).trans x0, (hV.cell (p := ⟨z, 1, none⟩) (cellLt x1)).trans x1⟩
  have C1 : Hid (Calls Tryd.prog 9 #[.agg #[.slice a l.length c, .slice a2 E.length c2], .slice a3 r.length c3] W1 fun e w' => ∃ a c, e = .returned (.tuple #[.slice a (faL l E r).length c, .int .i64 (frS l E r)]) ∧ Rd w' a (faL l E r) ∧ Below W1.heap.size W1 w') :=
    (rFails_c a c l a2 c2 E a3 c3 r W1 (hl.below b1) (hE.below b1) (hr.below b1) (hEnv.below b1) hc1 hc2).mono fun e w' h => fa_res h
  have C2 : Hid (∀ V, Below w.heap.size w V → frS l E r = 0 → Calls Tryd.prog 51 #[.agg #[.slice a l.length c, .slice a2 E.length c2], .slice a3 r.length c3] V (RlsP l E r V)) := fun V hV h0 =>
    rleast_c a c l a2 c2 E a3 c3 r V (hl.below hV) (hE.below hV) (hr.below hV) (fr_ok h0).1 (fr_ok h0).2.1
  obtain ⟨f, hf⟩ : ∃ f, frS l E r = f := ⟨_, rfl⟩
  rw [hf] at C1 C2
  have HF := Lib.hid hf
  obtain ⟨fl, hfl⟩ : ∃ f, (faL l E r).length = f := ⟨_, rfl⟩
  rw [hfl] at C1
  obtain ⟨n, hn⟩ : ∃ n, l.length = n := ⟨_, rfl⟩
  obtain ⟨m, hm⟩ : ∃ n, E.length = n := ⟨_, rfl⟩
  obtain ⟨k, hk⟩ : ∃ n, r.length = n := ⟨_, rfl⟩
  have HN := Lib.hid hn
  rw [hn] at C1 C2 x0 X hW1 ⊢
  rw [hm] at C1 C2 x1 X hW1 ⊢
  rw [hk] at C1 C2 ⊢
  clear hl hE hr hEnv hc1 hc2 hn hm hk b1 hf hfl
  go_enter Tryd.func23, Tryd.ntmps23
  go_wp2_with fail
  clear hW1
  refine C1.out.mono ?_
  rintro e1 w2 ⟨p1, k1, rfl, _, b2⟩
  have B2 := Lib.hid b2
  have BW2 : Hid (Below w.heap.size w w2) := B1.out.trans (b2.mono B1.out.size)
  clear b2 C1 x0 x1
  by_cases h0 : f = 0
  · subst h0
    have C3 := Lib.hid (C2.out w2 BW2.out rfl)
    obtain ⟨y0, y1⟩ := X.out w2 B2.out
    unfold RlsP at C3
    clear C2
    go_wp2_with fail
    refine C3.out.mono ?_
    rintro e1 w4 ⟨b4, ⟨C, ra, rc, hC, rfl, hrd⟩ | ⟨hp, rfl⟩⟩
    · have PP : Hid (∀ q, (toI (lst (chB l r C) l.length)).length = q → LeaP l E r w (.returned (.tuple #[.slice ra q rc, .int .i64 0])) w4) := fun q hq =>
        ⟨BW2.out.trans (b4.mono BW2.out.size), .inr ⟨HF.out, .inr ⟨C, ra, rc, hC, by rw [hq], hrd⟩⟩⟩
      obtain ⟨q, hq⟩ : ∃ q, (toI (lst (chB l r C) l.length)).length = q := ⟨_, rfl⟩
      have P2 := Lib.hid (PP.out q hq)
      rw [hq]
      clear b4 hC hrd PP hq C3
      go_wp2_with fail
      go_ret2
      exact P2.out
    · have PP : Hid (LeaP l E r w (.returned (.tuple #[.slice none 0 0, .int .i64 9])) w4) :=
        ⟨BW2.out.trans (b4.mono BW2.out.size), .inr ⟨HF.out, .inl ⟨hp, rfl⟩⟩⟩
      clear b4 hp C3
      go_wp2_with fail
      go_ret2
      exact PP.out
  · have g1 : (f != 0) = true := by simpa using h0
    have PP : Hid (LeaP l E r w (.returned (.tuple #[.slice none 0 0, .int .i64 f])) w2) := by
      refine ⟨BW2.out, .inl ⟨?_, ?_⟩⟩
      · rw [HF.out]; exact h0
      · rw [HF.out]
    clear h0 C2
    go_wp2_with fail
    go_ret2
    exact PP.out
/-- What Least gives. -/
noncomputable def leL (l : List Fd) (E : List Ed) (r : List Int) : List Int := if leE l E r ≠ 0 then [] else
  open Classical in if h : ∃ C, LsC l E r C then toI (lst (chB l r h.choose) l.length) else []
theorem le_res2 {l : List Fd} {E : List Ed} {r : List Int} {w : World} {e : Ending} {w' : World} (h : LeaP l E r w e w') : ∃ a c, e = .returned (.tuple #[.slice a (leL l E r).length c, .int .i64 (leE l E r)]) ∧ Rd w' a (leL l E r) ∧ Below w.heap.size w w' := by
  obtain ⟨hb, ⟨h0, he⟩ | ⟨h0, hfr, C, a, c, hC, he, hr⟩⟩ := le_res h
  · refine ⟨none, 0, ?_, ?_, hb⟩
    · unfold leL; rw [if_pos h0]; exact he
    · unfold leL; rw [if_pos h0]; exact ⟨by simp, fun h => by simp at h⟩
  · have e : leL l E r = toI (lst (chB l r C) l.length) := by
      unfold leL
      have hx : ∃ C, LsC l E r C := ⟨C, hC⟩
      rw [if_neg (by simpa using h0), dif_pos hx, lsC_one (fr_ok hfr).1 hx.choose_spec hC]
    refine ⟨a, c, ?_, ?_, hb⟩
    · rw [e, he, h0]
    · rw [e]; exact hr
set_option maxRecDepth 100000 in
set_option maxHeartbeats 8000000 in
theorem law_least (a : Option Addr) (c : Nat) (l : List Fd) (a2 : Option Addr) (c2 : Nat) (E : List Ed) (a3 : Option Addr) (c3 : Nat) (r : List Int) (w : World) (hl : RdF w a l) (hE : RdE w a2 E) (hr : Rd w a3 r) (hst : ∀ u, u ∈ l → u.nm.size ≤ 9223372036854775807) (hst2 : ∀ u, u ∈ E → u.nm.size ≤ 9223372036854775807)
    (hT : TabAt 0 Lib.deBruijn64tab w) (ht : 0 < w.heap.size) (hEnv : Env w) (hc1 : l.length ≤ c) (hc2 : E.length ≤ c2) :
    Calls Tryd.prog 6 #[.agg #[.slice a l.length c, .slice a2 E.length c2], .slice a3 r.length c3] w fun e w' => e = .returned (.bool true) ∧ Below w.heap.size w w' := by
  obtain ⟨z, hzz⟩ : ∃ z, w.heap.size = z := ⟨_, rfl⟩
  obtain ⟨W1, hW1⟩ : ∃ W, w.alloc (.cells #[.slice a l.length c, .slice a2 E.length c2] 25) = W := ⟨_, rfl⟩
  have b1 : Below w.heap.size w W1 := by rw [← hW1]; exact bel_one _ _
  have x0 : W1.cell? ⟨z, 0, none⟩ = some (.slice a l.length c) := by rw [← hW1, ← hzz, World.cell?_alloc_new]; rfl
  have x1 : W1.cell? ⟨z, 1, none⟩ = some (.slice a2 E.length c2) := by rw [← hW1, ← hzz, World.cell?_alloc_new]; rfl
  have X : Hid (∀ V, Below W1.heap.size W1 V → V.cell? ⟨z, 0, none⟩ = some (.slice a l.length c) ∧ V.cell? ⟨z, 1, none⟩ = some (.slice a2 E.length c2)) := fun V hV =>
    ⟨(hV.cell (p := ⟨z, 0, none⟩) (cellLt x0)).trans x0, (hV.cell (p := ⟨z, 1, none⟩) (cellLt x1)).trans x1⟩
  have lw : ∀ V, Below W1.heap.size W1 V → Below w.heap.size w V := fun V hV => b1.trans (hV.mono b1.size)
  have C1 : Hid (∀ V, Below W1.heap.size W1 V → Calls Tryd.prog 22 #[.agg #[.slice a l.length c, .slice a2 E.length c2], .slice a3 r.length c3] V fun e w' => ∃ a c, e = .returned (.tuple #[.slice a (leL l E r).length c, .int .i64 (leE l E r)]) ∧ Rd w' a (leL l E r) ∧ Below V.heap.size V w') := fun V hV =>
    (Least_c a c l a2 c2 E a3 c3 r V (hl.below (lw V hV)) (hE.below (lw V hV)) (hr.below (lw V hV)) hst hst2 (tab_below hT ht (lw V hV)) (Nat.lt_of_lt_of_le ht (lw V hV).size)).mono fun e w' h => le_res2 h
  have C2 : Hid (∀ V, Below W1.heap.size W1 V → Calls Tryd.prog 23 #[.agg #[.slice a l.length c, .slice a2 E.length c2], .slice a3 r.length c3] V fun e w' => ∃ a c, e = .returned (.tuple #[.slice a (leL l E r).length c, .int .i64 (leE l E r)]) ∧ Rd w' a (leL l E r) ∧ Below V.heap.size V w') := fun V hV =>
    (rLeast_c a c l a2 c2 E a3 c3 r V (hl.below (lw V hV)) (hE.below (lw V hV)) (hr.below (lw V hV)) (hEnv.below (lw V hV)) hc1 hc2).mono fun e w' h => le_res2 h
  obtain ⟨FL, hFL⟩ : ∃ L, leL l E r = L := ⟨_, rfl⟩
  obtain ⟨fs, hfs⟩ : ∃ L, leE l E r = L := ⟨_, rfl⟩
  rw [hFL, hfs] at C1 C2
  obtain ⟨n, hn⟩ : ∃ n, l.length = n := ⟨_, rfl⟩
  obtain ⟨m, hm⟩ : ∃ n, E.length = n := ⟨_, rfl⟩
  obtain ⟨k, hk⟩ : ∃ n, r.length = n := ⟨_, rfl⟩
  obtain ⟨fl, hfl⟩ : ∃ n, FL.length = n := ⟨_, rfl⟩
  have CE1 : Hid (∀ a1 c1 a2 c2 V, Rd V a1 FL → Rd V a2 FL → Calls Tryd.prog 10 #[.slice a1 fl c1, .slice a2 fl c2] V fun e w' => e = .returned (.bool true) ∧ Below V.heap.size V w') := fun a1 c1 a2 c2 V h1 h2 => by rw [← hfl]; exact equalI_c a1 a2 c1 c2 FL V h1 h2
  rw [hn] at C1 C2 x0 X hW1
  rw [hm] at C1 C2 x1 X hW1
  rw [hk] at C1 C2
  rw [hfl] at C1 C2
  rw [hn, hm, hk]
  have LW := Lib.hid lw
  clear hl hE hr hst hst2 hT hEnv hc1 hc2 b1 lw hFL hfs hn hm hk hfl
  go_enter Tryd.func6, Tryd.ntmps6
  go_wp2_with fail
  clear hW1 x0 x1
  refine (C1.out W1 (Below.refl _ _)).mono ?_
  rintro e1 w2 ⟨p1, k1, rfl, r1, b2⟩
  have S2 := Lib.hid b2
  have R1 := Lib.hid r1
  clear r1 b2
  obtain ⟨v0, v1⟩ := X.out w2 S2.out
  go_wp2_with fail
  clear v0 v1
  refine (C2.out w2 S2.out).mono ?_
  rintro e1 w3 ⟨p2, k2, rfl, r2, b3⟩
  have S3 : Hid (Below W1.heap.size W1 w3) := S2.out.trans (b3.mono S2.out.size)
  have CQ := Lib.hid (CE1.out p1 k1 p2 k2 w3 (R1.out.below b3) r2)
  clear r2 b3 R1 CE1
  have f1 : (fs == fs) = true := by simp
  go_wp2_with fail
  refine CQ.out.mono ?_
  rintro e1 w4 ⟨rfl, b4⟩
  have S4 : Hid (Below W1.heap.size W1 w4) := S3.out.trans (b4.mono S3.out.size)
  clear CQ b4
  go_wp2
  go_ret
  exact ⟨rfl, LW.out w4 S4.out⟩
end Go.Proofs.YtadfmplafehjlaaDoor
