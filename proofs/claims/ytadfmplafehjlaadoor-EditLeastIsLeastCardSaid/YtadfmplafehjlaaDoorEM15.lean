/-
  Package edit: weights of fields; what the law of Least asks.
  The law of Least: its fields are enough, and no fields that weigh less are.
-/
import Derived.Test.YtadfmplafehjlaaDoorEM14
namespace Go.Proofs.YtadfmplafehjlaaDoor
open Go.RowKit Go.WideMaps Go.Maps Go.Shelf

/-- The weights of fields, together. -/
def wsL (l : List Fd) : List Nat → Nat
  | [] => 0
  | k :: g => wtN l k + wsL l g
theorem wsL_app (l : List Fd) : ∀ (g h : List Nat), wsL l (g ++ h) = wsL l g + wsL l h
  | [], h => by simp [wsL]
  | k :: g, h => by
    show wtN l k + wsL l (g ++ h) = wtN l k + wsL l g + wsL l h
    rw [wsL_app l g h]; omega
theorem wsL_erase (l : List Fd) {x : Nat} : ∀ {g : List Nat}, x ∈ g → wsL l g = wtN l x + wsL l (g.erase x)
  | [], h => by cases h
  | k :: g, h => by
    by_cases e : k = x
    · subst e; rw [List.erase_cons_head]; rfl
    · have hm : x ∈ g := by
        rcases List.mem_cons.1 h with q | q
        · exact absurd q.symm e
        · exact q
      rw [List.erase_cons_tail (by simpa using e)]
      show wtN l k + wsL l g = wtN l x + (wtN l k + wsL l (g.erase x))
      rw [wsL_erase l hm]; omega
theorem wsL_le (l : List Fd) : ∀ (s g : List Nat), s.Nodup → (∀ x, x ∈ s → x ∈ g) → wsL l s ≤ wsL l g
  | [], _, _, _ => Nat.zero_le _
  | x :: s, g, hn, hs => by
    rw [List.nodup_cons] at hn
    have h1 := wsL_le l s (g.erase x) hn.2 fun y hy => (List.mem_erase_of_ne (fun e => hn.1 (by rw [← e]; exact hy))).2 (hs y (by simp [hy]))
    rw [wsL_erase l (hs x (by simp))]
    show wtN l x + wsL l s ≤ _
    omega
theorem lst_nodup (p : Nat → Bool) (n : Nat) : (lst p n).Nodup := by
  unfold lst
  exact List.Nodup.sublist List.filter_sublist List.nodup_range
theorem wsL_lst (l : List Fd) (p : Nat → Bool) : ∀ n, wsL l (lst p n) = smS (wtN l) p n
  | 0 => rfl
  | n + 1 => by
    rw [lst_succ', wsL_app, wsL_lst l p n, sm_succ]
    by_cases h : p n = true
    · rw [if_pos h, if_pos h]; simp [wsL]
    · rw [if_neg h, if_neg h]; simp [wsL]
theorem mem_lst {p : Nat → Bool} {n x : Nat} : x ∈ lst p n ↔ x < n ∧ p x = true := by
  unfold lst
  rw [List.mem_filter, List.mem_range]
theorem lst_inc (p : Nat → Bool) (n : Nat) : (lst p n).Pairwise (· < ·) := by
  unfold lst
  exact List.Pairwise.sublist List.filter_sublist List.pairwise_lt_range
theorem natL_toI (g : List Nat) : natL (toI g) = g := by
  unfold natL toI
  rw [List.map_map]
  conv => rhs; rw [← List.map_id g]
  exact List.map_congr_left fun x _ => by simp
theorem fn_toI {g : List Nat} {k : Nat} (hk : k < g.length) : fn (toI g) k = ((g.getD k 0 : Nat) : Int) := by
  unfold fn toI
  rw [List.getD_eq_getElem?_getD, List.getElem?_map, List.getElem?_eq_getElem hk, List.getD_eq_getElem?_getD, List.getElem?_eq_getElem hk]; rfl
theorem fe_none {s : Nat → Int} : ∀ {n : Nat}, (∀ k, k < n → s k = 0) → fe s n = 0
  | 0, _ => rfl
  | n + 1, h => by rw [fe_next (fe_none fun k hk => h k (by omega)), h n (by omega)]
theorem fre_ok {n : Nat} {g : List Nat} (h1 : ∀ x, x ∈ g → x < n) (h2 : g.Pairwise (· < ·)) : freS n (toI g) = 0 := by
  unfold freS
  refine fe_none fun k hk => ?_
  rw [toI_len] at hk
  have a1 : ∀ j (hj : j < g.length), fn (toI g) j = ((g[j] : Nat) : Int) := fun j hj => by
    rw [fn_toI hj, List.getD_eq_getElem?_getD, List.getElem?_eq_getElem hj]; rfl
  have b1 := h1 g[k] (List.getElem_mem hk)
  unfold frE
  rw [a1 k hk, if_neg (by omega)]
  by_cases h0 : k = 0
  · rw [if_neg (fun q => q.1 h0)]
  · have := List.pairwise_iff_getElem.1 h2 (k - 1) k (by omega) hk (by omega)
    rw [a1 (k - 1) (by omega), if_neg]
    intro q
    have := q.2
    omega
theorem inc_short : ∀ (n : Nat) (g : List Nat), (∀ x, x ∈ g → x < n) → g.Nodup → g.length ≤ n := by
  intro n g h hn
  have := wsL_le
  have h2 : ∀ (s t : List Nat), s.Nodup → (∀ x, x ∈ s → x ∈ t) → s.length ≤ t.length := by
    intro s
    induction s with
    | nil => intro t _ _; exact Nat.zero_le _
    | cons x s ih =>
      intro t hn hs
      rw [List.nodup_cons] at hn
      have h1 := ih (t.erase x) hn.2 fun y hy => (List.mem_erase_of_ne (fun e => hn.1 (by rw [← e]; exact hy))).2 (hs y (by simp [hy]))
      have h2 := List.length_erase_of_mem (hs x (by simp))
      have h3 := List.length_pos_of_mem (hs x (by simp))
      rw [List.length_cons]; omega
  have := h2 g (List.range n) hn fun x hx => List.mem_range.2 (h x hx)
  simpa using this
theorem wsL_bd {l : List Fd} {E : List Ed} (hok : Ok l E) : ∀ (g : List Nat), (∀ x, x ∈ g → x < l.length) → wsL l g ≤ g.length * 1000
  | [], _ => Nat.zero_le _
  | k :: g, h => by
    have h1 := wsL_bd hok g fun x hx => h x (by simp [hx])
    have h2 := hok.wt k (h k (by simp))
    have h3 : wtN l k ≤ 1000 := by unfold wtN; omega
    show wtN l k + wsL l g ≤ (g.length + 1) * 1000
    omega
theorem wsL_take (l : List Fd) {g : List Nat} {k : Nat} (hk : k < g.length) : wsL l (g.take (k + 1)) = wsL l (g.take k) + wtN l (g.getD k 0) := by
  rw [List.take_add_one, List.getElem?_eq_getElem hk, wsL_app, List.getD_eq_getElem?_getD, List.getElem?_eq_getElem hk]
  simp [wsL]
/-- What First finds has no fault. -/
theorem fr_some {l : List Fd} {E : List Ed} {r x : List Int} (h : frS l E r = 0) (hx : x.length = l.length) (hp : paB l E x = true) : frS l E x = 0 := by
  have hok := (fr_ok h).1
  unfold frS at h ⊢
  split at h
  · contradiction
  · rename_i h1
    rw [if_neg h1]
    have hv : vdB l x = true := by unfold paB at hp; rw [Bool.and_eq_true] at hp; exact hp.1
    unfold recE
    rw [if_neg (by simpa using hx), if_pos]
    refine al_iff.2 fun j hj => ?_
    obtain ⟨k, hk, e⟩ := inC_iff.1 (al_iff.1 hv j (by omega))
    have := hok.cd j (by omega) k hk
    unfold okN
    rw [← e]
    simp; omega
/-- No fields that weigh less are enough. -/
theorem ls_weigh {l : List Fd} {E : List Ed} (hok : Ok l E) {r x : List Int} (hr : r.length = l.length) {C : Nat → Nat} (hC : LsC l E r C) {g : List Nat} (hg : ∀ i, i ∈ g → i < l.length) (h : fil l E g r = some x) : wsL l (lst (chB l r C) l.length) ≤ wsL l g := by
  obtain ⟨D, hD, h1⟩ := fil_ls hok hr hg h
  have h2 := cs_wt hok.n12 (hC.2 D hD)
  have h3 := wsL_le l (lst (chB l r D) l.length) g (lst_nodup _ _) fun y hy => by
    have := mem_lst.1 hy
    exact h1 y this.1 this.2
  rw [wsL_lst] at h3 ⊢
  omega
set_option maxRecDepth 100000 in
set_option maxHeartbeats 4000000 in
theorem weight_c (q : Nat) (a : Option Addr) (c : Nat) (l : List Fd) (E : List Ed) (ga : Option Addr) (gc : Nat) (g : List Nat) (w : World) (hl : RdF w a l) (hok : Ok l E) (hg : Rd w ga (toI g)) (hgl : ∀ x, x ∈ g → x < l.length) (hgn : g.length ≤ 12)
    (hq : w.cell? ⟨q, 0, none⟩ = some (.slice a l.length c)) :
    Calls Tryd.prog 24 #[.slice ga (toI g).length gc, .pointer (some ⟨q, 0, none⟩)] w fun e w' => e = .returned (.int .i64 (wsL l g : Nat)) ∧ w' = w := by
  have HG := Lib.hid hg
  have HL := Lib.hid hl
  have HGL := Lib.hid hgl
  have HOK := Lib.hid hok
  rw [toI_len]
  obtain ⟨m, hm⟩ : ∃ m, g.length = m := ⟨_, rfl⟩
  obtain ⟨n, hn⟩ : ∃ m, l.length = m := ⟨_, rfl⟩
  have HM := Lib.hid hm
  have HN := Lib.hid hn
  rw [hn] at hq
  rw [hm] at hgn ⊢
  clear hg hl hgl hok hm hn
  go_enter Tryd.func24, Tryd.ntmps24
  go_wp2_with fail
  go_loopw [4, 6, 9] (fun sv _ iv wr => ∃ (k s : Nat), iv = .int .i64 k ∧ sv = .int .i64 s ∧ Hid (k ≤ m ∧ s = wsL l (g.take k) ∧ w = wr)) (fun _ _ iv _ => m - (intOf iv).toNat)
  case atStart => exact ⟨0, 0, rfl, rfl, Nat.zero_le _, rfl, rfl⟩
  case round =>
    obtain ⟨k, s, rfl, rfl, hS⟩ := hrel
    obtain ⟨hk, hs, rfl⟩ := hS.out
    by_cases hlt : k < m
    · have hlt' : (k : Int) < (m : Int) := by omega
      have hkg : k < g.length := by rw [HM.out]; exact hlt
      obtain ⟨gb, go, rfl, _, hgc⟩ := HG.out.2 (by rw [toI_len]; omega)
      have c0 := hgc k (by rw [toI_len]; exact hkg)
      rw [fn_toI hkg] at c0
      have hx := HGL.out (g.getD k 0) (by rw [List.getD_eq_getElem?_getD, List.getElem?_eq_getElem hkg]; exact List.getElem_mem hkg)
      have hT := wsL_take l hkg
      have hsb : s ≤ 12000 := by
        rw [hs]
        have := wsL_bd HOK.out (g.take k) fun x hx => HGL.out x (List.mem_of_mem_take hx)
        rw [List.length_take] at this
        have : min k g.length ≤ 12 := by omega
        omega
      obtain ⟨x, hxx⟩ : ∃ x, g.getD k 0 = x := ⟨_, rfl⟩
      rw [hxx] at c0 hx hT
      obtain ⟨fb, fo, rfl, hfd⟩ := HL.out.at_ hx
      obtain ⟨_, _, c1⟩ := hfd
      have hwt := HOK.out.wt x hx
      obtain ⟨y, hy⟩ : ∃ y, wtN l x = y := ⟨_, rfl⟩
      have hye : (fd l x).wt = (y : Int) := by rw [← hy]; unfold wtN; omega
      rw [hye] at c1 hwt
      rw [hy] at hT
      have hxn : (x : Int) < (n : Int) := by rw [HN.out] at hx; omega
      have hx0 : (0 : Int) ≤ (x : Int) := by omega
      have NX : Hid (k + 1 ≤ m ∧ s + y = wsL l (g.take (k + 1)) ∧ w = w) := ⟨hlt, by rw [hT, ← hs], rfl⟩
      obtain ⟨z, hz⟩ : ∃ z, s + y = z := ⟨_, rfl⟩
      rw [hz] at NX
      have hsy : (s : Int) + (y : Int) = (z : Int) := by omega
      have hzb : z ≤ 13000 := by omega
      clear hS hk hs hT hgc hkg hx hxx hy hye hz
      go_wp2_with fail
      go_roundw
      case rel => exact ⟨k + 1, z, by go_num, rfl, (by unfold Hid; exact ⟨NX.out.1, NX.out.2.1, trivial⟩)⟩
      case measure => simp [intOf]; omega
    · have hlt' : ¬ (k : Int) < (m : Int) := by omega
      have e : s = wsL l g := by
        rw [hs, List.take_of_length_le (by rw [HM.out]; omega)]
      subst e
      clear hS hk hs hlt
      go_wp2_with fail
      go_ret
      exact ⟨rfl, rfl⟩
end Go.Proofs.YtadfmplafehjlaaDoor
namespace Go.Proofs.YtadfmplafehjlaaDoor
open Go.RowKit Go.WideMaps Go.Maps Go.Shelf

/-- What Least gives, with its fault. -/
def leE (l : List Fd) (E : List Ed) (r : List Int) : Int := if frS l E r ≠ 0 then frS l E r else if pss l E = [] then 9 else 0
theorem le_res {l : List Fd} {E : List Ed} {r : List Int} {w : World} {e : Ending} {w' : World} (h : LeaP l E r w e w') : Below w.heap.size w w' ∧ ((leE l E r ≠ 0 ∧ e = .returned (.tuple #[.slice none 0 0, .int .i64 (leE l E r)])) ∨
    (leE l E r = 0 ∧ frS l E r = 0 ∧ ∃ C a c, LsC l E r C ∧ e = .returned (.tuple #[.slice a (toI (lst (chB l r C) l.length)).length c, .int .i64 0]) ∧ Rd w' a (toI (lst (chB l r C) l.length)))) := by
  obtain ⟨hb, ⟨h0, he⟩ | ⟨h0, ⟨hp, he⟩ | ⟨C, a, c, hC, he, hr⟩⟩⟩ := h
  · refine ⟨hb, .inl ⟨?_, ?_⟩⟩
    · unfold leE; rw [if_pos h0]; exact h0
    · unfold leE; rw [if_pos h0]; exact he
  · have e : leE l E r = 9 := by unfold leE; rw [if_neg (by simpa using h0), if_pos hp]
    exact ⟨hb, .inl ⟨by rw [e]; decide, by rw [e]; exact he⟩⟩
  · have hne : pss l E ≠ [] := fun q => by have := hC.1; rw [q] at this; cases this
    have e : leE l E r = 0 := by unfold leE; rw [if_neg (by simpa using h0), if_neg hne]
    exact ⟨hb, .inr ⟨e, h0, C, a, c, hC, he, hr⟩⟩
/-- The fields of Least are those of a sound call of First, and a record that passes is found. -/
theorem ls_first {l : List Fd} {E : List Ed} {r : List Int} (h0 : frS l E r = 0) {C : Nat → Nat} (hC : LsC l E r C) : frfS l E r (toI (lst (chB l r C) l.length)) = 0 ∧ ∃ x, fil l E (natL (toI (lst (chB l r C) l.length))) r = some x ∧ frS l E x = 0 ∧ paB l E x = true := by
  obtain ⟨hok, hr⟩ := fr_ok h0
  refine ⟨?_, ?_⟩
  · unfold frfS
    rw [if_neg (by simpa using h0)]
    exact fre_ok (fun x hx => (mem_lst.1 hx).1) (lst_inc _ _)
  · rw [natL_toI]
    have h1 := ls_fil hok hr.1 hC.1
    cases e : fil l E (lst (chB l r C) l.length) r with
    | none => exact absurd e h1
    | some x =>
      obtain ⟨q1, q2, _⟩ := fil_some _ r x (fun i hi => by rw [hr.1]; exact (mem_lst.1 hi).1) e
      exact ⟨x, rfl, fr_some h0 (by rw [q1]; exact hr.1) q2, q2⟩
set_option maxRecDepth 100000 in
set_option maxHeartbeats 8000000 in
theorem law_leastis (a : Option Addr) (c : Nat) (l : List Fd) (a2 : Option Addr) (c2 : Nat) (E : List Ed) (a3 : Option Addr) (c3 : Nat) (r : List Int) (fa : Option Addr) (fc : Nat) (f : List Int) (w : World) (hl : RdF w a l) (hE : RdE w a2 E) (hr : Rd w a3 r) (hf : Rd w fa f) (hst : ∀ u, u ∈ l → u.nm.size ≤ 9223372036854775807) (hst2 : ∀ u, u ∈ E → u.nm.size ≤ 9223372036854775807)
    (hT : TabAt 0 Lib.deBruijn64tab w) (ht : 0 < w.heap.size) :
    Calls Tryd.prog 7 #[.agg #[.slice a l.length c, .slice a2 E.length c2], .slice a3 r.length c3, .slice fa f.length fc] w fun e w' => e = .returned (.bool true) ∧ Below w.heap.size w w' := by
  have mixed : Tryd.prog.follows .mixedOrders = true := by kernel_rfl
  obtain ⟨z, hzz⟩ : ∃ z, w.heap.size = z := ⟨_, rfl⟩
  obtain ⟨W1, hW1⟩ : ∃ W, w.alloc (.cells #[.slice a l.length c, .slice a2 E.length c2] 25) = W := ⟨_, rfl⟩
  have b1 : Below w.heap.size w W1 := by rw [← hW1]; exact bel_one _ _
  have B1 := Lib.hid b1
  have x0 : W1.cell? ⟨z, 0, none⟩ = some (.slice a l.length c) := by rw [← hW1, ← hzz, World.cell?_alloc_new]; rfl
  have x1 : W1.cell? ⟨z, 1, none⟩ = some (.slice a2 E.length c2) := by rw [← hW1, ← hzz, World.cell?_alloc_new]; rfl
  have X : Hid (∀ V, Below W1.heap.size W1 V → V.cell? ⟨z, 0, none⟩ = some (.slice a l.length c) ∧ V.cell? ⟨z, 1, none⟩ = some (.slice a2 E.length c2)) := fun V hV =>
    ⟨(hV.cell (p := ⟨z, 0, none⟩) (cellLt x0)).trans x0, (hV.cell (p := ⟨z, 1, none⟩) (cellLt x1)).trans x1⟩
  have lw : ∀ V, Below W1.heap.size W1 V → Below w.heap.size w V := fun V hV => b1.trans (hV.mono b1.size)
  have C1 : Hid (∀ V, Below W1.heap.size W1 V → Calls Tryd.prog 22 #[.agg #[.slice a l.length c, .slice a2 E.length c2], .slice a3 r.length c3] V fun e w' => Below V.heap.size V w' ∧ ((leE l E r ≠ 0 ∧ e = .returned (.tuple #[.slice none 0 0, .int .i64 (leE l E r)])) ∨
      (leE l E r = 0 ∧ frS l E r = 0 ∧ ∃ C a c, LsC l E r C ∧ e = .returned (.tuple #[.slice a (toI (lst (chB l r C) l.length)).length c, .int .i64 0]) ∧ Rd w' a (toI (lst (chB l r C) l.length))))) := fun V hV =>
    (Least_c a c l a2 c2 E a3 c3 r V (hl.below (lw V hV)) (hE.below (lw V hV)) (hr.below (lw V hV)) hst hst2 (tab_below hT ht (lw V hV)) (Nat.lt_of_lt_of_le ht (lw V hV).size)).mono fun e w' h => le_res h
  have C3 : Hid (∀ (ax : Option Addr) (cx : Nat) (x : List Int) V, Below W1.heap.size W1 V → Rd V ax x → Calls Tryd.prog 11 #[.agg #[.slice a l.length c, .slice a2 E.length c2], .slice ax x.length cx] V fun e w' => e = .returned (.tuple #[.bool (psB l E x), .int .i64 (frS l E x)]) ∧ Below V.heap.size V w') := fun ax cx x V hV hx =>
    (Passes_c a c l a2 c2 E ax cx x V (hl.below (lw V hV)) (hE.below (lw V hV)) hx hst hst2 (tab_below hT ht (lw V hV)) (Nat.lt_of_lt_of_le ht (lw V hV).size)).mono fun e w' h => ps_res h
  have C5 : Hid (∀ (ag : Option Addr) (cg : Nat) (g : List Int) V, Below W1.heap.size W1 V → Rd V ag g → Calls Tryd.prog 13 #[.agg #[.slice a l.length c, .slice a2 E.length c2], .slice a3 r.length c3, .slice ag g.length cg] V fun e w' => ∃ a c, e = .returned (.tuple #[.slice a (fiL l E r g).length c, .bool (fiB l E r g), .int .i64 (frfS l E r g)]) ∧ Rd w' a (fiL l E r g) ∧ Below V.heap.size V w') := fun ag cg g V hV hg =>
    (First_c a c l a2 c2 E a3 c3 r ag cg g V (hl.below (lw V hV)) (hE.below (lw V hV)) (hr.below (lw V hV)) hg hst hst2 (tab_below hT ht (lw V hV)) (Nat.lt_of_lt_of_le ht (lw V hV).size)).mono fun e w' h => fi_res h
  have C6 : Hid (∀ (ag : Option Addr) (cg : Nat) (g : List Nat) V, Ok l E → Below W1.heap.size W1 V → Rd V ag (toI g) → (∀ x, x ∈ g → x < l.length) → g.length ≤ 12 → Calls Tryd.prog 24 #[.slice ag (toI g).length cg, .pointer (some ⟨z, 0, none⟩)] V fun e w' => e = .returned (.int .i64 (wsL l g : Nat)) ∧ w' = V) := fun ag cg g V hok hV hg hgl hgn =>
    weight_c z a c l E ag cg g V (hl.below (lw V hV)) hok hg hgl hgn (X.out V hV).1
  have HFF := Lib.hid hf
  have LW := Lib.hid lw
  obtain ⟨f0, hf0⟩ : ∃ x, leE l E r = x := ⟨_, rfl⟩
  rw [hf0] at C1
  obtain ⟨n, hn⟩ : ∃ n, l.length = n := ⟨_, rfl⟩
  obtain ⟨m, hm⟩ : ∃ n, E.length = n := ⟨_, rfl⟩
  obtain ⟨k, hk⟩ : ∃ n, r.length = n := ⟨_, rfl⟩
  have HN := Lib.hid hn
  rw [hn] at C1 C3 C5 x0 X hW1
  rw [hm] at C1 C3 C5 x1 X hW1
  rw [hk] at C1 C5
  rw [hn, hm, hk]
  clear hl hE hr hf hst hst2 hT b1 lw hn hm hk hf0
  go_enter Tryd.func7, Tryd.ntmps7
  go_wp2_with fail
  clear hW1 x0 x1
  refine (C1.out W1 (Below.refl _ _)).mono ?_
  rintro e1 w2 ⟨b2, ⟨h0, rfl⟩ | ⟨h0, hfr, C, la, lc, hC, rfl, hrd⟩⟩
  · have S2 := Lib.hid b2
    have g1 : (f0 != 0) = true := by simpa using h0
    clear b2 h0 C1
    go_wp2_with fail
    go_ret
    exact ⟨rfl, LW.out w2 S2.out⟩
  · have S2 := Lib.hid b2
    have HFR := Lib.hid hfr
    have HC := Lib.hid hC
    have HOK := Lib.hid (fr_ok hfr)
    obtain ⟨hff, x, hfx, hxf, hxp⟩ := ls_first hfr hC
    obtain ⟨G, hG⟩ : ∃ G, lst (chB l r C) n = G := ⟨_, rfl⟩
    rw [HN.out, hG] at hff hfx
    rw [hG] at hrd
    have HGG := Lib.hid hG
    have F1 : Hid (fiL l E r (toI G) = x ∧ fiB l E r (toI G) = true) := by
      unfold Hid fiL fiB
      rw [if_neg (by simpa using hff), if_neg (by simpa using hff), hfx]
      exact ⟨rfl, rfl⟩
    have P1 : Hid (psB l E x = true) := by
      unfold Hid psB
      rw [if_neg (by simpa using hxf)]; exact hxp
    have C51 := Lib.hid (C5.out la lc (toI G) w2 S2.out hrd)
    have RG := Lib.hid hrd
    rw [F1.out.1, F1.out.2, hff] at C51
    rw [hG]
    have C3x := Lib.hid fun ax cx V h1 h2 => C3.out ax cx x V h1 h2
    rw [P1.out, hxf] at C3x
    obtain ⟨q, hq⟩ : ∃ q, x.length = q := ⟨_, rfl⟩
    rw [hq] at C51 C3x
    have HGL : Hid ((∀ i, i ∈ G → i < l.length) ∧ G.length ≤ 12) := by
      have h1 := lst_le (chB l r C) n
      have h2 := HOK.out.1.n12
      rw [HN.out] at h2
      refine ⟨fun i hi => ?_, by rw [← hG]; omega⟩
      rw [← hG] at hi
      rw [HN.out]; exact (mem_lst.1 hi).1
    obtain ⟨gl, hgl⟩ : ∃ q, (toI G).length = q := ⟨_, rfl⟩
    have C6G := Lib.hid fun V h1 h2 => C6.out la lc G V HOK.out.1 h1 h2 HGL.out.1 HGL.out.2
    rw [hgl] at C51 C6G ⊢
    clear b2 hfr hC hff hfx hxf hxp hG hrd hq hgl h0 C1 C3
    obtain ⟨v0, v1⟩ := X.out w2 S2.out
    go_wp2_with fail
    clear v0 v1
    refine C51.out.mono ?_
    rintro e1 w3 ⟨xa, xc, rfl, r3, b3⟩
    have S3 : Hid (Below W1.heap.size W1 w3) := S2.out.trans (b3.mono S2.out.size)
    have R3 := Lib.hid r3
    have RG3 := Lib.hid (RG.out.below b3)
    clear r3 b3 C51
    obtain ⟨v0, v1⟩ := X.out w3 S3.out
    go_wp2_with fail
    clear v0 v1
    refine (C3x.out xa xc w3 S3.out R3.out).mono ?_
    rintro e1 w4 ⟨rfl, b4⟩
    have S4 : Hid (Below W1.heap.size W1 w4) := S3.out.trans (b4.mono S3.out.size)
    have RG4 := Lib.hid (RG3.out.below b4)
    clear b4 C3x
    obtain ⟨v0, v1⟩ := X.out w4 S4.out
    go_wp2_with fail
    clear v0 v1
    refine (C5.out fa fc f w4 S4.out (HFF.out.below (LW.out w4 S4.out))).mono ?_
    rintro e1 w5 ⟨ya, yc, rfl, r5, b5⟩
    have S5 : Hid (Below W1.heap.size W1 w5) := S4.out.trans (b5.mono S4.out.size)
    have RG5 := Lib.hid (RG4.out.below b5)
    clear b5 r5
    by_cases hgs : frfS l E r f = 0
    · have HGS := Lib.hid hgs
      cases hib : fiB l E r f with
      | false =>
        rw [hgs]
        clear hgs hib C5 C6 C6G
        go_wp2_with fail
        go_ret
        exact ⟨rfl, LW.out w5 S5.out⟩
      | true =>
        have hfr2 : freS l.length f = 0 := by
          have := HGS.out
          unfold frfS at this
          rw [if_neg (by rw [HFR.out]; simp)] at this
          exact this
        obtain ⟨e1, e2, e3⟩ := nat_back hfr2
        obtain ⟨G2, hG2⟩ : ∃ G2, natL f = G2 := ⟨_, rfl⟩
        have hfl : ∃ y, fil l E G2 r = some y := by
          unfold fiB at hib
          rw [if_neg (by simpa using hgs), hG2] at hib
          exact Option.isSome_iff_exists.1 hib
        rw [hG2] at e1 e2 e3
        obtain ⟨y, hy⟩ := hfl
        have HWL : Hid (wsL l G ≤ wsL l G2) := by
          have := ls_weigh HOK.out.1 HOK.out.2.1 HC.out e2 hy
          rw [HN.out, HGG.out] at this
          exact this
        have HG2 : Hid ((∀ i, i ∈ G2 → i < l.length) ∧ G2.length ≤ 12) := by
          have h1 := inc_short l.length G2 e2 (List.Pairwise.imp (fun h => Nat.ne_of_lt h) e3)
          have h2 := HOK.out.1.n12
          exact ⟨e2, by omega⟩
        have C62 := Lib.hid (C6.out fa fc G2 w5 HOK.out.1 S5.out (by rw [e1]; exact HFF.out.below (LW.out w5 S5.out)) HG2.out.1 HG2.out.2)
        have C63 := Lib.hid (C6G.out w5 S5.out RG5.out)
        rw [e1] at C62
        obtain ⟨s1, hs1⟩ : ∃ s, wsL l G = s := ⟨_, rfl⟩
        obtain ⟨s2, hs2⟩ : ∃ s, wsL l G2 = s := ⟨_, rfl⟩
        rw [hs1] at C63 HWL
        rw [hs2] at C62 HWL
        have hle : (s1 : Int) ≤ (s2 : Int) := by have := HWL.out; omega
        rw [hgs]
        obtain ⟨fl, hfl⟩ : ∃ q, f.length = q := ⟨_, rfl⟩
        rw [hfl] at C62 ⊢
        clear hgs hib C5 C6 C6G hfr2 e1 e2 e3 hG2 hy hs1 hs2 hfl
        go_wp2_with fail
        refine C62.out.mono ?_
        rintro e1 w6 ⟨rfl, rfl⟩
        go_wp2_with fail
        refine C63.out.mono ?_
        rintro e1 w7 ⟨rfl, rfl⟩
        go_wp2_with fail
        go_ret
        exact ⟨rfl, LW.out _ S5.out⟩
    · obtain ⟨gs, hgs2⟩ : ∃ x, frfS l E r f = x := ⟨_, rfl⟩
      rw [hgs2] at hgs ⊢
      have g1 : (gs != 0) = true := by simpa using hgs
      clear hgs hgs2 C5 C6 C6G
      go_wp2_with fail
      go_ret
      exact ⟨rfl, LW.out w5 S5.out⟩
end Go.Proofs.YtadfmplafehjlaaDoor
