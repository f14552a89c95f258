/-
  Package edit: weights of fields; what the law of Least asks.
  The reference's order of sets of fields: by weights, sizes and order: the order of their costs.
  The reference's weight and ahead.
-/
import Derived.Test.YtadfmplafehjlaaDoorER14
namespace Go.Proofs.YtadfmplafehjlaaDoor
open Go.RowKit Go.WideMaps Go.Maps Go.Shelf

/-- The weights of fields, together. -/
def wsL (l : List Fd) : List Nat → Nat
  | [] => 0
  | k :: g => wtN l k + wsL l g
theorem wsL_app (l : List Fd) : ∀ (g h : List Nat), wsL l (g ++ h) = wsL l g + wsL l h
  | [], h => by simp [wsL]
  | k :: g, h => by
    show wtN l k + wsL l (g ++ h) = wtN l k + wsL l g + wsL l h
    rw [wsL_app l g h]; omega
theorem wsL_erase (l : List Fd) {x : Nat} : ∀ {g : List Nat}, x ∈ g → wsL l g = wtN l x + wsL l (g.erase x)
  | [], h => by cases h
  | k :: g, h => by
    by_cases e : k = x
    · subst e; rw [List.erase_cons_head]; rfl
    · have hm : x ∈ g := by
        rcases List.mem_cons.1 h with q | q
        · exact absurd q.symm e
        · exact q
      rw [List.erase_cons_tail (by simpa using e)]
      show wtN l k + wsL l g = wtN l x + (wtN l k + wsL l (g.erase x))
      rw [wsL_erase l hm]; omega
theorem wsL_le (l : List Fd) : ∀ (s g : List Nat), s.Nodup → (∀ x, x ∈ s → x ∈ g) → wsL l s ≤ wsL l g
  | [], _, _, _ => Nat.zero_le _
  | x :: s, g, hn, hs => by
    rw [List.nodup_cons] at hn
    have h1 := wsL_le l s (g.erase x) hn.2 fun y hy => (List.mem_erase_of_ne (fun e => hn.1 (by rw [← e]; exact hy))).2 (hs y (by simp [hy]))
    rw [wsL_erase l (hs x (by simp))]
    show wtN l x + wsL l s ≤ _
    omega
theorem lst_nodup (p : Nat → Bool) (n : Nat) : (lst p n).Nodup := by
  unfold lst
  exact List.Nodup.sublist List.filter_sublist List.nodup_range
theorem wsL_lst (l : List Fd) (p : Nat → Bool) : ∀ n, wsL l (lst p n) = smS (wtN l) p n
  | 0 => rfl
  | n + 1 => by
    rw [lst_succ', wsL_app, wsL_lst l p n, sm_succ]
    by_cases h : p n = true
    · rw [if_pos h, if_pos h]; simp [wsL]
    · rw [if_neg h, if_neg h]; simp [wsL]
theorem mem_lst {p : Nat → Bool} {n x : Nat} : x ∈ lst p n ↔ x < n ∧ p x = true := by
  unfold lst
  rw [List.mem_filter, List.mem_range]
theorem lst_inc (p : Nat → Bool) (n : Nat) : (lst p n).Pairwise (· < ·) := by
  unfold lst
  exact List.Pairwise.sublist List.filter_sublist List.pairwise_lt_range
theorem natL_toI (g : List Nat) : natL (toI g) = g := by
  unfold natL toI
  rw [List.map_map]
  conv => rhs; rw [← List.map_id g]
  exact List.map_congr_left fun x _ => by simp
theorem fn_toI {g : List Nat} {k : Nat} (hk : k < g.length) : fn (toI g) k = ((g.getD k 0 : Nat) : Int) := by
  unfold fn toI
  rw [List.getD_eq_getElem?_getD, List.getElem?_map, List.getElem?_eq_getElem hk, List.getD_eq_getElem?_getD, List.getElem?_eq_getElem hk]; rfl
theorem fe_none {s : Nat → Int} : ∀ {n : Nat}, (∀ k, k < n → s k = 0) → fe s n = 0
  | 0, _ => rfl
  | n + 1, h => by rw [fe_next (fe_none fun k hk => h k (by omega)), h n (by omega)]
theorem fre_ok {n : Nat} {g : List Nat} (h1 : ∀ x, x ∈ g → x < n) (h2 : g.Pairwise (· < ·)) : freS n (toI g) = 0 := by
  unfold freS
  refine fe_none fun k hk => ?_
  rw [toI_len] at hk
  have a1 : ∀ j (hj : j < g.length), fn (toI g) j = ((g[j] : Nat) : Int) := fun j hj => by
    rw [fn_toI hj, List.getD_eq_getElem?_getD, List.getElem?_eq_getElem hj]; rfl
  have b1 := h1 g[k] (List.getElem_mem hk)
  unfold frE
  rw [a1 k hk, if_neg (by omega)]
  by_cases h0 : k = 0
  · rw [if_neg (fun q => q.1 h0)]
  · have := List.pairwise_iff_getElem.1 h2 (k - 1) k (by omega) hk (by omega)
    rw [a1 (k - 1) (by omega), if_neg]
    intro q
    have := q.2
    omega
theorem inc_short : ∀ (n : Nat) (g : List Nat), (∀ x, x ∈ g → x < n) → g.Nodup → g.length ≤ n := by
  intro n g h hn
  have := wsL_le
  have h2 : ∀ (s t : List Nat), s.Nodup → (∀ x, x ∈ s → x ∈ t) → s.length ≤ t.length := by
    intro s
    induction s with
    | nil => intro t _ _; exact Nat.zero_le _
    | cons x s ih =>
      intro t hn hs
      rw [List.nodup_cons] at hn
      have h1 := ih (t.erase x) hn.2 fun y hy => (List.mem_erase_of_ne (fun e => hn.1 (by rw [← e]; exact hy))).2 (hs y (by simp [hy]))
      have h2 := List.length_erase_of_mem (hs x (by simp))
      have h3 := List.length_pos_of_mem (hs x (by simp))
      rw [List.length_cons]; omega
  have := h2 g (List.range n) hn fun x hx => List.mem_range.2 (h x hx)
  simpa using this
theorem wsL_bd {l : List Fd} {E : List Ed} (hok : Ok l E) : ∀ (g : List Nat), (∀ x, x ∈ g → x < l.length) → wsL l g ≤ g.length * 1000
  | [], _ => Nat.zero_le _
  | k :: g, h => by
    have h1 := wsL_bd hok g fun x hx => h x (by simp [hx])
    have h2 := hok.wt k (h k (by simp))
    have h3 : wtN l k ≤ 1000 := by unfold wtN; omega
    show wtN l k + wsL l g ≤ (g.length + 1) * 1000
    omega
theorem wsL_take (l : List Fd) {g : List Nat} {k : Nat} (hk : k < g.length) : wsL l (g.take (k + 1)) = wsL l (g.take k) + wtN l (g.getD k 0) := by
  rw [List.take_add_one, List.getElem?_eq_getElem hk, wsL_app, List.getD_eq_getElem?_getD, List.getElem?_eq_getElem hk]
  simp [wsL]
/-- What First finds has no fault. -/
theorem fr_some {l : List Fd} {E : List Ed} {r x : List Int} (h : frS l E r = 0) (hx : x.length = l.length) (hp : paB l E x = true) : frS l E x = 0 := by
  have hok := (fr_ok h).1
  unfold frS at h ⊢
  split at h
  · contradiction
  · rename_i h1
    rw [if_neg h1]
    have hv : vdB l x = true := by unfold paB at hp; rw [Bool.and_eq_true] at hp; exact hp.1
    unfold recE
    rw [if_neg (by simpa using hx), if_pos]
    refine al_iff.2 fun j hj => ?_
    obtain ⟨k, hk, e⟩ := inC_iff.1 (al_iff.1 hv j (by omega))
    have := hok.cd j (by omega) k hk
    unfold okN
    rw [← e]
    simp; omega
/-- No fields that weigh less are enough. -/
theorem ls_weigh {l : List Fd} {E : List Ed} (hok : Ok l E) {r x : List Int} (hr : r.length = l.length) {C : Nat → Nat} (hC : LsC l E r C) {g : List Nat} (hg : ∀ i, i ∈ g → i < l.length) (h : fil l E g r = some x) : wsL l (lst (chB l r C) l.length) ≤ wsL l g := by
  obtain ⟨D, hD, h1⟩ := fil_ls hok hr hg h
  have h2 := cs_wt hok.n12 (hC.2 D hD)
  have h3 := wsL_le l (lst (chB l r D) l.length) g (lst_nodup _ _) fun y hy => by
    have := mem_lst.1 hy
    exact h1 y this.1 this.2
  rw [wsL_lst] at h3 ⊢
  omega
set_option maxRecDepth 100000 in
set_option maxHeartbeats 4000000 in
theorem weight_c (q : Nat) (a : Option Addr) (c : Nat) (l : List Fd) (E : List Ed) (ga : Option Addr) (gc : Nat) (g : List Nat) (w : World) (hl : RdF w a l) (hok : Ok l E) (hg : Rd w ga (toI g)) (hgl : ∀ x, x ∈ g → x < l.length) (hgn : g.length ≤ 12)
    (hq : w.cell? ⟨q, 0, none⟩ = some (.slice a l.length c)) :
    Calls Tryd.prog 24 #[.slice ga (toI g).length gc, .pointer (some ⟨q, 0, none⟩)] w fun e w' => e = .returned (.int .i64 (wsL l g : Nat)) ∧ w' = w := by
  have HG := Lib.hid hg
  have HL := Lib.hid hl
  have HGL := Lib.hid hgl
  have HOK := Lib.hid hok
  rw [toI_len]
  obtain ⟨m, hm⟩ : ∃ m, g.length = m := ⟨_, rfl⟩
  obtain ⟨n, hn⟩ : ∃ m, l.length = m := ⟨_, rfl⟩
  have HM := Lib.hid hm
  have HN := Lib.hid hn
  rw [hn] at hq
  rw [hm] at hgn ⊢
  clear hg hl hgl hok hm hn
  go_enter Tryd.func24, Tryd.ntmps24
  go_wp2_with fail
  go_loopw [4, 6, 9] (fun sv _ iv wr => ∃ (k s : Nat), iv = .int .i64 k ∧ sv = .int .i64 s ∧ Hid (k ≤ m ∧ s = wsL l (g.take k) ∧ w = wr)) (fun _ _ iv _ => m - (intOf iv).toNat)
  case atStart => exact ⟨0, 0, rfl, rfl, Nat.zero_le _, rfl, rfl⟩
  case round =>
    obtain ⟨k, s, rfl, rfl, hS⟩ := hrel
    obtain ⟨hk, hs, rfl⟩ := hS.out
    by_cases hlt : k < m
    · have hlt' : (k : Int) < (m : Int) := by omega
      have hkg : k < g.length := by rw [HM.out]; exact hlt
      obtain ⟨gb, go, rfl, _, hgc⟩ := HG.out.2 (by rw [toI_len]; omega)
      have c0 := hgc k (by rw [toI_len]; exact hkg)
      rw [fn_toI hkg] at c0
      have hx := HGL.out (g.getD k 0) (by rw [List.getD_eq_getElem?_getD, List.getElem?_eq_getElem hkg]; exact List.getElem_mem hkg)
      have hT := wsL_take l hkg
      have hsb : s ≤ 12000 := by
        rw [hs]
        have := wsL_bd HOK.out (g.take k) fun x hx => HGL.out x (List.mem_of_mem_take hx)
        rw [List.length_take] at this
        have : min k g.length ≤ 12 := by omega
        omega
      obtain ⟨x, hxx⟩ : ∃ x, g.getD k 0 = x := ⟨_, rfl⟩
      rw [hxx] at c0 hx hT
      obtain ⟨fb, fo, rfl, hfd⟩ := HL.out.at_ hx
      obtain ⟨_, _, c1⟩ := hfd
      have hwt := HOK.out.wt x hx
      obtain ⟨y, hy⟩ : ∃ y, wtN l x = y := ⟨_, rfl⟩
      have hye : (fd l x).wt = (y : Int) := by rw [← hy]; unfold wtN; omega
      rw [hye] at c1 hwt
      rw [hy] at hT
      have hxn : (x : Int) < (n : Int) := by rw [HN.out] at hx; omega
      have hx0 : (0 : Int) ≤ (x : Int) := by omega
      have NX : Hid (k + 1 ≤ m ∧ s + y = wsL l (g.take (k + 1)) ∧ w = w) := ⟨hlt, by rw [hT, ← hs], rfl⟩
      obtain ⟨z, hz⟩ : ∃ z, s + y = z := ⟨_, rfl⟩
      rw [hz] at NX
      have hsy : (s : Int) + (y : Int) = (z : Int) := by omega
      have hzb : z ≤ 13000 := by omega
      clear hS hk hs hT hgc hkg hx hxx hy hye hz
      go_wp2_with fail
      go_roundw
      case rel => exact ⟨k + 1, z, by go_num, rfl, (by unfold Hid; exact ⟨NX.out.1, NX.out.2.1, trivial⟩)⟩
      case measure => simp [intOf]; omega
    · have hlt' : ¬ (k : Int) < (m : Int) := by omega
      have e : s = wsL l g := by
        rw [hs, List.take_of_length_le (by rw [HM.out]; omega)]
      subst e
      clear hS hk hs hlt
      go_wp2_with fail
      go_ret
      exact ⟨rfl, rfl⟩
end Go.Proofs.YtadfmplafehjlaaDoor
namespace Go.Proofs.YtadfmplafehjlaaDoor
open Go.RowKit Go.WideMaps Go.Maps Go.Shelf

def csL (l : List Fd) : List Nat → Nat
  | [] => 0
  | k :: g => csN l k + csL l g
def rsL : List Nat → Nat
  | [] => 0
  | k :: g => rsN k + rsL g
def pwL : List Nat → Nat
  | [] => 0
  | k :: g => 2 ^ (11 - k) + pwL g
/-- A set of fields. -/
def Sb (n : Nat) (g : List Nat) : Prop := (∀ x, x ∈ g → x < n) ∧ g.Pairwise (· < ·)
theorem Sb.tail {n x : Nat} {g : List Nat} (h : Sb n (x :: g)) : Sb n g := ⟨fun y hy => h.1 y (by simp [hy]), (List.pairwise_cons.1 h.2).2⟩
theorem sb_lst (p : Nat → Bool) (n : Nat) : Sb n (lst p n) := ⟨fun x hx => (mem_lst.1 hx).1, lst_inc p n⟩
theorem Sb.nd {n : Nat} {g : List Nat} (h : Sb n g) : g.Nodup := List.Pairwise.imp (fun h => Nat.ne_of_lt h) h.2
theorem Sb.len {n : Nat} {g : List Nat} (h : Sb n g) : g.length ≤ n := inc_short n g h.1 h.nd
theorem csL_app (l : List Fd) : ∀ (g h : List Nat), csL l (g ++ h) = csL l g + csL l h
  | [], h => by simp [csL]
  | k :: g, h => by
    show csN l k + csL l (g ++ h) = csN l k + csL l g + csL l h
    rw [csL_app l g h]; omega
theorem csL_lst (l : List Fd) (p : Nat → Bool) : ∀ n, csL l (lst p n) = smS (csN l) p n
  | 0 => rfl
  | n + 1 => by
    rw [lst_succ', csL_app, csL_lst l p n, sm_succ]
    by_cases h : p n = true
    · rw [if_pos h, if_pos h]; simp [csL]
    · rw [if_neg h, if_neg h]; simp [csL]
theorem csL_split (l : List Fd) : ∀ g, csL l g = wsL l g * 16777216 + rsL g
  | [] => by simp [csL, wsL, rsL]
  | k :: g => by
    show csN l k + csL l g = (wtN l k + wsL l g) * 16777216 + (rsN k + rsL g)
    rw [csL_split l g, cs_one, Nat.add_mul]; omega
theorem rsL_pw : ∀ g, rsL g + pwL g = g.length * 4096
  | [] => rfl
  | k :: g => by
    have h := rsL_pw g
    have h2 := pow11 k
    show rsN k + rsL g + (2 ^ (11 - k) + pwL g) = (g.length + 1) * 4096
    unfold rsN
    omega
theorem pw_lt {n : Nat} (hn : n ≤ 12) : ∀ (g : List Nat) (m : Nat), Sb n g → (∀ x, x ∈ g → m ≤ x) → pwL g < 2 ^ (12 - m)
  | [], m, _, _ => Nat.two_pow_pos _
  | x :: g, m, h, hm => by
    have hx := h.1 x (by simp)
    have hmx := hm x (by simp)
    have h1 := pw_lt hn g (x + 1) h.tail fun y hy => (List.pairwise_cons.1 h.2).1 y hy
    have e1 : 12 - (x + 1) = 11 - x := by omega
    have e2 : 2 ^ (12 - x) = 2 ^ (11 - x) * 2 := by rw [show 12 - x = (11 - x) + 1 by omega, Nat.pow_succ]
    have e3 : 2 ^ (12 - x) ≤ 2 ^ (12 - m) := Nat.pow_le_pow_right (by omega) (by omega)
    rw [e1] at h1
    show 2 ^ (11 - x) + pwL g < _
    omega
theorem pw_top {n : Nat} (hn : n ≤ 12) {g : List Nat} (h : Sb n g) : pwL g < 4096 := by
  have := pw_lt hn g 0 h fun _ _ => Nat.zero_le _
  exact this
theorem rsL_lt {n : Nat} (hn : n ≤ 12) {g : List Nat} (h : Sb n g) : rsL g < 16777216 := by
  have h1 := rsL_pw g
  have h2 := h.len
  omega
/-- The order of rows of one length. -/
def cmI : List Nat → List Nat → Int
  | x :: a, y :: b => if x < y then -1 else if y < x then 1 else cmI a b
  | _, _ => 0
theorem cm_lex {n : Nat} (hn : n ≤ 12) : ∀ (a b : List Nat), Sb n a → Sb n b → a.length = b.length → (cmI a b < 0 → pwL b < pwL a) ∧ (0 < cmI a b → pwL a < pwL b) ∧ (cmI a b = 0 → a = b)
  | [], [], _, _, _ => ⟨fun h => by simp [cmI] at h, fun h => by simp [cmI] at h, fun _ => rfl⟩
  | [], _ :: _, _, _, h => by simp at h
  | _ :: _, [], _, _, h => by simp at h
  | x :: a, y :: b, ha, hb, hl => by
    have hx := ha.1 x (by simp)
    have hy := hb.1 y (by simp)
    have key : ∀ (u v : Nat) (s t : List Nat), u < v → v < n → Sb n (v :: t) → pwL (v :: t) < pwL (u :: s) := fun u v s t huv hv ht => by
      have h1 := pw_lt hn (v :: t) v ht fun z hz => by
        rcases List.mem_cons.1 hz with e | e
        · omega
        · have := (List.pairwise_cons.1 ht.2).1 z e; omega
      have e3 : 2 ^ (12 - v) ≤ 2 ^ (11 - u) := Nat.pow_le_pow_right (by omega) (by omega)
      show _ < 2 ^ (11 - u) + pwL s
      omega
    unfold cmI
    by_cases h1 : x < y
    · rw [if_pos h1]
      exact ⟨fun _ => key x y a b h1 hy hb, fun h => by omega, fun h => by omega⟩
    · rw [if_neg h1]
      by_cases h2 : y < x
      · rw [if_pos h2]
        exact ⟨fun h => by omega, fun _ => key y x b a h2 hx ha, fun h => by omega⟩
      · rw [if_neg h2]
        have e : x = y := by omega
        subst e
        obtain ⟨q1, q2, q3⟩ := cm_lex hn a b ha.tail hb.tail (by simpa using hl)
        refine ⟨fun h => ?_, fun h => ?_, fun h => by rw [q3 h]⟩
        · have := q1 h
          show 2 ^ (11 - x) + pwL b < 2 ^ (11 - x) + pwL a
          omega
        · have := q2 h
          show 2 ^ (11 - x) + pwL a < 2 ^ (11 - x) + pwL b
          omega
section
variable {l : List Fd} {n : Nat} (hn : n ≤ 12) {a b : List Nat} (ha : Sb n a) (hb : Sb n b)
include hn ha hb
theorem ah_wt (h : wsL l a ≠ wsL l b) : csL l a < csL l b ↔ wsL l a < wsL l b := by
  rw [csL_split, csL_split]
  have h1 := rsL_lt hn ha
  have h2 := rsL_lt hn hb
  omega
theorem ah_len (h : wsL l a = wsL l b) (h0 : a.length ≠ b.length) : csL l a < csL l b ↔ a.length < b.length := by
  rw [csL_split, csL_split, h]
  have h1 := rsL_pw a
  have h2 := rsL_pw b
  have h3 := pw_top hn ha
  have h4 := pw_top hn hb
  omega
theorem ah_lex (h : wsL l a = wsL l b) (h0 : a.length = b.length) : csL l a < csL l b ↔ cmI a b < 0 := by
  rw [csL_split, csL_split, h]
  have h1 := rsL_pw a
  have h2 := rsL_pw b
  obtain ⟨q1, q2, q3⟩ := cm_lex hn a b ha hb h0
  constructor
  · intro x
    rcases Int.lt_trichotomy (cmI a b) 0 with e | e | e
    · exact e
    · rw [q3 e] at x; omega
    · have := q2 e; omega
  · intro x
    have := q1 x; omega
/-- Costs tell sets apart. -/
theorem cs_inj (h : csL l a = csL l b) : a = b := by
  have h1 := rsL_lt hn ha
  have h2 := rsL_lt hn hb
  have hw : wsL l a = wsL l b := by
    have h' := h
    rw [csL_split, csL_split] at h'
    omega
  have hl : a.length = b.length := by
    refine Classical.byContradiction fun q => ?_
    have h3 := ah_len hn ha hb hw q
    have h4 := ah_len hn hb ha hw.symm (fun e => q e.symm)
    rcases Nat.lt_trichotomy a.length b.length with e | e | e
    · have := h3.2 e; omega
    · exact q e
    · have := h4.2 e; omega
  obtain ⟨q1, q2, q3⟩ := cm_lex hn a b ha hb hl
  have h5 := rsL_pw a
  have h6 := rsL_pw b
  have h7 : rsL a = rsL b := by rw [csL_split, csL_split] at h; omega
  refine q3 ?_
  rcases Int.lt_trichotomy (cmI a b) 0 with e | e | e
  · have := q1 e; omega
  · exact e
  · have := q2 e; omega
end
/-- Whether a set comes ahead of another one. -/
def ahB (l : List Fd) (a b : List Nat) : Bool := decide (csL l a < csL l b)
theorem cm_take {a b : List Nat} : ∀ {k : Nat}, a.take k = b.take k → ∀ (_ : k < a.length) (_ : k < b.length), a.getD k 0 ≠ b.getD k 0 → cmI a b = if a.getD k 0 < b.getD k 0 then -1 else 1 := by
  induction a generalizing b with
  | nil => intro k _ h; simp at h
  | cons x a ih =>
    intro k ht h1 h2 hne
    cases b with
    | nil => simp at h2
    | cons y b =>
      cases k with
      | zero =>
        have hne : x ≠ y := hne
        show (if x < y then -1 else if y < x then 1 else cmI a b) = if x < y then -1 else 1
        by_cases q : x < y
        · rw [if_pos q, if_pos q]
        · rw [if_neg q, if_neg q, if_pos (by omega)]
      | succ k =>
        have ht : x :: a.take k = y :: b.take k := ht
        injection ht with e1 e2
        subst e1
        show (if x < x then -1 else if x < x then 1 else cmI a b) = _
        rw [if_neg (Nat.lt_irrefl x), if_neg (Nat.lt_irrefl x)]
        exact ih e2 (by simpa using h1) (by simpa using h2) hne
theorem cm_same : ∀ (a : List Nat), cmI a a = 0
  | [] => rfl
  | x :: a => by
    show (if x < x then -1 else if x < x then 1 else cmI a a) = 0
    rw [if_neg (Nat.lt_irrefl x), if_neg (Nat.lt_irrefl x)]; exact cm_same a
theorem take_next {a : List Nat} {k : Nat} (hk : k < a.length) : a.take (k + 1) = a.take k ++ [a.getD k 0] := by
  rw [List.take_add_one, List.getElem?_eq_getElem hk, List.getD_eq_getElem?_getD, List.getElem?_eq_getElem hk]; rfl
set_option maxRecDepth 100000 in
set_option maxHeartbeats 4000000 in
/-- slices.Compare of rows of one length. -/
theorem compare_c (aa : Option Addr) (ca : Nat) (a : List Nat) (ba : Option Addr) (cb : Nat) (b : List Nat) (w : World) (ha : Rd w aa (toI a)) (hb : Rd w ba (toI b)) (hl : a.length = b.length) :
    Calls Tryd.prog 43 #[.slice aa (toI a).length ca, .slice ba (toI b).length cb] w fun e w' => e = .returned (.int .i64 (cmI a b)) ∧ w' = w := by
  have HA := Lib.hid ha
  have HB := Lib.hid hb
  have hm64 : a.length ≤ 9223372036854775807 := by have := ha.1; rw [toI_len] at this; exact this
  rw [toI_len, toI_len, ← hl]
  obtain ⟨m, hm⟩ : ∃ m, a.length = m := ⟨_, rfl⟩
  have HM := Lib.hid hm
  have HM2 : Hid (b.length = m) := hl.symm.trans hm
  rw [hm] at hm64 ⊢
  clear ha hb hl hm
  go_enter Tryd.func43, Tryd.ntmps43
  go_wp2_with fail
  go_loopw [5, 6, 7, 8, 11] (fun _ _ _ _ iv wr => ∃ (k : Nat), iv = .int .i64 k ∧ Hid (k ≤ m ∧ a.take k = b.take k ∧ w = wr)) (fun _ _ _ _ iv _ => m - (intOf iv).toNat)
  case atStart => exact ⟨0, rfl, Nat.zero_le _, rfl, rfl⟩
  case round =>
    obtain ⟨k, rfl, hS⟩ := hrel
    obtain ⟨hk, hs, rfl⟩ := hS.out
    have HS := Lib.hid hs
    by_cases hlt : k < m
    · have hlt' : (k : Int) < (m : Int) := by omega
      have hge : ¬ (m : Int) ≤ (k : Int) := by omega
      have hka : k < a.length := by rw [HM.out]; exact hlt
      have hkb : k < b.length := by rw [HM2.out]; exact hlt
      obtain ⟨ga, oa, rfl, _, hca⟩ := HA.out.2 (by rw [toI_len]; omega)
      obtain ⟨gb, ob, rfl, _, hcb⟩ := HB.out.2 (by rw [toI_len]; omega)
      have c0 := hca k (by rw [toI_len]; exact hka)
      have c1 := hcb k (by rw [toI_len]; exact hkb)
      rw [fn_toI hka] at c0
      rw [fn_toI hkb] at c1
      have TA := take_next hka
      have TB := take_next hkb
      have CT : Hid (a.getD k 0 ≠ b.getD k 0 → cmI a b = if a.getD k 0 < b.getD k 0 then -1 else 1) := fun h => cm_take hs hka hkb h
      have NX : Hid (a.getD k 0 = b.getD k 0 → a.take (k + 1) = b.take (k + 1)) := fun h => by rw [TA, TB, hs, h]
      obtain ⟨x, hx⟩ : ∃ x, a.getD k 0 = x := ⟨_, rfl⟩
      obtain ⟨y, hy⟩ : ∃ x, b.getD k 0 = x := ⟨_, rfl⟩
      rw [hx, hy] at CT NX
      rw [hx] at c0
      rw [hy] at c1
      have CC : Hid (∀ V, Calls Tryd.prog 69 #[.int .i64 x, .int .i64 y] V fun e w' => e = .returned (.int .i64 (Lib.compareInt x y)) ∧ w' = V) := fun V => Tryd.cmp_Compare_int x y V
      clear hS hk hs hca hcb hka hkb TA TB hx hy
      by_cases e : x = y
      · subst e
        have hc : Lib.compareInt (x : Int) (x : Int) = 0 := by unfold Lib.compareInt; simp
        rw [hc] at CC
        have N2 := Lib.hid (NX.out rfl)
        go_wp2_with fail
        refine (CC.out _).mono ?_
        rintro e1 w4 ⟨rfl, rfl⟩
        go_wp2_with fail
        go_roundw
        case rel => exact ⟨k + 1, by go_num, by unfold Hid; exact ⟨hlt, N2.out, trivial⟩⟩
        case measure => simp [intOf]; omega
      · have hc : Lib.compareInt (x : Int) (y : Int) = cmI a b ∧ cmI a b ≠ 0 := by
          have h1 := CT.out e
          rw [h1]
          unfold Lib.compareInt
          by_cases q : x < y
          · rw [if_pos q, if_pos (by omega)]; exact ⟨rfl, by decide⟩
          · rw [if_neg q, if_neg (by omega)]
            refine ⟨?_, by decide⟩
            first | rfl | (rw [if_pos (by omega)])
        rw [hc.1] at CC
        obtain ⟨z, hz⟩ : ∃ z, cmI a b = z := ⟨_, rfl⟩
        have hz0 := hc.2
        rw [hz] at CC hz0
        have HZ := Lib.hid hz
        have g1 : (z != 0) = true := by simpa using hz0
        clear hc hz hz0 e CT NX
        go_wp2_with fail
        refine (CC.out _).mono ?_
        rintro e1 w4 ⟨rfl, rfl⟩
        go_wp2_with fail
        go_ret
        exact ⟨by rw [HZ.out]; rfl, rfl⟩
    · have hlt' : ¬ (k : Int) < (m : Int) := by omega
      have e : cmI a b = 0 := by
        have h1 : a.take k = a := List.take_of_length_le (by rw [HM.out]; omega)
        have h2 : b.take k = b := List.take_of_length_le (by rw [HM2.out]; omega)
        rw [h1, h2] at hs
        rw [hs]; exact cm_same b
      have HE := Lib.hid e
      clear hS hk hs hlt e
      go_wp2_with fail
      go_ret
      exact ⟨by rw [HE.out]; rfl, rfl⟩
end Go.Proofs.YtadfmplafehjlaaDoor
namespace Go.Proofs.YtadfmplafehjlaaDoor
open Go.RowKit Go.WideMaps Go.Maps Go.Shelf

set_option maxRecDepth 100000 in
set_option maxHeartbeats 4000000 in
theorem rweight_c (a : Option Addr) (c : Nat) (l : List Fd) (E : List Ed) (a2 : Option Addr) (m2 c2 : Nat) (ga : Option Addr) (gc : Nat) (g : List Nat) (w : World) (hl : RdF w a l) (hok : Ok l E) (hg : Rd w ga (toI g)) (hgl : ∀ x, x ∈ g → x < l.length) (hgn : g.length ≤ 12) :
    Calls Tryd.prog 124 #[.agg #[.slice a l.length c, .slice a2 m2 c2], .slice ga (toI g).length gc] w fun e w' => e = .returned (.int .i64 (wsL l g : Nat)) ∧ Below w.heap.size w w' := by
  obtain ⟨W1, hW1⟩ : ∃ W, w.alloc (.cells #[.slice a l.length c, .slice a2 m2 c2] 25) = W := ⟨_, rfl⟩
  have b1 : Below w.heap.size w W1 := by rw [← hW1]; exact bel_one _ _
  have B1 := Lib.hid b1
  have hq : W1.cell? ⟨w.heap.size, 0, none⟩ = some (.slice a l.length c) := by rw [← hW1, World.cell?_alloc_new]; rfl
  have HG := Lib.hid (hg.below b1)
  have HL := Lib.hid (hl.below b1)
  have HGL := Lib.hid hgl
  have HOK := Lib.hid hok
  rw [toI_len]
  obtain ⟨m, hm⟩ : ∃ m, g.length = m := ⟨_, rfl⟩
  obtain ⟨n, hn⟩ : ∃ m, l.length = m := ⟨_, rfl⟩
  have HM := Lib.hid hm
  have HN := Lib.hid hn
  rw [hn] at hq hW1 ⊢
  rw [hm] at hgn ⊢
  clear hg hl hgl hok hm hn b1
  go_enter Tryd.func124, Tryd.ntmps124
  go_wp2_with fail
  clear hW1
  go_loopw [5, 7, 10] (fun sv _ iv wr => ∃ (k s : Nat), iv = .int .i64 k ∧ sv = .int .i64 s ∧ Hid (k ≤ m ∧ s = wsL l (g.take k) ∧ W1 = wr)) (fun _ _ iv _ => m - (intOf iv).toNat)
  case atStart => exact ⟨0, 0, rfl, rfl, Nat.zero_le _, rfl, rfl⟩
  case round =>
    obtain ⟨k, s, rfl, rfl, hS⟩ := hrel
    obtain ⟨hk, hs, rfl⟩ := hS.out
    by_cases hlt : k < m
    · have hlt' : (k : Int) < (m : Int) := by omega
      have hkg : k < g.length := by rw [HM.out]; exact hlt
      obtain ⟨gb, go, rfl, _, hgc⟩ := HG.out.2 (by rw [toI_len]; omega)
      have c0 := hgc k (by rw [toI_len]; exact hkg)
      rw [fn_toI hkg] at c0
      have hx := HGL.out (g.getD k 0) (by rw [List.getD_eq_getElem?_getD, List.getElem?_eq_getElem hkg]; exact List.getElem_mem hkg)
      have hT := wsL_take l hkg
      have hsb : s ≤ 12000 := by
        rw [hs]
        have := wsL_bd HOK.out (g.take k) fun x hx => HGL.out x (List.mem_of_mem_take hx)
        rw [List.length_take] at this
        have : min k g.length ≤ 12 := by omega
        omega
      obtain ⟨x, hxx⟩ : ∃ x, g.getD k 0 = x := ⟨_, rfl⟩
      rw [hxx] at c0 hx hT
      obtain ⟨fb, fo, rfl, hfd⟩ := HL.out.at_ hx
      obtain ⟨_, _, c1⟩ := hfd
      have hwt := HOK.out.wt x hx
      obtain ⟨y, hy⟩ : ∃ y, wtN l x = y := ⟨_, rfl⟩
      have hye : (fd l x).wt = (y : Int) := by rw [← hy]; unfold wtN; omega
      rw [hye] at c1 hwt
      rw [hy] at hT
      have hxn : (x : Int) < (n : Int) := by rw [HN.out] at hx; omega
      have hx0 : (0 : Int) ≤ (x : Int) := by omega
      have NX : Hid (k + 1 ≤ m ∧ s + y = wsL l (g.take (k + 1)) ∧ W1 = W1) := ⟨hlt, by rw [hT, ← hs], rfl⟩
      obtain ⟨z, hz⟩ : ∃ z, s + y = z := ⟨_, rfl⟩
      rw [hz] at NX
      have hsy : (s : Int) + (y : Int) = (z : Int) := by omega
      have hzb : z ≤ 13000 := by omega
      clear hS hk hs hT hgc hkg hx hxx hy hye hz
      go_wp2_with fail
      go_roundw
      case rel => exact ⟨k + 1, z, by go_num, rfl, (by unfold Hid; exact ⟨NX.out.1, NX.out.2.1, trivial⟩)⟩
      case measure => simp [intOf]; omega
    · have hlt' : ¬ (k : Int) < (m : Int) := by omega
      have e : s = wsL l g := by
        rw [hs, List.take_of_length_le (by rw [HM.out]; omega)]
      subst e
      clear hS hk hs hlt
      go_wp2_with fail
      go_ret
      exact ⟨rfl, B1.out⟩
set_option maxRecDepth 100000 in
set_option maxHeartbeats 4000000 in
theorem ahead_c (a : Option Addr) (c : Nat) (l : List Fd) (E : List Ed) (a2 : Option Addr) (m2 c2 : Nat) (ga : Option Addr) (gc : Nat) (g : List Nat) (ha : Option Addr) (hc : Nat) (h : List Nat) (w : World) (hl : RdF w a l) (hok : Ok l E) (hg : Rd w ga (toI g)) (hh : Rd w ha (toI h)) (sg : Sb l.length g) (sh : Sb l.length h) :
    Calls Tryd.prog 116 #[.agg #[.slice a l.length c, .slice a2 m2 c2], .slice ga (toI g).length gc, .slice ha (toI h).length hc] w fun e w' => e = .returned (.bool (ahB l g h)) ∧ Below w.heap.size w w' := by
  have mixed : Tryd.prog.follows .mixedOrders = true := by kernel_rfl
  obtain ⟨W1, hW1⟩ : ∃ W, w.alloc (.cells #[.slice a l.length c, .slice a2 m2 c2] 25) = W := ⟨_, rfl⟩
  obtain ⟨z, hz⟩ : ∃ z, w.heap.size = z := ⟨_, rfl⟩
  have b1 : Below w.heap.size w W1 := by rw [← hW1]; exact bel_one _ _
  have B1 := Lib.hid b1
  have x0 : W1.cell? ⟨z, 0, none⟩ = some (.slice a l.length c) := by rw [← hW1, ← hz, World.cell?_alloc_new]; rfl
  have x1 : W1.cell? ⟨z, 1, none⟩ = some (.slice a2 m2 c2) := by rw [← hW1, ← hz, World.cell?_alloc_new]; rfl
  have n12 := hok.n12
  have lg := sg.len
  have lh := sh.len
  have C1 : Hid (∀ V, Below W1.heap.size W1 V → Calls Tryd.prog 124 #[.agg #[.slice a l.length c, .slice a2 m2 c2], .slice ga (toI g).length gc] V fun e w' => e = .returned (.int .i64 (wsL l g : Nat)) ∧ Below V.heap.size V w') := fun V hV => by
    have b := b1.trans (hV.mono b1.size)
    exact rweight_c a c l E a2 m2 c2 ga gc g V (hl.below b) hok (hg.below b) sg.1 (by omega)
  have C2 : Hid (∀ V, Below W1.heap.size W1 V → Calls Tryd.prog 124 #[.agg #[.slice a l.length c, .slice a2 m2 c2], .slice ha (toI h).length hc] V fun e w' => e = .returned (.int .i64 (wsL l h : Nat)) ∧ Below V.heap.size V w') := fun V hV => by
    have b := b1.trans (hV.mono b1.size)
    exact rweight_c a c l E a2 m2 c2 ha hc h V (hl.below b) hok (hh.below b) sh.1 (by omega)
  have C3 : Hid (∀ V, Below W1.heap.size W1 V → g.length = h.length → Calls Tryd.prog 43 #[.slice ga (toI g).length gc, .slice ha (toI h).length hc] V fun e w' => e = .returned (.int .i64 (cmI g h)) ∧ w' = V) := fun V hV e => by
    have b := b1.trans (hV.mono b1.size)
    exact compare_c ga gc g ha hc h V (hg.below b) (hh.below b) e
  have AW := Lib.hid (ah_wt (l := l) n12 sg sh)
  have AL := Lib.hid (ah_len (l := l) n12 sg sh)
  have AX := Lib.hid (ah_lex (l := l) n12 sg sh)
  have wg : wsL l g ≤ 12000 := Nat.le_trans (wsL_bd hok g sg.1) (by omega)
  have wh : wsL l h ≤ 12000 := Nat.le_trans (wsL_bd hok h sh.1) (by omega)
  have X : Hid (∀ V, Below W1.heap.size W1 V → S2e ⟨z, 0, none⟩ ⟨z, 1, none⟩ (.slice a l.length c) (.slice a2 m2 c2) V) := fun V hV =>
    ⟨(hV.cell (p := ⟨z, 0, none⟩) (cellLt x0)).trans x0, (hV.cell (p := ⟨z, 1, none⟩) (cellLt x1)).trans x1⟩
  obtain ⟨s, hs⟩ : ∃ s, wsL l g = s := ⟨_, rfl⟩
  obtain ⟨t, htt⟩ : ∃ s, wsL l h = s := ⟨_, rfl⟩
  simp only [toI_len] at C1 C2 C3 ⊢
  obtain ⟨mg, hmg⟩ : ∃ s, g.length = s := ⟨_, rfl⟩
  obtain ⟨mh, hmh⟩ : ∃ s, h.length = s := ⟨_, rfl⟩
  obtain ⟨n, hn⟩ : ∃ s, l.length = s := ⟨_, rfl⟩
  obtain ⟨cm, hcm⟩ : ∃ s, cmI g h = s := ⟨_, rfl⟩
  have HAH : Hid (ahB l g h = decide (csL l g < csL l h)) := rfl
  rw [hs] at C1 AW AL AX wg
  rw [htt] at C2 AW AL AX wh
  rw [hmg] at C1 C3 AL AX lg
  rw [hmh] at C2 C3 AL AX lh
  rw [hn] at C1 C2 x0 X hW1 lg lh n12
  rw [hcm] at C3 AX
  rw [hmg, hmh, hn]
  clear hl hok hg hh sg sh b1 hs htt hmg hmh hn hcm x0 x1
  go_enter Tryd.func116, Tryd.ntmps116
  go_wp2_with fail
  clear hW1
  refine wp_region_noPanic ?_
  refine wp_region_held_drew (S := (S2e ⟨z, 0, none⟩ ⟨z, 1, none⟩ (.slice a n c) (.slice a2 m2 c2))) (by kernel_rfl) (by exact X.out _ (Below.refl _ _).drew) (fun hS => ?_)
  obtain ⟨WD, hWD⟩ : ∃ W, W1.drew = W := ⟨_, rfl⟩
  have D0 : Hid (Below W1.heap.size W1 WD) := by unfold Hid; rw [← hWD]; exact (Below.refl _ _).drew
  rw [hWD] at hS ⊢
  clear hWD
  refine wpAnyH_take (i := 0) (v := ?v0a0) rfl (by kernel_rfl) (by kernel_rfl) (by kernel_rfl) (fun _ _ _ h => h) (Or.inl ⟨by rfl, ?hy0a0⟩) (by assumption) ?rest0a0
  case hy0a0 =>
    intro w hSw
    dsimp only [S2e] at hSw
    go_simp
    try with_reducible rfl
  simp only [Act.put, List.getElem_toArray, List.getElem_cons_succ, List.getElem_cons_zero, List.setIfInBounds_toArray, List.set_cons_zero, List.set_cons_succ]
  refine wpAnyH_take (i := 1) (v := ?v1a1) rfl (by kernel_rfl) (by kernel_rfl) (by kernel_rfl) (fun _ _ _ h => h) (Or.inl ⟨by rfl, ?hy1a1⟩) (by assumption) ?rest1a1
  case hy1a1 =>
    intro w hSw
    dsimp only [S2e] at hSw
    go_simp
    try with_reducible rfl
  simp only [Act.put, List.getElem_toArray, List.getElem_cons_succ, List.getElem_cons_zero, List.setIfInBounds_toArray, List.set_cons_zero, List.set_cons_succ]
  refine wpAnyH_take (i := 3) (v := ?v3a3) rfl (by kernel_rfl) (by kernel_rfl) (by kernel_rfl) (fun _ _ _ h => h) (Or.inl ⟨by rfl, ?hy3a3⟩) (by assumption) ?rest3a3
  case hy3a3 =>
    intro w hSw
    dsimp only [S2e] at hSw
    go_simp
    try with_reducible rfl
  simp only [Act.put, List.getElem_toArray, List.getElem_cons_succ, List.getElem_cons_zero, List.setIfInBounds_toArray, List.set_cons_zero, List.set_cons_succ]
  refine wpAnyH_take (i := 4) (v := ?v4a4) rfl (by kernel_rfl) (by kernel_rfl) (by kernel_rfl) (fun _ _ _ h => h) (Or.inl ⟨by rfl, ?hy4a4⟩) (by assumption) ?rest4a4
  case hy4a4 =>
    intro w hSw
    dsimp only [S2e] at hSw
    go_simp
    try with_reducible rfl
  simp only [Act.put, List.getElem_toArray, List.getElem_cons_succ, List.getElem_cons_zero, List.setIfInBounds_toArray, List.set_cons_zero, List.set_cons_succ]
  refine wpAnyH_ready (rs := [2]) (by kernel_rfl) (by simp) ?_
  refine AllReadyH.cons rfl (fun K hK => ?_) AllReadyH.nil
  go_simp
  refine (C1.out WD D0.out).mono ?_
  rintro e1 w2 ⟨rfl, b2⟩
  try go_simp
  have B2 := Lib.hid (D0.out.trans (b2.mono D0.out.size))
  have hT := X.out w2 B2.out
  refine hK _ _ hT (fun _ => ?_)
  clear hK K hT
  try simp only [Act.put, List.setIfInBounds_toArray, List.set_cons_zero, List.set_cons_succ]
  refine wpAnyH_ready (rs := [5]) (by kernel_rfl) (by simp) ?_
  refine AllReadyH.cons rfl (fun K hK => ?_) AllReadyH.nil
  go_simp
  refine (C2.out w2 B2.out).mono ?_
  rintro e1 w3 ⟨rfl, b3⟩
  try go_simp
  have B3 := Lib.hid (B2.out.trans (b3.mono B2.out.size))
  have hT := X.out w3 B3.out
  refine hK _ _ hT (fun _ => ?_)
  clear hK K hT
  try simp only [Act.put, List.setIfInBounds_toArray, List.set_cons_zero, List.set_cons_succ]
  refine wpAnyH_take (i := 6) (v := ?v6b6) rfl (by kernel_rfl) (by kernel_rfl) (by kernel_rfl) (fun _ _ _ h => h) (Or.inl ⟨by rfl, ?hy6b6⟩) (by assumption) ?rest6b6
  case hy6b6 =>
    intro w hSw
    dsimp only [S2e] at hSw
    go_simp
    try with_reducible rfl
  simp only [Act.put, List.getElem_toArray, List.getElem_cons_succ, List.getElem_cons_zero, List.setIfInBounds_toArray, List.set_cons_zero, List.set_cons_succ]
  refine wpAnyH_take (i := 7) (v := ?v7b7) rfl (by kernel_rfl) (by kernel_rfl) (by kernel_rfl) (fun _ _ _ h => h) (Or.inl ⟨by rfl, ?hy7b7⟩) (by assumption) ?rest7b7
  case hy7b7 =>
    intro w hSw
    dsimp only [S2e] at hSw
    go_simp
    try with_reducible rfl
  simp only [Act.put, List.getElem_toArray, List.getElem_cons_succ, List.getElem_cons_zero, List.setIfInBounds_toArray, List.set_cons_zero, List.set_cons_succ]
  refine wpAnyH_done (by kernel_rfl) ?_ _
  refine NoPanic.normal ?_
  clear hS b2 b3 C1 C2
  have LW : Hid (Below w.heap.size w w3) := B1.out.trans (B3.out.mono B1.out.size)
  by_cases e1 : s = t
  · have g1 : ((s : Int) != (t : Int)) = false := by rw [e1]; simp
    by_cases e2 : mg = mh
    · have g2 : ((mg : Int) != (mh : Int)) = false := by rw [e2]; simp
      have C4 := Lib.hid (C3.out w3 B3.out e2)
      have R : Hid (ahB l g h = decide (cm < 0)) := by
        rw [HAH.out]
        unfold Hid
        rw [Bool.eq_iff_iff]; simp only [decide_eq_true_iff]
        exact AX.out e1 e2
      clear e1 e2 C3
      go_wp2_with fail
      refine C4.out.mono ?_
      rintro e1 w4 ⟨rfl, rfl⟩
      go_wp2_with fail
      go_ret
      exact ⟨by rw [R.out]; rfl, LW.out⟩
    · have g2 : ((mg : Int) != (mh : Int)) = true := by simp; omega
      have R : Hid (ahB l g h = decide (mg < mh)) := by
        rw [HAH.out]
        unfold Hid
        rw [Bool.eq_iff_iff]; simp only [decide_eq_true_iff]
        exact AL.out e1 e2
      clear e1 e2 C3
      go_wp2_with fail
      go_ret
      exact ⟨by rw [R.out]; rfl, LW.out⟩
  · have g1 : ((s : Int) != (t : Int)) = true := by simp; omega
    have R : Hid (ahB l g h = decide (s < t)) := by
      rw [HAH.out]
      unfold Hid
      rw [Bool.eq_iff_iff]; simp only [decide_eq_true_iff]
      exact AW.out e1
    clear e1 C3
    go_wp2_with fail
    go_ret
    exact ⟨by rw [R.out]; rfl, LW.out⟩
end Go.Proofs.YtadfmplafehjlaaDoor
