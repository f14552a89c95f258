/-
  Package edit: the parts of a box, and the first record that passes.
  Package edit: boxes of records; the first record that passes.
  Maps from texts to values of any form that a call makes: what is found in them, what a store makes of them, and that they stay.
  EditPlansMatchSpec: the rows of numbers of package edit.
-/
import Derived.Test.YtadfmplafehjlaaDoorEP01
import Derived.Test.YtadfmplafehjlaaDoorShelf
namespace Go.Proofs.YtadfmplafehjlaaDoor

def ch (B : Nat → Nat) (i : Nat) : Nat := Lib.ctz 64 (B i)
def upd (B : Nat → Nat) (i v : Nat) : Nat → Nat := fun j => if j = i then v else B j
/-- The parts of a box from field i on. -/
def prt (l : List Fd) (E : List Ed) : Nat → Nat → (Nat → Nat) → Nat → List ((Nat → Nat) × Nat)
  | 0, _, B, F => [(B, F)]
  | d + 1, i, B, F => if F = 0 then [(B, F)] else (lst (fun k => (B i).testBit k) 20).flatMap fun k => prt l E d (i + 1) (upd B i (2 ^ k)) (F &&& hdS l E i k)
def recB (l : List Fd) (B : Nat → Nat) : List Int := (List.range l.length).map fun j => fn (fd l j).cs (ch B j)
/-- The first record that passes and has the values of r beside some fields. -/
def fil (l : List Fd) (E : List Ed) : List Nat → List Int → Option (List Int)
  | [], r => if paB l E r = true then some r else none
  | i :: f, r => (fd l i).cs.findSome? fun c => fil l E f (r.set i c)
theorem ch_pow (B : Nat → Nat) (i k : Nat) (hk : k < 64) (h : B i = 2 ^ k) : ch B i = k := by
  unfold ch
  rw [h]
  refine ctz_first (Nat.pow_lt_pow_right (by omega) hk) (by simp) fun j hj => ?_
  rw [Nat.testBit_two_pow]; exact decide_eq_false (by omega)
theorem ch_full (B : Nat → Nat) (i n : Nat) (hn : n < 64) (h0 : 0 < n) (h : B i = 2 ^ n - 1) : ch B i = 0 := by
  unfold ch
  rw [h]
  have : 2 ^ n < 2 ^ 64 := Nat.pow_lt_pow_right (by omega) hn
  refine ctz_first (by omega) ?_ fun j hj => by omega
  rw [Nat.testBit_two_pow_sub_one]; simpa using h0
theorem ch_upd_same (B : Nat → Nat) (i k : Nat) (hk : k < 64) : ch (upd B i (2 ^ k)) i = k := ch_pow _ _ _ hk (by simp [upd])
theorem ch_upd_other (B : Nat → Nat) {i j v : Nat} (h : j ≠ i) : ch (upd B i v) j = ch B j := by unfold ch upd; rw [if_neg h]
theorem upd_self (B : Nat → Nat) (i v : Nat) (h : B i = v) : upd B i v = B := by
  funext j; unfold upd; split
  · rename_i e; rw [e]; exact h.symm
  · rfl
theorem lst_pow {k n : Nat} (hk : k < n) : lst (fun j => (2 ^ k).testBit j) n = [k] := by
  rw [lst_none (k := k + 1) (fun j hj h => by rw [Nat.testBit_two_pow]; exact decide_eq_false (by omega)) (by omega)]
  rw [lst_next (k := 0) (Nat.zero_le _) (by simp) (fun j _ h => by rw [Nat.testBit_two_pow]; exact decide_eq_false (by omega))]
  rfl
theorem lst_full {c n : Nat} (hc : c ≤ n) : lst (fun j => (2 ^ c - 1).testBit j) n = List.range c := by
  rw [lst_none (k := c) (fun j hj h => by rw [Nat.testBit_two_pow_sub_one]; exact decide_eq_false (by omega)) hc]
  unfold lst
  rw [List.filter_eq_self]
  intro j hj
  show (2 ^ c - 1).testBit j = true
  rw [Nat.testBit_two_pow_sub_one]; simpa using hj
theorem hd_and (l : List Fd) (E : List Ed) (i k : Nat) (p : Nat → Bool) : bz p E.length &&& hdS l E i k = bz (fun n => p n && hdB l E i k n) E.length := bz_and _ _ _
theorem fs_congr {α β : Type} {f g : α → Option β} : ∀ {s : List α}, (∀ x, x ∈ s → f x = g x) → s.findSome? f = s.findSome? g
  | [], _ => rfl
  | x :: s, h => by
    rw [List.findSome?_cons, List.findSome?_cons, h x (by simp), fs_congr fun y hy => h y (by simp [hy])]
theorem map_fn (cs : List Int) : (List.range cs.length).map (fn cs) = cs := by
  apply List.ext_getElem
  · simp
  · intro i h1 h2
    simp only [List.getElem_map, List.getElem_range, fn]
    simp at h1
    simp [List.getD, h1]
theorem fn_set {r : List Int} {i : Nat} {c : Int} (hi : i < r.length) (j : Nat) : fn (r.set i c) j = if j = i then c else fn r j := by
  unfold fn
  rw [List.getD_eq_getElem?_getD, List.getD_eq_getElem?_getD]
  by_cases h : j = i
  · subst h
    rw [List.getElem?_set_self hi, if_pos rfl]; rfl
  · rw [if_neg h, List.getElem?_set_ne (fun e => h e.symm)]
theorem list_fn {a b : List Int} (hl : a.length = b.length) (h : ∀ j, j < a.length → fn a j = fn b j) : a = b := by
  apply List.ext_getElem hl
  intro i h1 h2
  have := h i h1
  unfold fn at this
  simpa [List.getD, h1, h2] using this
section
variable {l : List Fd} {E : List Ed}
/-- Where the search stands. -/
structure Sch (l : List Fd) (E : List Ed) (d i : Nat) (B : Nat → Nat) (F : Nat) (r : List Int) (f : List Nat) : Prop where
  di : i + d = l.length
  rl : r.length = l.length
  got : ∀ j, j < l.length → j ∉ f → ∃ k, k < (fd l j).cs.length ∧ B j = 2 ^ k ∧ fn r j = fn (fd l j).cs k
  free : ∀ j, j ∈ f → i ≤ j ∧ j < l.length ∧ B j = 2 ^ (fd l j).cs.length - 1
  inc : f.Pairwise (· < ·)
  fs : F = bz (fun n => al (fun j => hdB l E j (ch B j) n) i) E.length
theorem rec_eq (hok : Ok l E) {B : Nat → Nat} {r : List Int} (hr : r.length = l.length) (h : ∀ j, j < l.length → ∃ k, k < (fd l j).cs.length ∧ B j = 2 ^ k ∧ fn r j = fn (fd l j).cs k) : recB l B = r := by
  refine list_fn (by simp [recB, hr]) fun j hj => ?_
  have hj : j < l.length := by simpa [recB] using hj
  obtain ⟨k, hk, hb, hf⟩ := h j hj
  have := hok.c20 j hj
  rw [hf]
  unfold recB
  unfold fn
  rw [List.getD_eq_getElem?_getD, List.getElem?_map, List.getElem?_range hj]
  simp only [Option.map_some, Option.getD_some]
  rw [ch_pow B j k (by omega) hb]
theorem pa_rec (hok : Ok l E) {B : Nat → Nat} {r : List Int} (h : ∀ j, j < l.length → ∃ k, k < (fd l j).cs.length ∧ B j = 2 ^ k ∧ fn r j = fn (fd l j).cs k) :
    paB l E r = true ↔ bz (fun n => al (fun j => hdB l E j (ch B j) n) l.length) E.length = 0 := by
  have hv : vdB l r = true := al_iff.2 fun j hj => by
    obtain ⟨k, hk, _, hf⟩ := h j hj
    exact inC_iff.2 ⟨k, hk, hf.symm⟩
  have hfl : ∀ n, n < E.length → flB E r n = al (fun j => hdB l E j (ch B j) n) l.length := fun n hn => by
    unfold flB
    rw [hok.sl n hn]
    refine al_ext fun j hj => ?_
    obtain ⟨k, hk, hb, hf⟩ := h j hj
    have := hok.c20 j hj
    unfold hdB
    rw [hf, ch_pow B j k (by omega) hb]
  unfold paB
  rw [hv, Bool.true_and, al_iff, bz_zero]
  constructor
  · intro a n hn; have := a n hn; rw [hfl n hn] at this; simpa using this
  · intro a n hn; rw [hfl n hn, a n hn]; rfl
theorem Sch.last (hok : Ok l E) {i : Nat} {B : Nat → Nat} {F : Nat} {r : List Int} {f : List Nat} (h : Sch l E 0 i B F r f) : f = [] ∧ (fil l E f r = if F = 0 then some (recB l B) else none) := by
  have hi : i = l.length := by have := h.di; omega
  have hf : f = [] := by
    cases f with
    | nil => rfl
    | cons x f => have := h.free x (by simp); omega
  subst hf
  have g := fun j hj => h.got j hj (by simp)
  have e1 := rec_eq hok h.rl g
  have e2 := pa_rec hok g
  rw [← hi, ← h.fs] at e2
  refine ⟨rfl, ?_⟩
  show (if paB l E r = true then some r else none) = _
  rw [e1]
  by_cases q : F = 0
  · rw [if_pos q, if_pos (e2.2 q)]
  · rw [if_neg q, if_neg (fun x => q (e2.1 x))]
theorem Sch.head {d i : Nat} {B : Nat → Nat} {F : Nat} {r : List Int} {f : List Nat} (h : Sch l E d i B F r f) (hi : i ∈ f) : ∃ g, f = i :: g := by
  cases f with
  | nil => cases hi
  | cons x g =>
    rcases List.mem_cons.1 hi with e | e
    · exact ⟨g, by rw [e]⟩
    · have h1 := (List.pairwise_cons.1 h.inc).1 i e
      have h2 := h.free x (by simp)
      omega
theorem Sch.pick (hok : Ok l E) {d i : Nat} {B : Nat → Nat} {F : Nat} {r : List Int} {g : List Nat} (h : Sch l E (d + 1) i B F r (i :: g)) {k : Nat} (hk : k < (fd l i).cs.length) :
    Sch l E d (i + 1) (upd B i (2 ^ k)) (F &&& hdS l E i k) (r.set i (fn (fd l i).cs k)) g := by
  have hil : i < l.length := by have := h.di; omega
  have hp := List.pairwise_cons.1 h.inc
  have hk64 : k < 64 := by have := hok.c20 i hil; omega
  refine ⟨by have := h.di; omega, by simp [h.rl], fun j hj hjg => ?_, fun j hj => ?_, hp.2, ?_⟩
  · by_cases e : j = i
    · subst e
      exact ⟨k, hk, by simp [upd], by rw [fn_set (by rw [h.rl]; exact hj), if_pos rfl]⟩
    · obtain ⟨k', h1, h2, h3⟩ := h.got j hj (by simp [e, hjg])
      exact ⟨k', h1, by unfold upd; rw [if_neg e]; exact h2, by rw [fn_set (by rw [h.rl]; exact hil), if_neg e]; exact h3⟩
  · have h1 := hp.1 j hj
    have h2 := h.free j (by simp [hj])
    exact ⟨h1, h2.2.1, by unfold upd; rw [if_neg (by omega)]; exact h2.2.2⟩
  · rw [h.fs, hd_and]
    refine bz_ext fun n hn => ?_
    show (al _ i && _) = (al _ i && _)
    dsimp only
    rw [ch_upd_same B i k hk64]
    congr 1
    exact al_ext fun j hj => by rw [ch_upd_other B (by omega)]
theorem Sch.skip (hok : Ok l E) {d i : Nat} {B : Nat → Nat} {F : Nat} {r : List Int} {f : List Nat} (h : Sch l E (d + 1) i B F r f) (hi : i ∉ f) :
    ∃ k, k < (fd l i).cs.length ∧ B i = 2 ^ k ∧ Sch l E d (i + 1) B (F &&& hdS l E i k) r f := by
  have hil : i < l.length := by have := h.di; omega
  obtain ⟨k, hk, hb, hf⟩ := h.got i hil hi
  have hk64 : k < 64 := by have := hok.c20 i hil; omega
  refine ⟨k, hk, hb, by have := h.di; omega, h.rl, h.got, fun j hj => ?_, h.inc, ?_⟩
  · have h2 := h.free j hj
    exact ⟨by have : j ≠ i := fun e => hi (e ▸ hj)
              omega, h2.2⟩
  · rw [h.fs, hd_and]
    refine bz_ext fun n hn => ?_
    show (al _ i && _) = (al _ i && _)
    dsimp only
    rw [ch_pow B i k hk64 hb]
/-- Where no edit is left all records of a part pass. -/
theorem Sch.cut (hok : Ok l E) : ∀ {d i : Nat} {B : Nat → Nat} {F : Nat} {r : List Int} {f : List Nat}, Sch l E d i B F r f → F = 0 → fil l E f r = some (recB l B)
  | 0, i, B, F, r, f, h, h0 => by rw [(h.last hok).2, if_pos h0]
  | d + 1, i, B, F, r, f, h, h0 => by
    have hil : i < l.length := by have := h.di; omega
    by_cases hi : i ∈ f
    · obtain ⟨g, rfl⟩ := h.head hi
      have hc := hok.c1 i hil
      have h1 := (h.pick hok hc).cut hok (by rw [h0, Nat.zero_and])
      have e : recB l (upd B i (2 ^ 0)) = recB l B := by
        unfold recB
        refine List.map_congr_left fun j hj => ?_
        by_cases q : j = i
        · subst q
          have := hok.c20 j hil
          rw [ch_upd_same B j 0 (by omega), ch_full B j _ (by omega) hc (h.free j (by simp)).2.2]
        · rw [ch_upd_other B q]
      rw [e] at h1
      show (fd l i).cs.findSome? _ = _
      have e2 : ∃ t, (fd l i).cs = fn (fd l i).cs 0 :: t := by
        cases q : (fd l i).cs with
        | nil => rw [q] at hc; simp at hc
        | cons a t => exact ⟨t, rfl⟩
      obtain ⟨t, e2⟩ := e2
      rw [e2, List.findSome?_cons, h1]
    · obtain ⟨k, _, _, h1⟩ := h.skip hok hi
      exact h1.cut hok (by rw [h0, Nat.zero_and])
/-- The first part without edits has the first record. -/
theorem Sch.find (hok : Ok l E) : ∀ {d i : Nat} {B : Nat → Nat} {F : Nat} {r : List Int} {f : List Nat}, Sch l E d i B F r f → ((prt l E d i B F).find? fun x => decide (x.2 = 0)).map (fun x => recB l x.1) = fil l E f r
  | 0, i, B, F, r, f, h => by
    rw [(h.last hok).2]
    show ([(B, F)].find? _).map _ = _
    by_cases q : F = 0
    · rw [if_pos q]; simp [q]
    · rw [if_neg q]; simp [q]
  | d + 1, i, B, F, r, f, h => by
    have hil : i < l.length := by have := h.di; omega
    unfold prt
    by_cases q : F = 0
    · rw [if_pos q, h.cut hok q]; simp [q]
    · rw [if_neg q, List.find?_flatMap, List.map_findSome?]
      have h20 := hok.c20 i hil
      by_cases hi : i ∈ f
      · obtain ⟨g, rfl⟩ := h.head hi
        rw [(h.free i (by simp)).2.2, lst_full h20]
        show _ = (fd l i).cs.findSome? _
        conv => rhs; rw [← map_fn (fd l i).cs, List.findSome?_map]
        refine fs_congr fun k hk => ?_
        have hk := List.mem_range.1 hk
        exact (h.pick hok hk).find hok
      · obtain ⟨k, hk, hb, h1⟩ := h.skip hok hi
        rw [hb, lst_pow (by omega)]
        have h2 := h1.find hok
        rw [← upd_self B i (2 ^ k) hb] at h2
        simp only [List.findSome?_cons, List.findSome?_nil, Function.comp]
        rw [h2]
        cases fil l E f r <;> rfl
end
end Go.Proofs.YtadfmplafehjlaaDoor
namespace Go.Proofs.YtadfmplafehjlaaDoor

def rbx (l : List Fd) (r : List Int) (i : Nat) : Nat := if i < l.length then mkS (fd l i).cs (fn r i) else 0
/-- A box without records. -/
def emB (l : List Fd) (B : Nat → Nat) : Bool := !(al (fun i => decide (B i ≠ 0)) l.length)
def flS (l : List Fd) (E : List Ed) (B : Nat → Nat) : Nat := if emB l B = true then 0 else bz (fun n => al (fun j => hdB l E j (ch B j) n) l.length) E.length
/-- The box of the records that are to be looked at. -/
def wib (l : List Fd) (r : List Int) (f : List Nat) (i : Nat) : Nat := if i < l.length then (if i ∈ f then fuS l i else mkS (fd l i).cs (fn r i)) else 0
theorem em_iff {l : List Fd} {B : Nat → Nat} : emB l B = false ↔ ∀ i, i < l.length → B i ≠ 0 := by
  unfold emB
  rw [Bool.not_eq_false', al_iff]
  exact ⟨fun h i hi => of_decide_eq_true (h i hi), fun h i hi => decide_eq_true (h i hi)⟩
theorem em_ex {l : List Fd} {B : Nat → Nat} (h : emB l B = true) : ∃ i, i < l.length ∧ B i = 0 := by
  refine Classical.byContradiction fun q => ?_
  have : emB l B = false := em_iff.2 fun i hi e => q ⟨i, hi, e⟩
  rw [h] at this; cases this
section
variable {l : List Fd} {E : List Ed}
theorem mk_pos (hok : Ok l E) {i : Nat} {c : Int} (hi : i < l.length) (h : mkS (fd l i).cs c ≠ 0) : ∃ k, k < (fd l i).cs.length ∧ fn (fd l i).cs k = c ∧ mkS (fd l i).cs c = 2 ^ k := by
  cases e : inC (fd l i).cs c with
  | false => exact absurd (mk_none e) h
  | true =>
    obtain ⟨k, hk, he⟩ := inC_iff.1 e
    exact ⟨k, hk, he, by rw [← he]; exact hok.mk_at hi hk⟩
theorem mk_iff (hok : Ok l E) {i : Nat} {c : Int} (hi : i < l.length) : mkS (fd l i).cs c ≠ 0 ↔ inC (fd l i).cs c = true := by
  refine ⟨fun h => ?_, fun h e => ?_⟩
  · obtain ⟨k, hk, he, _⟩ := mk_pos hok hi h
    exact inC_iff.2 ⟨k, hk, he⟩
  · obtain ⟨k, hk, he⟩ := inC_iff.1 h
    rw [← he, hok.mk_at hi hk] at e
    have := Nat.two_pow_pos k; omega
theorem rbx_em (hok : Ok l E) (r : List Int) : emB l (rbx l r) = !vdB l r := by
  rw [Bool.eq_iff_iff]
  constructor
  · intro h
    obtain ⟨i, hi, e⟩ := em_ex h
    cases q : vdB l r with
    | false => rfl
    | true =>
      have := al_iff.1 q i hi
      rw [← mk_iff hok hi] at this
      unfold rbx at e
      rw [if_pos hi] at e
      exact absurd e this
  · intro h
    cases q : emB l (rbx l r) with
    | true => rfl
    | false =>
      have := em_iff.1 q
      have hv : vdB l r = true := al_iff.2 fun i hi => by
        have h2 := this i hi
        unfold rbx at h2
        rw [if_pos hi] at h2
        exact (mk_iff hok hi).1 h2
      rw [hv] at h; cases h
theorem rbx_got (hok : Ok l E) {r : List Int} (h : emB l (rbx l r) = false) : ∀ j, j < l.length → ∃ k, k < (fd l j).cs.length ∧ rbx l r j = 2 ^ k ∧ fn r j = fn (fd l j).cs k := fun j hj => by
  have h1 := em_iff.1 h j hj
  unfold rbx at h1
  rw [if_pos hj] at h1
  obtain ⟨k, hk, he, h2⟩ := mk_pos hok hj h1
  exact ⟨k, hk, by unfold rbx; rw [if_pos hj]; exact h2, he.symm⟩
theorem fl_rec (hok : Ok l E) (r : List Int) : flS l E (rbx l r) = bz (flB E r) E.length := by
  unfold flS
  by_cases h : emB l (rbx l r) = true
  · rw [if_pos h]
    have hv := rbx_em hok r
    rw [h] at hv
    symm
    refine bz_none fun n hn => ?_
    cases e : flB E r n with
    | false => rfl
    | true =>
      have h1 := al_iff.1 e
      have : vdB l r = true := al_iff.2 fun j hj => hok.si n hn j hj _ (h1 j (by rw [hok.sl n hn]; exact hj))
      rw [this] at hv; cases hv
  · have h := by simpa using h
    rw [if_neg (by rw [h]; simp)]
    refine bz_ext fun n hn => ?_
    unfold flB
    rw [hok.sl n hn]
    refine al_ext fun j hj => ?_
    obtain ⟨k, hk, hb, hf⟩ := rbx_got hok h j hj
    have := hok.c20 j hj
    unfold hdB
    rw [hf, ch_pow (rbx l r) j k (by omega) hb]
theorem pa_box (hok : Ok l E) (r : List Int) : paB l E r = (!emB l (rbx l r) && decide (flS l E (rbx l r) = 0)) := by
  rw [fl_rec hok, rbx_em hok, Bool.not_not]
  unfold paB
  congr 1
  rw [Bool.eq_iff_iff, al_iff, decide_eq_true_iff, bz_zero]
  exact ⟨fun h j hj => by simpa using h j hj, fun h j hj => by simpa using h j hj⟩
theorem fu_ne (hok : Ok l E) {i : Nat} (hi : i < l.length) : fuS l i ≠ 0 := by
  unfold fuS
  rw [if_pos hi]
  have := hok.c1 i hi
  have : 2 ^ 1 ≤ 2 ^ (fd l i).cs.length := Nat.pow_le_pow_right (by omega) this
  omega
theorem wib_sch (hok : Ok l E) {r : List Int} {f : List Nat} (hr : r.length = l.length) (hf : ∀ x, x ∈ f → x < l.length) (hs : f.Pairwise (· < ·)) (h : emB l (wib l r f) = false) : Sch l E l.length 0 (wib l r f) (evS E) r f := by
  refine ⟨by omega, hr, fun j hj hjf => ?_, fun j hj => ?_, hs, ?_⟩
  · have h1 := em_iff.1 h j hj
    unfold wib at h1
    rw [if_pos hj, if_neg hjf] at h1
    obtain ⟨k, hk, he, h2⟩ := mk_pos hok hj h1
    exact ⟨k, hk, by unfold wib; rw [if_pos hj, if_neg hjf]; exact h2, he.symm⟩
  · have := hf j hj
    exact ⟨Nat.zero_le _, this, by unfold wib; rw [if_pos this, if_pos hj]; unfold fuS; rw [if_pos this]⟩
  · unfold evS
    rw [← bz_all]
    exact bz_ext fun n _ => rfl
theorem fil_bad {j : Nat} (hj : j < l.length) : ∀ (f : List Nat) (r : List Int), j ∉ f → (∀ x, x ∈ f → x < r.length) → inC (fd l j).cs (fn r j) = false → fil l E f r = none
  | [], r, _, _, h => by
    show (if paB l E r = true then _ else _) = _
    rw [if_neg]
    intro e
    unfold paB at e
    rw [Bool.and_eq_true] at e
    have := al_iff.1 e.1 j hj
    rw [h] at this; cases this
  | i :: f, r, hn, hl, h => by
    show (fd l i).cs.findSome? _ = _
    rw [List.findSome?_eq_none_iff]
    intro c _
    have hi : i < r.length := hl i (by simp)
    refine fil_bad hj f _ (fun e => hn (by simp [e])) (fun x hx => by rw [List.length_set]; exact hl x (by simp [hx])) ?_
    rw [fn_set hi, if_neg (fun e => hn (by simp [e]))]; exact h
theorem fil_none (hok : Ok l E) {r : List Int} {f : List Nat} (hr : r.length = l.length) (hf : ∀ x, x ∈ f → x < l.length) (h : emB l (wib l r f) = true) : fil l E f r = none := by
  obtain ⟨j, hj, e⟩ := em_ex h
  unfold wib at e
  rw [if_pos hj] at e
  by_cases q : j ∈ f
  · rw [if_pos q] at e; exact absurd e (fu_ne hok hj)
  · rw [if_neg q] at e
    refine fil_bad hj f r q (fun x hx => by rw [hr]; exact hf x hx) ?_
    cases hc : inC (fd l j).cs (fn r j) with
    | false => rfl
    | true => exact absurd e ((mk_iff hok hj).2 hc)
end
end Go.Proofs.YtadfmplafehjlaaDoor


namespace Go.Proofs.YtadfmplafehjlaaDoor
open Go.RowKit
open Go.ChangeMaps Go.MapKept

/-- How an element reads: as itself. -/
def asIs (v : Value) : Option (DataW Value × List MemPlace) := some (.held v, [])
/-- A datum that has the value f s at the text s. -/
def MapD (D : DataW Value) (f : ByteArray → Option Value) : Prop :=
  Maps.IsMap D ∧ ∀ s : ByteArray, Maps.has D (.string s.data.toList) = (f s).isSome ∧ ∀ z, D.atKey (.string s.data.toList) (.held z) = .held ((f s).getD z)
/-- Block b is a map of at most n entries that has the value f s at the text s. -/
def MapIs (w : World) (b n : Nat) (f : ByteArray → Option Value) : Prop := ∃ D : DataW Value, w.ownsMap Tryd.prog 9 asIs b n D ∧ MapD D f

theorem text_key {s x : ByteArray} (h : s ≠ x) : (Lit.string s.data.toList) ≠ .string x.data.toList := by
  intro e
  simp only [Lit.string.injEq] at e
  apply h
  cases s; cases x
  simpa using e
theorem MapD.none : MapD (.map []) fun _ => none := ⟨⟨[], rfl⟩, fun _ => ⟨rfl, fun _ => rfl⟩⟩
theorem MapD.put {D : DataW Value} {f : ByteArray → Option Value} (h : MapD D f) (s : ByteArray) (v : Value) : MapD (D.put (.string s.data.toList) (.held v)) fun x => if x = s then some v else f x := by
  obtain ⟨hm, hf⟩ := h
  refine ⟨?_, fun x => ?_⟩
  · obtain ⟨es, rfl⟩ := hm
    exact ⟨_, rfl⟩
  · by_cases hx : x = s
    · subst hx
      have hk : WideAt.IsKeyLit (.string x.data.toList) := trivial
      exact ⟨by rw [Maps.has_put_same hm hk]; simp, fun z => by rw [Maps.atKey_put_same hm hk]; simp⟩
    · simp only [if_neg hx]
      exact ⟨by rw [Maps.has_put_other (text_key hx)]; exact (hf x).1, fun z => by rw [Maps.atKey_put_other (text_key hx)]; exact (hf x).2 z⟩
theorem MapIs.lt {w : World} {b n : Nat} {f : ByteArray → Option Value} (h : MapIs w b n f) : b < w.heap.size := by
  obtain ⟨D, h, _⟩ := h; exact h.lt
theorem MapIs.below {w w' : World} {b n B : Nat} {f : ByteArray → Option Value} (h : MapIs w b n f) (hb : Below B w w') (hl : b < B) : MapIs w' b n f := by
  obtain ⟨D, ⟨es, clock, h1, h2⟩, hD⟩ := h
  exact ⟨D, ⟨es, clock, (hb.block b hl).trans h1, h2⟩, hD⟩
theorem MapIs.made (w : World) : MapIs (w.alloc (.map #[] 0)) w.heap.size 0 fun _ => none := ⟨_, World.ownsMap_made w _ _ _, MapD.none⟩
theorem MapIs.kept {w w' : World} {b n : Nat} {f : ByteArray → Option Value} {row : Option Nat} (h : MapIs w b n f) (hg : w.grownBy w' row) (hne : some b ≠ row) : MapIs w' b n f := by
  obtain ⟨D, h, hD⟩ := h; exact ⟨D, h.kept hg hne, hD⟩
theorem MapIs.congr {w : World} {b n : Nat} {f g : ByteArray → Option Value} (h : MapIs w b n f) (e : ∀ s, f s = g s) : MapIs w b n g := by
  have : f = g := funext e
  rw [← this]; exact h
/-- 'v, ok := m[s]'. -/
theorem MapIs.look {w : World} {b n : Nat} {f : ByteArray → Option Value} (h : MapIs w b n f) {t e : TypeId} (ht : Tryd.prog.underlying t = some (.map 9 e)) {z : Value} (hz : (zeroValue e).run Tryd.prog w = .ok z w) {s : ByteArray} (hs : s.size ≤ 9223372036854775807) :
    (Instr.lookup t (.map (some b)) (.string s) true).run Tryd.prog w = .ok (.tuple #[(f s).getD z, .bool (f s).isSome]) w := by
  obtain ⟨D, h, hm, hf⟩ := h
  obtain ⟨v, ps, hrun, hv⟩ := h.look_ok (Maps.string_keyed Tryd.underlying9) ht hz (zd := .held z) (zp := []) rfl (Go.WideMaps.keyOf_string_mk Tryd.underlying9 (by unfold maxLen; exact hs))
  rw [hrun, (hf s).1]
  rw [(hf s).2 z] at hv
  simp only [asIs, Option.some.injEq, Prod.mk.injEq, DataW.held.injEq] at hv
  rw [hv.1]
/-- 'm[s] = v'. -/
theorem MapIs.store {w : World} {b n : Nat} {f : ByteArray → Option Value} (h : MapIs w b n f) {t e : TypeId} (ht : Tryd.prog.underlying t = some (.map 9 e)) (hn : n < maxLen) {s : ByteArray} (hs : s.size ≤ 9223372036854775807) (v : Value) :
    ∃ w', (Instr.mapUpdate t (.map (some b)) (.string s) v).run Tryd.prog w = .ok () w' ∧ MapIs w' b (n + 1) (fun x => if x = s then some v else f x) ∧ w.grownBy w' (some b) := by
  obtain ⟨D, h, hD⟩ := h
  obtain ⟨w', h1, h2, h3⟩ := h.update (Maps.string_keyed Tryd.underlying9) ht hn (Go.WideMaps.keyOf_string_mk Tryd.underlying9 (by unfold maxLen; exact hs)) (d := .held v) (ps := []) rfl
  exact ⟨w', h1, ⟨_, h2, hD.put s v⟩, h3⟩
/-- 'm[s]'. -/
theorem MapIs.look1 {w : World} {b n : Nat} {f : ByteArray → Option Value} (h : MapIs w b n f) {t e : TypeId} (ht : Tryd.prog.underlying t = some (.map 9 e)) {z : Value} (hz : (zeroValue e).run Tryd.prog w = .ok z w) {s : ByteArray} (hs : s.size ≤ 9223372036854775807) :
    (Instr.lookup t (.map (some b)) (.string s) false).run Tryd.prog w = .ok ((f s).getD z) w := by
  obtain ⟨D, h, hm, hf⟩ := h
  obtain ⟨v, ps, hrun, hv⟩ := h.lookup (Maps.string_keyed Tryd.underlying9) ht hz (zd := .held z) (zp := []) rfl (Go.WideMaps.keyOf_string_mk Tryd.underlying9 (by unfold maxLen; exact hs))
  rw [hrun]
  rw [(hf s).2 z] at hv
  simp only [asIs, Option.some.injEq, Prod.mk.injEq, DataW.held.injEq] at hv
  rw [hv.1]
theorem zeroBool (w : World) : (zeroValue 4).run Tryd.prog w = .ok (.bool false) w := by kernel_rfl
/-- Block b is the set of the first k names. -/
def NmIs (w : World) (b : Nat) (ns : Nat → ByteArray) (k : Nat) : Prop := MapIs w b k fun s => if old ns s k then some (.bool true) else none
theorem NmIs.made (w : World) (ns : Nat → ByteArray) : NmIs (w.alloc (.map #[] 0)) w.heap.size ns 0 := (MapIs.made w).congr fun s => by unfold old; simp
theorem NmIs.below {w w' : World} {b B k : Nat} {ns : Nat → ByteArray} (h : NmIs w b ns k) (hb : Below B w w') (hl : b < B) : NmIs w' b ns k := MapIs.below h hb hl
theorem NmIs.kept {w w' : World} {b k : Nat} {ns : Nat → ByteArray} {row : Option Nat} (h : NmIs w b ns k) (hg : w.grownBy w' row) (hne : some b ≠ row) : NmIs w' b ns k := MapIs.kept h hg hne
theorem NmIs.has {w : World} {b k : Nat} {ns : Nat → ByteArray} (h : NmIs w b ns k) {s : ByteArray} (hs : s.size ≤ 9223372036854775807) :
    (Instr.lookup 125 (.map (some b)) (.string s) false).run Tryd.prog w = .ok (.bool (old ns s k)) w := by
  rw [MapIs.look1 h Tryd.underlying125 (zeroBool w) hs]
  cases old ns s k <;> rfl
theorem NmIs.store {w : World} {b k : Nat} {ns : Nat → ByteArray} (h : NmIs w b ns k) (hk : k < maxLen) (hs : (ns k).size ≤ 9223372036854775807) :
    ∃ w', (Instr.mapUpdate 125 (.map (some b)) (.string (ns k)) (.bool true)).run Tryd.prog w = .ok () w' ∧ NmIs w' b ns (k + 1) ∧ w.grownBy w' (some b) := by
  obtain ⟨w', h1, h2, h3⟩ := MapIs.store h Tryd.underlying125 hk hs (.bool true)
  refine ⟨w', h1, h2.congr fun s => ?_, h3⟩
  show _ = if (decide (ns k = s) || old ns s k) = true then _ else _
  by_cases e : s = ns k
  · subst e; simp
  · rw [if_neg e]
    have : decide (ns k = s) = false := by simpa using fun h => e h.symm
    rw [this, Bool.false_or]
end Go.Proofs.YtadfmplafehjlaaDoor
namespace Go.Proofs.YtadfmplafehjlaaDoor
open Go.RowKit Go.WideMaps Go.Maps

theorem codes1_c (c : Int) (w : World) : Calls Tryd.prog 122 #[.int .i64 c] w fun e w' => e = .returned (.bool (okC c)) ∧ w' = w := by
  by_cases h1 : 1 ≤ c
  · by_cases h2 : c ≤ 999
    · have e : Hid (okC c = true) := by unfold Hid okC; simp; omega
      go_enter Tryd.func122, Tryd.ntmps122
      go_wp2
      go_ret
      exact ⟨by rw [e.out]; rfl, rfl⟩
    · have e : Hid (okC c = false) := by unfold Hid okC; simp; omega
      have h2' : decide (c ≤ 999) = false := by simp; omega
      clear h2
      go_enter Tryd.func122, Tryd.ntmps122
      go_wp2
      go_ret
      exact ⟨by rw [e.out]; rfl, rfl⟩
  · have e : Hid (okC c = false) := by unfold Hid okC; simp; omega
    have h1' : decide (1 ≤ c) = false := by simp; omega
    clear h1
    go_enter Tryd.func122, Tryd.ntmps122
    go_wp2
    go_ret
    exact ⟨by rw [e.out]; rfl, rfl⟩
set_option maxHeartbeats 1000000 in
theorem inc1_c (a : Option Addr) (c : Nat) (l : List Int) (w : World) (hl : Rd w a l) (ok : Int → Bool) (hok : ∀ c, Calls Tryd.prog 122 #[.int .i64 c] w fun e w' => e = .returned (.bool (ok c)) ∧ w' = w) :
    Calls Tryd.prog 107 #[.slice a l.length c, .func (.func 122) #[] #[]] w fun e w' => e = .returned (.int .i64 (incS ok l)) ∧ w' = w := by
  have H := Lib.hid hl
  have hn := hl.1
  have HO := Lib.hid hok
  clear hl hok
  go_enter Tryd.func107, Tryd.ntmps107
  go_wp2
  go_loop [5, 6, 9] (fun _ _ i => ∃ k : Nat, k ≤ l.length ∧ i = .int .i64 k ∧ Hid (fe (stepE ok l) k = 0)) (fun _ _ i => l.length - (intOf i).toNat)
  case atStart => exact ⟨0, Nat.zero_le _, rfl, rfl⟩
  case round =>
    obtain ⟨k, hk, rfl, hE⟩ := hrel
    by_cases hlt : k < l.length
    · obtain ⟨b, off, rfl, hc⟩ := H.out.at_ hlt
      have hlt' : (k : Int) < (l.length : Int) := by omega
      have HC := Lib.hid (HO.out (fn l k))
      have hF : Hid (stepE ok l k ≠ 0 → incS ok l = stepE ok l k) := fun h => fe_at hlt hE.out h
      have hN : Hid (fe (stepE ok l) (k + 1) = stepE ok l k) := fe_next hE.out
      by_cases h1 : ok (fn l k) = false
      · have hS : stepE ok l k = 1 := by unfold stepE; rw [if_pos h1]
        have hR : Hid (incS ok l = 1) := by unfold Hid; rw [hF.out (by rw [hS]; decide), hS]
        rw [h1] at HC
        clear h1 hS hF hN
        go_wp2_with fail
        refine HC.out.mono ?_
        rintro e w' ⟨rfl, rfl⟩
        go_wp2
        go_ret
        exact ⟨by rw [hR.out]; rfl, rfl⟩
      · have h1' : ok (fn l k) = true := by simpa using h1
        rw [h1'] at HC
        by_cases h2 : k = 0
        · have hS : stepE ok l k = 0 := by unfold stepE; rw [if_neg h1, if_neg (by omega)]
          have hZ : Hid (fe (stepE ok l) (k + 1) = 0) := by unfold Hid; rw [hN.out, hS]
          clear h1 h1' hS hF hN
          subst h2
          rw [Nat.add_zero] at hc
          go_wp2_with fail
          refine HC.out.mono ?_
          rintro e w' ⟨rfl, rfl⟩
          go_wp2
          go_roundw
          case rel => exact ⟨1, by omega, by go_num, hZ.out⟩
          case measure => simp [intOf]; omega
        · obtain ⟨m, rfl⟩ : ∃ m, k = m + 1 := ⟨k - 1, by omega⟩
          have hc0 : w.cell? ⟨b, off + m, none⟩ = some (.int .i64 (fn l m)) := by
            obtain ⟨b', off', e, hc'⟩ := H.out.at_ (k := m) (by omega)
            injection e with e; injection e with e1 e2; subst e1; subst e2; exact hc'
          have hpos : (0 : Int) < ((m + 1 : Nat) : Int) := by omega
          have hm1 : ((m + 1 : Nat) : Int) - 1 = (m : Int) := by omega
          have hm2 : (m : Int) < (l.length : Int) := by omega
          by_cases h3 : fn l (m + 1) ≤ fn l m
          · have hS : stepE ok l (m + 1) = 7 := by unfold stepE; rw [if_neg h1, if_pos ⟨by omega, h3⟩]
            have hR : Hid (incS ok l = 7) := by unfold Hid; rw [hF.out (by rw [hS]; decide), hS]
            clear h1 h1' hS hF hN h2
            go_wp2_with fail
            refine HC.out.mono ?_
            rintro e w' ⟨rfl, rfl⟩
            go_wp2
            go_ret
            exact ⟨by rw [hR.out]; rfl, rfl⟩
          · have hS : stepE ok l (m + 1) = 0 := by unfold stepE; rw [if_neg h1, if_neg (fun h => h3 h.2)]
            have hZ : Hid (fe (stepE ok l) (m + 1 + 1) = 0) := by unfold Hid; rw [hN.out, hS]
            clear h1 h1' hS hF hN h2
            go_wp2_with fail
            refine HC.out.mono ?_
            rintro e w' ⟨rfl, rfl⟩
            go_wp2
            go_roundw
            case rel => exact ⟨m + 1 + 1, by omega, by go_num, hZ.out⟩
            case measure => simp [intOf]; omega
    · obtain rfl : k = l.length := by omega
      clear hlt
      have hR : Hid (incS ok l = 0) := hE
      go_wp2
      go_ret
      exact ⟨by rw [hR.out]; rfl, rfl⟩
set_option maxHeartbeats 1000000 in
theorem inc2_c (a : Option Addr) (c : Nat) (l : List Int) (p q : Addr) (w : World) (hl : Rd w a l) (ok : Int → Bool) (hok : ∀ c, Calls Tryd.prog 108 #[.int .i64 c, .pointer (some p), .pointer (some q)] w fun e w' => e = .returned (.bool (ok c)) ∧ w' = w) :
    Calls Tryd.prog 107 #[.slice a l.length c, .func (.func 108) #[] #[.pointer (some p), .pointer (some q)]] w fun e w' => e = .returned (.int .i64 (incS ok l)) ∧ w' = w := by
  have H := Lib.hid hl
  have hn := hl.1
  have HO := Lib.hid hok
  clear hl hok
  go_enter Tryd.func107, Tryd.ntmps107
  go_wp2
  go_loop [5, 6, 9] (fun _ _ i => ∃ k : Nat, k ≤ l.length ∧ i = .int .i64 k ∧ Hid (fe (stepE ok l) k = 0)) (fun _ _ i => l.length - (intOf i).toNat)
  case atStart => exact ⟨0, Nat.zero_le _, rfl, rfl⟩
  case round =>
    obtain ⟨k, hk, rfl, hE⟩ := hrel
    by_cases hlt : k < l.length
    · obtain ⟨b, off, rfl, hc⟩ := H.out.at_ hlt
      have hlt' : (k : Int) < (l.length : Int) := by omega
      have HC := Lib.hid (HO.out (fn l k))
      have hF : Hid (stepE ok l k ≠ 0 → incS ok l = stepE ok l k) := fun h => fe_at hlt hE.out h
      have hN : Hid (fe (stepE ok l) (k + 1) = stepE ok l k) := fe_next hE.out
      by_cases h1 : ok (fn l k) = false
      · have hS : stepE ok l k = 1 := by unfold stepE; rw [if_pos h1]
        have hR : Hid (incS ok l = 1) := by unfold Hid; rw [hF.out (by rw [hS]; decide), hS]
        rw [h1] at HC
        clear h1 hS hF hN
        go_wp2_with fail
        refine HC.out.mono ?_
        rintro e w' ⟨rfl, rfl⟩
        go_wp2
        go_ret
        exact ⟨by rw [hR.out]; rfl, rfl⟩
      · have h1' : ok (fn l k) = true := by simpa using h1
        rw [h1'] at HC
        by_cases h2 : k = 0
        · have hS : stepE ok l k = 0 := by unfold stepE; rw [if_neg h1, if_neg (by omega)]
          have hZ : Hid (fe (stepE ok l) (k + 1) = 0) := by unfold Hid; rw [hN.out, hS]
          clear h1 h1' hS hF hN
          subst h2
          rw [Nat.add_zero] at hc
          go_wp2_with fail
          refine HC.out.mono ?_
          rintro e w' ⟨rfl, rfl⟩
          go_wp2
          go_roundw
          case rel => exact ⟨1, by omega, by go_num, hZ.out⟩
          case measure => simp [intOf]; omega
        · obtain ⟨m, rfl⟩ : ∃ m, k = m + 1 := ⟨k - 1, by omega⟩
          have hc0 : w.cell? ⟨b, off + m, none⟩ = some (.int .i64 (fn l m)) := by
            obtain ⟨b', off', e, hc'⟩ := H.out.at_ (k := m) (by omega)
            injection e with e; injection e with e1 e2; subst e1; subst e2; exact hc'
          have hpos : (0 : Int) < ((m + 1 : Nat) : Int) := by omega
          have hm1 : ((m + 1 : Nat) : Int) - 1 = (m : Int) := by omega
          have hm2 : (m : Int) < (l.length : Int) := by omega
          by_cases h3 : fn l (m + 1) ≤ fn l m
          · have hS : stepE ok l (m + 1) = 7 := by unfold stepE; rw [if_neg h1, if_pos ⟨by omega, h3⟩]
            have hR : Hid (incS ok l = 7) := by unfold Hid; rw [hF.out (by rw [hS]; decide), hS]
            clear h1 h1' hS hF hN h2
            go_wp2_with fail
            refine HC.out.mono ?_
            rintro e w' ⟨rfl, rfl⟩
            go_wp2
            go_ret
            exact ⟨by rw [hR.out]; rfl, rfl⟩
          · have hS : stepE ok l (m + 1) = 0 := by unfold stepE; rw [if_neg h1, if_neg (fun h => h3 h.2)]
            have hZ : Hid (fe (stepE ok l) (m + 1 + 1) = 0) := by unfold Hid; rw [hN.out, hS]
            clear h1 h1' hS hF hN h2
            go_wp2_with fail
            refine HC.out.mono ?_
            rintro e w' ⟨rfl, rfl⟩
            go_wp2
            go_roundw
            case rel => exact ⟨m + 1 + 1, by omega, by go_num, hZ.out⟩
            case measure => simp [intOf]; omega
    · obtain rfl : k = l.length := by omega
      clear hlt
      have hR : Hid (incS ok l = 0) := hE
      go_wp2
      go_ret
      exact ⟨by rw [hR.out]; rfl, rfl⟩
end Go.Proofs.YtadfmplafehjlaaDoor
