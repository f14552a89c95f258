/-
  Package code: recoded.
  Package code: Recode.
  CodeLiftsAgree: the law.
  The reference of package code: small functions of frames.
-/
import Derived.Test.YtpdpgfnplmjihaaDoorAG04
namespace Go.Proofs.YtpdpgfnplmjihaaDoor
open Go.RowKit Go.WideMaps Go.Maps

/-- The codings that are carried, and those that are left. -/
def carL (f : Int → Int) (C : List Cg) : List Cg := (C.filter fun u => decide (f u.cd ≠ 0)).map fun u => ⟨u.ca, u.co, f u.cd⟩
def lefL (f : Int → Int) (C : List Cg) : List Cg := C.filter fun u => decide (f u.cd = 0)
theorem take_cg {C : List Cg} {k : Nat} (h : k < C.length) : C.take (k + 1) = C.take k ++ [cg C k] := by
  rw [List.take_succ_eq_append_getElem h, cg_is h]
section
variable {f : Int → Int} {C : List Cg} {k : Nat}
theorem carL_hit (h : k < C.length) (e : f (cg C k).cd ≠ 0) : carL f (C.take (k + 1)) = carL f (C.take k) ++ [⟨(cg C k).ca, (cg C k).co, f (cg C k).cd⟩] ∧ lefL f (C.take (k + 1)) = lefL f (C.take k) := by
  unfold carL lefL
  rw [take_cg h, List.filter_append, List.filter_append]
  simp [e]
theorem carL_miss (h : k < C.length) (e : f (cg C k).cd = 0) : carL f (C.take (k + 1)) = carL f (C.take k) ∧ lefL f (C.take (k + 1)) = lefL f (C.take k) ++ [cg C k] := by
  unfold carL lefL
  rw [take_cg h, List.filter_append, List.filter_append]
  simp [e]
end
theorem carL_len (f : Int → Int) (C : List Cg) : (carL f C).length ≤ C.length ∧ (lefL f C).length ≤ C.length := by
  unfold carL lefL
  rw [List.length_map]
  exact ⟨List.length_filter_le _ _, List.length_filter_le _ _⟩
/-- Two rows of the call's own. -/
structure InR (w wr : World) (v4 v5 : Value) (A B : List Cg) : Prop where
  o4 : wr.ownsRow w.heap.size 49 3 v4 A.length (crow A)
  o5 : wr.ownsRow w.heap.size 49 3 v5 B.length (crow B)
  ne : ∀ g, v4.ownBlock = some g → v5.ownBlock ≠ some g
  bel : Below w.heap.size w wr
theorem InR.keep {w wr W : World} {v4 v5 : Value} {A B : List Cg} (h : InR w wr v4 v5 A B) (hb : Below wr.heap.size wr W) : InR w W v4 v5 A B :=
  ⟨Cqown_keep h.o4 hb, Cqown_keep h.o5 hb, h.ne, h.bel.trans (hb.mono h.bel.size)⟩
theorem InR.swap {w wr : World} {v4 v5 : Value} {A B : List Cg} (h : InR w wr v4 v5 A B) : InR w wr v5 v4 B A :=
  ⟨h.o5, h.o4, fun g e e2 => h.ne g e2 e, h.bel⟩
/-- An append to the first row. -/
theorem InR.more {w wr w4 : World} {v4 v5 v' : Value} {A B : List Cg} {o : Obj} {u : Cg} (h : InR w wr v4 v5 A B)
    (hown : w4.ownsRow w.heap.size 49 3 v' (A.length + 1) (crow A ++ ccells u)) (hg : (wr.alloc o).grownBy w4 v4.ownBlock) (hloc : v'.ownBlock = v4.ownBlock ∨ v'.ownBlock = some (wr.heap.size + 1)) : InR w w4 v' v5 (A ++ [u]) B := by
  have a5 : (wr.alloc o).ownsRow w.heap.size 49 3 v5 B.length (crow B) := h.o5.alloc o
  refine ⟨?_, ?_, ?_, ?_⟩
  · rw [List.length_append, crow_snoc]; exact hown
  · refine a5.kept hg ?_
    cases e5 : v5.ownBlock with
    | none => exact .inl rfl
    | some g => exact .inr fun e => h.ne g e.symm e5
  · intro g e1 e2
    rcases hloc with e | e
    · exact h.ne g (e.symm.trans e1) e2
    · have := (h.o5.lt g e2).2
      rw [e] at e1
      injection e1 with e1
      omega
  · have hs := h.bel.size
    exact (h.bel.alloc hs o).grown hg (by simp; omega) (fun g hg => (h.o4.lt g hg).1)
theorem cell_three_new (w : World) (x y z : Value) (e : TypeId) : ∀ j v, [x, y, z][j]? = some v → (w.alloc (.cells #[x, y, z] e)).cell? ((⟨w.heap.size, 0, none⟩ : Addr).add j) = some v := fun j v h => by
  rw [add_at, Nat.zero_add, World.cell?_alloc_at _ _ _ _ rfl]
  simpa using h
def ReP (A B : List Cg) (w : World) (e : Ending) (w' : World) : Prop := ∃ v4 v5, e = .returned (.tuple #[v4, v5]) ∧ InR w w' v4 v5 A B
end Go.Proofs.YtpdpgfnplmjihaaDoor
namespace Go.Proofs.YtpdpgfnplmjihaaDoor
open Go.RowKit Go.WideMaps Go.Maps

/-- Recode's error. -/
def reE (l1 l2 : List Nd) (M : List Mv) (C : List Cg) : Int :=
  if frS l1 ≠ 0 then frS l1 else if frS l2 ≠ 0 then frS l2 else if mvS (hasB (lev l1)) (hasB (lev l2)) M ≠ 0 then mvS (hasB (lev l1)) (hasB (lev l2)) M else cgsS (hasB (lev l1)) C
def RcP (l1 l2 : List Nd) (M : List Mv) (C : List Cg) (w : World) (e : Ending) (w' : World) : Prop :=
  (reE l1 l2 M C = 0 ∧ ∃ v4 v5, e = .returned (.tuple #[v4, v5, .int .i64 0]) ∧ (∃ a c, v4 = .slice a (carL (suS l1 l2 M) C).length c ∧ RdC w' a (carL (suS l1 l2 M) C)) ∧ (∃ a c, v5 = .slice a (lefL (suS l1 l2 M) C).length c ∧ RdC w' a (lefL (suS l1 l2 M) C)) ∧ Below w.heap.size w w') ∨
  (reE l1 l2 M C ≠ 0 ∧ e = .returned (.tuple #[.slice none 0 0, .slice none 0 0, .int .i64 (reE l1 l2 M C)]) ∧ Below w.heap.size w w')
theorem len_of {l : List Nd} (h : frS l = 0) : l.length ≤ 600 := (fr_of h).le
end Go.Proofs.YtpdpgfnplmjihaaDoor
namespace Go.Proofs.YtpdpgfnplmjihaaDoor
open Go.RowKit Go.WideMaps Go.Maps

theorem Cqbel_drewN (w : World) (n : Nat) : Below w.heap.size w (w.drewN n) := below_drewN (Below.refl _ _) n
/-! ### What was lifted -/
theorem lif_cd {l : List Nd} (F : Fr l) {c n : Nat} (hc : Has l c) (hn : 1 ≤ n) : Has l (it (par l) (lev l c - n) c) ∧ lev l (it (par l) (lev l c - n) c) = lev l c - (lev l c - n) := by
  have T := F.tree
  have h1 := T.lvIt (k := lev l c - n) (Or.inr hc)
  have h2 := F.lev hc
  refine ⟨?_, h1⟩
  rcases T.inIt (k := lev l c - n) (Or.inr hc) with h | h
  · rw [h] at h1
    rw [T.zero] at h1
    omega
  · exact h
theorem lif_lif {l : List Nd} (F : Fr l) {c n m : Nat} (hc : Has l c) (hm : m ≤ n) (hm1 : 1 ≤ m) :
    it (par l) (lev l (it (par l) (lev l c - n) c) - m) (it (par l) (lev l c - n) c) = it (par l) (lev l c - m) c := by
  rw [(lif_cd F hc (by omega)).2, ← it_add]
  congr 1
  omega
theorem cgsS_same {h : Int → Bool} {C D : List Cg} (hl : D.length = C.length) (e : ∀ k, k < C.length → (cg D k).ca = (cg C k).ca ∧ (cg D k).co = (cg C k).co ∧ h (cg D k).cd = true) (h0 : cgsS h C = 0) : cgsS h D = 0 := by
  have hz := fe_zero (s := cgE h C) (n := C.length) (by
    unfold cgsS at h0
    by_cases q : 20000 < C.length
    · rw [if_pos q] at h0; simp at h0
    · rw [if_neg q] at h0; exact h0)
  have hn := (cgs_ok h0).1
  unfold cgsS
  rw [hl, if_neg (by omega)]
  refine fe_all fun k hk => ?_
  have z := hz k hk
  obtain ⟨e1, e2, e3⟩ := e k hk
  have el : (lst D k).ca = (lst C k).ca ∧ (lst D k).co = (lst C k).co := by
    unfold lst
    by_cases q : k = 0
    · rw [if_pos q, if_pos q]; exact ⟨rfl, rfl⟩
    · rw [if_neg q, if_neg q]; exact ⟨(e (k - 1) (by omega)).1, (e (k - 1) (by omega)).2.1⟩
  unfold cgE at z ⊢
  rw [e1, e2, e3, el.1, el.2]
  by_cases g : (cg C k).ca < 1 ∨ (cg C k).co < 1 ∨ 50 < (cg C k).co
  · rw [if_pos g] at z; simp at z
  rw [if_neg g] at z ⊢
  rw [if_neg (by simp)]
  by_cases g2 : h (cg C k).cd = false
  · rw [if_pos g2] at z; simp at z
  rw [if_neg g2] at z
  exact z
theorem lif_ok {l : List Nd} {C : List Cg} {n : Nat} (h0 : forS l C = 0) (hn : 1 ≤ n) : forS l (lifC l n C) = 0 := by
  obtain ⟨F, hc, _, hcs⟩ := for_ok h0
  unfold forS at h0 ⊢
  by_cases q : frS l ≠ 0
  · rw [if_pos q] at h0; exact absurd h0 q
  rw [if_neg q] at h0 ⊢
  refine cgsS_same (lifC_len l n C) (fun k hk => ?_) h0
  obtain ⟨c, ec, hc⟩ := hcs k hk
  rw [lifC_at hk]
  refine ⟨rfl, rfl, ?_⟩
  show hasS l _ = true
  rw [hasS_iff F]
  refine ⟨_, rfl, ?_⟩
  rw [ec, Int.toNat_natCast]
  exact (lif_cd F hc hn).1
theorem lif_twice {l : List Nd} {C : List Cg} {n m : Nat} (h0 : forS l C = 0) (hm : m ≤ n) (hm1 : 1 ≤ m) : lifC l m (lifC l n C) = lifC l m C := by
  obtain ⟨F, _, _, hcs⟩ := for_ok h0
  unfold lifC
  rw [List.map_map]
  refine List.map_congr_left fun u hu => ?_
  obtain ⟨k, hk, rfl⟩ := List.getElem_of_mem hu
  obtain ⟨c, ec, hc⟩ := hcs k hk
  rw [cg_is hk] at ec
  show lif l m (lif l n C[k]) = lif l m C[k]
  unfold lif
  dsimp only
  rw [ec, Int.toNat_natCast, Int.toNat_natCast, lif_lif F hc hm hm1]
/-! ### A frame that is recoded to itself -/
theorem tK_at {l : List Nd} (h : Ord l) {j : Nat} : ∀ {n : Nat}, n ≤ l.length → j < n → tK l (nd l j).cd n = some (nd l j).ti
  | n + 1, hn, hj => by
    unfold tK
    by_cases e : (nd l j).cd = (nd l n).cd
    · rw [if_pos e, h.inj (by omega) (by omega) e]
    · rw [if_neg e]
      have : j ≠ n := fun q => e (by rw [q])
      exact tK_at h (by omega) (by omega)
theorem oK_at {l : List Nd} (h : Ord l) {f : Int → Option ByteArray} (hf : ∀ j, j < l.length → same f l j = true) {j : Nat} : ∀ {n : Nat}, n ≤ l.length → j < n → oK f l (nd l j).cd n = some (nd l j).cd
  | n + 1, hn, hj => by
    unfold oK
    by_cases e : (nd l j).cd = (nd l n).cd
    · rw [if_pos ⟨hf n (by omega), e⟩, e]
    · rw [if_neg (fun q => e q.2)]
      have : j ≠ n := fun q => e (by rw [q])
      exact oK_at h hf (by omega) (by omega)
theorem su_self {l : List Nd} (F : Fr l) {c : Nat} (hc : Has l c) : suS l l [] (c : Int) = c := by
  obtain ⟨j, hj, e⟩ := hc
  unfold suS suO
  show (oK (fun s => tK l s l.length) l (c : Int) l.length).getD 0 = _
  rw [← e, oK_at F.ord (fun k hk => by unfold same; dsimp only; rw [tK_at F.ord (Nat.le_refl _) hk]; simp) (Nat.le_refl _) hj]
  rfl
theorem car_self {f : Int → Int} : ∀ {C : List Cg}, (∀ u, u ∈ C → f u.cd = u.cd ∧ u.cd ≠ 0) → carL f C = C ∧ lefL f C = []
  | [], _ => ⟨rfl, rfl⟩
  | u :: C, h => by
    have hu := h u (by simp)
    obtain ⟨i1, i2⟩ := car_self (C := C) fun x hx => h x (by simp [hx])
    unfold carL at i1
    unfold lefL at i2
    unfold carL lefL
    have h1 : decide (f u.cd ≠ 0) = true := decide_eq_true (by rw [hu.1]; exact hu.2)
    have h2 : decide (f u.cd = 0) = false := decide_eq_false (by rw [hu.1]; exact hu.2)
    rw [List.filter_cons, List.filter_cons, if_pos h1, if_neg (by rw [h2]; simp), i2, List.map_cons, i1, hu.1]
    exact ⟨rfl, rfl⟩
theorem re_self {l : List Nd} {C : List Cg} (h0 : forS l C = 0) : reE l l [] C = 0 ∧ carL (suS l l []) C = C ∧ lefL (suS l l []) C = [] := by
  obtain ⟨F, hc, _, hcs⟩ := for_ok h0
  unfold forS at h0
  by_cases q : frS l ≠ 0
  · rw [if_pos q] at h0; exact absurd h0 q
  refine ⟨?_, car_self fun u hu => ?_⟩
  · unfold reE
    rw [if_neg q, if_neg q]
    have : mvS (hasB (lev l)) (hasB (lev l)) [] = 0 := rfl
    rw [this, if_neg (by simp)]
    exact hc
  · obtain ⟨k, hk, rfl⟩ := List.getElem_of_mem hu
    obtain ⟨c, ec, hcc⟩ := hcs k hk
    rw [cg_is hk] at ec
    rw [ec]
    have := has_pos F.ord hcc
    exact ⟨su_self F hcc, by omega⟩
theorem lifE_r {l : List Nd} {C : List Cg} {m : Int} (h : liE l C m = 0) : forS l C = 0 ∧ 1 ≤ m ∧ m ≤ 8 := by
  unfold liE at h
  by_cases q : forS l C ≠ 0
  · rw [if_pos q] at h; exact absurd h q
  rw [if_neg q] at h
  by_cases r : m < 1 ∨ 8 < m
  · rw [if_pos r] at h; simp at h
  · exact ⟨by omega, by omega, by omega⟩
theorem lift_ok {l : List Nd} {C : List Cg} {n : Int} {w w' : World} {e : Ending} (h : LiP l C n w e w') (hz : liE l C n = 0) : ∃ a c, e = .returned (.tuple #[.slice a C.length c, .int .i64 0]) ∧ RdC w' a (lifC l n.toNat C) ∧ Below w.heap.size w w' := by
  rcases h with ⟨_, h⟩ | ⟨h, _⟩
  · exact h
  · exact absurd hz h
theorem lift_no {l : List Nd} {C : List Cg} {n : Int} {w w' : World} {e : Ending} (h : LiP l C n w e w') (hz : liE l C n ≠ 0) : e = .returned (.tuple #[.slice none 0 0, .int .i64 (liE l C n)]) ∧ Below w.heap.size w w' := by
  rcases h with ⟨h, _⟩ | ⟨_, h⟩
  · exact absurd h hz
  · exact h
theorem fit_lif {l : List Nd} {C : List Cg} {n : Nat} (h : FitsC C) (F : Fr l) (hcs : ∀ k, k < C.length → ∃ c : Nat, (cg C k).cd = c ∧ Has l c) (hn : 1 ≤ n) : FitsC (lifC l n C) := by
  intro u hu
  unfold lifC at hu
  obtain ⟨x, hx, rfl⟩ := List.mem_map.1 hu
  obtain ⟨k, hk, rfl⟩ := List.getElem_of_mem hx
  obtain ⟨c, ec, hc⟩ := hcs k hk
  rw [cg_is hk] at ec
  have := h _ hx
  refine ⟨this.1, this.2.1, ?_⟩
  show in64 ((it (par l) (lev l C[k].cd.toNat - n) C[k].cd.toNat : Nat) : Int)
  rw [ec, Int.toNat_natCast]
  have := has_pos F.ord (lif_cd F hc hn).1
  unfold in64; omega

end Go.Proofs.YtpdpgfnplmjihaaDoor
namespace Go.Proofs.YtpdpgfnplmjihaaDoor
open Go.RowKit Go.WideMaps Go.Maps

theorem titS_head {s : ByteArray} (h : 0 < s.size) (e : s[0].toNat = 32) : titS s = false := by
  unfold titS
  have : (bts s).head? = some 32 := by
    have hl : 0 < (bts s).length := by simpa [bts] using h
    rw [List.head?_eq_getElem?, List.getElem?_eq_getElem hl]
    congr 1
    have : s[0] = 32 := by
      apply UInt8.toNat.inj
      exact e
    rw [← this]; rfl
  rw [this]; simp
theorem titS_last {s : ByteArray} {k : Nat} (h : s.size = k + 1) (e : s[k].toNat = 32) : titS s = false := by
  unfold titS
  have : (bts s).getLast? = some 32 := by
    have hl : (bts s).length = k + 1 := by simpa [bts] using h
    rw [List.getLast?_eq_getElem?, hl, Nat.add_sub_cancel, List.getElem?_eq_getElem (by omega)]
    congr 1
    have : s[k] = 32 := by
      apply UInt8.toNat.inj
      exact e
    rw [← this]; rfl
  rw [this]; simp
theorem titS_ok {s : ByteArray} {k : Nat} (h : s.size = k + 1) (e0 : s[0].toNat ≠ 32) (e1 : s[k].toNat ≠ 32) (hb : ∀ j, (hj : j < s.size) → okB s[j] = true) : titS s = true := by
  rw [titS_good hb]
  have hl : (bts s).length = k + 1 := by simpa [bts] using h
  have h0 : bts s ≠ [] := by intro q; rw [q] at hl; simp at hl
  have h1 : (bts s).head? ≠ some 32 := by
    rw [List.head?_eq_getElem?, List.getElem?_eq_getElem (by omega)]
    intro q
    injection q with q
    apply e0
    have : s[0] = 32 := q
    rw [this]; rfl
  have h2 : (bts s).getLast? ≠ some 32 := by
    rw [List.getLast?_eq_getElem?, hl, Nat.add_sub_cancel, List.getElem?_eq_getElem (by omega)]
    intro q
    injection q with q
    apply e1
    have : s[k] = 32 := q
    rw [this]; rfl
  simp [h0, h1, h2]
/-- The place of a code. -/
def FndP (l : List Nd) (c : Int) (r : Int) : Prop := (r = -1 ∧ ∀ j, j < l.length → (nd l j).cd ≠ c) ∨ ∃ j, j < l.length ∧ r = (j : Int) ∧ (nd l j).cd = c
end Go.Proofs.YtpdpgfnplmjihaaDoor
