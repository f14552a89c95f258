/-
  Package code: recoded.
  Package code: Recode.
  CodeLiftsAgree: the law.
  The reference of package code: small functions of frames.
-/
import Derived.Test.YtdapmmhbnaknbaaDoorWW05
namespace Go.Proofs.YtdapmmhbnaknbaaDoor
open Go.RowKit Go.WideMaps Go.Maps

/-- The codings that are carried, and those that are left. -/
def carL (f : Int → Int) (C : List Cg) : List Cg := (C.filter fun u => decide (f u.cd ≠ 0)).map fun u => ⟨u.ca, u.co, f u.cd⟩
def lefL (f : Int → Int) (C : List Cg) : List Cg := C.filter fun u => decide (f u.cd = 0)
theorem take_cg {C : List Cg} {k : Nat} (h : k < C.length) : C.take (k + 1) = C.take k ++ [cg C k] := by
  rw [List.take_succ_eq_append_getElem h, cg_is h]
section
variable {f : Int → Int} {C : List Cg} {k : Nat}
theorem carL_hit (h : k < C.length) (e : f (cg C k).cd ≠ 0) : carL f (C.take (k + 1)) = carL f (C.take k) ++ [⟨(cg C k).ca, (cg C k).co, f (cg C k).cd⟩] ∧ lefL f (C.take (k + 1)) = lefL f (C.take k) := by
  unfold carL lefL
  rw [take_cg h, List.filter_append, List.filter_append]
  simp [e]
theorem carL_miss (h : k < C.length) (e : f (cg C k).cd = 0) : carL f (C.take (k + 1)) = carL f (C.take k) ∧ lefL f (C.take (k + 1)) = lefL f (C.take k) ++ [cg C k] := by
  unfold carL lefL
  rw [take_cg h, List.filter_append, List.filter_append]
  simp [e]
end
theorem carL_len (f : Int → Int) (C : List Cg) : (carL f C).length ≤ C.length ∧ (lefL f C).length ≤ C.length := by
  unfold carL lefL
  rw [List.length_map]
  exact ⟨List.length_filter_le _ _, List.length_filter_le _ _⟩
theorem cell_three_new (w : World) (x y z : Value) (e : TypeId) : ∀ j v, [x, y, z][j]? = some v → (w.alloc (.cells #[x, y, z] e)).cell? ((⟨w.heap.size, 0, none⟩ : Addr).add j) = some v := fun j v h => by
  rw [add_at, Nat.zero_add, World.cell?_alloc_at _ _ _ _ rfl]
  simpa using h
end Go.Proofs.YtdapmmhbnaknbaaDoor
namespace Go.Proofs.YtdapmmhbnaknbaaDoor
open Go.RowKit Go.WideMaps Go.Maps

/-- Recode's error. -/
def reE (l1 l2 : List Nd) (M : List Mv) (C : List Cg) : Int :=
  if frS l1 ≠ 0 then frS l1 else if frS l2 ≠ 0 then frS l2 else if mvS (hasB (lev l1)) (hasB (lev l2)) M ≠ 0 then mvS (hasB (lev l1)) (hasB (lev l2)) M else cgsS (hasB (lev l1)) C
def RcP (l1 l2 : List Nd) (M : List Mv) (C : List Cg) (w : World) (e : Ending) (w' : World) : Prop :=
  (reE l1 l2 M C = 0 ∧ ∃ v4 v5, e = .returned (.tuple #[v4, v5, .int .i64 0]) ∧ (∃ a c, v4 = .slice a (carL (suS l1 l2 M) C).length c ∧ RdC w' a (carL (suS l1 l2 M) C)) ∧ (∃ a c, v5 = .slice a (lefL (suS l1 l2 M) C).length c ∧ RdC w' a (lefL (suS l1 l2 M) C)) ∧ Below w.heap.size w w') ∨
  (reE l1 l2 M C ≠ 0 ∧ e = .returned (.tuple #[.slice none 0 0, .slice none 0 0, .int .i64 (reE l1 l2 M C)]) ∧ Below w.heap.size w w')
theorem len_of {l : List Nd} (h : frS l = 0) : l.length ≤ 600 := (fr_of h).le
end Go.Proofs.YtdapmmhbnaknbaaDoor
namespace Go.Proofs.YtdapmmhbnaknbaaDoor
open Go.RowKit Go.WideMaps Go.Maps

theorem bel_drewN (w : World) (n : Nat) : Below w.heap.size w (w.drewN n) := below_drewN (Below.refl _ _) n
/-! ### What was lifted -/
theorem lif_cd {l : List Nd} (F : Fr l) {c n : Nat} (hc : Has l c) (hn : 1 ≤ n) : Has l (it (par l) (lev l c - n) c) ∧ lev l (it (par l) (lev l c - n) c) = lev l c - (lev l c - n) := by
  have T := F.tree
  have h1 := T.lvIt (k := lev l c - n) (Or.inr hc)
  have h2 := F.lev hc
  refine ⟨?_, h1⟩
  rcases T.inIt (k := lev l c - n) (Or.inr hc) with h | h
  · rw [h] at h1
    rw [T.zero] at h1
    omega
  · exact h
theorem lif_lif {l : List Nd} (F : Fr l) {c n m : Nat} (hc : Has l c) (hm : m ≤ n) (hm1 : 1 ≤ m) :
    it (par l) (lev l (it (par l) (lev l c - n) c) - m) (it (par l) (lev l c - n) c) = it (par l) (lev l c - m) c := by
  rw [(lif_cd F hc (by omega)).2, ← it_add]
  congr 1
  omega
theorem cgsS_same {h : Int → Bool} {C D : List Cg} (hl : D.length = C.length) (e : ∀ k, k < C.length → (cg D k).ca = (cg C k).ca ∧ (cg D k).co = (cg C k).co ∧ h (cg D k).cd = true) (h0 : cgsS h C = 0) : cgsS h D = 0 := by
  have hz := fe_zero (s := cgE h C) (n := C.length) (by
    unfold cgsS at h0
    by_cases q : 20000 < C.length
    · rw [if_pos q] at h0; simp at h0
    · rw [if_neg q] at h0; exact h0)
  have hn := (cgs_ok h0).1
  unfold cgsS
  rw [hl, if_neg (by omega)]
  refine fe_all fun k hk => ?_
  have z := hz k hk
  obtain ⟨e1, e2, e3⟩ := e k hk
  have el : (lst D k).ca = (lst C k).ca ∧ (lst D k).co = (lst C k).co := by
    unfold lst
    by_cases q : k = 0
    · rw [if_pos q, if_pos q]; exact ⟨rfl, rfl⟩
    · rw [if_neg q, if_neg q]; exact ⟨(e (k - 1) (by omega)).1, (e (k - 1) (by omega)).2.1⟩
  unfold cgE at z ⊢
  rw [e1, e2, e3, el.1, el.2]
  by_cases g : (cg C k).ca < 1 ∨ (cg C k).co < 1 ∨ 50 < (cg C k).co
  · rw [if_pos g] at z; simp at z
  rw [if_neg g] at z ⊢
  rw [if_neg (by simp)]
  by_cases g2 : h (cg C k).cd = false
  · rw [if_pos g2] at z; simp at z
  rw [if_neg g2] at z
  exact z
theorem lif_ok {l : List Nd} {C : List Cg} {n : Nat} (h0 : forS l C = 0) (hn : 1 ≤ n) : forS l (lifC l n C) = 0 := by
  obtain ⟨F, hc, _, hcs⟩ := for_ok h0
  unfold forS at h0 ⊢
  by_cases q : frS l ≠ 0
  · rw [if_pos q] at h0; exact absurd h0 q
  rw [if_neg q] at h0 ⊢
  refine cgsS_same (lifC_len l n C) (fun k hk => ?_) h0
  obtain ⟨c, ec, hc⟩ := hcs k hk
  rw [lifC_at hk]
  refine ⟨rfl, rfl, ?_⟩
  show hasS l _ = true
  rw [hasS_iff F]
  refine ⟨_, rfl, ?_⟩
  rw [ec, Int.toNat_natCast]
  exact (lif_cd F hc hn).1
theorem lif_twice {l : List Nd} {C : List Cg} {n m : Nat} (h0 : forS l C = 0) (hm : m ≤ n) (hm1 : 1 ≤ m) : lifC l m (lifC l n C) = lifC l m C := by
  obtain ⟨F, _, _, hcs⟩ := for_ok h0
  unfold lifC
  rw [List.map_map]
  refine List.map_congr_left fun u hu => ?_
  obtain ⟨k, hk, rfl⟩ := List.getElem_of_mem hu
  obtain ⟨c, ec, hc⟩ := hcs k hk
  rw [cg_is hk] at ec
  show lif l m (lif l n C[k]) = lif l m C[k]
  unfold lif
  dsimp only
  rw [ec, Int.toNat_natCast, Int.toNat_natCast, lif_lif F hc hm hm1]
/-! ### A frame that is recoded to itself -/
theorem tK_at {l : List Nd} (h : Ord l) {j : Nat} : ∀ {n : Nat}, n ≤ l.length → j < n → tK l (nd l j).cd n = some (nd l j).ti
  | n + 1, hn, hj => by
    unfold tK
    by_cases e : (nd l j).cd = (nd l n).cd
    · rw [if_pos e, h.inj (by omega) (by omega) e]
    · rw [if_neg e]
      have : j ≠ n := fun q => e (by rw [q])
      exact tK_at h (by omega) (by omega)
theorem oK_at {l : List Nd} (h : Ord l) {f : Int → Option ByteArray} (hf : ∀ j, j < l.length → same f l j = true) {j : Nat} : ∀ {n : Nat}, n ≤ l.length → j < n → oK f l (nd l j).cd n = some (nd l j).cd
  | n + 1, hn, hj => by
    unfold oK
    by_cases e : (nd l j).cd = (nd l n).cd
    · rw [if_pos ⟨hf n (by omega), e⟩, e]
    · rw [if_neg (fun q => e q.2)]
      have : j ≠ n := fun q => e (by rw [q])
      exact oK_at h hf (by omega) (by omega)
theorem su_self {l : List Nd} (F : Fr l) {c : Nat} (hc : Has l c) : suS l l [] (c : Int) = c := by
  obtain ⟨j, hj, e⟩ := hc
  unfold suS suO
  show (oK (fun s => tK l s l.length) l (c : Int) l.length).getD 0 = _
  rw [← e, oK_at F.ord (fun k hk => by unfold same; dsimp only; rw [tK_at F.ord (Nat.le_refl _) hk]; simp) (Nat.le_refl _) hj]
  rfl
theorem car_self {f : Int → Int} : ∀ {C : List Cg}, (∀ u, u ∈ C → f u.cd = u.cd ∧ u.cd ≠ 0) → carL f C = C ∧ lefL f C = []
  | [], _ => ⟨rfl, rfl⟩
  | u :: C, h => by
    have hu := h u (by simp)
    obtain ⟨i1, i2⟩ := car_self (C := C) fun x hx => h x (by simp [hx])
    unfold carL at i1
    unfold lefL at i2
    unfold carL lefL
    have h1 : decide (f u.cd ≠ 0) = true := decide_eq_true (by rw [hu.1]; exact hu.2)
    have h2 : decide (f u.cd = 0) = false := decide_eq_false (by rw [hu.1]; exact hu.2)
    rw [List.filter_cons, List.filter_cons, if_pos h1, if_neg (by rw [h2]; simp), i2, List.map_cons, i1, hu.1]
    exact ⟨rfl, rfl⟩
theorem re_self {l : List Nd} {C : List Cg} (h0 : forS l C = 0) : reE l l [] C = 0 ∧ carL (suS l l []) C = C ∧ lefL (suS l l []) C = [] := by
  obtain ⟨F, hc, _, hcs⟩ := for_ok h0
  unfold forS at h0
  by_cases q : frS l ≠ 0
  · rw [if_pos q] at h0; exact absurd h0 q
  refine ⟨?_, car_self fun u hu => ?_⟩
  · unfold reE
    rw [if_neg q, if_neg q]
    have : mvS (hasB (lev l)) (hasB (lev l)) [] = 0 := rfl
    rw [this, if_neg (by simp)]
    exact hc
  · obtain ⟨k, hk, rfl⟩ := List.getElem_of_mem hu
    obtain ⟨c, ec, hcc⟩ := hcs k hk
    rw [cg_is hk] at ec
    rw [ec]
    have := has_pos F.ord hcc
    exact ⟨su_self F hcc, by omega⟩
theorem lifE_r {l : List Nd} {C : List Cg} {m : Int} (h : liE l C m = 0) : forS l C = 0 ∧ 1 ≤ m ∧ m ≤ 8 := by
  unfold liE at h
  by_cases q : forS l C ≠ 0
  · rw [if_pos q] at h; exact absurd h q
  rw [if_neg q] at h
  by_cases r : m < 1 ∨ 8 < m
  · rw [if_pos r] at h; simp at h
  · exact ⟨by omega, by omega, by omega⟩
theorem lift_ok {l : List Nd} {C : List Cg} {n : Int} {w w' : World} {e : Ending} (h : LiP l C n w e w') (hz : liE l C n = 0) : ∃ a c, e = .returned (.tuple #[.slice a C.length c, .int .i64 0]) ∧ RdC w' a (lifC l n.toNat C) ∧ Below w.heap.size w w' := by
  rcases h with ⟨_, h⟩ | ⟨h, _⟩
  · exact h
  · exact absurd hz h
theorem lift_no {l : List Nd} {C : List Cg} {n : Int} {w w' : World} {e : Ending} (h : LiP l C n w e w') (hz : liE l C n ≠ 0) : e = .returned (.tuple #[.slice none 0 0, .int .i64 (liE l C n)]) ∧ Below w.heap.size w w' := by
  rcases h with ⟨h, _⟩ | ⟨_, h⟩
  · exact absurd h hz
  · exact h
theorem fit_lif {l : List Nd} {C : List Cg} {n : Nat} (h : FitsC C) (F : Fr l) (hcs : ∀ k, k < C.length → ∃ c : Nat, (cg C k).cd = c ∧ Has l c) (hn : 1 ≤ n) : FitsC (lifC l n C) := by
  intro u hu
  unfold lifC at hu
  obtain ⟨x, hx, rfl⟩ := List.mem_map.1 hu
  obtain ⟨k, hk, rfl⟩ := List.getElem_of_mem hx
  obtain ⟨c, ec, hc⟩ := hcs k hk
  rw [cg_is hk] at ec
  have := h _ hx
  refine ⟨this.1, this.2.1, ?_⟩
  show in64 ((it (par l) (lev l C[k].cd.toNat - n) C[k].cd.toNat : Nat) : Int)
  rw [ec, Int.toNat_natCast]
  have := has_pos F.ord (lif_cd F hc hn).1
  unfold in64; omega

end Go.Proofs.YtdapmmhbnaknbaaDoor
namespace Go.Proofs.YtdapmmhbnaknbaaDoor
open Go.RowKit Go.WideMaps Go.Maps

theorem rwithin_c (n lo hi : Int) (w : World) : Calls Tryd.prog 36 #[.int .i64 n, .int .i64 lo, .int .i64 hi] w fun e w' => e = .returned (.bool (decide (lo ≤ n ∧ n ≤ hi))) ∧ w' = w := by
  by_cases h1 : lo ≤ n
  · by_cases h2 : n ≤ hi
    · have e : Hid (decide (lo ≤ n ∧ n ≤ hi) = true) := decide_eq_true ⟨h1, h2⟩
      go_enter Tryd.func36, Tryd.ntmps36
      go_wp2
      go_ret
      exact ⟨by rw [e.out]; rfl, rfl⟩
    · have e : Hid (decide (lo ≤ n ∧ n ≤ hi) = false) := decide_eq_false fun h => h2 h.2
      have h2' : decide (n ≤ hi) = false := decide_eq_false h2
      clear h2
      go_enter Tryd.func36, Tryd.ntmps36
      go_wp2
      go_ret
      exact ⟨by rw [e.out]; rfl, rfl⟩
  · have e : Hid (decide (lo ≤ n ∧ n ≤ hi) = false) := decide_eq_false fun h => h1 h.1
    have h1' : decide (lo ≤ n) = false := decide_eq_false h1
    clear h1
    go_enter Tryd.func36, Tryd.ntmps36
    go_wp2
    go_ret
    exact ⟨by rw [e.out]; rfl, rfl⟩
theorem titS_head {s : ByteArray} (h : 0 < s.size) (e : s[0].toNat = 32) : titS s = false := by
  unfold titS
  have : (bts s).head? = some 32 := by
    have hl : 0 < (bts s).length := by simpa [bts] using h
    rw [List.head?_eq_getElem?, List.getElem?_eq_getElem hl]
    congr 1
    have : s[0] = 32 := by
      apply UInt8.toNat.inj
      exact e
    rw [← this]; rfl
  rw [this]; simp
theorem titS_last {s : ByteArray} {k : Nat} (h : s.size = k + 1) (e : s[k].toNat = 32) : titS s = false := by
  unfold titS
  have : (bts s).getLast? = some 32 := by
    have hl : (bts s).length = k + 1 := by simpa [bts] using h
    rw [List.getLast?_eq_getElem?, hl, Nat.add_sub_cancel, List.getElem?_eq_getElem (by omega)]
    congr 1
    have : s[k] = 32 := by
      apply UInt8.toNat.inj
      exact e
    rw [← this]; rfl
  rw [this]; simp
theorem titS_ok {s : ByteArray} {k : Nat} (h : s.size = k + 1) (e0 : s[0].toNat ≠ 32) (e1 : s[k].toNat ≠ 32) (hb : ∀ j, (hj : j < s.size) → okB s[j] = true) : titS s = true := by
  rw [titS_good hb]
  have hl : (bts s).length = k + 1 := by simpa [bts] using h
  have h0 : bts s ≠ [] := by intro q; rw [q] at hl; simp at hl
  have h1 : (bts s).head? ≠ some 32 := by
    rw [List.head?_eq_getElem?, List.getElem?_eq_getElem (by omega)]
    intro q
    injection q with q
    apply e0
    have : s[0] = 32 := q
    rw [this]; rfl
  have h2 : (bts s).getLast? ≠ some 32 := by
    rw [List.getLast?_eq_getElem?, hl, Nat.add_sub_cancel, List.getElem?_eq_getElem (by omega)]
    intro q
    injection q with q
    apply e1
    have : s[k] = 32 := q
    rw [this]; rfl
  simp [h0, h1, h2]
set_option maxHeartbeats 1000000 in
theorem rtitled_c (s : ByteArray) (w : World) (hs : s.size ≤ 9223372036854775807) :
    Calls Tryd.prog 37 #[.string s] w fun e w' => e = .returned (.bool (titS s)) ∧ w' = w := by
  by_cases h0 : s.size = 0
  · have hl : bts s = [] := by
      have : (bts s).length = 0 := by simpa [bts] using h0
      exact List.eq_nil_of_length_eq_zero this
    have R : Hid (titS s = false) := by unfold Hid titS; rw [hl]; simp
    have f1 : (s.toList == []) = true := by rw [bts_list, hl]; rfl
    clear hl h0
    go_enter Tryd.func37, Tryd.ntmps37
    go_wp2
    go_ret
    exact ⟨by rw [R.out]; rfl, rfl⟩
  obtain ⟨m, hm⟩ : ∃ m, s.size = m + 1 := ⟨s.size - 1, by omega⟩
  have f1 : (s.toList == []) = false := by
    rw [beq_eq_false_iff_ne, bts_list]
    intro q
    have : (bts s).length = s.size := by simp [bts]
    rw [q] at this; simp at this; omega
  have hp : 0 < s.size := by omega
  have hp' : (0 : Int) < (s.size : Int) := by omega
  by_cases h1 : s[0].toNat = 32
  · have R := Lib.hid (titS_head hp h1)
    have g1 : ((s[0].toNat : Int) == 32) = true := by rw [beq_iff_eq]; omega
    clear h1
    go_enter Tryd.func37, Tryd.ntmps37
    go_wp2
    go_ret
    exact ⟨by rw [R.out]; rfl, rfl⟩
  have g1 : ((s[0].toNat : Int) == 32) = false := by rw [beq_eq_false_iff_ne]; omega
  have hm1 : (s.size : Int) - 1 = (m : Int) := by omega
  have hmlt : m < s.size := by omega
  have hm2 : (m : Int) < (s.size : Int) := by omega
  by_cases h2 : s[m].toNat = 32
  · have R := Lib.hid (titS_last hm h2)
    have g2 : ((s[m].toNat : Int) == 32) = true := by rw [beq_iff_eq]; omega
    clear h1 h2
    go_enter Tryd.func37, Tryd.ntmps37
    go_wp2
    go_ret
    exact ⟨by rw [R.out]; rfl, rfl⟩
  have g2 : ((s[m].toNat : Int) == 32) = false := by rw [beq_eq_false_iff_ne]; omega
  have HOK := Lib.hid (titS_ok hm h1 h2)
  clear h1 h2 h0
  go_enter Tryd.func37, Tryd.ntmps37
  go_wp2
  clear g1 g2 f1 hm1
  go_loop [3, 21] (fun _ i => ∃ k : Nat, k ≤ s.size ∧ i = .int .i64 k ∧ Hid (∀ j, (hj : j < s.size) → j < k → okB s[j] = true)) (fun _ i => s.size - (intOf i).toNat)
  case atStart => exact ⟨0, Nat.zero_le _, rfl, fun j _ h => absurd h (Nat.not_lt_zero _)⟩
  case round =>
    obtain ⟨k, hk, rfl, hR⟩ := hrel
    by_cases hlt : k < s.size
    · have hlt' : (k : Int) < (s.size : Int) := by omega
      have hB := Lib.hid (titS_bad hlt)
      have NX : Hid (okB s[k] = true → ∀ j, (hj : j < s.size) → j < k + 1 → okB s[j] = true) := fun h j hj hk => by
        by_cases e : j = k
        · subst e; exact h
        · exact hR.out j hj (by omega)
      have HW : Hid (Calls Tryd.prog 36 #[.int .i64 (s[k].toNat : Nat), .int .i64 32, .int .i64 126] w fun e w' => e = .returned (.bool (okB s[k])) ∧ w' = w) := by
        have := rwithin_c (s[k].toNat : Nat) 32 126 w
        have e : decide ((32 : Int) ≤ (s[k].toNat : Int) ∧ (s[k].toNat : Int) ≤ 126) = okB s[k] := by
          unfold okB
          rw [Bool.eq_iff_iff, decide_eq_true_iff, decide_eq_true_iff]
          omega
        rw [e] at this
        exact this
      have hw64 : wrap64 ((s[k].toNat : Nat) : Int) = ((s[k].toNat : Nat) : Int) := by
        have := UInt8.toNat_lt s[k]
        unfold wrap64
        omega
      clear hR HOK
      by_cases h1 : okB s[k] = true
      · have N2 := Lib.hid (NX.out h1)
        rw [h1] at HW
        clear h1 hB NX
        go_wp2_with fail
        (with_reducible refine HW.out.mono ?_)
        rintro e w' ⟨rfl, hw⟩
        have hw := hw.symm
        subst hw
        go_wp2
        go_round
        case rel => exact ⟨k + 1, by omega, by go_num, N2.out⟩
        case measure => simp [intOf]; omega
      · have h1' : okB s[k] = false := by simpa using h1
        have R := Lib.hid (hB.out h1')
        rw [h1'] at HW
        clear h1 h1' hB NX
        go_wp2_with fail
        (with_reducible refine HW.out.mono ?_)
        rintro e w' ⟨rfl, hw⟩
        have hw := hw.symm
        subst hw
        go_wp2
        go_ret
        exact ⟨by rw [R.out]; rfl, rfl⟩
    · obtain rfl : k = s.size := by omega
      have R := Lib.hid (HOK.out fun j hj => hR.out j hj hj)
      clear hlt
      go_wp2
      go_ret
      exact ⟨by rw [R.out]; rfl, rfl⟩
/-- The place of a code. -/
def FndP (l : List Nd) (c : Int) (r : Int) : Prop := (r = -1 ∧ ∀ j, j < l.length → (nd l j).cd ≠ c) ∨ ∃ j, j < l.length ∧ r = (j : Int) ∧ (nd l j).cd = c
set_option maxHeartbeats 1000000 in
theorem rfind_c (a : Option Addr) (ca : Nat) (l : List Nd) (c : Int) (w : World) (hl : RdN w a l) :
    Calls Tryd.prog 20 #[.slice a l.length ca, .int .i64 c] w fun e w' => (∃ r : Int, e = .returned (.int .i64 r) ∧ FndP l c r) ∧ Below w.heap.size w w' := by
  have HL := Lib.hid hl
  have h9 := hl.1
  clear hl
  go_enter Tryd.func20, Tryd.ntmps20
  go_wp2
  go_loopw [5, 9] (fun _ i wr => ∃ k : Nat, k ≤ l.length ∧ i = .int .i64 k ∧ Hid (Below w.heap.size w wr ∧ ∀ j, j < k → (nd l j).cd ≠ c)) (fun _ i _ => l.length - (intOf i).toNat)
  case atStart => exact ⟨0, Nat.zero_le _, rfl, Below.refl _ _, fun j h => absurd h (Nat.not_lt_zero _)⟩
  case round =>
    obtain ⟨k, hk, rfl, hS⟩ := hrel
    by_cases hlt : k < l.length
    · obtain ⟨b', off, rfl, u0, u1, u2⟩ := (HL.out.below hS.out.1).at_ hlt
      have hlt' : (k : Int) < (l.length : Int) := by omega
      obtain ⟨W1, hW1⟩ : ∃ W1, wr.alloc (.cells #[.int .i64 (nd l k).cd, .int .i64 (nd l k).pr, .string (nd l k).ti] 66) = W1 := ⟨_, rfl⟩
      have N1 : Hid (NodeB wr W1 (nd l k)) := by unfold Hid; rw [← hW1]; exact node_b _ _
      have v0 := N1.out.2.2.1
      have B1 := Lib.hid (hS.out.1.trans (N1.out.1.mono hS.out.1.size))
      by_cases e : (nd l k).cd = c
      · have R : Hid (FndP l c (k : Int)) := Or.inr ⟨k, hlt, rfl, e⟩
        have e' : ((nd l k).cd == c) = true := by rw [beq_iff_eq]; exact e
        clear hS N1 e
        go_wp2
        go_ret
        exact ⟨⟨_, rfl, R.out⟩, B1.out⟩
      · have NX : Hid (Below w.heap.size w W1 ∧ ∀ j, j < k + 1 → (nd l j).cd ≠ c) := ⟨B1.out, fun j hj => by
          by_cases q : j = k
          · rw [q]; exact e
          · exact hS.out.2 j (by omega)⟩
        have e' : ((nd l k).cd == c) = false := by rw [beq_eq_false_iff_ne]; exact e
        clear hS N1 e
        go_wp2
        go_roundw
        case rel => exact ⟨k + 1, by omega, by go_num, NX.out⟩
        case measure => simp [intOf]; omega
    · obtain rfl : k = l.length := by omega
      have R : Hid (FndP l c (-1)) := Or.inl ⟨rfl, hS.out.2⟩
      clear hlt
      go_wp2
      go_ret
      exact ⟨⟨_, rfl, R.out⟩, hS.out.1⟩
end Go.Proofs.YtdapmmhbnaknbaaDoor
