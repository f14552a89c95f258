/-
  Package code: a row of nodes, sorted by their codes.
  Package code: the nodes of lines.
  Package code: Read.
  Package code: a frame's text has the frame's nodes.
-/
import Derived.Test.YtheekfijbbgbkaaGreatDoorTS13
import Derived.Lib.OwnBridge
import Derived.Shelf.GgClosure.Gives
import Derived.Deep.AppendLies
import Derived.Deep.RegionHeld3
import Derived.Test.YtheekfijbbgbkaaGreatDoorTS11
import Derived.Test.YtheekfijbbgbkaaGreatDoorTS12
namespace Go.Proofs.YtheekfijbbgbkaaGreatDoor
open Go.RowKit Go.WideMaps Go.Maps Go.Lib Go.Sort

instance : Inhabited Nd := ⟨nd0⟩
theorem flat_at {α : Type} [Inhabited α] {enc : α → List Value} {k : Nat} (hk : ∀ x, (enc x).length = k) (k0 : 0 < k) : ∀ (l : List α) (t : Nat), t < l.length * k → (l.flatMap enc)[t]? = some (enc l[t / k]!)[t % k]!
  | [], t, h => by simp at h
  | x :: l, t, h => by
    rw [List.flatMap_cons]
    by_cases e : t < k
    · rw [List.getElem?_append_left (by rw [hk]; exact e), Nat.div_eq_of_lt e, Nat.mod_eq_of_lt e]
      have : t < (enc x).length := by rw [hk]; exact e
      simp [this]
    · rw [List.getElem?_append_right (by rw [hk]; omega), hk]
      have e2 : t / k = (t - k) / k + 1 := by
        rw [← Nat.sub_add_cancel (show k ≤ t by omega), Nat.add_div_right _ k0, Nat.add_sub_cancel]
      have e3 : t % k = (t - k) % k := by
        rw [Nat.mod_eq_sub_mod (show t ≥ k by omega)]
      have hl : t - k < l.length * k := by simp only [List.length_cons, Nat.succ_mul] at h; omega
      rw [flat_at hk k0 l (t - k) hl, e2, e3]
      simp
theorem flat_list {α : Type} [Inhabited α] {enc : α → List Value} {k : Nat} (hk : ∀ x, (enc x).length = k) (k0 : 0 < k) (d : Array α) : (flatK enc k d).toList = d.toList.flatMap enc := by
  have hl : (d.toList.flatMap enc).length = d.size * k := by
    have : ∀ l : List α, (l.flatMap enc).length = l.length * k := fun l => by
      induction l with
      | nil => simp
      | cons x l ih => rw [List.flatMap_cons, List.length_append, hk, ih, List.length_cons, Nat.succ_mul]; omega
    rw [this]; simp
  apply List.ext_getElem?
  intro t
  by_cases ht : t < d.size * k
  · have ht2 : t < d.toList.length * k := by simpa using ht
    rw [flat_at hk k0 d.toList t ht2]
    have e := get_flatK enc k d t ht
    have hs : t < (flatK enc k d).size := by rw [size_flatK]; exact ht
    rw [Array.getElem?_toList, Array.getElem?_eq_getElem hs]
    rw [getElem!_pos _ t hs] at e
    rw [e]
    have hd : t / k < d.size := by rw [Nat.div_lt_iff_lt_mul k0]; exact ht
    simp [getElem!_pos, hd]
  · rw [List.getElem?_eq_none (by rw [Array.length_toList, size_flatK]; omega), List.getElem?_eq_none (by rw [hl]; omega)]
/-- The cells of nodes. -/
def ncell3 (u : Nd) : List Value := [.int .i64 u.cd, .int .i64 u.pr, .string u.ti]
def nrow3 (l : List Nd) : List Value := l.flatMap ncell3
theorem ncell3_len (u : Nd) : (ncell3 u).length = 3 := rfl
theorem nrow3_snoc (l : List Nd) (u : Nd) : nrow3 (l ++ [u]) = nrow3 l ++ ncell3 u := by unfold nrow3; simp
theorem nrow3_at : ∀ (L : List Nd) (j : Nat), j < L.length → ∀ i, i < 3 → (nrow3 L)[j * 3 + i]? = (ncell3 (nd L j))[i]?
  | u :: L, 0, _, i, hi => by
    show ((ncell3 u ++ nrow3 L))[0 * 3 + i]? = _
    rw [Nat.zero_mul, Nat.zero_add, List.getElem?_append_left (by show i < 3; exact hi)]; rfl
  | u :: L, j + 1, hj, i, hi => by
    show ((ncell3 u ++ nrow3 L))[(j + 1) * 3 + i]? = _
    have := nrow3_at L j (by simpa using hj) i hi
    rw [List.getElem?_append_right (by show 3 ≤ _; omega), show (j + 1) * 3 + i - (ncell3 u).length = j * 3 + i by show _ - 3 = _; omega, this]
    unfold nd; simp
theorem rdN_own3 {w : World} {B : Nat} {v : Value} {l : List Nd} (h : w.ownsRow B 28 3 v l.length (nrow3 l)) (hn : l.length ≤ 9223372036854775807) : ∃ a c, v = .slice a l.length c ∧ RdN w a l := by
  obtain ⟨a, c, rfl⟩ := own_slice h
  refine ⟨a, c, rfl, hn, fun h0 => ?_⟩
  rcases h.2 with ⟨_, e2⟩ | ⟨g, cap, cur, e1, _⟩
  · omega
  · injection e1 with e1
    subst e1
    refine ⟨g, 0, rfl, (h.lt g rfl).2, fun j hj => ?_⟩
    have hc := h.cells (g := g) rfl
    have at3 : ∀ i, i < 3 → w.cell? ⟨g, j * 3 + i, none⟩ = (ncell3 (nd l j))[i]? := fun i hi => by
      have e := nrow3_at l j hj i hi
      have hlt : i < (ncell3 (nd l j)).length := hi
      rw [List.getElem?_eq_getElem hlt] at e
      have := hc _ _ e
      rw [add_at, Nat.zero_add] at this
      rw [this, List.getElem?_eq_getElem hlt]
    rw [Nat.zero_add]
    exact ⟨at3 0 (by omega), at3 1 (by omega), at3 2 (by omega)⟩
/-- Nodes are compared by their codes. -/
def cfN (x y : Nd) : Int := Lib.compareInt x.cd y.cd
theorem ccnN (a b : Int) : Lib.compareInt a b < 0 ↔ a < b := by
  unfold Lib.compareInt
  by_cases h1 : a < b
  · simp [h1]
  · by_cases h2 : b < a
    · simp [h1, h2]
    · simp [h1, h2]
theorem cfN_lt (p q : Nd) : ltOf cfN p q = decide (p.cd < q.cd) := by
  unfold ltOf cfN
  rw [decide_eq_decide]; exact ccnN _ _
theorem cfN_swo : SWO (ltOf cfN) where
  irrefl x := by rw [cfN_lt]; simp
  trans x y z h1 h2 := by rw [cfN_lt] at *; simp at *; omega
  ntrans x y z h1 h2 := by rw [cfN_lt] at *; simp at *; omega
set_option maxRecDepth 100000 in
set_option maxHeartbeats 2000000 in
theorem cmpN_c (x y : Nd) (W : World) :
    Calls Tryz.prog 27 #[.agg #[.int .i64 x.cd, .int .i64 x.pr, .string x.ti], .agg #[.int .i64 y.cd, .int .i64 y.pr, .string y.ti]] W fun e w' => e = .returned (.int .i64 (cfN x y)) ∧ ∃ q os', w' = grow (W.drewN q) os' := by
  have C1 := Lib.hid (fun V => Tryz.cmp_Compare_int x.cd y.cd V)
  have HC : Hid (cfN x y = Lib.compareInt x.cd y.cd) := rfl
  obtain ⟨c1, hc1⟩ : ∃ c, Lib.compareInt x.cd y.cd = c := ⟨_, rfl⟩
  rw [hc1] at C1 HC
  clear hc1
  have BW : Hid (∃ os, (W.alloc (.cells #[.int .i64 x.cd, .int .i64 x.pr, .string x.ti] 28)).alloc (.cells #[.int .i64 y.cd, .int .i64 y.pr, .string y.ti] 28) = grow W os) := ⟨#[_] ++ #[_], by rw [alloc_eq_grow, alloc_eq_grow, grow_grow]⟩
  go_enter Tryz.func27, Tryz.ntmps27
  go_wp2_with fail
  refine (C1.out _).mono ?_
  rintro e w' ⟨rfl, rfl⟩
  go_wp2
  go_ret
  refine ⟨by rw [HC.out]; rfl, 0, ?_⟩
  obtain ⟨os, e⟩ := BW.out
  exact ⟨os, e⟩
theorem row_sortedN {w : World} {base : Nat} {T : TypeId} {K K' : List Nd} {g cap m : Nat} {os : Array Obj} (h : w.ownsRow base T 3 (.slice (some ⟨g, 0, none⟩) K.length cap) K.length (nrow3 K)) (hl : K'.length = K.length) :
    (sortWorldK ncell3 3 w g 0 m K'.toArray os).ownsRow base T 3 (.slice (some ⟨g, 0, none⟩) K.length cap) K.length (nrow3 K') ∧ (∀ w0, Below base w0 w → Below base w0 (sortWorldK ncell3 3 w g 0 m K'.toArray os)) := by
  rcases h.2 with ⟨e, _⟩ | ⟨g', cap', cur, e1, hb, hg, hn, hm, hs, ht⟩
  · cases e
  · injection e1 with e1 _ e3
    injection e1 with e1
    injection e1 with e1
    subst e1; subst e3
    have hlt := (Array.getElem?_eq_some_iff.1 hg).1
    have hF : (flatK ncell3 3 K'.toArray).toList = nrow3 K' := by rw [flat_list ncell3_len (by decide)]; rfl
    have hFs : (flatK ncell3 3 K'.toArray).size = K.length * 3 := by rw [size_flatK]; simp [hl]
    have hput : (putRow id (Sort.ahead w m) g 0 (flatK ncell3 3 K'.toArray)).heap[g]? = some (.cells (putCells id 0 (flatK ncell3 3 K'.toArray) cur) T (0, 0)) := by
      simp [putRow, mapBlock, Sort.ahead, Array.getElem?_modify, hg, onCells]
    refine ⟨⟨by rw [← hF, Array.length_toList, hFs], .inr ⟨g, cap, putCells id 0 (flatK ncell3 3 K'.toArray) cur, rfl, hb, ?_, hn, hm, by simpa [putCells] using hs, ?_⟩⟩, fun w0 hb0 => ?_⟩
    · show (grow (putRow id (Sort.ahead w m) g 0 (flatK ncell3 3 K'.toArray)) os).heap[g]? = _
      rw [heap_grow_old _ _ (by simpa [putRow, mapBlock, Sort.ahead] using hlt)]
      exact hput
    · rw [← hF]
      apply List.ext_getElem?
      intro j
      rw [List.getElem?_take, Array.getElem?_toList, Array.getElem?_toList]
      by_cases hj : j < K.length * 3
      · have hjc : j < cur.size := by
          have := Nat.mul_le_mul_right 3 hn
          omega
        rw [if_pos hj]
        simp only [putCells, Array.getElem?_mapIdx, Array.getElem?_eq_getElem hjc, Option.map_some]
        rw [if_pos (by omega), Array.getElem?_eq_getElem (by omega), Nat.sub_zero, getElem!_pos _ j (by omega)]
        rfl
      · rw [if_neg hj, Array.getElem?_eq_none (by omega)]
    · have h1 := below_putRow (enc := id) (q := m) (d := flatK ncell3 3 K'.toArray) hb0 hb
      have h2 := Go.Proofs.below_grown (putRow id (Sort.ahead w m) g 0 (flatK ncell3 3 K'.toArray)) 0 os
      rw [ahead_zero] at h2
      have hz : (putRow id (Sort.ahead w m) g 0 (flatK ncell3 3 K'.toArray)).heap.size = w.heap.size := by simp [putRow, mapBlock, Sort.ahead]
      exact h1.trans (h2.mono (by rw [hz]; omega))
abbrev srvN : Value := .func (.func 27) #[] #[]
theorem cmpN_enters (args : Array Value) (w : World) : (callFunc 27 args).run Tryz.prog w = .ok (.enter 27 args) w := enters_of Tryz.func27 (by kernel_rfl) rfl args w
theorem nd_agg (w : World) : (isAgg 28).run Tryz.prog w = .ok true w := by kernel_rfl
theorem nd_size (w : World) : (Go.sizeOf 28).run Tryz.prog w = .ok 3 w := by kernel_rfl
theorem perm_list {d d' : Array Nd} (h : PermIn 0 d.size d d') : d'.toList.Perm d.toList := by
  have := h.2.2
  rw [← h.1] at this
  have h2 : d'.toList.take d.size = d'.toList := List.take_of_length_le (by rw [Array.length_toList, h.1]; exact Nat.le_refl _)
  simp [h.1] at this
  rw [h2] at this
  exact this
theorem sortN_c (W : World) (base : Nat) (v : Value) (K : List Nd) (hown : W.ownsRow base 28 3 v K.length (nrow3 K)) (hn : K.length ≤ 60001) (hnd : K.Pairwise fun a b => a.cd ≠ b.cd) :
    Calls Tryz.prog 26 #[v, srvN] W fun e W' => e = .returned (.tuple #[]) ∧ ∃ K' : List Nd, K'.Perm K ∧ Inc K' ∧ W'.ownsRow base 28 3 v K.length (nrow3 K') ∧ ∀ w0, Below base w0 W → Below base w0 W' := by
  by_cases hv : v = .slice none 0 0
  · subst hv
    have h0 : K.length = 0 := by
      rcases hown.2 with ⟨_, h⟩ | ⟨g, cap, cur, h, _⟩
      · exact h
      · cases h
    obtain rfl : K = [] := List.eq_nil_of_length_eq_zero h0
    have hcon := AnyF.slices_SortFunc_none (P := Tryz.prog) (ρ := Tryz.sortCf_ren) Tryz.sortCf none 0 srvN W
    change Calls Tryz.prog 26 _ _ _ at hcon
    refine hcon.mono ?_
    rintro e w' ⟨rfl, rfl⟩
    exact ⟨rfl, [], .refl _, List.Pairwise.nil, hown, fun _ h => h⟩
  · rcases hown.2 with ⟨e, _⟩ | ⟨g, cap, cur, rfl, hb, hg, hc, hm, hs, ht⟩
    · exact absurd e hv
    have hlt := (Array.getElem?_eq_some_iff.1 hg).1
    have hH : HoldsK ncell3 3 W g 0 K.toArray := fun j hj => by
      have hF := flat_list ncell3_len (by decide) K.toArray
      have hcell := hown.cells (g := g) rfl j (flatK ncell3 3 K.toArray)[j]! (by
        have : nrow3 K = (flatK ncell3 3 K.toArray).toList := by rw [hF]; rfl
        rw [this, Array.getElem?_toList, Array.getElem?_eq_getElem hj, getElem!_pos _ j hj])
      rw [add_at] at hcell
      exact ⟨hcell, by rw [Nat.zero_add]; exact hown.frozenAt j⟩
    have hsz : K.toArray.size = K.length := by simp
    have hcon := AnyQ.slices_SortFunc (P := Tryz.prog) (ρ := Tryz.sortCf_ren) Tryz.sortCf 3 nd_agg nd_size ncell3 ncell3_len (fun x v hv => by simp [ncell3] at hv; rcases hv with rfl | rfl | rfl <;> rfl) cfN cfN_swo 27 #[] g 0 cap K.toArray W cmpN_enters (fun m os dk _ x y => cmpN_c x y _) hH hlt (by rw [hsz]; omega)
    change Calls Tryz.prog 26 _ _ _ at hcon
    rw [hsz] at hcon
    refine hcon.mono ?_
    rintro e w' ⟨rfl, d', m, os, hp, hso, rfl⟩
    have hperm : d'.toList.Perm K := by
      have := perm_list (d := K.toArray) (by rw [hsz]; exact hp)
      simpa using this
    have hl : d'.toList.length = K.length := hperm.length_eq
    have hrow := row_sortedN (K' := d'.toList) (m := m) (os := os) hown hl
    rw [show d'.toList.toArray = d' by simp] at hrow
    refine ⟨rfl, d'.toList, hperm, ?_, hrow.1, hrow.2⟩
    have hne : d'.toList.Pairwise fun a b => a.cd ≠ b.cd := hperm.symm.pairwise hnd (fun {a b} h => fun e => h e.symm)
    have hsl : d'.size = K.length := by rw [← Array.length_toList]; exact hl
    unfold Inc
    rw [List.pairwise_iff_getElem] at hne ⊢
    intro i j hi hj hij
    have h1 := hne i j hi hj hij
    have h2 := hso i j (Nat.zero_le _) hij (by rw [← hl]; exact hj)
    rw [cfN_lt] at h2
    have hi' : i < d'.size := by simpa using hi
    have hj' : j < d'.size := by simpa using hj
    rw [getElem!_pos d' i hi', getElem!_pos d' j hj'] at h2
    simp only [Array.getElem_toList] at h1 ⊢
    simp only [decide_eq_false_iff_not] at h2
    omega
end Go.Proofs.YtheekfijbbgbkaaGreatDoor
namespace Go.Proofs.YtheekfijbbgbkaaGreatDoor
open Go.RowKit Go.WideMaps Go.Maps

/-- The nodes of the first k lines. -/
def nrK (L : List Ln) (k : Nat) : List Nd := (List.range k).map (ndL L)
theorem nrK_succ (L : List Ln) (k : Nat) : nrK L (k + 1) = nrK L k ++ [ndL L k] := by unfold nrK; rw [List.range_succ, List.map_append]; rfl
theorem nrK_len (L : List Ln) (k : Nat) : (nrK L k).length = k := by simp [nrK]
theorem nd_nodup {L : List Ln} {lv : Nat} (hG : Gd L lv) (h : fe (rpE L) L.length = 0) : (ndU L).Pairwise fun a b => a.cd ≠ b.cd := by
  rw [List.pairwise_iff_getElem]
  intro i j hi hj hij
  rw [ndU_len] at hi hj
  have := rp_nodup hG h hij hj
  simpa [ndU, ndL] using this
/-- Fewer elements of a row. -/
theorem own_cut {W : World} {base size : Nat} {e : TypeId} {g n c : Nat} {xs : List Value} (h : W.ownsRow base e size (.slice (some ⟨g, 0, none⟩) n c) n xs) {k : Nat} (hk : k ≤ n) : W.ownsRow base e size (.slice (some ⟨g, 0, none⟩) k c) k (xs.take (k * size)) := by
  rcases h.2 with ⟨e1, _⟩ | ⟨g', cap, cur, e1, hb, hg, hn, hm, hs, ht⟩
  · cases e1
  · injection e1 with e1 _ e3
    injection e1 with e1
    injection e1 with e1
    subst e1; subst e3
    have hmul := Nat.mul_le_mul_right size hk
    refine ⟨by rw [List.length_take, h.1]; omega, .inr ⟨g, c, cur, rfl, hb, hg, by omega, hm, hs, ?_⟩⟩
    rw [← ht, List.take_take, Nat.min_eq_left hmul]
/-- Rows of elements of different types lie apart. -/
theorem rows_ne {W : World} {B1 B2 s1 s2 n1 n2 : Nat} {e1 e2 : TypeId} {v1 v2 : Value} {x1 x2 : List Value} (h1 : W.ownsRow B1 e1 s1 v1 n1 x1) (h2 : W.ownsRow B2 e2 s2 v2 n2 x2) (hne : e1 ≠ e2) : v1.ownBlock = none ∨ v1.ownBlock ≠ v2.ownBlock := by
  rcases h1.2 with ⟨rfl, _⟩ | ⟨g, cap, cur, rfl, _, hg, _⟩
  · exact .inl rfl
  · refine .inr fun e => ?_
    rcases h2.2 with ⟨rfl, _⟩ | ⟨g', cap', cur', rfl, _, hg', _⟩
    · simp [Value.ownBlock] at e
    · obtain rfl : g = g' := by simpa [Value.ownBlock] using e
      rw [hg] at hg'
      simp at hg'
      exact hne hg'.2
structure InU (h : Nat) (w wr : World) (vp vo : Value) (L : List Ln) (k : Nat) : Prop where
  path : wr.ownsRow h 3 1 vp (stk L k).length ((stk L k).map (Value.int .i64))
  own : wr.ownsRow h 28 3 vo k (nrow3 (nrK L k))
  bel : Below h w wr
  le : h ≤ wr.heap.size
theorem InU.keep {h : Nat} {w wr W : World} {vp vo : Value} {L : List Ln} {k : Nat} (i : InU h w wr vp vo L k) (hb : Below wr.heap.size wr W) : InU h w W vp vo L k :=
  ⟨own_keep i.path hb, own_keep i.own hb, i.bel.trans (hb.mono i.le), Nat.le_trans i.le hb.size⟩
/-- What the loads of a round read. -/
def S4p (z j : Nat) (cd : Int) (ti : ByteArray) (g : Nat) (p : Int) (V : World) : Prop :=
  V.cell? ⟨z, 1, none⟩ = some (.int .i64 ((j : Int) + 1)) ∧ V.cell? ⟨z, 2, none⟩ = some (.int .i64 cd) ∧ V.cell? ⟨z, 3, none⟩ = some (.string ti) ∧ V.cell? ⟨g, j, none⟩ = some (.int .i64 p)
theorem infoNd : (Tryz.prog.info? 28).map (fun i => (i.zero, i.size, i.bytes)) = some (some (.agg #[.int .i64 0, .int .i64 0, .string ByteArray.empty]), 3, 32) := by kernel_rfl
theorem infoIn : (Tryz.prog.info? 3).map (fun i => (i.zero, i.size, i.bytes)) = some (some (.int .i64 0), 1, 8) := by kernel_rfl
def NoP (L : List Ln) (w : World) (e : Ending) (w' : World) : Prop :=
  ∃ v K, e = .returned v ∧ K.Perm (ndU L) ∧ Inc K ∧ w'.ownsRow w.heap.size 28 3 v L.length (nrow3 K) ∧ Below w.heap.size w w'
set_option maxRecDepth 100000 in
set_option maxHeartbeats 4000000 in
theorem nodesOf_c (a : Option Addr) (c : Nat) (L : List Ln) (lv : Nat) (w : World) (hL : RdL w a L) (hG : Gd L lv) (hnd : fe (rpE L) L.length = 0) :
    Calls Tryz.prog 11 #[.slice a L.length c] w (NoP L w) := by
  obtain ⟨i0, hi, hz0, hz1, hz2⟩ := info_parts infoNd
  obtain ⟨j0, hj, hy0, hy1, hy2⟩ := info_parts infoIn
  have h9 := hL.1
  have HPW := Lib.hid (nd_nodup hG hnd)
  have HL := Lib.hid hL
  have HG := Lib.hid hG
  obtain ⟨W0, hW0⟩ : ∃ W, w.alloc (.cells #[.int .i64 0] 3) = W := ⟨_, rfl⟩
  obtain ⟨h, hh⟩ : ∃ h, w.heap.size = h := ⟨_, rfl⟩
  have S0 : Hid (InU h w W0 (.slice (some ⟨h, 0, none⟩) 1 1) (.slice none 0 0) L 0) := by
    unfold Hid
    rw [← hW0, ← hh]
    exact ⟨World.ownsRow_lit w #[.int .i64 0] 1 (Nat.le_refl _) (by unfold maxLen; omega) rfl, World.ownsRow_nil _ _ _ _, bel_one _ _, by simp⟩
  have HH := Lib.hid hh
  clear hL hG hnd
  go_enter Tryz.func11, Tryz.ntmps11
  go_wp2
  clear hh hW0
  go_loopw [3, 4, 10] (fun vo vp i wr => ∃ k : Nat, k ≤ L.length ∧ i = .int .i64 k ∧ Hid (InU h w wr vp vo L k)) (fun _ _ i _ => L.length - (intOf i).toNat)
  case atStart => exact ⟨0, Nat.zero_le _, rfl, S0.out⟩
  case round =>
    clear S0
    obtain ⟨k, hk, rfl, hS⟩ := hrel
    have BW : Hid (Below w.heap.size w wr) := by unfold Hid; rw [HH.out]; exact hS.out.bel
    have hhw : h ≤ wr.heap.size := by have := BW.out.size; have := HH.out; omega
    by_cases hlt : k < L.length
    · obtain ⟨b', rfl, u0, u1, u2, u3'⟩ := (HL.out.below BW.out).at_ hlt
      have hlt' : (k : Int) < (L.length : Int) := by omega
      have hk6 : k ≤ 60001 := by omega
      have LV := stk_lv HG.out hlt
      have SL := stk_le L k
      obtain ⟨sl, hsl⟩ : ∃ n, (stk L k).length = n := ⟨_, rfl⟩
      have EP : Hid (parS L k = (stk L k).getD ((lne L k).lv - 1) 0) := rfl
      have EN : Hid (ndL L k = ⟨(lne L k).cd, parS L k, (lne L k).ti⟩) := rfl
      have ES : Hid (stk L (k + 1) = (stk L k).take (lne L k).lv ++ [(lne L k).cd]) := rfl
      obtain ⟨⟨nu, lv, cd, ti⟩, hu⟩ : ∃ u, lne L k = u := ⟨_, rfl⟩
      rw [hu] at u0 u1 u2 u3' LV EP EN ES
      simp only at u0 u1 u2 u3' LV
      obtain ⟨j, rfl⟩ : ∃ j, lv = j + 1 := ⟨lv - 1, by omega⟩
      have u1 : wr.cell? ⟨b', k * 4 + 1, none⟩ = some (.int .i64 ((j : Int) + 1)) := u1
      have hj6 : j < sl ∧ sl ≤ 60002 := by rw [← hsl]; omega
      obtain ⟨p, hp⟩ : ∃ p, parS L k = p := ⟨_, rfl⟩
      rw [hp] at EP EN
      have HSL := Lib.hid hsl
      clear LV SL hu hsl hp
      obtain ⟨g, cap, rfl, hgc⟩ : ∃ g cap, u4 = .slice (some ⟨g, 0, none⟩) sl cap ∧ sl ≤ cap := by
        rcases hS.out.path.2 with ⟨_, h0⟩ | ⟨g, cap, cur, e, _, _, hn, _⟩
        · rw [HSL.out] at h0; omega
        · rw [HSL.out] at e hn; exact ⟨g, cap, e, hn⟩
      obtain ⟨W1, hW1⟩ : ∃ W, wr.alloc (.cells #[.int .i64 (nu : Nat), .int .i64 ((j : Int) + 1), .int .i64 cd, .string ti] 64) = W := ⟨_, rfl⟩
      obtain ⟨z, hz⟩ : ∃ z, wr.heap.size = z := ⟨_, rfl⟩
      have N1 : Hid (Below wr.heap.size wr W1 ∧ Bx4 W1 z (.int .i64 (nu : Nat)) (.int .i64 ((j : Int) + 1)) (.int .i64 cd) (.string ti)) := by unfold Hid; rw [← hW1, ← hz]; exact ⟨bel_one _ _, Bx4.made _ _ _ _ _ _⟩
      have I1 := Lib.hid (hS.out.keep N1.out.1)
      have PC : Hid (W1.cell? ⟨g, j, none⟩ = some (.int .i64 p) ∧ g < W1.heap.size) := by
        have hc := I1.out.path.cells (g := g) rfl j (.int .i64 p) (by
          rw [List.getElem?_map, EP.out]
          have hjl : j < (stk L k).length := by rw [HSL.out]; exact hj6.1
          simp [List.getD, List.getElem?_eq_getElem hjl])
        rw [add_at, Nat.zero_add] at hc
        exact ⟨hc, (I1.out.path.lt g rfl).2⟩
      have NZ : Hid (∀ q, u3.ownBlock = some q → q < z) := fun q e => by rw [← hz]; exact (hS.out.own.lt q e).2
      have hm1 : (j : Int) + 1 - 1 = (j : Int) := by omega
      have hm2 : (j : Int) < (j : Int) + 1 := by omega
      have hmw : IntKind.i64.wrap (j : Int) = (j : Int) := by rw [IntKind.wrap_i64] <;> omega
      have hm0 : (0 : Int) ≤ (j : Int) := by omega
      have hm3 : (0 : Int) ≤ (j : Int) + 1 := by omega
      have hm4 : (j : Int) + 1 ≤ (cap : Int) := by omega
      have v1 := N1.out.2.c1
      go_wp2
      clear hz hW1 v1 u0 u1 u2 u3'
      have X : Hid (S4p z j cd ti g p W1 ∧ z < W1.heap.size ∧ g < W1.heap.size) := ⟨⟨N1.out.2.c1, N1.out.2.c2, N1.out.2.c3, PC.out.1⟩, N1.out.2.lt, PC.out.2⟩
      have PR : Hid (W1.ownsRow h 3 1 (.slice (some ⟨g, 0, none⟩) (j + 1) cap) (j + 1) (((stk L k).map (Value.int .i64)).take (j + 1))) := by
        have hp := I1.out.path
        rw [HSL.out] at hp
        have := own_cut hp (k := j + 1) (by omega)
        rw [Nat.mul_one] at this
        exact this
      clear PC hS N1
      refine wp_region_noPanic ?_
      refine wp_region_held_drew (S := S4p z j cd ti g p) (by kernel_rfl) (by
        have hb := (Below.refl W1.heap.size W1).drew
        exact ⟨(hb.cell (p := ⟨z, 1, none⟩) X.out.2.1).trans X.out.1.1, (hb.cell (p := ⟨z, 2, none⟩) X.out.2.1).trans X.out.1.2.1, (hb.cell (p := ⟨z, 3, none⟩) X.out.2.1).trans X.out.1.2.2.1, (hb.cell (p := ⟨g, j, none⟩) X.out.2.2).trans X.out.1.2.2.2⟩) (fun hS => ?_)
      obtain ⟨WD, hWD⟩ : ∃ W, W1.drew = W := ⟨_, rfl⟩
      have D0 : Hid (Below W1.heap.size W1 WD) := by unfold Hid; rw [← hWD]; exact (Below.refl _ _).drew
      rw [hWD] at hS ⊢
      clear hWD
      have ID := Lib.hid (I1.out.keep D0.out)
      have PD := Lib.hid (own_keep PR.out D0.out)
      have ZG : Hid (z < WD.heap.size ∧ g < WD.heap.size) := ⟨Nat.lt_of_lt_of_le X.out.2.1 D0.out.size, Nat.lt_of_lt_of_le X.out.2.2 D0.out.size⟩
      have XS : Hid (S4p z j cd ti g p WD) := hS
      clear X I1 PR D0
      refine wpAnyH_take (i := 0) (v := ?v0z1) rfl (by kernel_rfl) (by kernel_rfl) (by kernel_rfl) (fun _ _ _ h => h) (Or.inl ⟨by rfl, ?hy0z1⟩) (by assumption) ?rest0z1
      case hy0z1 =>
        intro w hSw
        dsimp only [S4p] at hSw
        go_simp
        try with_reducible rfl
      simp only [Act.put, List.getElem_toArray, List.getElem_cons_succ, List.getElem_cons_zero, List.setIfInBounds_toArray, List.set_cons_zero, List.set_cons_succ]
      refine wpAnyH_take (i := 1) (v := ?v1z2) rfl (by kernel_rfl) (by kernel_rfl) (by kernel_rfl) (fun _ _ _ h => h) (Or.inl ⟨by rfl, ?hy1z2⟩) (by assumption) ?rest1z2
      case hy1z2 =>
        intro w hSw
        dsimp only [S4p] at hSw
        go_simp
        try with_reducible rfl
      simp only [Act.put, List.getElem_toArray, List.getElem_cons_succ, List.getElem_cons_zero, List.setIfInBounds_toArray, List.set_cons_zero, List.set_cons_succ]
      refine wpAnyH_take (i := 2) (v := ?v2z3) rfl (by kernel_rfl) (by kernel_rfl) (by kernel_rfl) (fun _ _ _ h => h) (Or.inl ⟨by rfl, ?hy2z3⟩) (by assumption) ?rest2z3
      case hy2z3 =>
        intro w hSw
        dsimp only [S4p] at hSw
        go_simp
        try with_reducible rfl
      simp only [Act.put, List.getElem_toArray, List.getElem_cons_succ, List.getElem_cons_zero, List.setIfInBounds_toArray, List.set_cons_zero, List.set_cons_succ]
      refine wpAnyH_take (i := 3) (v := ?v3z4) rfl (by kernel_rfl) (by kernel_rfl) (by kernel_rfl) (fun _ _ _ h => h) (Or.inl ⟨by rfl, ?hy3z4⟩) (by assumption) ?rest3z4
      case hy3z4 =>
        intro w hSw
        dsimp only [S4p] at hSw
        go_simp
        try with_reducible rfl
      simp only [Act.put, List.getElem_toArray, List.getElem_cons_succ, List.getElem_cons_zero, List.setIfInBounds_toArray, List.set_cons_zero, List.set_cons_succ]
      refine wpAnyH_take (i := 4) (v := ?v4z5) rfl (by kernel_rfl) (by kernel_rfl) (by kernel_rfl) (fun _ _ _ h => h) (Or.inl ⟨by rfl, ?hy4z5⟩) (by assumption) ?rest4z5
      case hy4z5 =>
        intro w hSw
        dsimp only [S4p] at hSw
        go_simp
        try with_reducible rfl
      simp only [Act.put, List.getElem_toArray, List.getElem_cons_succ, List.getElem_cons_zero, List.setIfInBounds_toArray, List.set_cons_zero, List.set_cons_succ]
      refine wpAnyH_take (i := 5) (v := ?v5z6) rfl (by kernel_rfl) (by kernel_rfl) (by kernel_rfl) (fun _ _ _ h => h) (Or.inl ⟨by rfl, ?hy5z6⟩) (by assumption) ?rest5z6
      case hy5z6 =>
        intro w hSw
        dsimp only [S4p] at hSw
        go_simp
        try with_reducible rfl
      simp only [Act.put, List.getElem_toArray, List.getElem_cons_succ, List.getElem_cons_zero, List.setIfInBounds_toArray, List.set_cons_zero, List.set_cons_succ]
      refine wpAnyH_take (i := 6) (v := ?v6z7) rfl (by kernel_rfl) (by kernel_rfl) (by kernel_rfl) (fun _ _ _ h => h) (Or.inl ⟨by rfl, ?hy6z7⟩) (by assumption) ?rest6z7
      case hy6z7 =>
        intro w hSw
        dsimp only [S4p] at hSw
        go_simp
        try with_reducible rfl
      simp only [Act.put, List.getElem_toArray, List.getElem_cons_succ, List.getElem_cons_zero, List.setIfInBounds_toArray, List.set_cons_zero, List.set_cons_succ]
      refine wpAnyH_take (i := 7) (v := ?v7z8) rfl (by kernel_rfl) (by kernel_rfl) (by kernel_rfl) (fun _ _ _ h => h) (Or.inl ⟨by rfl, ?hy7z8⟩) (by assumption) ?rest7z8
      case hy7z8 =>
        intro w hSw
        dsimp only [S4p] at hSw
        go_simp
        try with_reducible rfl
      simp only [Act.put, List.getElem_toArray, List.getElem_cons_succ, List.getElem_cons_zero, List.setIfInBounds_toArray, List.set_cons_zero, List.set_cons_succ]
      refine wpAnyH_take (i := 8) (v := ?v8z9) rfl (by kernel_rfl) (by kernel_rfl) (by kernel_rfl) (fun _ _ _ h => h) (Or.inl ⟨by rfl, ?hy8z9⟩) (by assumption) ?rest8z9
      case hy8z9 =>
        intro w hSw
        dsimp only [S4p] at hSw
        go_simp
        try with_reducible rfl
      simp only [Act.put, List.getElem_toArray, List.getElem_cons_succ, List.getElem_cons_zero, List.setIfInBounds_toArray, List.set_cons_zero, List.set_cons_succ]
      refine wpAnyH_take (i := 9) (v := ?v9z10) rfl (by kernel_rfl) (by kernel_rfl) (by kernel_rfl) (fun _ _ _ h => h) (Or.inl ⟨by rfl, ?hy9z10⟩) (by assumption) ?rest9z10
      case hy9z10 =>
        intro w hSw
        dsimp only [S4p] at hSw
        go_simp
        try with_reducible rfl
      simp only [Act.put, List.getElem_toArray, List.getElem_cons_succ, List.getElem_cons_zero, List.setIfInBounds_toArray, List.set_cons_zero, List.set_cons_succ]
      refine wpAnyH_take (i := 10) (v := ?v10z11) rfl (by kernel_rfl) (by kernel_rfl) (by kernel_rfl) (fun _ _ _ h => h) (Or.inl ⟨by rfl, ?hy10z11⟩) (by assumption) ?rest10z11
      case hy10z11 =>
        intro w hSw
        dsimp only [S4p] at hSw
        go_simp
        try with_reducible rfl
      simp only [Act.put, List.getElem_toArray, List.getElem_cons_succ, List.getElem_cons_zero, List.setIfInBounds_toArray, List.set_cons_zero, List.set_cons_succ]
      refine wpAnyH_take (i := 11) (v := ?v11z12) rfl (by kernel_rfl) (by kernel_rfl) (by kernel_rfl) (fun _ _ _ h => h) (Or.inl ⟨by rfl, ?hy11z12⟩) (by assumption) ?rest11z12
      case hy11z12 =>
        intro w hSw
        dsimp only [S4p] at hSw
        go_simp
        try with_reducible rfl
      simp only [Act.put, List.getElem_toArray, List.getElem_cons_succ, List.getElem_cons_zero, List.setIfInBounds_toArray, List.set_cons_zero, List.set_cons_succ]
      refine wpAnyH_ready (rs := [12]) (by kernel_rfl) (by simp) ?_
      refine AllReadyH.cons rfl (fun K hK => ?_) AllReadyH.nil
      go_simp
      have hT : S4p z j cd ti g p (WD.alloc (.cells #[.int .i64 cd, .int .i64 p, .string ti] 28)) := by
        have hb := bel_one WD (.cells #[.int .i64 cd, .int .i64 p, .string ti] 28)
        exact ⟨(hb.cell (p := ⟨z, 1, none⟩) ZG.out.1).trans XS.out.1, (hb.cell (p := ⟨z, 2, none⟩) ZG.out.1).trans XS.out.2.1, (hb.cell (p := ⟨z, 3, none⟩) ZG.out.1).trans XS.out.2.2.1, (hb.cell (p := ⟨g, j, none⟩) ZG.out.2).trans XS.out.2.2.2⟩
      have XT := Lib.hid hT
      refine hK.out _ _ hT (fun _ => ?_)
      clear hK K hS hT
      try simp only [Act.put, List.setIfInBounds_toArray, List.set_cons_zero, List.set_cons_succ]
      have hx1 : ∀ u ∈ [Value.int .i64 cd, .int .i64 p, .string ti], u.oneCell' = true := by intro u hu; simp at hu; rcases hu with rfl | rfl | rfl <;> rfl
      have hx2 : k + 1 ≤ maxLen := by unfold maxLen; omega
      have hx3 : (k + 1) * 32 ≤ 140737488355328 := by omega
      have hx4 : h ≤ (WD.alloc (.cells #[.int .i64 cd, .int .i64 p, .string ti] 28)).heap.size := by have := ID.out.le; simp; omega
      refine wpAnyH_ready (rs := [13]) (by kernel_rfl) (by simp) ?_
      refine AllReadyH.cons rfl (fun K hK => ?_) AllReadyH.nil
      first
        | refine wp_append_lies _ _ _ 22 (by rfl) h 28 i0 (.agg #[.int .i64 0, .int .i64 0, .string ByteArray.empty]) 3 32 Tryz.underlying22 hi hz0 hz1 hz2 rfl (by decide) _ _ _ (by rfl) (ID.out.own.alloc _) ⟨WD.heap.size, 0, none⟩ 1 1 [.int .i64 cd, .int .i64 p, .string ti] (by rfl) rfl (cell_three_new _ _ _ _ _) hx1 (by decide) hx2 hx3 hx4 (WD.heap.size + 1) (by simp) ?_
        | refine step_append_lies _ rfl _ _ 22 (by rfl) h 28 i0 (.agg #[.int .i64 0, .int .i64 0, .string ByteArray.empty]) 3 32 Tryz.underlying22 hi hz0 hz1 hz2 rfl (by decide) _ _ _ (by rfl) (ID.out.own.alloc _) ⟨WD.heap.size, 0, none⟩ 1 1 [.int .i64 cd, .int .i64 p, .string ti] (by rfl) rfl (cell_three_new _ _ _ _ _) hx1 (by decide) hx2 hx3 hx4 (WD.heap.size + 1) (by simp) ?_
      intro g' cap' w9 hown9 hgrow9 hloc9 _
      have P9 : Hid (w9.ownsRow h 3 1 (.slice (some ⟨g, 0, none⟩) (j + 1) cap) (j + 1) (((stk L k).map (Value.int .i64)).take (j + 1))) :=
        World.ownsRow.kept (PD.out.alloc _) hgrow9 (rows_ne (PD.out.alloc _) (ID.out.own.alloc (.cells #[.int .i64 cd, .int .i64 p, .string ti] 28)) (by decide))
      have GN : some g ≠ u3.ownBlock := by
        rcases rows_ne PD.out ID.out.own (by decide) with e | e
        · cases e
        · exact e
      have B9 : Hid (Below h w w9 ∧ h ≤ w9.heap.size) := by
        have b := (ID.out.bel.alloc ID.out.le (.cells #[.int .i64 cd, .int .i64 p, .string ti] 28)).grown hgrow9 (by have := ID.out.le; simp; omega) (fun q e => (ID.out.own.lt q e).1)
        exact ⟨b, by have := hgrow9.size; have := ID.out.le; simp at *; omega⟩
      have hT : S4p z j cd ti g p w9 := by
        have ne : some z ≠ u3.ownBlock := fun e => by have := NZ.out z e.symm; omega
        exact ⟨hgrow9.cell XT.out.1 ne, hgrow9.cell XT.out.2.1 ne, hgrow9.cell XT.out.2.2.1 ne, hgrow9.cell XT.out.2.2.2 GN⟩
      have O9 := Lib.hid hown9
      have q2 := hT.2.1
      refine hK.out _ _ hT (fun _ => ?_)
      clear hK K hT hown9 hgrow9 hloc9 XT XS ID PD ZG GN hx1 hx2 hx3 hx4
      try simp only [Act.put, List.setIfInBounds_toArray, List.set_cons_zero, List.set_cons_succ]
      refine wpAnyH_take (i := 14) (v := ?v14z13) rfl (by kernel_rfl) (by kernel_rfl) (by kernel_rfl) (fun _ _ _ h => h) (Or.inl ⟨by rfl, ?hy14z13⟩) (by assumption) ?rest14z13
      case hy14z13 =>
        intro w hSw
        dsimp only [S4p] at hSw
        go_simp
        try with_reducible rfl
      simp only [Act.put, List.getElem_toArray, List.getElem_cons_succ, List.getElem_cons_zero, List.setIfInBounds_toArray, List.set_cons_zero, List.set_cons_succ]
      refine wpAnyH_done (by kernel_rfl) ?_ _
      refine NoPanic.normal ?_
      go_wp2_with (at_builtin; refine wpList_append_own _ rfl _ _ 39 rfl h 3 j0 (.int .i64 0) 1 8 Tryz.underlying39 hj hy0 hy1 hy2 rfl (by decide) _ _ _ rfl (P9.out.alloc _) ⟨w9.heap.size, 0, none⟩ 1 1 [.int .i64 cd] rfl rfl (cell_one_new _ _ _) (by simp [Value.oneCell']) ?c3 ?c4 ?c5 ?_)
      case c3 => unfold maxLen; omega
      case c4 => omega
      case c5 => have := B9.out.2; simp; omega
      intro v' w10 hown10 hgrow10 _
      have NX : Hid (InU h w w10 v' (.slice (some ⟨g', 0, none⟩) (k + 1) cap') L (k + 1)) := by
        refine ⟨?_, ?_, ?_, ?_⟩
        · have el : (stk L (k + 1)).length = j + 1 + 1 := by
            rw [ES.out, List.length_append, List.length_take]
            have := HSL.out
            simp only [List.length_cons, List.length_nil]
            omega
          have em : (stk L (k + 1)).map (Value.int .i64) = ((stk L k).map (Value.int .i64)).take (j + 1) ++ [.int .i64 cd] := by
            rw [ES.out, List.map_append, List.map_take]; rfl
          rw [el, em]
          exact hown10
        · have en : nrow3 (nrK L (k + 1)) = nrow3 (nrK L k) ++ [.int .i64 cd, .int .i64 p, .string ti] := by
            rw [nrK_succ, nrow3_snoc, EN.out]; rfl
          rw [en]
          exact World.ownsRow.kept (O9.out.alloc _) hgrow10 (rows_ne (O9.out.alloc _) (P9.out.alloc (.cells #[.int .i64 cd] 3)) (by decide))
        · exact (B9.out.1.alloc B9.out.2 _).grown hgrow10 (by have := B9.out.2; simp; omega) (fun q e => (P9.out.lt q e).1)
        · have := hgrow10.size; have := B9.out.2; simp at *; omega
      clear hown10 hgrow10 O9 P9 q2
      go_wp2
      go_roundw
      case rel => exact ⟨k + 1, by omega, by go_num, NX.out⟩
      case measure => simp [intOf]; omega
    · obtain rfl : k = L.length := by omega
      have HS := Lib.hid hS.out
      have OW : Hid (wr.ownsRow h 28 3 u3 (ndU L).length (nrow3 (ndU L))) := by unfold Hid; rw [ndU_len]; exact hS.out.own
      have SC := Lib.hid (sortN_c wr h u3 (ndU L) OW.out (by rw [ndU_len]; exact h9) HPW.out)
      clear hS
      go_wp2_with fail
      refine SC.out.mono ?_
      rintro e W' ⟨rfl, K', hp, hinc, hown, hbel⟩
      have RR : Hid (NoP L w (.returned u3) W') := ⟨u3, K', rfl, hp, hinc, by rw [HH.out, ← ndU_len]; exact hown, by rw [HH.out]; exact hbel w HS.out.bel⟩
      clear hp hinc hown hbel
      go_wp2
      go_ret
      exact RR.out
end Go.Proofs.YtheekfijbbgbkaaGreatDoor
namespace Go.Proofs.YtheekfijbbgbkaaGreatDoor
open Go.RowKit Go.WideMaps Go.Maps

theorem outS_mem {T : List UInt8} {u : Ln} : ∀ {n : Nat}, u ∈ outS T n → ∃ i, i < n ∧ u = lnOf T i ∧ pce T i ≠ []
  | 0, h => by simp [outS] at h
  | n + 1, h => by
    have h : u ∈ (if pce T n = [] then outS T n else outS T n ++ [lnOf T n]) := h
    by_cases hp : pce T n = []
    · rw [if_pos hp] at h
      obtain ⟨i, h1, h2⟩ := outS_mem h
      exact ⟨i, by omega, h2⟩
    · rw [if_neg hp, List.mem_append] at h
      rcases h with h | h
      · obtain ⟨i, h1, h2⟩ := outS_mem h
        exact ⟨i, by omega, h2⟩
      · exact ⟨n, by omega, by simpa using h, hp⟩
theorem lne_mem {L : List Ln} {j : Nat} (h : j < L.length) : lne L j ∈ L := by rw [lne_is h]; exact List.getElem_mem h
theorem stk_in {L : List Ln} {lv : Nat} (hG : Gd L lv) : ∀ k, k ≤ L.length → ∀ x, x ∈ stk L k → 0 ≤ x ∧ x ≤ 999
  | 0, _, x, hx => by
    have : x = 0 := by simpa [stk] using hx
    omega
  | k + 1, hk, x, hx => by
    have hx : x ∈ (stk L k).take (lne L k).lv ++ [(lne L k).cd] := hx
    rw [List.mem_append] at hx
    rcases hx with hx | hx
    · exact stk_in hG k (by omega) x (List.mem_of_mem_take hx)
    · have : x = (lne L k).cd := by simpa using hx
      have := hG.cd k (by omega)
      omega
theorem parL_in {L : List Ln} {lv : Nat} (hG : Gd L lv) {k : Nat} (hk : k < L.length) : 0 ≤ parS L k ∧ parS L k ≤ 999 := by
  have h1 := stk_lv hG hk
  have h2 : (lne L k).lv - 1 < (stk L k).length := by omega
  refine stk_in hG k (by omega) _ ?_
  unfold parS
  rw [List.getD, List.getElem?_eq_getElem h2]
  exact List.getElem_mem h2
/-- The nodes of lines are no longer than memory. -/
theorem ndU_fits {L : List Ln} {lv : Nat} (hG : Gd L lv) (ht : ∀ u, u ∈ L → u.ti.size ≤ 60000) {K : List Nd} (hp : K.Perm (ndU L)) : Fits K := fun u hu => by
  have hu := hp.mem_iff.1 hu
  unfold ndU at hu
  obtain ⟨k, hk, rfl⟩ := List.mem_map.1 hu
  have hk := List.mem_range.1 hk
  have h1 := hG.cd k hk
  have h2 := parL_in hG hk
  have h3 := ht _ (lne_mem hk)
  refine ⟨⟨?_, ?_⟩, ⟨?_, ?_⟩, ?_⟩
  · show _ ≤ (lne L k).cd; omega
  · show (lne L k).cd ≤ _; omega
  · show _ ≤ parS L k; omega
  · show parS L k ≤ _; omega
  · show (lne L k).ti.size ≤ _; omega
theorem out_ti {T : List UInt8} (hT : T.length ≤ 60000) {n : Nat} : ∀ u, u ∈ outS T n → u.ti.size ≤ 60000 := fun u hu => by
  obtain ⟨i, _, rfl, _⟩ := outS_mem hu
  show (bsT (drw 32 (wds (pce T i)))).size ≤ _
  rw [bsT_size]
  have := drw_le 32 (wds (pce T i))
  have := wds_le (pce T i)
  have := pce_le T i
  omega
def eSc (T : List UInt8) : Int := fe (scE T) (nls T + 1)
def lnS (T : List UInt8) : List Ln := outS T (nls T + 1)
def eRp (T : List UInt8) : Int := fe (rpE (lnS T)) (lnS T).length
/-- The nodes of a text, in the order of their codes. -/
def IsK (T : List UInt8) (K : List Nd) : Prop := K.Perm (ndU (lnS T)) ∧ Inc K
theorem IsK.one {T : List UInt8} {K M : List Nd} (h : IsK T K) (k : IsK T M) : K = M := inc_one h.2 k.2 (h.1.trans k.1.symm)
def RdP (T : List UInt8) (w : World) (e : Ending) (w' : World) : Prop :=
  Below w.heap.size w w' ∧
  ((60000 < T.length ∧ e = .returned (.tuple #[.slice none 0 0, .int .i64 0, .int .i64 2])) ∨
   (T.length ≤ 60000 ∧ eSc T ≠ 0 ∧ e = .returned (.tuple #[.slice none 0 0, .int .i64 (eSc T), .int .i64 10])) ∨
   (T.length ≤ 60000 ∧ eSc T = 0 ∧ eRp T ≠ 0 ∧ e = .returned (.tuple #[.slice none 0 0, .int .i64 (eRp T), .int .i64 6])) ∨
   (T.length ≤ 60000 ∧ eSc T = 0 ∧ eRp T = 0 ∧ ∃ K, IsK T K ∧ Fits K ∧
     ((frS K ≠ 0 ∧ e = .returned (.tuple #[.slice none 0 0, .int .i64 0, .int .i64 (frS K)])) ∨
      (frS K = 0 ∧ ∃ a c, e = .returned (.tuple #[.slice a K.length c, .int .i64 0, .int .i64 0]) ∧ RdN w' a K))))
theorem fe_pos {s : Nat → Int} (h : ∀ k, 0 ≤ s k) : ∀ n, 0 ≤ fe s n
  | 0 => Int.le_refl 0
  | n + 1 => by
    show 0 ≤ (if fe s n = 0 then s n else fe s n)
    split
    · exact h n
    · exact fe_pos h n
theorem eSc_pos (T : List UInt8) : 0 ≤ eSc T := fe_pos (fun k => by unfold scE; split; omega; split <;> omega) _
theorem eRp_pos (T : List UInt8) : 0 ≤ eRp T := fe_pos (fun k => by unfold rpE; split <;> omega) _
theorem lnS_good {T : List UInt8} (h : eSc T = 0) : Gd (lnS T) (lvS T (nls T + 1)) := good_ (fe_zero h)
theorem lnS_len {T : List UInt8} (hT : T.length ≤ 60000) : (lnS T).length ≤ 60001 := by
  have := outS_len T (nls T + 1)
  have := nls_le T
  unfold lnS; omega
set_option maxRecDepth 100000 in
set_option maxHeartbeats 4000000 in
theorem Read_c (s : ByteArray) (w : World) (hE : Ev w) (hs : s.size ≤ 9223372036854775807) : Calls Tryz.prog 5 #[.string s] w (RdP s.data.toList w) := by
  obtain ⟨T, hT⟩ : ∃ T, s.data.toList = T := ⟨_, rfl⟩
  have hsz : s.size = T.length := by rw [← hT]; exact Lib.size_eq s
  rw [hT]
  have HSZ := Lib.hid hsz
  by_cases h1 : 60000 < s.size
  · have h1' : (60000 : Int) < (s.size : Int) := by omega
    have R : Hid (60000 < T.length) := by unfold Hid; omega
    clear hsz hT hE h1
    go_enter Tryz.func5, Tryz.ntmps5
    go_wp2
    go_ret3
    exact ⟨Below.refl _ _, .inl ⟨R.out, rfl⟩⟩
  have h1' : ¬ (60000 : Int) < (s.size : Int) := by omega
  have hTl : Hid (T.length ≤ 60000) := by unfold Hid; omega
  have HS := Lib.hid (scan_c s w hE (by omega))
  rw [hT] at HS
  clear hT hsz h1 hE
  have P1 := Lib.hid (eSc_pos T)
  have P2 := Lib.hid (eRp_pos T)
  by_cases h2 : eSc T = 0
  · have HG := Lib.hid (lnS_good h2)
    have H2 := Lib.hid h2
    by_cases h3 : eRp T = 0
    · have H3 := Lib.hid h3
      clear h2 h3
      go_enter Tryz.func5, Tryz.ntmps5
      go_wp2_with fail
      refine HS.out.mono ?_
      rintro e w1 ⟨hb1, ⟨hx, _⟩ | ⟨_, v, rfl, hown⟩⟩
      · exact absurd H2.out hx
      obtain ⟨a, c, rfl, hrd⟩ := rdL_own (L := lnS T) hown (lnS_len hTl.out)
      have B1 := Lib.hid hb1
      have HR := Lib.hid (repeated_c a c (lnS T) _ w1 hrd HG.out)
      have HD := Lib.hid hrd
      clear hb1 hown hrd
      have E3 : Hid (fe (rpE (lnS T)) (lnS T).length = 0) := H3.out
      rw [E3.out] at HR
      go_wp2_with fail
      refine HR.out.mono ?_
      rintro e w2 ⟨rfl, hb2⟩
      have B2 : Hid (Below w.heap.size w w2) := B1.out.trans (hb2.mono B1.out.size)
      have HN := Lib.hid (nodesOf_c a c (lnS T) _ w2 (HD.out.below hb2) HG.out E3.out)
      clear hb2
      go_wp2_with fail
      refine HN.out.mono ?_
      rintro e w3 ⟨v, K, rfl, hp, hinc, hown, hb3⟩
      have HK : Hid (IsK T K) := ⟨hp, hinc⟩
      have HF := Lib.hid (ndU_fits HG.out (out_ti hTl.out) hp)
      have hl : (lnS T).length = K.length := by rw [hp.length_eq, ndU_len]
      rw [hl] at hown
      obtain ⟨a2, c2, rfl, hrd⟩ := rdN_own3 hown (by have := lnS_len hTl.out; omega)
      have B3 : Hid (Below w.heap.size w w3) := B2.out.trans (hb3.mono B2.out.size)
      have HC := Lib.hid (CheckFrame_c a2 c2 K w3 hrd HF.out)
      have HRD := Lib.hid hrd
      clear hp hinc hown hb3 hrd hl
      by_cases h4 : frS K = 0
      · have H4 := Lib.hid h4
        rw [h4] at HC
        clear h4
        go_wp2_with fail
        refine HC.out.mono ?_
        rintro e w4 ⟨rfl, hb4⟩
        have RR : Hid (RdP T w (.returned (.tuple #[.slice a2 K.length c2, .int .i64 0, .int .i64 0])) w4) :=
          ⟨B3.out.trans (hb4.mono B3.out.size), .inr (.inr (.inr ⟨hTl.out, H2.out, H3.out, K, HK.out, HF.out, .inr ⟨H4.out, a2, c2, rfl, HRD.out.below hb4⟩⟩))⟩
        clear hb4
        go_wp2
        go_ret3
        exact RR.out
      · have H4 := Lib.hid h4
        obtain ⟨f, hf⟩ : ∃ f, frS K = f := ⟨_, rfl⟩
        have HFF := Lib.hid hf
        have h4' : (f == 0) = false := by rw [beq_eq_false_iff_ne, ← hf]; exact h4
        have h4'' : (f != 0) = true := by rw [bne, h4']; rfl
        rw [hf] at HC
        clear h4 hf
        go_wp2_with fail
        refine HC.out.mono ?_
        rintro e w4 ⟨rfl, hb4⟩
        have RR : Hid (RdP T w (.returned (.tuple #[.slice none 0 0, .int .i64 0, .int .i64 f])) w4) :=
          ⟨B3.out.trans (hb4.mono B3.out.size), .inr (.inr (.inr ⟨hTl.out, H2.out, H3.out, K, HK.out, HF.out, .inl ⟨H4.out, by rw [HFF.out]⟩⟩))⟩
        clear hb4
        go_wp2
        go_ret3
        exact RR.out
    · have H3 := Lib.hid h3
      obtain ⟨r, hr⟩ : ∃ r, eRp T = r := ⟨_, rfl⟩
      have HRR := Lib.hid hr
      have hr0 : 0 < r := by have := P2.out; omega
      clear h2 h3 hr
      go_enter Tryz.func5, Tryz.ntmps5
      go_wp2_with fail
      refine HS.out.mono ?_
      rintro e w1 ⟨hb1, ⟨hx, _⟩ | ⟨_, v, rfl, hown⟩⟩
      · exact absurd H2.out hx
      obtain ⟨a, c, rfl, hrd⟩ := rdL_own (L := lnS T) hown (lnS_len hTl.out)
      have B1 := Lib.hid hb1
      have HR := Lib.hid (repeated_c a c (lnS T) _ w1 hrd HG.out)
      clear hb1 hown hrd
      have E3 : Hid (fe (rpE (lnS T)) (lnS T).length = r) := HRR.out
      rw [E3.out] at HR
      go_wp2_with fail
      refine HR.out.mono ?_
      rintro e w2 ⟨rfl, hb2⟩
      have RR : Hid (RdP T w (.returned (.tuple #[.slice none 0 0, .int .i64 r, .int .i64 6])) w2) :=
        ⟨B1.out.trans (hb2.mono B1.out.size), .inr (.inr (.inl ⟨hTl.out, H2.out, H3.out, by rw [HRR.out]⟩))⟩
      clear hb2
      go_wp2
      go_ret3
      exact RR.out
  · have H2 := Lib.hid h2
    obtain ⟨r, hr⟩ : ∃ r, eSc T = r := ⟨_, rfl⟩
    have HRR := Lib.hid hr
    have hr0 : 0 < r := by have := P1.out; omega
    clear h2 hr
    go_enter Tryz.func5, Tryz.ntmps5
    go_wp2_with fail
    refine HS.out.mono ?_
    rintro e w1 ⟨hb1, ⟨_, rfl⟩ | ⟨hx, _⟩⟩
    · have ER : fe (scE T) (nls T + 1) = r := HRR.out
      rw [ER]
      have RR : Hid (RdP T w (.returned (.tuple #[.slice none 0 0, .int .i64 r, .int .i64 10])) w1) :=
        ⟨hb1, .inr (.inl ⟨hTl.out, H2.out, by rw [HRR.out]⟩)⟩
      clear hb1 ER
      go_wp2
      go_ret3
      exact RR.out
    · exact absurd hx H2.out
end Go.Proofs.YtheekfijbbgbkaaGreatDoor
namespace Go.Proofs.YtheekfijbbgbkaaGreatDoor

/-- Lines, each with its end. -/
def jn (B : List (List UInt8)) : List UInt8 := B.flatMap fun b => b ++ [10]
theorem jn_cons (b : List UInt8) (B : List (List UInt8)) : jn (b :: B) = b ++ 10 :: jn B := by unfold jn; simp
theorem rst_jn {B : List (List UInt8)} (h : ∀ b, b ∈ B → (10 : UInt8) ∉ b) : ∀ k, k ≤ B.length → rst (jn B) k = jn (B.drop k)
  | 0, _ => rfl
  | k + 1, hk => by
    show drw 10 (rst (jn B) k) = _
    rw [rst_jn h k (by omega), List.drop_eq_getElem_cons (by omega), jn_cons, (tkw_app _ (h _ (List.getElem_mem _))).2]
theorem pce_jn {B : List (List UInt8)} (h : ∀ b, b ∈ B → (10 : UInt8) ∉ b) {k : Nat} (hk : k < B.length) : pce (jn B) k = B[k] := by
  unfold pce
  rw [rst_jn h k (by omega), List.drop_eq_getElem_cons hk, jn_cons, (tkw_app _ (h _ (List.getElem_mem _))).1]
theorem pce_last {B : List (List UInt8)} (h : ∀ b, b ∈ B → (10 : UInt8) ∉ b) : pce (jn B) B.length = [] := by
  unfold pce
  rw [rst_jn h _ (Nat.le_refl _), List.drop_length]; rfl
theorem nls_jn : ∀ {B : List (List UInt8)}, (∀ b, b ∈ B → (10 : UInt8) ∉ b) → nls (jn B) = B.length
  | [], _ => rfl
  | b :: B, h => by
    unfold nls
    rw [jn_cons, List.count_append, List.count_cons_self, List.count_eq_zero_of_not_mem (h b (by simp))]
    have := nls_jn (B := B) fun b hb => h b (by simp [hb])
    unfold nls at this
    rw [this, List.length_cons]; omega
/-- A node's line, without its end. -/
def lbX (x : Nat × Nd) : List UInt8 := List.replicate (2 * x.1) 32 ++ (Lib.itoa x.2.cd ++ 32 :: bts x.2.ti)
theorem rep_two (v : Nat) : Lib.repeatL [32, 32] v = List.replicate (2 * v) 32 := by
  have := Lib.repeatL_replicate 32 2 v
  rw [Nat.mul_comm]; exact this
theorem lnX_lb (x : Nat × Nd) : lnX x = lbX x ++ [10] := by
  unfold lnX lnT lbX
  rw [rep_two]; simp
theorem wds_rep (n : Nat) {r : List UInt8} (h : r.head? ≠ some 32) : wds (List.replicate n 32 ++ r) = r := by
  unfold wds Lib.trimLeftB
  induction n with
  | zero =>
    cases r with
    | nil => rfl
    | cons b r =>
      have hb : (b == 32) = false := by rw [beq_eq_false_iff_ne]; intro e; exact h (by rw [e]; rfl)
      show (b :: r).dropWhile _ = _
      rw [List.dropWhile_cons, hb]; rfl
  | succ n ih =>
    rw [List.replicate_succ, List.cons_append, List.dropWhile_cons]
    exact ih
theorem dg_not {l : List UInt8} (h : l.all dgB = true) : (32 : UInt8) ∉ l ∧ (10 : UInt8) ∉ l := by
  rw [List.all_eq_true] at h
  exact ⟨fun hm => absurd (h _ hm) (by decide), fun hm => absurd (h _ hm) (by decide)⟩
theorem ti_not {t : ByteArray} (h : titS t = true) : (10 : UInt8) ∉ bts t := by
  unfold titS at h
  rw [Bool.and_eq_true] at h
  have h := List.all_eq_true.1 h.1
  exact fun hm => absurd (h _ hm) (by decide)
theorem lb_parse {x : Nat × Nd} (h1 : 1 ≤ x.2.cd) (h2 : x.2.cd ≤ 999) (h3 : titS x.2.ti = true) :
    lnB (lbX x) = true ∧ lvN (lbX x) = x.1 + 1 ∧ codV (dgs (lbX x)) = x.2.cd ∧ tiN (lbX x) = x.2.ti ∧ lbX x ≠ [] ∧ (10 : UInt8) ∉ lbX x := by
  have hd := itoa_all (n := x.2.cd) (by omega)
  have hne := itoa_ne (n := x.2.cd) (by omega)
  have hn := dg_not hd
  have hc := codB_itoa h1 h2
  have hh : (Lib.itoa x.2.cd ++ 32 :: bts x.2.ti).head? ≠ some 32 := by
    cases e : Lib.itoa x.2.cd with
    | nil => exact absurd e hne
    | cons b r =>
      intro e2
      have : b = 32 := by simpa using e2
      exact hn.1 (by rw [e, this]; simp)
  have hw : wds (lbX x) = Lib.itoa x.2.cd ++ 32 :: bts x.2.ti := wds_rep _ hh
  have hcut := tkw_app (c := 32) (bts x.2.ti) hn.1
  have hk : blk (lbX x) = 2 * x.1 := by
    unfold blk
    rw [hw]; unfold lbX
    rw [List.length_append, List.length_replicate]; omega
  have hdg : dgs (lbX x) = Lib.itoa x.2.cd := by unfold dgs; rw [hw]; exact hcut.1
  have hti : tiN (lbX x) = x.2.ti := by
    unfold tiN ttl
    rw [hw, hcut.2]; exact Lib.mk_data _
  refine ⟨(lnB_iff _).2 ⟨by rw [hk]; omega, by rw [hw]; simp, by rw [hdg]; exact hc.1, by rw [hti]; exact h3⟩, ?_, ?_, hti, ?_, ?_⟩
  · unfold lvN; rw [hk]; omega
  · rw [hdg]; exact hc.2
  · intro e
    rw [e] at hw
    have : (Lib.itoa x.2.cd ++ 32 :: bts x.2.ti) = [] := hw.symm
    simp at this
  · unfold lbX
    rw [List.mem_append, List.mem_append, List.mem_cons]
    rintro (h | h | h | h)
    · exact absurd (List.eq_of_mem_replicate h) (by decide)
    · exact hn.2 h
    · exact absurd h (by decide)
    · exact ti_not h3 h
/-! ### The stack of codes -/
def pu (S : List Int) (x : Nat × Nd) : List Int := S.take (x.1 + 1) ++ [x.2.cd]
def sx (X : List (Nat × Nd)) (S : List Int) (k : Nat) : List Int := (X.take k).foldl pu S
theorem sx_succ {X : List (Nat × Nd)} {S : List Int} {k : Nat} (h : k < X.length) : sx X S (k + 1) = pu (sx X S k) X[k] := by
  unfold sx; rw [List.take_succ_eq_append_getElem h, List.foldl_append]; rfl
def okX : List Int → List (Nat × Nd) → Prop
  | _, [] => True
  | S, x :: X => x.1 < S.length ∧ S.getD x.1 0 = x.2.pr ∧ okX (pu S x) X
theorem okX_at : ∀ {X : List (Nat × Nd)} {S : List Int} {k : Nat} (_ : okX S X) (h : k < X.length), X[k].1 < (sx X S k).length ∧ (sx X S k).getD X[k].1 0 = X[k].2.pr
  | x :: X, S, 0, hok, _ => ⟨hok.1, hok.2.1⟩
  | x :: X, S, k + 1, hok, h => okX_at (X := X) (k := k) hok.2.2 (by simpa using h)
theorem okX_app : ∀ {A B : List (Nat × Nd)} {S : List Int}, okX S A → okX (A.foldl pu S) B → okX S (A ++ B)
  | [], _, _, _, h => h
  | _ :: _, _, _, ha, h => ⟨ha.1, ha.2.1, okX_app ha.2.2 h⟩
theorem getD_take {S S' : List Int} {v : Nat} (h : S.take (v + 1) = S'.take (v + 1)) : S.getD v 0 = S'.getD v 0 := by
  have := congrArg (fun l => l[v]?) h
  simp only [List.getElem?_take] at this
  rw [if_pos (by omega), if_pos (by omega)] at this
  rw [List.getD, List.getD, this]
theorem pl_ok {l : List Nd} (F : Fr l) : ∀ (n p v : Nat) (S : List Int), v < S.length → S.getD v 0 = (p : Int) →
    okX S ((pl l n p v).map (itm l)) ∧ (((pl l n p v).map (itm l)).foldl pu S).take (v + 1) = S.take (v + 1) ∧ v < (((pl l n p v).map (itm l)).foldl pu S).length
  | 0, _, _, _, h, _ => ⟨trivial, rfl, h⟩
  | n + 1, p, v, S, h, hp => by
    rw [pl_is]
    have : ∀ k, k ≤ l.length → okX S ((lcat (plk l n p v) k).map (itm l)) ∧ (((lcat (plk l n p v) k).map (itm l)).foldl pu S).take (v + 1) = S.take (v + 1) ∧ v < (((lcat (plk l n p v) k).map (itm l)).foldl pu S).length := fun k => by
      induction k with
      | zero => intro _; exact ⟨trivial, rfl, h⟩
      | succ k ih =>
        intro hk
        obtain ⟨i1, i2, i3⟩ := ih (by omega)
        show okX S ((lcat (plk l n p v) k ++ plk l n p v k).map (itm l)) ∧ ((((lcat (plk l n p v) k ++ plk l n p v k).map (itm l))).foldl pu S).take (v + 1) = _ ∧ v < (((lcat (plk l n p v) k ++ plk l n p v k).map (itm l)).foldl pu S).length
        rw [List.map_append, List.foldl_append]
        obtain ⟨S1, hS1⟩ : ∃ S1, ((lcat (plk l n p v) k).map (itm l)).foldl pu S = S1 := ⟨_, rfl⟩
        rw [hS1] at i2 i3 ⊢
        have hpk : plk l n p v k = if next l p k = true then (v, k) :: pl l n (nd l k).cd.toNat (v + 1) else [] := rfl
        rw [hpk]
        by_cases e : next l p k = true
        · rw [if_pos e]
          have e1 : S1.getD v 0 = (nd l k).pr := by rw [getD_take i2, hp]; exact (of_decide_eq_true e).symm
          have hS2 : (pu S1 (v, nd l k)).length = v + 1 + 1 := by
            unfold pu; rw [List.length_append, List.length_take]; simp only [List.length_cons, List.length_nil]; omega
          have e2 : (pu S1 (v, nd l k)).getD (v + 1) 0 = (((nd l k).cd.toNat : Nat) : Int) := by
            have hl : (S1.take (v + 1)).length = v + 1 := by rw [List.length_take]; omega
            rw [cd_toNat F (by omega)]
            unfold pu
            rw [List.getD, List.getElem?_append_right (by rw [hl]; exact Nat.le_refl _), hl]
            simp
          obtain ⟨j1, j2, j3⟩ := pl_ok F n (nd l k).cd.toNat (v + 1) (pu S1 (v, nd l k)) (by omega) e2
          refine ⟨okX_app i1 ?_, ?_, ?_⟩
          · rw [hS1]; exact ⟨i3, e1, j1⟩
          · show (((pl l n (nd l k).cd.toNat (v + 1)).map (itm l)).foldl pu (pu S1 (v, nd l k))).take (v + 1) = _
            have h2 := congrArg (List.take (v + 1)) j2
            rw [List.take_take, List.take_take, Nat.min_eq_left (by omega)] at h2
            rw [h2, ← i2]
            unfold pu
            rw [List.take_append_of_le_length (by rw [List.length_take]; omega), List.take_take, Nat.min_self]
          · show v < (((pl l n (nd l k).cd.toNat (v + 1)).map (itm l)).foldl pu (pu S1 (v, nd l k))).length
            omega
        · rw [if_neg e]
          refine ⟨?_, i2, i3⟩
          rw [List.map_nil, List.append_nil]; exact i1
    exact this _ (Nat.le_refl _)
/-! ### The frame's text -/
def XX (l : List Nd) : List (Nat × Nd) := (pl l 9 0 0).map (itm l)
theorem XX_len {l : List Nd} (F : Fr l) : (XX l).length = l.length := by
  have := (pl_perm F).length_eq
  simpa [XX] using this
theorem XX_mem {l : List Nd} {x : Nat × Nd} (h : x ∈ XX l) : ∃ j, j < l.length ∧ x.2 = nd l j := by
  obtain ⟨y, hy, rfl⟩ := List.mem_map.1 h
  exact ⟨y.2, pl_mem 9 0 0 y hy, rfl⟩
def BB (l : List Nd) : List (List UInt8) := (XX l).map lbX
theorem fl_lb : ∀ X : List (Nat × Nd), X.flatMap lnX = (X.map lbX).flatMap fun b => b ++ [10]
  | [] => rfl
  | x :: X => by rw [List.flatMap_cons, List.map_cons, List.flatMap_cons, fl_lb X, lnX_lb]
theorem tx_jn (l : List Nd) : txN l 9 0 0 = jn (BB l) := by
  rw [txN_pl]
  exact fl_lb _
section
variable {l : List Nd} (F : Fr l)
include F
theorem XX_parse {k : Nat} (hk : k < (XX l).length) : lnB (lbX (XX l)[k]) = true ∧ lvN (lbX (XX l)[k]) = (XX l)[k].1 + 1 ∧ codV (dgs (lbX (XX l)[k])) = (XX l)[k].2.cd ∧ tiN (lbX (XX l)[k]) = (XX l)[k].2.ti ∧ lbX (XX l)[k] ≠ [] ∧ (10 : UInt8) ∉ lbX (XX l)[k] := by
  obtain ⟨j, hj, e⟩ := XX_mem (List.getElem_mem hk)
  have h1 := F.ord.rng j hj
  have h2 := (F.tit j hj).2
  exact lb_parse (by rw [e]; exact h1.1) (by rw [e]; exact h1.2) (by rw [e]; exact h2)
theorem BB_no : ∀ b, b ∈ BB l → (10 : UInt8) ∉ b := fun b hb => by
  obtain ⟨k, hk, rfl⟩ := List.getElem_of_mem hb
  have hk2 : k < (XX l).length := by simpa [BB] using hk
  simp only [BB, List.getElem_map]
  exact (XX_parse F hk2).2.2.2.2.2
theorem pce_T {k : Nat} (hk : k < (XX l).length) : pce (txN l 9 0 0) k = lbX (XX l)[k] := by
  rw [tx_jn, pce_jn (BB_no F) (by simpa [BB] using hk)]
  simp [BB]
def LX (l : List Nd) (k : Nat) : List Ln := (List.range k).map fun i => ⟨i + 1, ((XX l).getD i (0, nd0)).1 + 1, ((XX l).getD i (0, nd0)).2.cd, ((XX l).getD i (0, nd0)).2.ti⟩
omit F in
theorem LX_succ {k : Nat} (hk : k < (XX l).length) : LX l (k + 1) = LX l k ++ [⟨k + 1, (XX l)[k].1 + 1, (XX l)[k].2.cd, (XX l)[k].2.ti⟩] := by
  unfold LX
  rw [List.range_succ, List.map_append]
  simp only [List.map_cons, List.map_nil]
  rw [List.getD, List.getElem?_eq_getElem hk]; rfl
theorem XX_ok : okX [0] (XX l) := (pl_ok F 9 0 0 [0] (by simp) rfl).1
theorem T_lines : ∀ k, k ≤ (XX l).length → outS (txN l 9 0 0) k = LX l k ∧ lvS (txN l 9 0 0) k + 1 = (sx (XX l) [0] k).length ∧ ∀ i, i < k → scE (txN l 9 0 0) i = 0
  | 0, _ => ⟨rfl, rfl, fun i hi => absurd hi (Nat.not_lt_zero _)⟩
  | k + 1, hk => by
    obtain ⟨h1, h2, h3⟩ := T_lines k (by omega)
    obtain ⟨p1, p2, p3, p4, p5, _⟩ := XX_parse F (k := k) (by omega)
    have hp := pce_T F (k := k) (by omega)
    have ho := okX_at (XX_ok F) (k := k) (by omega)
    have hne : ¬ pce (txN l 9 0 0) k = [] := by rw [hp]; exact p5
    refine ⟨?_, ?_, fun i hi => ?_⟩
    · show (if _ then _ else _) = _
      rw [if_neg hne, h1, LX_succ (by omega)]
      unfold lnOf
      rw [hp, p2, p3, p4]
    · show (if _ then _ else _) + 1 = _
      rw [if_neg hne, hp, p2, sx_succ (by omega)]
      unfold pu
      rw [List.length_append, List.length_take]
      simp only [List.length_cons, List.length_nil]
      omega
    · by_cases e : i = k
      · subst e
        unfold scE
        rw [if_neg hne, hp, p1, p2, if_neg]
        rintro (h | h)
        · cases h
        · omega
      · exact h3 i (by omega)
theorem T_nls : nls (txN l 9 0 0) = (XX l).length := by rw [tx_jn, nls_jn (BB_no F)]; simp [BB]
theorem T_last : pce (txN l 9 0 0) (XX l).length = [] := by
  have := pce_last (BB_no F)
  rw [← tx_jn] at this
  simpa [BB] using this
theorem T_sc : eSc (txN l 9 0 0) = 0 := by
  unfold eSc
  rw [T_nls F]
  refine fe_all fun k hk => ?_
  by_cases e : k = (XX l).length
  · subst e
    unfold scE; rw [if_pos (T_last F)]
  · exact (T_lines F _ (Nat.le_refl _)).2.2 k (by omega)
theorem T_ln : lnS (txN l 9 0 0) = LX l (XX l).length := by
  unfold lnS
  rw [T_nls F]
  show (if _ then _ else _) = _
  rw [if_pos (T_last F)]
  exact (T_lines F _ (Nat.le_refl _)).1
omit F in
theorem lne_LX {k n : Nat} (hk : k < n) (hn : n ≤ (XX l).length) : lne (LX l n) k = ⟨k + 1, (XX l)[k].1 + 1, (XX l)[k].2.cd, (XX l)[k].2.ti⟩ := by
  rw [lne_is (by simp [LX]; exact hk)]
  simp only [LX, List.getElem_map, List.getElem_range]
  rw [List.getD, List.getElem?_eq_getElem (by omega)]; rfl
omit F in
theorem stk_LX {n : Nat} (hn : n ≤ (XX l).length) : ∀ k, k ≤ n → stk (LX l n) k = sx (XX l) [0] k
  | 0, _ => rfl
  | k + 1, hk => by
    show (stk (LX l n) k).take _ ++ _ = _
    rw [stk_LX hn k (by omega), lne_LX (by omega) hn, sx_succ (by omega)]; rfl
theorem ndU_T : ndU (lnS (txN l 9 0 0)) = (XX l).map (·.2) := by
  rw [T_ln F]
  have hl : (LX l (XX l).length).length = (XX l).length := by simp [LX]
  apply List.ext_getElem
  · rw [ndU_len, hl, List.length_map]
  · intro k h1 h2
    rw [ndU_len, hl] at h1
    simp only [ndU, List.getElem_map, List.getElem_range]
    unfold ndL parS
    rw [stk_LX (Nat.le_refl _) k (by omega), lne_LX h1 (Nat.le_refl _)]
    simp only [Nat.add_sub_cancel]
    rw [(okX_at (XX_ok F) h1).2]
theorem T_k : IsK (txN l 9 0 0) l := by
  refine ⟨?_, ?_⟩
  · rw [ndU_T F]
    have h1 := (pl_perm F).map (nd l)
    have h2 : (List.range l.length).map (nd l) = l := by
      apply List.ext_getElem
      · simp
      · intro k h1 h2
        simp only [List.getElem_map, List.getElem_range]
        exact nd_is h2
    rw [h2, List.map_map] at h1
    have h3 : (XX l).map (·.2) = (pl l 9 0 0).map (nd l ∘ fun x => x.2) := by unfold XX; rw [List.map_map]; rfl
    rw [h3]
    exact h1.symm
  · unfold Inc
    rw [List.pairwise_iff_getElem]
    intro i j hi hj hij
    have := F.ord.lt hij hj
    rw [nd_is hi, nd_is hj] at this
    exact this
theorem T_rp : eRp (txN l 9 0 0) = 0 := by
  unfold eRp
  rw [T_ln F]
  have hl : (LX l (XX l).length).length = (XX l).length := by simp [LX]
  rw [hl]
  refine fe_all fun k hk => ?_
  unfold rpE
  rw [lne_LX hk (Nat.le_refl _), if_neg]
  intro h
  obtain ⟨j, hj, e⟩ := has_iff.1 h
  rw [lne_LX (by omega) (Nat.le_refl _)] at e
  simp only at e
  have hnd : ((XX l).map (·.2)).Pairwise fun a b => a.cd ≠ b.cd := by
    have hp := (T_k F)
    rw [IsK, ndU_T F] at hp
    exact hp.1.pairwise (hp.2.imp fun {a b} h => by omega) (fun {a b} h => fun e => h e.symm)
  rw [List.pairwise_iff_getElem] at hnd
  have := hnd j k (by rw [List.length_map]; omega) (by rw [List.length_map]; omega) hj
  simp only [List.getElem_map] at this
  exact this e
end
end Go.Proofs.YtheekfijbbgbkaaGreatDoor
