/-
  The reference of package code: a node set into a row.
  The reference of package code: nodes in the order of their codes.
-/
import Derived.Test.YtheekfijbbgbkaaGreatDoorTS14
import Derived.Lib.Overlaps
import Derived.Lib.AppendZerosOnto
import Derived.Shelf.Spec.SlicesInsert
import Derived.Laws.CopyOwn
import Derived.Test.YtheekfijbbgbkaaGreatDoorTS06
namespace Go.Proofs.YtheekfijbbgbkaaGreatDoor
open Go.RowKit Go.WideMaps Go.Maps Go.Lib Go.Sort

/-- 'copy' of k cells an element, into a row. -/
theorem run_copy_rowK {P : Program} (w : World) (dT sT ty elem : TypeId) (g o dLen dCap : Nat) (a : Addr) (sLen sCap k m : Nat) (cur : Array Value) (t : TypeId) (cs : List Value)
    (hu : P.underlying dT = some (.slice elem)) (hs : (P.info? elem).map (·.size) = some k)
    (hg : w.heap[g]? = some (.cells cur t (0, 0))) (hm : m = Nat.min sLen dLen) (hn : cs.length = m * k)
    (hsrc : ∀ j v, cs[j]? = some v → w.cell? (a.add j) = some v) (hfit : o + cs.length ≤ cur.size) (h1 : ∀ v ∈ cs, v.oneCell' = true) :
    (Builtin.copy_ #[dT, sT] ty #[.slice (some ⟨g, o, none⟩) dLen dCap, .slice (some a) sLen sCap]).run P w =
      .ok (goInt m) (w.setRow g (cur.toList.take o ++ cs ++ cur.toList.drop (o + cs.length)).toArray) := by
  have hl := run_loadCells_list (P := P) w a cs hsrc
  have hst := run_storeCells_at P g o t cs 0 cur w hg (by simpa using hfit) h1
  subst hm
  cases hq : P.info? elem with
  | none => simp [hq] at hs
  | some i =>
    have hi : i.size = k := by simpa [hq] using hs
    simp [Builtin.copy_, run_underlying hu, Builtin.lenOf, Builtin.firstCells, sizeOf, typeInfo, hq, hi, ← hn, hl, hst]
theorem nrow3_len (l : List Nd) : (nrow3 l).length = l.length * 3 := by
  unfold nrow3
  induction l with
  | nil => rfl
  | cons x l ih => rw [List.flatMap_cons, List.length_append, ih, ncell3_len, List.length_cons, Nat.succ_mul]; omega
theorem nrow3_app (a b : List Nd) : nrow3 (a ++ b) = nrow3 a ++ nrow3 b := by unfold nrow3; exact List.flatMap_append
theorem nrow3_drop : ∀ (l : List Nd) (i : Nat), nrow3 (l.drop i) = (nrow3 l).drop (i * 3)
  | l, 0 => by simp
  | [], i + 1 => by simp [nrow3]
  | x :: l, i + 1 => by
    rw [List.drop_succ_cons]
    show nrow3 (l.drop i) = (ncell3 x ++ nrow3 l).drop _
    rw [nrow3_drop l i, Nat.succ_mul, show i * 3 + 3 = (ncell3 x).length + i * 3 by rw [ncell3_len]; omega, List.drop_append]
    simp
theorem nrow3_take : ∀ (l : List Nd) (i : Nat), nrow3 (l.take i) = (nrow3 l).take (i * 3)
  | l, 0 => by simp [nrow3]
  | [], i + 1 => by simp [nrow3]
  | x :: l, i + 1 => by
    rw [List.take_succ_cons]
    show ncell3 x ++ nrow3 (l.take i) = (ncell3 x ++ nrow3 l).take _
    rw [nrow3_take l i, Nat.succ_mul, show i * 3 + 3 = (ncell3 x).length + i * 3 by rw [ncell3_len]; omega, List.take_append, List.take_of_length_le (l := ncell3 x) (Nat.le_add_right _ _)]
    simp
theorem nrow3_one {l : List Nd} {v : Value} (h : v ∈ nrow3 l) : v.oneCell' = true := by
  unfold nrow3 at h
  rw [List.mem_flatMap] at h
  obtain ⟨x, _, h⟩ := h
  unfold ncell3 at h
  simp at h
  rcases h with rfl | rfl | rfl <;> rfl
set_option maxHeartbeats 4000000 in
set_option maxRecDepth 100000 in
theorem ins_shift (W : World) (base g n c i vb : Nat) (cur : Array Value) (L : List Nd) (x : Nd) (hi : i < n) (hroom : n + 1 ≤ c) (hc63 : c ≤ maxLen) (hl : L.length = n) (hg : W.heap[g]? = some (.cells cur 28 (0, 0))) (hcs : cur.size = c * 3) (hown : W.ownsRow base 28 3 (.slice (some ⟨g, 0, none⟩) n c) n (nrow3 L))
    (hv : W.heap[vb]? = some (.cells (ncell3 x).toArray 28 (0, 0))) (hne : vb ≠ g) (cur1 cur2 : Array Value)
    (h1 : cur1 = (cur.toList.take ((i + 1) * 3) ++ nrow3 (L.drop i) ++ cur.toList.drop ((i + 1) * 3 + (nrow3 (L.drop i)).length)).toArray)
    (h2 : cur2 = (cur1.toList.take (i * 3) ++ ncell3 x ++ cur1.toList.drop (i * 3 + (ncell3 x).length)).toArray) :
    Calls Tryz.prog 35 #[.slice (some ⟨g, 0, none⟩) n c, .int .i64 i, .slice (some ⟨vb, 0, none⟩) 1 1] W fun e w' => e = .returned (.slice (some ⟨g, 0, none⟩) (n + 1) c) ∧ w' = (W.drew.setRow g cur1).setRow g cur2 := by
  have hN : (nrow3 (L.drop i)).length = (n - i) * 3 := by rw [nrow3_len, List.length_drop, hl]
  have e1 : cur1.size = c * 3 := by
    rw [h1, List.size_toArray, List.length_append, List.length_append, List.length_take, List.length_drop, hN, Array.length_toList, hcs]; omega
  have hcp1 : ∀ ty dc sc, (Builtin.copy_ #[22, 22] ty #[.slice (some ⟨g, (i + 1) * 3, none⟩) (n + 1 - (i + 1)) dc, .slice (some ⟨g, i * 3, none⟩) (n + 1 - i) sc]).run Tryz.prog W.drew = .ok (goInt (n - i : Nat)) (W.drew.setRow g cur1) := fun ty dc sc => by
    rw [h1]
    exact run_copy_rowK W.drew _ _ ty 28 g _ _ dc ⟨g, i * 3, none⟩ _ sc 3 (n - i) cur 28 _ Tryz.underlying22 (by kernel_rfl) hg (by simp only [Nat.min_def]; split <;> omega) hN
      (fun j v hj => by
        rw [nrow3_drop, List.getElem?_drop] at hj
        have := hown.cells (g := g) rfl _ _ hj
        rw [add_at, Nat.zero_add] at this
        rw [add_at]; exact this)
      (by rw [hN, hcs]; omega) (fun v hv => nrow3_one hv)
  obtain ⟨W1, hW1⟩ : ∃ W1, W.drew.setRow g cur1 = W1 := ⟨_, rfl⟩
  have hg1 : W1.heap[g]? = some (.cells cur1 28 (0, 0)) := by rw [← hW1]; exact setRow_heap W.drew g cur cur1 _ _ hg
  have hv1 : W1.heap[vb]? = some (.cells (ncell3 x).toArray 28 (0, 0)) := by rw [← hW1, setRow_other _ _ _ _ hne]; exact hv
  rw [hW1] at hcp1 ⊢
  have hcp2 : ∀ (V : World), V.heap = W1.heap → ∀ ty dc, (Builtin.copy_ #[22, 22] ty #[.slice (some ⟨g, i * 3, none⟩) (n + 1 - i) dc, .slice (some ⟨vb, 0, none⟩) 1 1]).run Tryz.prog V = .ok (goInt (1 : Nat)) (V.setRow g cur2) := fun V hV ty dc => by
    rw [h2]
    exact run_copy_rowK V _ _ ty 28 g _ _ dc ⟨vb, 0, none⟩ 1 1 3 1 cur1 28 _ Tryz.underlying22 (by kernel_rfl) (by rw [hV]; exact hg1) (by simp only [Nat.min_def]; split <;> omega) (ncell3_len x)
      (fun j v hj => by
        rw [add_at, Nat.zero_add]
        unfold World.cell?
        rw [hV, hv1]
        simpa using hj)
      (by rw [ncell3_len, e1]; omega) (fun v hv => nrow3_one (l := [x]) (by simpa [nrow3] using hv))
  have hov : ∀ lb cb, (callFunc 60 #[.slice (some ⟨vb, 0, none⟩) 1 1, .slice (some ⟨g, (i + 1) * 3, none⟩) lb cb]).run Tryz.prog W = .ok (.value (.bool false)) W := fun lb cb => by
    rw [run_callFunc_extern Tryz.func60 (by kernel_rfl) (by kernel_rfl) (by kernel_rfl) (e := Extern.SlicesOverlaps.overlaps #[22, 22] #[4]) (by kernel_rfl),
      Lib.run_overlaps_apart W 22 4 28 Tryz.underlying22 3 nd_size ⟨vb, 0, none⟩ ⟨g, (i + 1) * 3, none⟩ 1 1 lb cb hne 28 28 3 cur.size (by simp [World.shape?, hv, ncell3]) (by simp [World.shape?, hg]) (by omega) (by simp [World.frozen?, hv]) (by simp [World.frozen?, hv])]
    rfl
  have hw1 : IntKind.i64.wrap ((i : Int) + 1) = (i : Int) + 1 := by rw [IntKind.wrap_i64]; unfold maxLen at hc63; omega
  have hz2 : ¬ ((i : Int) = (n : Int)) := by omega
  have hb3 : (i : Int) ≤ (n : Int) + 1 := by omega
  have hb4 : ¬ (c = i) := by omega
  have hb2 : ¬ (c = i + 1) := by omega
  have hin : i ≤ n := by omega
  have hb1 : (0 : Int) ≤ (i : Int) + 1 := by omega
  have htn : ((i : Int) + 1).toNat = i + 1 := by omega
  have hb5 : (i : Int) + 1 ≤ (n : Int) + 1 := by omega
  have mixed : Tryz.prog.follows .mixedOrders = true := by kernel_rfl
  unfold maxLen at hc63
  clear h1 h2 hN e1 hown hg hv hl hg1 hv1 hcs
  go_enter Tryz.func35, Tryz.ntmps35
  go_wp2_with (simp only [hov])
  go_region_law_o (refine step_copy_runI rfl _ _ 22 22 rfl (.slice (some ⟨g, (i + 1) * 3, none⟩) (n + 1 - (i + 1)) (c - (i + 1))) (.slice (some ⟨g, i * 3, none⟩) (n + 1 - i) (c - i)) (by simp [Act.eval, Act.put]) (by simp [Act.eval, Act.put]) (hcp1 _ _ _) ?_)
  go_wp2_with (at_builtin; refine wpList_copy_runI _ rfl _ _ 22 22 rfl _ _ rfl rfl (hcp2 _ rfl _ _) ?_)
  go_ret
  exact ⟨rfl, rfl⟩
theorem cell_same {V W : World} {g : Nat} (h : V.heap[g]? = W.heap[g]?) (j : Nat) : V.cell? ⟨g, j, none⟩ = W.cell? ⟨g, j, none⟩ := by unfold World.cell?; simp only [h]
set_option maxHeartbeats 4000000 in
set_option maxRecDepth 100000 in
theorem ins_grow (W : World) (base g n c i vb : Nat) (L : List Nd) (x : Nd) (hi : i < n) (hnc : n ≤ c) (hroom : c < n + 1) (hbig : n ≤ 60001) (hl : L.length = n) (hgw : g < W.heap.size) (hvw : vb < W.heap.size) (hown : W.ownsRow base 28 3 (.slice (some ⟨g, 0, none⟩) n c) n (nrow3 L))
    (hv : W.heap[vb]? = some (.cells (ncell3 x).toArray 28 (0, 0))) :
    Calls Tryz.prog 35 #[.slice (some ⟨g, 0, none⟩) n c, .int .i64 i, .slice (some ⟨vb, 0, none⟩) 1 1] W fun e w' => ∃ (G : Nat) (R0 R1 R2 : Array Value), e = .returned (.slice (some ⟨W.heap.size, 0, none⟩) (n + 1) G) ∧
      w' = (((W.alloc (.cells R0 28)).drew.setRow W.heap.size R1).drew).setRow W.heap.size R2 ∧ n + 1 ≤ G ∧ G ≤ maxLen ∧ R2.size = G * 3 ∧ R2.toList.take ((n + 1) * 3) = nrow3 (L.take i ++ x :: L.drop i) := by
  obtain ⟨i0, hi0, hz0, hz1, hz2⟩ := info_parts infoNd
  obtain ⟨G, hG⟩ : ∃ G, grownCap W (n + 1) c 28 = G := ⟨_, rfl⟩
  have hGn : n + 1 ≤ G := by rw [← hG]; exact grownCap_ge W _ _ _
  have hGm : G ≤ maxLen := by rw [← hG]; exact grownCap_le_maxLen W _ _ _ (by unfold maxLen; omega)
  have hT : (nrow3 (L.take i)).length = i * 3 := by rw [nrow3_len, List.length_take, hl, Nat.min_eq_left (by omega)]
  have hN : (nrow3 (L.drop i)).length = (n - i) * 3 := by rw [nrow3_len, List.length_drop, hl]
  obtain ⟨Z, hZ⟩ : ∃ Z : Array Value, Z = (Value.agg #[.int .i64 0, .int .i64 0, .string ByteArray.empty]).cells := ⟨_, rfl⟩
  have hZs : Z.size = 3 := by rw [hZ]; rfl
  obtain ⟨R0, hR0⟩ : ∃ R0 : Array Value, R0 = (nrow3 (L.take i)).toArray ++ Builtin.zeroCells Z (n + 1 - i) ++ Builtin.zeroCells Z (G - (n + 1)) := ⟨_, rfl⟩
  have hR0s : R0.size = G * 3 := by rw [hR0, Array.size_append, Array.size_append, size_zeroCells, size_zeroCells, hZs, List.size_toArray, hT]; omega
  have hR0t : R0.toList.take (i * 3) = nrow3 (L.take i) := by
    rw [hR0, Array.toList_append, Array.toList_append, List.append_assoc, List.take_append_of_le_length (by simp [hT]), List.take_of_length_le (by simp [hT])]
  obtain ⟨R1, hR1⟩ : ∃ R1 : Array Value, R1 = (R0.toList.take (i * 3) ++ ncell3 x ++ R0.toList.drop (i * 3 + (ncell3 x).length)).toArray := ⟨_, rfl⟩
  have hR1s : R1.size = G * 3 := by rw [hR1, List.size_toArray, List.length_append, List.length_append, List.length_take, List.length_drop, ncell3_len, Array.length_toList, hR0s]; omega
  obtain ⟨R2, hR2⟩ : ∃ R2 : Array Value, R2 = (R1.toList.take ((i + 1) * 3) ++ nrow3 (L.drop i) ++ R1.toList.drop ((i + 1) * 3 + (nrow3 (L.drop i)).length)).toArray := ⟨_, rfl⟩
  have hR2s : R2.size = G * 3 := by rw [hR2, List.size_toArray, List.length_append, List.length_append, List.length_take, List.length_drop, hN, Array.length_toList, hR1s]; omega
  have hR1t : R1.toList.take ((i + 1) * 3) = nrow3 (L.take i) ++ ncell3 x := by
    rw [hR1, hR0t]
    show ((nrow3 (L.take i) ++ ncell3 x) ++ _).take _ = _
    rw [List.take_append_of_le_length (by rw [List.length_append, hT, ncell3_len]; omega), List.take_of_length_le (by rw [List.length_append, hT, ncell3_len]; omega)]
  have hR2t : R2.toList.take ((n + 1) * 3) = nrow3 (L.take i ++ x :: L.drop i) := by
    rw [hR2, hR1t, nrow3_app]
    show (((nrow3 (L.take i) ++ ncell3 x) ++ nrow3 (L.drop i)) ++ _).take _ = nrow3 (L.take i) ++ (ncell3 x ++ nrow3 (L.drop i))
    rw [List.take_append_of_le_length (by rw [List.length_append, List.length_append, hT, hN, ncell3_len]; omega), List.take_of_length_le (by rw [List.length_append, List.length_append, hT, hN, ncell3_len]; omega), List.append_assoc]
  have FIN := Lib.hid (And.intro hGn (And.intro hGm (And.intro hR2s hR2t)))
  have hold : (Builtin.firstCells i0.size i (.slice (some ⟨g, 0, none⟩) i c)).run Tryz.prog W.drew = .ok (nrow3 (L.take i)).toArray W.drew := by
    rw [hz1]
    refine run_firstCells_some (w := W.drew) 3 i ⟨g, 0, none⟩ i c (nrow3 (L.take i)) hT (fun j v hj => ?_)
    rw [nrow3_take, List.getElem?_take] at hj
    split at hj
    · exact hown.cells (g := g) rfl j v hj
    · cases hj
  have hrz : ∀ ty, (Builtin.append_ #[22, 3] ty #[.slice (some ⟨g, 0, none⟩) i c, .int .i64 ((n : Int) + 1 - (i : Int))]).run Tryz.prog W = .ok (.slice (some ⟨W.heap.size, 0, none⟩) (n + 1) G) (W.drew.alloc (.cells R0 28)) := fun ty => by
    have hik : i + (n + 1 - i) = n + 1 := by omega
    have h := Lib.run_append_grow_zeros W 22 3 ty 28 i0 _ .i64 .i64 Tryz.underlying22 Tryz.underlying3 hi0 hz0 (some ⟨g, 0, none⟩) i c (nrow3 (L.take i)) hold (n + 1 - i) (by omega) (by omega) (by omega) (by omega) (by rw [hz2]; omega) (by rw [hz2, hik]; exact growslice_fits hroom (by omega))
    rw [hik, hG, ← hZ, ← hR0] at h
    rw [show (n : Int) + 1 - (i : Int) = ((n + 1 - i : Nat) : Int) by omega]
    exact h
  obtain ⟨W1, hW1⟩ : ∃ W1, W1 = W.drew.alloc (.cells R0 28) := ⟨_, rfl⟩
  have hg1 : W1.heap[W.heap.size]? = some (.cells R0 28 (0, 0)) := by
    rw [hW1]
    show (W.heap.push _)[W.heap.size]? = _
    simp
  have hA1 : ∀ k, k < W.heap.size → W1.heap[k]? = W.heap[k]? := fun k hk => by
    rw [hW1]
    show (W.heap.push _)[k]? = _
    rw [Array.getElem?_push, if_neg (by omega)]
  have hcpA : ∀ (V : World), V.heap = W1.heap → ∀ ty dc, (Builtin.copy_ #[22, 22] ty #[.slice (some ⟨W.heap.size, i * 3, none⟩) (n + 1 - i) dc, .slice (some ⟨vb, 0, none⟩) 1 1]).run Tryz.prog V = .ok (goInt (1 : Nat)) (V.setRow W.heap.size R1) := fun V hV ty dc => by
    rw [hR1]
    exact run_copy_rowK V _ _ ty 28 W.heap.size _ _ dc ⟨vb, 0, none⟩ 1 1 3 1 R0 28 _ Tryz.underlying22 (by kernel_rfl) (by rw [hV]; exact hg1) (by simp only [Nat.min_def]; split <;> omega) (ncell3_len x)
      (fun j v hj => by
        rw [add_at, Nat.zero_add]
        unfold World.cell?
        rw [hV, hA1 vb hvw, hv]
        simpa using hj)
      (by rw [ncell3_len, hR0s]; omega) (fun v hv => nrow3_one (l := [x]) (by simpa [nrow3] using hv))
  obtain ⟨W2, hW2⟩ : ∃ W2, W2 = W1.setRow W.heap.size R1 := ⟨_, rfl⟩
  have hg2 : W2.heap[W.heap.size]? = some (.cells R1 28 (0, 0)) := by rw [hW2]; exact setRow_heap W1 _ R0 R1 _ _ hg1
  have hcpB : ∀ (V : World), V.heap = W2.heap → ∀ ty dc sc, (Builtin.copy_ #[22, 22] ty #[.slice (some ⟨W.heap.size, (i + 1) * 3, none⟩) (n + 1 - (i + 1)) dc, .slice (some ⟨g, i * 3, none⟩) (n - i) sc]).run Tryz.prog V = .ok (goInt (n - i : Nat)) (V.setRow W.heap.size R2) := fun V hV ty dc sc => by
    rw [hR2]
    exact run_copy_rowK V _ _ ty 28 W.heap.size _ _ dc ⟨g, i * 3, none⟩ _ sc 3 (n - i) R1 28 _ Tryz.underlying22 (by kernel_rfl) (by rw [hV]; exact hg2) (by simp only [Nat.min_def]; split <;> omega) hN
      (fun j v hj => by
        rw [nrow3_drop, List.getElem?_drop] at hj
        have := hown.cells (g := g) rfl _ _ hj
        rw [add_at, Nat.zero_add] at this
        rw [add_at, cell_same (V := V) (W := W) (by rw [hV, hW2, setRow_other _ _ _ _ (by omega), hA1 g hgw])]
        exact this)
      (by rw [hN, hR1s]; omega) (fun v hv => nrow3_one hv)
  have hE : (W.alloc (.cells R0 28)).drew.heap = W1.heap := by rw [hW1]; rfl
  have hF : ((W.alloc (.cells R0 28)).drew.setRow W.heap.size R1).drew.heap = W2.heap := by rw [hW2, hW1]; rfl
  rw [hW1] at hE hcpA
  clear hR2 hR1 hR0 hG hold hT hN hZ hZs hR0s hR0t hR1s hR1t hR2s hR2t hg1 hg2 hA1 hown hv hvw hl hi0 hz0 hz1 hz2 hW1 hW2
  have hw1 : IntKind.i64.wrap ((i : Int) + 1) = (i : Int) + 1 := by rw [IntKind.wrap_i64]; omega
  have hz2 : ¬ ((i : Int) = (n : Int)) := by omega
  have hz3 : (c : Int) < (n : Int) + 1 := by omega
  have hb1 : (0 : Int) ≤ (i : Int) + 1 := by omega
  have htn : ((i : Int) + 1).toNat = i + 1 := by omega
  have hb3 : (i : Int) ≤ (n : Int) := by omega
  have hb5 : (i : Int) ≤ (n : Int) + 1 := by omega
  have hb6 : (i : Int) + 1 ≤ (n : Int) + 1 := by omega
  have hGi : ¬ (G = i) := by omega
  have hGim : ¬ (G = i + 1) := by omega
  have hci : ¬ (c = i) := by omega
  have hin : i ≤ n := by omega
  have mixed : Tryz.prog.follows .mixedOrders = true := by kernel_rfl
  unfold maxLen at hGm
  go_enter Tryz.func35, Tryz.ntmps35
  go_wp2_with (first
    | (at_builtin; refine Lib.wpList_append_run _ rfl _ _ _ _ rfl _ _ rfl rfl _ _ (hrz _) ?_)
    | (at_builtin; refine wpList_copy_runI _ rfl _ _ 22 22 rfl _ _ rfl rfl (hcpA _ hE _ _) ?_))
  go_region_law_o (refine step_copy_runI rfl _ _ 22 22 rfl (.slice (some ⟨W.heap.size, (i + 1) * 3, none⟩) (n + 1 - (i + 1)) (G - (i + 1))) (.slice (some ⟨g, i * 3, none⟩) (n - i) (c - i)) (by simp [Act.eval, Act.put]) (by simp [Act.eval, Act.put]) (hcpB _ hF _ _ _) ?_)
  go_wp2
  go_ret
  exact ⟨G, R0, R1, R2, rfl, rfl, FIN.out⟩
set_option maxHeartbeats 4000000 in
set_option maxRecDepth 100000 in
/-- A node is set into a row that the caller owns. -/
theorem ins_c (W : World) (base i vb : Nat) (v : Value) (L : List Nd) (x : Nd) (hi : i ≤ L.length) (hbig : L.length ≤ 60000) (hown : W.ownsRow base 28 3 v L.length (nrow3 L))
    (hv : W.heap[vb]? = some (.cells (ncell3 x).toArray 28 (0, 0))) (hne : v.ownBlock ≠ some vb) (hbase : base ≤ W.heap.size) :
    Calls Tryz.prog 35 #[v, .int .i64 i, .slice (some ⟨vb, 0, none⟩) 1 1] W fun e w' => ∃ v', e = .returned v' ∧ w'.ownsRow base 28 3 v' (L.length + 1) (nrow3 (L.take i ++ x :: L.drop i)) ∧ ∀ w0, Below base w0 W → Below base w0 w' := by
  have hvw : vb < W.heap.size := (Array.getElem?_eq_some_iff.1 hv).1
  rcases Nat.lt_or_ge i L.length with hlt | hge
  · obtain ⟨a, c, rfl⟩ := own_slice hown
    rcases hown.2 with ⟨e, e2⟩ | ⟨g, cap, cur, e1, hb, hg, hn, hm, hs, ht⟩
    · omega
    injection e1 with e1 _ e3
    subst e1; subst e3
    have hgw : g < W.heap.size := (Array.getElem?_eq_some_iff.1 hg).1
    have hgv : vb ≠ g := fun e => hne (by rw [e]; rfl)
    have hN : (nrow3 (L.drop i)).length = (L.length - i) * 3 := by rw [nrow3_len, List.length_drop]
    have hT : (nrow3 (L.take i)).length = i * 3 := by rw [nrow3_len, List.length_take, Nat.min_eq_left hi]
    have hl2 : (nrow3 (L.take i ++ x :: L.drop i)).length = (L.length + 1) * 3 := by rw [nrow3_len, List.length_append, List.length_cons, List.length_take, List.length_drop]; omega
    rcases Nat.lt_or_ge L.length c with hr | hr
    · obtain ⟨R1, hR1⟩ : ∃ R1 : Array Value, R1 = (cur.toList.take ((i + 1) * 3) ++ nrow3 (L.drop i) ++ cur.toList.drop ((i + 1) * 3 + (nrow3 (L.drop i)).length)).toArray := ⟨_, rfl⟩
      obtain ⟨R2, hR2⟩ : ∃ R2 : Array Value, R2 = (R1.toList.take (i * 3) ++ ncell3 x ++ R1.toList.drop (i * 3 + (ncell3 x).length)).toArray := ⟨_, rfl⟩
      refine (ins_shift W base g L.length c i vb cur L x hlt hr hm rfl hg hs hown hv hgv R1 R2 hR1 hR2).mono ?_
      rintro e w' ⟨rfl, rfl⟩
      have hR1s : R1.size = c * 3 := by rw [hR1, List.size_toArray, List.length_append, List.length_append, List.length_take, List.length_drop, hN, Array.length_toList, hs]; omega
      have hR2s : R2.size = c * 3 := by rw [hR2, List.size_toArray, List.length_append, List.length_append, List.length_take, List.length_drop, ncell3_len, Array.length_toList, hR1s]; omega
      have hc0 : cur.toList.take (i * 3) = nrow3 (L.take i) := by
        rw [nrow3_take, ← ht, List.take_take, Nat.min_eq_left (Nat.mul_le_mul_right 3 hi)]
      have hR1a : R1.toList.take (i * 3) = nrow3 (L.take i) := by
        rw [hR1]
        show ((cur.toList.take ((i + 1) * 3) ++ _) ++ _).take _ = _
        rw [List.append_assoc, List.take_append_of_le_length (by rw [List.length_take, Array.length_toList, hs]; omega), List.take_take, Nat.min_eq_left (by omega), hc0]
      have hR1d : ((R1.toList.drop (i * 3 + 3)).take ((L.length - i) * 3)) = nrow3 (L.drop i) := by
        rw [hR1]
        show ((((cur.toList.take ((i + 1) * 3) ++ nrow3 (L.drop i)) ++ _).drop _).take _) = _
        have hk : (cur.toList.take ((i + 1) * 3)).length = i * 3 + 3 := by rw [List.length_take, Array.length_toList, hs]; omega
        rw [List.append_assoc, ← hk, List.drop_left, List.take_append_of_le_length (by rw [hN]; omega), List.take_of_length_le (by rw [hN]; omega)]
      refine ⟨_, rfl, ⟨hl2, .inr ⟨g, c, R2, rfl, hb, setRow_heap _ _ R1 _ _ _ (setRow_heap W.drew _ cur _ _ _ hg), hr, hm, hR2s, ?_⟩⟩, fun w0 h => below_setRow (below_setRow h.drew hb _) hb _⟩
      rw [hR2, hR1a, nrow3_app, ncell3_len]
      show ((nrow3 (L.take i) ++ ncell3 x) ++ R1.toList.drop (i * 3 + 3)).take _ = nrow3 (L.take i) ++ (ncell3 x ++ nrow3 (L.drop i))
      have hk : (nrow3 (L.take i) ++ ncell3 x).length = i * 3 + 3 := by rw [List.length_append, hT, ncell3_len]
      rw [show (L.length + 1) * 3 = (nrow3 (L.take i) ++ ncell3 x).length + (L.length - i) * 3 by rw [hk]; omega, List.take_append, List.take_of_length_le (Nat.le_add_right _ _), Nat.add_sub_cancel_left, hR1d, List.append_assoc]
    · refine (ins_grow W base g L.length c i vb L x hlt hn (by omega) (by omega) rfl hgw hvw hown hv).mono ?_
      rintro e w' ⟨G, R0, R1, R2, rfl, rfl, h1, h2, h3, h4⟩
      have hp : (W.alloc (.cells R0 28)).drew.heap[W.heap.size]? = some (.cells R0 28 (0, 0)) := by
        show (W.heap.push _)[W.heap.size]? = _
        simp
      exact ⟨_, rfl, ⟨hl2, .inr ⟨W.heap.size, G, R2, rfl, hbase, setRow_heap _ _ R1 _ _ _ (setRow_heap _ _ R0 _ _ _ hp), h1, h2, h3, h4⟩⟩, fun w0 h => below_setRow (below_setRow (h.alloc hbase _).drew hbase _).drew hbase _⟩
  · obtain rfl : i = L.length := by omega
    obtain ⟨i0, hi0, hz0, hz1, hz2⟩ := info_parts infoNd
    have e1 : L.take L.length ++ x :: L.drop L.length = L ++ [x] := by simp
    rw [e1, nrow3_snoc]
    have HO := Lib.hid hown
    have c1 : L.length + 1 ≤ maxLen := by unfold maxLen; omega
    have hcell : ∀ j u, (ncell3 x)[j]? = some u → W.cell? ((⟨vb, 0, none⟩ : Addr).add j) = some u := fun j u hj => by
      rw [add_at, Nat.zero_add]
      unfold World.cell?
      rw [hv]
      simpa using hj
    have HCL := Lib.hid hcell
    have hone : ∀ u ∈ ncell3 x, u.oneCell' = true := fun u hu => nrow3_one (l := [x]) (by simpa [nrow3] using hu)
    have mixed : Tryz.prog.follows .mixedOrders = true := by kernel_rfl
    obtain ⟨n, hn⟩ : ∃ n, L.length = n := ⟨_, rfl⟩
    rw [hn] at hown hbig c1 HO ⊢
    have fin : ∀ (v' : Value) (w' : World), w'.ownsRow base 28 3 v' (n + 1) (nrow3 L ++ ncell3 x) → W.grownBy w' v.ownBlock → ∃ u, Ending.returned v' = .returned u ∧ w'.ownsRow base 28 3 u (n + 1) (nrow3 L ++ ncell3 x) ∧ ∀ w0, Below base w0 W → Below base w0 w' := fun v' w' h g => ⟨v', rfl, h, fun w0 hb => hb.grown g hbase (fun q e => (HO.out.lt q e).1)⟩
    have FIN := Lib.hid fin
    have cc : (n + 1) * 32 ≤ 140737488355328 := by omega
    rcases hown.2 with ⟨rfl, rfl⟩ | ⟨g, c, cur, rfl, _, _, hnc, hcm, _⟩
    · clear hown hcell hi hge hv hn e1 fin
      go_enter Tryz.func35, Tryz.ntmps35
      go_wp2_with (at_builtin; refine wpList_append_own_at _ rfl _ _ 22 rfl base 28 i0 (.agg #[.int .i64 0, .int .i64 0, .string ByteArray.empty]) 3 32 Tryz.underlying22 hi0 hz0 hz1 hz2 rfl (by decide) _ 0 _ rfl HO.out ⟨vb, 0, none⟩ 1 1 (ncell3 x) rfl rfl HCL.out hone c1 cc hbase ?_)
      intro v' w' h1 h2 _ _
      have F := Lib.hid (FIN.out v' w' h1 h2)
      clear h1 h2
      go_wp2
      go_ret
      exact F.out
    · clear hown hcell hi hge hv hn e1 fin
      unfold maxLen at hcm
      by_cases hcn : c = n
      · subst hcn
        go_enter Tryz.func35, Tryz.ntmps35
        go_wp2_with (at_builtin; refine wpList_append_own_at _ rfl _ _ 22 rfl base 28 i0 (.agg #[.int .i64 0, .int .i64 0, .string ByteArray.empty]) 3 32 Tryz.underlying22 hi0 hz0 hz1 hz2 rfl (by decide) _ c _ rfl HO.out ⟨vb, 0, none⟩ 1 1 (ncell3 x) rfl rfl HCL.out hone c1 cc hbase ?_)
        intro v' w' h1 h2 _ _
        have F := Lib.hid (FIN.out v' w' h1 h2)
        clear h1 h2
        go_wp2
        go_ret
        exact F.out
      · go_enter Tryz.func35, Tryz.ntmps35
        go_wp2_with (at_builtin; refine wpList_append_own_at _ rfl _ _ 22 rfl base 28 i0 (.agg #[.int .i64 0, .int .i64 0, .string ByteArray.empty]) 3 32 Tryz.underlying22 hi0 hz0 hz1 hz2 rfl (by decide) _ n _ rfl HO.out ⟨vb, 0, none⟩ 1 1 (ncell3 x) rfl rfl HCL.out hone c1 cc hbase ?_)
        intro v' w' h1 h2 _ _
        have F := Lib.hid (FIN.out v' w' h1 h2)
        clear h1 h2
        go_wp2
        go_ret
        exact F.out
end Go.Proofs.YtheekfijbbgbkaaGreatDoor
namespace Go.Proofs.YtheekfijbbgbkaaGreatDoor
open Go.RowKit Go.WideMaps Go.Maps Go.Lib Go.Sort

abbrev Asc (K : List Nd) : Prop := K.Pairwise fun a b => a.cd ≤ b.cd
theorem nd_get {K : List Nd} {i : Nat} (h : i < K.length) : nd K i = K[i] := by
  unfold nd; rw [List.getD_eq_getElem?_getD, List.getElem?_eq_getElem h]; rfl
theorem ins_asc {K : List Nd} {x : Nd} {j : Nat} (hK : Asc K) (hj : j ≤ K.length) (h1 : ∀ t, j ≤ t → t < K.length → x.cd < (nd K t).cd) (h2 : 0 < j → (nd K (j - 1)).cd ≤ x.cd) : Asc (K.take j ++ x :: K.drop j) := by
  have hd : ∀ b ∈ K.drop j, x.cd ≤ b.cd := fun b hb => by
    obtain ⟨t, ht, e⟩ := List.getElem_of_mem hb
    rw [List.getElem_drop] at e
    have := h1 (j + t) (by omega) (by rw [List.length_drop] at ht; omega)
    rw [nd_get (by rw [List.length_drop] at ht; omega), e] at this
    omega
  have ht : ∀ a ∈ K.take j, a.cd ≤ x.cd := fun a ha => by
    obtain ⟨t, ht, e⟩ := List.getElem_of_mem ha
    rw [List.getElem_take] at e
    rw [List.length_take] at ht
    have h3 := h2 (by omega)
    rw [nd_get (by omega)] at h3
    rw [← e]
    rcases Nat.lt_or_ge t (j - 1) with q | q
    · have := List.pairwise_iff_getElem.1 hK t (j - 1) (by omega) (by omega) q
      omega
    · have : t = j - 1 := by omega
      subst this; exact h3
  have ha := hK
  unfold Asc at ha ⊢
  rw [← List.take_append_drop j K, List.pairwise_append] at ha
  rw [List.pairwise_append, List.pairwise_cons]
  refine ⟨ha.1, ⟨hd, ha.2.1⟩, fun a h b hb => ?_⟩
  rcases List.mem_cons.1 hb with rfl | hb
  · exact ht a h
  · exact ha.2.2 a h b hb
theorem take_next {L : List Nd} {k : Nat} (h : k < L.length) : L.take (k + 1) = L.take k ++ [nd L k] := by
  rw [List.take_add_one, List.getElem?_eq_getElem h, nd_get h]; rfl
theorem ins_perm {K L : List Nd} {j : Nat} (h : K.Perm (L.take K.length)) (hk : K.length < L.length) : (K.take j ++ nd L K.length :: K.drop j).Perm (L.take (K.length + 1)) := by
  rw [take_next hk]
  have h1 : (K.take j ++ nd L K.length :: K.drop j).Perm (nd L K.length :: (K.take j ++ K.drop j)) := List.perm_middle
  rw [List.take_append_drop] at h1
  exact h1.trans ((List.Perm.cons _ h).trans (List.perm_append_singleton _ _).symm)
/-- What the sorting has laid. -/
structure SdI (B : Nat) (W w : World) (v : Value) (L K : List Nd) : Prop where
  bel : Below B W w
  own : w.ownsRow B 28 3 v K.length (nrow3 K)
  le : B ≤ w.heap.size
  perm : K.Perm (L.take K.length)
  asc : Asc K
def SdP (L : List Nd) (W : World) (e : Ending) (w' : World) : Prop := ∃ v K, e = .returned v ∧ Below W.heap.size W w' ∧ w'.ownsRow W.heap.size 28 3 v K.length (nrow3 K) ∧ K.Perm L ∧ Asc K
set_option maxRecDepth 100000 in
set_option maxHeartbeats 4000000 in
theorem sorted_c (a : Option Addr) (ca : Nat) (L : List Nd) (W : World) (hl : RdN W a L) (h6 : L.length ≤ 60001) : Calls Tryz.prog 17 #[.slice a L.length ca] W (SdP L W) := by
  have HL := Lib.hid hl
  have h9 := hl.1
  clear hl
  have mixed : Tryz.prog.follows .mixedOrders = true := by kernel_rfl
  have S0 : Hid (SdI W.heap.size W W (.slice none 0 0) L []) := ⟨Below.refl _ _, ⟨rfl, .inl ⟨rfl, rfl⟩⟩, Nat.le_refl _, .refl _, List.Pairwise.nil⟩
  go_enter Tryz.func17, Tryz.ntmps17
  go_wp2
  go_loopw [3, 5, 6, 9] (fun v _ _ i wr => ∃ (v' : Value) (K : List Nd), v' = v ∧ K.length ≤ L.length ∧ i = .int .i64 (K.length : Nat) ∧ Hid (SdI W.heap.size W wr v L K)) (fun _ _ _ i _ => L.length - (intOf i).toNat)
  case atStart => exact ⟨_, [], rfl, Nat.zero_le _, rfl, S0.out⟩
  case round =>
    obtain ⟨v, K, rfl, hk, rfl, hS⟩ := hrel
    obtain ⟨w4, hw4⟩ : ∃ w4, w4 = wr := ⟨wr, rfl⟩
    subst hw4
    by_cases hlt : K.length < L.length
    · obtain ⟨b', off, rfl, u0, u1, u2⟩ := (HL.out.below hS.out.bel).at_ hlt
      have hlt' : (K.length : Int) < (L.length : Int) := by omega
      obtain ⟨av, cv, rfl, hrd⟩ := rdN_own3 hS.out.own (by omega)
      obtain ⟨x, hx⟩ : ∃ x, nd L K.length = x := ⟨_, rfl⟩
      have HX := Lib.hid hx
      rw [hx] at u0 u1 u2
      clear hx
      obtain ⟨W1, hW1⟩ : ∃ W1, w4.alloc (.cells #[.int .i64 x.cd, .int .i64 x.pr, .string x.ti] 28) = W1 := ⟨_, rfl⟩
      have N1 : Hid (NodeB w4 W1 x) := by unfold Hid; rw [← hW1]; exact node_b _ _
      have B1 := Lib.hid N1.out.1
      have hv1 : Hid (W1.cell? ⟨w4.heap.size, 0, none⟩ = some (.int .i64 x.cd)) := by unfold Hid; exact N1.out.2.2.1
      have O1 := Lib.hid (own_keep hS.out.own N1.out.1)
      obtain ⟨n, hn⟩ : ∃ n, K.length = n := ⟨_, rfl⟩
      have HN := Lib.hid hn
      rw [hn] at hlt hlt' hk u0 u1 u2 ⊢
      clear hn
      go_wp2_with fail
      clear u0 u1 u2 hlt' hW1
      go_loopw [6] (fun i wq => ∃ j : Nat, j ≤ n ∧ i = .int .i64 j ∧ Hid (Below W1.heap.size W1 wq ∧ ∀ t, j ≤ t → t < n → x.cd < (nd K t).cd)) (fun i _ => (intOf i).toNat)
      case atStart => exact ⟨n, Nat.le_refl _, rfl, Below.refl _ _, fun t h1 h2 => by omega⟩
      case round =>
        obtain ⟨wq, hwq⟩ : ∃ wq, wq = wr := ⟨wr, rfl⟩
        subst hwq
        obtain ⟨j, hj, rfl, hR⟩ := hrel
        have OQ := Lib.hid (own_keep O1.out hR.out.1)
        have CQ : Hid (wq.cell? ⟨w4.heap.size, 0, none⟩ = some (.int .i64 x.cd)) := (hR.out.1.cell (p := ⟨w4.heap.size, 0, none⟩) (block_lt_of_cell hv1.out)).trans hv1.out
        have CQ1 : Hid (wq.cell? ⟨w4.heap.size, 1, none⟩ = some (.int .i64 x.pr)) := (hR.out.1.cell (p := ⟨w4.heap.size, 1, none⟩) (block_lt_of_cell N1.out.2.2.2.1)).trans N1.out.2.2.2.1
        have CQ2 : Hid (wq.cell? ⟨w4.heap.size, 2, none⟩ = some (.string x.ti)) := (hR.out.1.cell (p := ⟨w4.heap.size, 2, none⟩) (block_lt_of_cell N1.out.2.2.2.2)).trans N1.out.2.2.2.2
        have hsz : Hid (w4.heap.size < wq.heap.size) := by unfold Hid; have := N1.out.2.1; have := hR.out.1.size; omega
        have END : Hid (∀ (V : World) (m : Nat), V = wq.drewN m → (0 < j → (nd K (j - 1)).cd ≤ x.cd) → Calls Tryz.prog 35 #[.slice av n cv, .int .i64 j, .slice (some ⟨V.heap.size, 0, none⟩) 1 1] (V.alloc (.cells #[.int .i64 x.cd, .int .i64 x.pr, .string x.ti] 28)) fun e w' => ∃ v' : Value, ∃ K' : List Nd, e = .returned v' ∧ Hid (K'.length = n + 1 ∧ SdI W.heap.size W w' v' L K')) := by
          intro V m hV h2
          subst hV
          have hBQ : W.heap.size ≤ wq.heap.size := by have := hS.out.le; have := hsz.out; omega
          have o2 : (wq.drewN m).ownsRow W.heap.size 28 3 (.slice av n cv) K.length (nrow3 K) := by
            have h := own_keep OQ.out (below_drewN (Below.refl wq.heap.size wq) m)
            rw [show Value.slice av K.length cv = .slice av n cv by rw [HN.out]] at h
            exact h
          have h := ins_c ((wq.drewN m).alloc (.cells #[.int .i64 x.cd, .int .i64 x.pr, .string x.ti] 28)) W.heap.size j (wq.drewN m).heap.size (.slice av n cv) K x (by rw [HN.out]; exact hj) (by rw [HN.out]; omega) (o2.alloc _) (by show ((wq.drewN m).heap.push _)[(wq.drewN m).heap.size]? = _; simp [ncell3]) (fun e => by have := (o2.lt _ e).2; omega) (by show W.heap.size ≤ ((wq.drewN m).heap.push _).size; simp; omega)
          refine h.mono ?_
          rintro e w' ⟨v', rfl, hown, hbel⟩
          have hk : (K.take j ++ x :: K.drop j).length = n + 1 := by rw [List.length_append, List.length_cons, List.length_take, List.length_drop, HN.out]; omega
          refine ⟨v', K.take j ++ x :: K.drop j, rfl, hk, ?_, ?_, ?_, ?_, ?_⟩
          · refine hbel W ?_
            exact ((hS.out.bel.trans (N1.out.1.mono hS.out.le)).trans (hR.out.1.mono (by have := hS.out.le; have := N1.out.2.1; omega))).trans (((below_drewN (Below.refl W.heap.size wq) m)).alloc hBQ _)
          · rw [hk, ← HN.out]; exact hown
          · have := (hbel (wq.drewN m) ((Below.refl W.heap.size (wq.drewN m)).alloc hBQ (.cells #[.int .i64 x.cd, .int .i64 x.pr, .string x.ti] 28))).size
            exact Nat.le_trans hBQ this
          · have hp := hS.out.perm
            have := ins_perm (j := j) hp (by rw [HN.out]; exact hlt)
            rw [HX.out] at this
            rw [hk, ← HN.out]; exact this
          · exact ins_asc hS.out.asc (by rw [HN.out]; exact hj) (fun t h1 h3 => hR.out.2 t h1 (by rw [← HN.out]; exact h3)) h2
        have hkn : K.length = n := HN.out
        have hn6 : n ≤ 60000 := by omega
        have HRD := Lib.hid ((hrd.below N1.out.1).below hR.out.1)
        clear hrd hS B1 N1 hv1 O1 S0 h9 HL HX
        rcases Nat.eq_zero_or_pos j with rfl | hp
        · have c0 := CQ.out
          go_wp2_with fail
          go_quiet (fail)
          clear c0
          obtain ⟨V, hV⟩ : ∃ V, wq.drewN nq = V := ⟨_, rfl⟩
          have HI := Lib.hid (END.out V nq hV.symm (fun h => absurd h (Nat.lt_irrefl 0)))
          have y0 : V.cell? ⟨w4.heap.size, 0, none⟩ = some (.int .i64 x.cd) := by rw [← hV]; exact CQ.out
          have y1 : V.cell? ⟨w4.heap.size, 1, none⟩ = some (.int .i64 x.pr) := by rw [← hV]; exact CQ1.out
          have y2 : V.cell? ⟨w4.heap.size, 2, none⟩ = some (.string x.ti) := by rw [← hV]; exact CQ2.out
          rw [hV]
          clear hV END CQ CQ1 CQ2 OQ hR
          go_wp2_with fail
          refine HI.out.mono ?_
          rintro e w' ⟨v', K', rfl, hF⟩
          clear HI y0 y1 y2
          have hkl := hF.out.1
          go_wp2
          go_roundw
          case rel => exact ⟨v', K', rfl, by omega, by rw [hkl]; go_num, hF.out.2⟩
          case measure => simp [intOf]; omega
        · obtain ⟨p, hjp⟩ : ∃ p : Nat, j = p + 1 := ⟨j - 1, by omega⟩
          obtain ⟨b2, o2, e2, hu2⟩ := HRD.out.at_ (k := p) (by rw [HN.out]; omega)
          subst e2
          have c1 := hu2.1
          have hw1 : IntKind.i64.wrap ((j : Int) - 1) = (p : Int) := by rw [IntKind.wrap_i64]; omega
          have hj1 : (j : Int) - 1 = (p : Int) := by omega
          have hj0 : (0 : Int) < (j : Int) := by omega
          have hpn : (p : Int) < (n : Int) := by omega
          have c0 := CQ.out
          have hj0b : decide ((0 : Int) < (j : Int)) = true := decide_eq_true hj0
          have HJP := Lib.hid hjp
          have hpj : p < j := by omega
          clear hjp
          by_cases hc : x.cd < (nd K p).cd
          · have hcb : decide (x.cd < (nd K p).cd) = true := decide_eq_true hc
            have hR2 : Hid (∀ t, p ≤ t → t < n → x.cd < (nd K t).cd) := by
              intro t h1 h2
              rcases Nat.eq_or_lt_of_le h1 with q | q
              · rw [← q]; exact hc
              · exact hR.out.2 t (by have := HJP.out; omega) h2
            clear END CQ1 CQ2 OQ HRD hsz
            go_wp2_with fail
            go_quiet (fail)
            go_wp2
            go_roundw
            case rel => exact ⟨p, by omega, by go_num, below_drewN hR.out.1 _, hR2.out⟩
            case measure => simp [intOf]; omega
          · have hcb : decide (x.cd < (nd K p).cd) = false := decide_eq_false hc
            go_wp2_with fail
            go_quiet (fail)
            have hle : 0 < j → (nd K (j - 1)).cd ≤ x.cd := fun _ => by rw [show j - 1 = p by have := HJP.out; omega]; omega
            clear c0 c1 hu2
            obtain ⟨V, hV⟩ : ∃ V, wq.drewN nq = V := ⟨_, rfl⟩
            have HI := Lib.hid (END.out V nq hV.symm hle)
            have y0 : V.cell? ⟨w4.heap.size, 0, none⟩ = some (.int .i64 x.cd) := by rw [← hV]; exact CQ.out
            have y1 : V.cell? ⟨w4.heap.size, 1, none⟩ = some (.int .i64 x.pr) := by rw [← hV]; exact CQ1.out
            have y2 : V.cell? ⟨w4.heap.size, 2, none⟩ = some (.string x.ti) := by rw [← hV]; exact CQ2.out
            rw [hV]
            clear hV END CQ CQ1 CQ2 OQ hR
            go_wp2_with fail
            refine HI.out.mono ?_
            rintro e w' ⟨v', K', rfl, hF⟩
            clear HI y0 y1 y2
            have hkl := hF.out.1
            go_wp2
            go_roundw
            case rel => exact ⟨v', K', rfl, by omega, by rw [hkl]; go_num, hF.out.2⟩
            case measure => simp [intOf]; omega
    · have hkl : K.length = L.length := by omega
      have R := Lib.hid hS.out
      have hp := R.out.perm
      rw [hkl, List.take_length] at hp
      have HP := Lib.hid hp
      have hlt' : ¬ (K.length : Int) < (L.length : Int) := by omega
      have PP : Hid (SdP L W (.returned v) w4) := ⟨v, K, rfl, R.out.bel, R.out.own, HP.out, R.out.asc⟩
      clear hp hS
      go_wp2
      go_ret
      exact PP.out
end Go.Proofs.YtheekfijbbgbkaaGreatDoor
