/-
  The reference's list of all records with valid values.
  Package edit: the sets of edits that records fail, and the edits that are needed.
  Package edit: 'for _, fails := range p.parts(box)': the law of the loop.
  Package edit: the sets of edits that some record fails, as a map.
-/
import Derived.Test.YtadfmplafehjlaaDoorER16
import Derived.Test.YtadfmplafehjlaaDoorER13
import Derived.Test.YtadfmplafehjlaaDoorER14
import Derived.Maps.OwnIn
namespace Go.Proofs.YtadfmplafehjlaaDoor
open Go.RowKit Go.WideMaps Go.Maps Go.Shelf

/-- The records with valid values in the first k fields. -/
def alR (l : List Fd) : Nat → List (List Int)
  | 0 => [[]]
  | k + 1 => (alR l k).flatMap fun r => (fd l k).cs.map fun c => r ++ [c]
theorem alR_len (l : List Fd) : ∀ k, (alR l k).length = mix l k
  | 0 => rfl
  | k + 1 => by
    have h : ∀ (s : List (List Int)), (s.flatMap fun r => (fd l k).cs.map fun c => r ++ [c]).length = s.length * (fd l k).cs.length := fun s => by
      induction s with
      | nil => simp
      | cons x s ih => rw [List.flatMap_cons, List.length_append, ih, List.length_map, List.length_cons, Nat.succ_mul]; omega
    show ((alR l k).flatMap _).length = mix l k * _
    rw [h, alR_len l k]
theorem alR_mem (l : List Fd) : ∀ (k : Nat) (x : List Int), x ∈ alR l k ↔ x.length = k ∧ ∀ j, j < k → inC (fd l j).cs (fn x j) = true
  | 0, x => by
    show x ∈ [[]] ↔ _
    rw [List.mem_singleton]
    exact ⟨fun h => ⟨by rw [h]; rfl, fun j hj => by omega⟩, fun h => List.eq_nil_of_length_eq_zero h.1⟩
  | k + 1, x => by
    have key : ∀ (r : List Int) (c : Int) j, j < r.length → fn (r ++ [c]) j = fn r j := fun r c j hj => by
      unfold fn
      rw [List.getD_eq_getElem?_getD, List.getD_eq_getElem?_getD, List.getElem?_append_left hj]
    have key2 : ∀ (r : List Int) (c : Int), fn (r ++ [c]) r.length = c := fun r c => by
      unfold fn
      rw [List.getD_eq_getElem?_getD, List.getElem?_append_right (Nat.le_refl _), Nat.sub_self]; rfl
    show x ∈ (alR l k).flatMap _ ↔ _
    rw [List.mem_flatMap]
    constructor
    · rintro ⟨r, hr, hx⟩
      obtain ⟨c, hc, rfl⟩ := List.mem_map.1 hx
      obtain ⟨h1, h2⟩ := (alR_mem l k r).1 hr
      refine ⟨by rw [List.length_append, h1]; rfl, fun j hj => ?_⟩
      by_cases e : j < k
      · rw [key r c j (by omega)]; exact h2 j e
      · have e : j = r.length := by omega
        rw [e, key2, h1]
        unfold inC
        rw [List.contains_iff_mem]; exact hc
    · rintro ⟨h1, h2⟩
      have hd : x = x.take k ++ [fn x k] := by
        have h3 : x.take (k + 1) = x := List.take_of_length_le (by omega)
        have hk : k < x.length := by omega
        conv => lhs; rw [← h3, List.take_add_one, List.getElem?_eq_getElem hk]
        unfold fn
        rw [List.getD_eq_getElem?_getD, List.getElem?_eq_getElem hk]; rfl
      have hl : (x.take k).length = k := by rw [List.length_take]; omega
      refine ⟨x.take k, (alR_mem l k _).2 ⟨hl, fun j hj => ?_⟩, List.mem_map.2 ⟨fn x k, ?_, hd.symm⟩⟩
      · have := h2 j (by omega)
        rw [hd, key _ _ j (by omega)] at this
        exact this
      · have := h2 k (by omega)
        unfold inC at this
        rw [List.contains_iff_mem] at this; exact this
/-- A row with the slice that it is. -/
abbrev ItR := Value × List Int
def vlr (L : List ItR) : List Value := L.map (·.1)
theorem vlr_snoc (O : List ItR) (x : ItR) : vlr (O ++ [x]) = vlr O ++ [x.1] := by unfold vlr; rw [List.map_append]; rfl
def RtQ (w : World) (q : Option Nat) (L : List ItR) : Prop := ∀ x, x ∈ L → ∃ a c, x.1 = .slice a x.2.length c ∧ Rd w a x.2 ∧ ∀ d, a = some d → d.block < w.heap.size ∧ some d.block ≠ q
theorem RtQ.below {w w' : World} {q : Option Nat} {L : List ItR} (h : RtQ w q L) (hb : Below w.heap.size w w') : RtQ w' q L := fun x hx => by
  obtain ⟨a, c, h2, h3, h4⟩ := h x hx
  exact ⟨a, c, h2, h3.below hb, fun d e => ⟨Nat.lt_of_lt_of_le (h4 d e).1 hb.size, (h4 d e).2⟩⟩
theorem RtQ.grown {w w' : World} {q q' : Option Nat} {L : List ItR} (h : RtQ w q L) (hg : w.grownBy w' q) (hq : q' = q ∨ q' = some w.heap.size) : RtQ w' q' L := fun x hx => by
  obtain ⟨a, c, h2, h3, h4⟩ := h x hx
  refine ⟨a, c, h2, ⟨h3.1, fun h0 => ?_⟩, fun d e => ⟨Nat.lt_of_lt_of_le (h4 d e).1 hg.size, fun e2 => ?_⟩⟩
  · obtain ⟨b, off, e, hl, hc⟩ := h3.2 h0
    have h5 := (h4 _ e).2
    exact ⟨b, off, e, Nat.lt_of_lt_of_le hl hg.size, fun j hj => (World.cell?_of_block (hg.block b hl h5)).trans (hc j hj)⟩
  · rcases hq with e3 | e3
    · exact (h4 d e).2 (e2.trans e3)
    · rw [e3] at e2
      injection e2 with e2
      have := (h4 d e).1
      omega
/-- slices.Clone of ints, whatever the slice. -/
theorem cloneR_c (a : Option Addr) (c : Nat) (r : List Int) (w : World) (h : Rd w a r) (hb : r.length ≤ 4096) :
    Calls Tryd.prog 59 #[.slice a r.length c] w fun e w' => ∃ v, e = .returned v ∧ w'.ownsRow w.heap.size 3 1 v r.length (r.map (Value.int .i64)) ∧ Below w.heap.size w w' := by
  by_cases h0 : r.length = 0
  · have e : r = [] := List.eq_nil_of_length_eq_zero h0
    subst e
    cases a with
    | none =>
      refine (Tryd.slices_Clone_int_nil 0 c w).mono ?_
      rintro e w' ⟨rfl, rfl⟩
      exact ⟨_, rfl, World.ownsRow_nil _ _ _ _, Below.refl _ _⟩
    | some d =>
      refine (Tryd.slices_Clone_int_zero d c w).mono ?_
      rintro e w' ⟨v, rfl, h1, _, h2⟩
      exact ⟨v, rfl, h1, h2⟩
  · obtain ⟨b, off, rfl, _, hc⟩ := h.2 (by omega)
    refine (Tryd.slices_Clone_int b off r.length c r w (Nat.le_refl _) (by omega) hc).mono ?_
    rintro e w' ⟨v, rfl, h1, _, h2⟩
    rw [List.take_length] at h1
    exact ⟨v, rfl, h1, h2⟩
/-- What all gives. -/
def AllP (l : List Fd) (w : World) (e : Ending) (w' : World) : Prop :=
  Below w.heap.size w w' ∧ ∃ a c I, e = .returned (.slice a (alR l l.length).length c) ∧ Wn w' a c (vlr I) ∧ RtQ w' none I ∧ I.map (·.2) = alR l l.length
theorem own_down {w : World} {base b2 : Nat} {e : TypeId} {size : Nat} {v : Value} {n : Nat} {xs : List Value} (h : w.ownsRow base e size v n xs) (hb : b2 ≤ base) : w.ownsRow b2 e size v n xs := by
  refine ⟨h.1, ?_⟩
  rcases h.2 with q | ⟨g, cap, cur, rfl, h1, r⟩
  · exact .inl q
  · exact .inr ⟨g, cap, cur, rfl, Nat.le_trans hb h1, r⟩
theorem mixb {l : List Fd} {E : List Ed} (hok : Ok l E) {k : Nat} (hk : k ≤ l.length) : mix l k ≤ 20000 := by
  obtain ⟨d, hd⟩ : ∃ d, l.length = k + d := ⟨l.length - k, by omega⟩
  have := mix_up (l := l) (i := k) d fun j _ hj => hok.c1 j (by omega)
  rw [← hd] at this
  exact Nat.le_trans this hok.mx
theorem small4 {x : Nat} (h : x ≤ 20000) : x + 1 ≤ maxLen ∧ (x + 1) * 24 ≤ 140737488355328 := by
  unfold maxLen
  omega
theorem small5 {x : Nat} (h : x ≤ 4096) : x + 1 ≤ maxLen ∧ (x + 1) * 8 ≤ 140737488355328 := by
  unfold maxLen
  omega
/-- The rows after i rows and s codes of the next one. -/
def nxR (l : List Fd) (k i s : Nat) : List (List Int) := ((alR l k).take i).flatMap (fun r => (fd l k).cs.map fun c => r ++ [c]) ++ ((fd l k).cs.take s).map fun c => (alR l k).getD i [] ++ [c]
theorem nx_code (l : List Fd) (k i s : Nat) (hs : s < (fd l k).cs.length) : nxR l k i (s + 1) = nxR l k i s ++ [(alR l k).getD i [] ++ [fn (fd l k).cs s]] := by
  unfold nxR
  rw [List.take_add_one, List.getElem?_eq_getElem hs, List.map_append, ← List.append_assoc]
  unfold fn
  rw [List.getD_eq_getElem?_getD, List.getD_eq_getElem?_getD, List.getElem?_eq_getElem hs]; rfl
theorem nx_row (l : List Fd) (k i : Nat) (hi : i < (alR l k).length) : nxR l k (i + 1) 0 = nxR l k i (fd l k).cs.length := by
  unfold nxR
  rw [List.take_add_one, List.getElem?_eq_getElem hi, List.flatMap_append, List.take_length, List.take_zero]
  simp [List.getD_eq_getElem?_getD, hi]
theorem nx_all (l : List Fd) (k : Nat) : nxR l k (alR l k).length 0 = alR l (k + 1) := by
  unfold nxR
  rw [List.take_length]; simp [alR]
theorem nx_le {l : List Fd} {E : List Ed} (hok : Ok l E) {k i s : Nat} (hk : k < l.length) (hi : i < (alR l k).length) (hs : s ≤ (fd l k).cs.length) : (nxR l k i s).length ≤ 20000 := by
  have h1 : (nxR l k i s).length ≤ (nxR l k i (fd l k).cs.length).length := by
    unfold nxR
    simp only [List.length_append, List.length_map, List.length_take]
    omega
  rw [← nx_row l k i hi] at h1
  have h2 : (nxR l k (i + 1) 0).length ≤ (nxR l k (alR l k).length 0).length := by
    unfold nxR
    simp only [List.take_zero, List.map_nil, List.append_nil]
    have : ∀ (s : List (List Int)), (s.flatMap fun r => (fd l k).cs.map fun c => r ++ [c]).length = s.length * (fd l k).cs.length := fun s => by
      induction s with
      | nil => simp
      | cons x s ih => rw [List.flatMap_cons, List.length_append, ih, List.length_map, List.length_cons, Nat.succ_mul]; omega
    rw [this, this, List.length_take, List.length_take]
    exact Nat.mul_le_mul_right _ (by omega)
  rw [nx_all, alR_len] at h2
  have := mixb hok (k := k + 1) (by omega)
  omega
set_option maxRecDepth 100000 in
set_option maxHeartbeats 8000000 in
theorem all_c (a : Option Addr) (c : Nat) (l : List Fd) (E : List Ed) (a2 : Option Addr) (m2 c2 : Nat) (w : World) (hl : RdF w a l) (hok : Ok l E) :
    Calls Tryd.prog 71 #[.agg #[.slice a l.length c, .slice a2 m2 c2]] w (AllP l w) := by
  obtain ⟨W1, hW1⟩ : ∃ W, w.alloc (.cells #[.slice a l.length c, .slice a2 m2 c2] 25) = W := ⟨_, rfl⟩
  obtain ⟨z, hz⟩ : ∃ z, w.heap.size = z := ⟨_, rfl⟩
  have b1 : Below w.heap.size w W1 := by rw [← hW1]; exact bel_one _ _
  have x0 : W1.cell? ⟨z, 0, none⟩ = some (.slice a l.length c) := by rw [← hW1, ← hz, World.cell?_alloc_new]; rfl
  have B1 := Lib.hid b1
  have HL := Lib.hid (hl.below b1)
  have HOK := Lib.hid hok
  obtain ⟨n, hn⟩ : ∃ n, l.length = n := ⟨_, rfl⟩
  have HN := Lib.hid hn
  have n12 : n ≤ 12 := by rw [← hn]; exact hok.n12
  rw [hn] at x0 hW1 ⊢
  obtain ⟨i0, hi, hz0, hz1, hz2⟩ := info_parts infoRow
  obtain ⟨i1, hj, hy0, hy1, hy2⟩ := info_parts infoIn
  obtain ⟨W2, hW2⟩ : ∃ W, W1.alloc (.cells #[.slice none 0 0] 26) = W := ⟨_, rfl⟩
  have b2 : Below W1.heap.size W1 W2 := by rw [← hW2]; exact bel_one _ _
  have B2 := Lib.hid b2
  have y0 := (b2.cell (p := ⟨z, 0, none⟩) (cellLt x0)).trans x0
  obtain ⟨z2, hz2'⟩ : ∃ z, W1.heap.size = z := ⟨_, rfl⟩
  have HZ2 := Lib.hid hz2'
  have OW0 : Hid (W2.ownsRow W1.heap.size 26 1 (.slice (some ⟨z2, 0, none⟩) 1 1) 1 (vlr [((.slice none 0 0, []) : ItR)])) := by
    refine ⟨rfl, .inr ⟨z2, 1, #[.slice none 0 0], rfl, Nat.le_of_eq hz2', ?_, Nat.le_refl _, by decide, rfl, rfl⟩⟩
    rw [← hW2, ← hz2']; exact World.alloc_heap_new W1 _
  clear hl hok b1 b2 hn
  go_enter Tryd.func71, Tryd.ntmps71
  go_wp2_with fail
  clear hW1
  go_loopw [3, 5, 6, 8, 10, 15] (fun ov _ _ _ _ iv wr => ∃ (k : Nat) (I : List ItR), iv = .int .i64 k ∧ Hid (k ≤ n ∧ wr.ownsRow W1.heap.size 26 1 ov I.length (vlr I) ∧ RtQ wr ov.ownBlock I ∧ I.map (·.2) = alR l k ∧ Below W1.heap.size W1 wr)) (fun _ _ _ _ _ iv _ => n - (intOf iv).toNat)
  case atStart => exact ⟨0, [(.slice none 0 0, [])], rfl, Nat.zero_le _, OW0.out, (fun x hx => by
    have e : x = (.slice none 0 0, []) := by simpa using hx
    subst e
    exact ⟨none, 0, rfl, ⟨by simp, fun h => by simp at h⟩, fun d e => by cases e⟩), rfl, B2.out⟩
  case round =>
    clear OW0 hW2
    obtain ⟨k, I, rfl, hS⟩ := hrel
    obtain ⟨hk, hown, hits, hmap, hbl⟩ := hS.out
    have HOW := Lib.hid hown
    have HIT := Lib.hid hits
    have HMP := Lib.hid hmap
    have HBL := Lib.hid hbl
    by_cases hlt : k < n
    · have hlt' : (k : Int) < (n : Int) := by omega
      obtain ⟨wo, hwo⟩ : ∃ V : World, V = wr := ⟨_, rfl⟩
      subst hwo
      obtain ⟨oa, oc, rfl, hwn⟩ := wn_own hown
      obtain ⟨fb, fo, rfl, hfd⟩ := HL.out.at_ (k := k) (by rw [HN.out]; exact hlt)
      obtain ⟨f0, ⟨ca, cc, f1, hcr⟩, f2⟩ := hfd
      have g0 := (hbl.cell (p := ⟨fb, fo + k * 3, none⟩) (cellLt f0)).trans f0
      have g1 := (hbl.cell (p := ⟨fb, fo + k * 3 + 1, none⟩) (cellLt f1)).trans f1
      have g2 := (hbl.cell (p := ⟨fb, fo + k * 3 + 2, none⟩) (cellLt f2)).trans f2
      obtain ⟨nm, hnm⟩ : ∃ x, (fd l k).nm = x := ⟨_, rfl⟩
      obtain ⟨wt, hwt⟩ : ∃ x, (fd l k).wt = x := ⟨_, rfl⟩
      obtain ⟨cs, hcs⟩ : ∃ x, (fd l k).cs = x := ⟨_, rfl⟩
      rw [hnm] at g0
      rw [hcs] at g1 hcr
      rw [hwt] at g2
      have HCS := Lib.hid hcs
      have HIL : Hid (I.length = (alR l k).length) := by unfold Hid; rw [← hmap, List.length_map]
      obtain ⟨W4, hW4⟩ : ∃ W, wo.alloc (.cells #[.string nm, .slice ca cs.length cc, .int .i64 wt] 39) = W := ⟨_, rfl⟩
      have b4 : Below wo.heap.size wo W4 := by rw [← hW4]; exact bel_one _ _
      obtain ⟨eb, heb⟩ : ∃ z, wo.heap.size = z := ⟨_, rfl⟩
      have e1 : W4.cell? ⟨eb, 1, none⟩ = some (.slice ca cs.length cc) := by rw [← hW4, ← heb, World.cell?_alloc_new]; rfl
      have B4 := Lib.hid b4
      have HCR := Lib.hid (hcr.below (hbl.trans (b4.mono hbl.size)))
      have HWN := Lib.hid (hwn.below b4)
      have HIT4 := Lib.hid (hits.below b4)
      clear hS hown hits hmap hbl hwn hcr f0 f1 f2 hnm hwt hcs b4
      obtain ⟨rl, hrl⟩ : ∃ x, I.length = x := ⟨_, rfl⟩
      have HRL := Lib.hid hrl
      have hrl2 : rl ≤ 20000 := by rw [← hrl, HIL.out, alR_len]; exact mixb HOK.out (by rw [HN.out]; omega)
      have HW0 : Hid (Below W1.heap.size W1 W4) := HBL.out.trans (B4.out.mono HBL.out.size)
      have HLW : Hid (eb < W4.heap.size) := cellLt e1
      have hcl20 : cs.length ≤ 20 := by rw [← HCS.out]; exact HOK.out.c20 k (by rw [HN.out]; exact hlt)
      have E1 := Lib.hid e1
      have HNL : Hid (∀ i s, i < rl → s ≤ cs.length → (nxR l k i s).length ≤ 20000) := fun i s h1 h2 => nx_le HOK.out (by rw [HN.out]; exact hlt) (by rw [← HIL.out, HRL.out]; exact h1) (by rw [HCS.out]; exact h2)
      have HRW : Hid (∀ i x, I[i]? = some x → (alR l k).getD i [] = x.2 ∧ x.2.length ≤ 12) := fun i x h => by
        have h1 : (alR l k)[i]? = some x.2 := by rw [← HMP.out, List.getElem?_map, h]; rfl
        have h2 := ((alR_mem l k x.2).1 (List.mem_of_getElem? h1)).1
        have h3 := HOK.out.n12
        rw [HN.out] at h3
        exact ⟨by rw [List.getD_eq_getElem?_getD, h1]; rfl, by omega⟩
      rw [hrl]
      clear hrl e1 y0
      go_wp2_with fail
      try rw [hW4]
      clear hW4 g0 g1 g2
      go_loopw [6, 8, 10, 21] (fun nv _ _ iv wr => ∃ (i : Nat) (J : List ItR), iv = .int .i64 i ∧ Hid (i ≤ rl ∧ wr.ownsRow W4.heap.size 26 1 nv J.length (vlr J) ∧ RtQ wr nv.ownBlock J ∧ J.map (·.2) = nxR l k i 0 ∧ Below W4.heap.size W4 wr)) (fun _ _ _ iv _ => rl - (intOf iv).toNat)
      case atStart => exact ⟨0, [], rfl, Nat.zero_le _, World.ownsRow_nil _ _ _ _, (fun x hx => by cases hx), (by simp [nxR]), Below.refl _ _⟩
      case round =>
        obtain ⟨i, J, rfl, hS⟩ := hrel
        obtain ⟨hiI, hown, hits, hmap, hbl⟩ := hS.out
        by_cases hlt2 : i < rl
        · have hlt2' : (i : Int) < (rl : Int) := by omega
          have hiL : i < I.length := by rw [HRL.out]; exact hlt2
          obtain ⟨x, hx⟩ : ∃ x, I[i]? = some x := ⟨I[i], List.getElem?_eq_getElem hiL⟩
          obtain ⟨xa, xc, ex, hrx, _⟩ := HIT4.out x (List.mem_of_getElem? hx)
          obtain ⟨ib, io, rfl, hil, hic⟩ := HWN.out.2.2.2 (by unfold vlr; rw [List.length_map]; omega)
          have c0 := hic i x.1 (by unfold vlr; rw [List.getElem?_map, hx]; rfl)
          rw [ex] at c0
          have c1 := (hbl.cell (p := ⟨ib, io + i, none⟩) hil).trans c0
          have e2 := (hbl.cell (p := ⟨eb, 1, none⟩) HLW.out).trans E1.out
          obtain ⟨hgd, hx12⟩ := HRW.out i x hx
          obtain ⟨xv, r⟩ := x
          dsimp only at c1 hrx hgd hx12
          have HGD := Lib.hid hgd
          have HRX := Lib.hid hrx
          have HOJ := Lib.hid hown
          have HIJ := Lib.hid hits
          have HMJ := Lib.hid hmap
          have HBJ := Lib.hid hbl
          have HX12 := Lib.hid hx12
          obtain ⟨wm, hwm⟩ : ∃ V : World, V = wr := ⟨_, rfl⟩
          subst hwm
          clear hS hown hits hmap hbl hx ex hrx hic hil c0 hgd hiL
          go_wp2_with fail
          go_loopw [6, 10, 28] (fun nv _ iv wr => ∃ (s : Nat) (J : List ItR), iv = .int .i64 s ∧ Hid (s ≤ cs.length ∧ wr.ownsRow W4.heap.size 26 1 nv J.length (vlr J) ∧ RtQ wr nv.ownBlock J ∧ J.map (·.2) = nxR l k i s ∧ Below W4.heap.size W4 wr)) (fun _ _ iv _ => cs.length - (intOf iv).toNat)
          case atStart => exact ⟨0, J, rfl, Nat.zero_le _, HOJ.out, HIJ.out, HMJ.out, HBJ.out⟩
          case round =>
            clear HOJ HIJ HMJ
            obtain ⟨s, J, rfl, hS⟩ := hrel
            obtain ⟨hs, hown, hits, hmap, hbl⟩ := hS.out
            by_cases hlt3 : s < cs.length
            · have hlt3' : (s : Int) < (cs.length : Int) := by omega
              have hb14 : Below W1.heap.size W1 wr := HW0.out.trans (hbl.mono HW0.out.size)
              obtain ⟨cb, co, rfl, hclt, hcc⟩ := (HCR.out.below hbl).2 (by omega)
              have c2 := hcc s hlt3
              have C1 := Lib.hid (cloneR_c xa xc r wr (HRX.out.below hbl) (by have := HX12.out; omega))
              have HJL : Hid (J.length ≤ 20000) := by
                have := congrArg List.length hmap
                rw [List.length_map] at this
                rw [this]
                exact HNL.out i s hlt2 hs
              obtain ⟨y, hy⟩ : ∃ y, fn cs s = y := ⟨_, rfl⟩
              have HY := Lib.hid hy
              rw [hy] at c2
              have HOJ := Lib.hid hown
              have HIJ := Lib.hid hits
              have HMJ := Lib.hid hmap
              have HBJ := Lib.hid hbl
              have hr5 := small5 (x := r.length) (by have := HX12.out; omega)
              have hj4 := small4 HJL.out
              have hcw : Hid (W4.heap.size ≤ wr.heap.size) := hbl.size
              clear hS hown hits hmap hbl hcc hclt hy
              go_wp2_with fail
              refine C1.out.mono ?_
              rintro e1 w5 ⟨v5, rfl, ho5, b5⟩
              have HO5 := Lib.hid ho5
              have B5 := Lib.hid b5
              clear ho5 b5 C1 c2
              go_wp2_with (at_builtin; refine wpList_append_own_at _ rfl _ _ 26 rfl wr.heap.size 3 i1 (.int .i64 0) 1 8 Tryd.underlying26 hj hy0 hy1 hy2 rfl (by decide) v5 r.length _ rfl (HO5.out.alloc _) ⟨w5.heap.size, 0, none⟩ 1 1 [.int .i64 y] rfl rfl (cell_one_new _ _ _) (by simp [Value.oneCell']) ?c3 ?c4 ?c5 ?_)
              try (case c3 => exact hr5.1)
              try (case c4 => exact hr5.2)
              case c5 => have := B5.out.size; simp; omega
              intro v6 w6 hown6 hgrow6 _ hat6
              have hown6' : w6.ownsRow wr.heap.size 3 1 v6 (r ++ [y]).length ((r ++ [y]).map (Value.int .i64)) := by rw [List.length_append, List.map_append]; exact hown6
              obtain ⟨ra, rc, e6, hrd6⟩ := rdI_own hown6' (by rw [List.length_append]; have := HX12.out; simp; omega)
              have B6 : Hid (Below wr.heap.size wr w6) := (B5.out.alloc B5.out.size _).grown hgrow6 (by have := B5.out.size; simp; omega) (fun g hg => (HO5.out.lt g hg).1)
              have R6 : Hid (RtQ w6 u6.ownBlock (J ++ [((.slice ra (r.length + 1) rc, r ++ [y]) : ItR)])) := by
                unfold Hid
                intro x hx
                rcases List.mem_append.1 hx with q | q
                · exact (HIJ.out.below B6.out) x q
                · have q : x = (.slice ra (r.length + 1) rc, r ++ [y]) := by simpa using q
                  subst q
                  refine ⟨ra, rc, by rw [List.length_append]; rfl, hrd6, fun d e => ?_⟩
                  subst e
                  have h5 := hown6'.lt d.block (by rw [e6]; rfl)
                  refine ⟨h5.2, fun e => ?_⟩
                  have := (HOJ.out.lt d.block e.symm).2
                  omega
              have O6 := Lib.hid (own_same (w' := w6) HOJ.out fun b hb => B6.out.block b (HOJ.out.lt b hb).2)
              have e6' : v6 = .slice ra (r.length + 1) rc := by rw [e6, List.length_append]; rfl
              subst e6'
              clear hown6 hgrow6 hat6 hown6' hrd6 e6
              go_wp2_with (at_builtin; refine wpList_append_own_at _ rfl _ _ 41 rfl W4.heap.size 26 i0 (.slice none 0 0) 1 24 Tryd.underlying41 hi hz0 hz1 hz2 rfl (by decide) u6 J.length (vlr J) rfl (O6.out.alloc _) ⟨w6.heap.size, 0, none⟩ 1 1 [.slice ra (r.length + 1) rc] rfl rfl (cell_one_new _ _ _) (by simp [Value.oneCell']) ?d3 ?d4 ?d5 ?_)
              try (case d3 => exact hj4.1)
              try (case d4 => exact hj4.2)
              case d5 => have := B6.out.size; have := hcw.out; simp; omega
              intro v7 w7 hown7 hgrow7 _ hat7
              have NX : Hid (s + 1 ≤ cs.length ∧ w7.ownsRow W4.heap.size 26 1 v7 (J ++ [((.slice ra (r.length + 1) rc, r ++ [y]) : ItR)]).length (vlr (J ++ [((.slice ra (r.length + 1) rc, r ++ [y]) : ItR)])) ∧ RtQ w7 v7.ownBlock (J ++ [((.slice ra (r.length + 1) rc, r ++ [y]) : ItR)]) ∧ (J ++ [((.slice ra (r.length + 1) rc, r ++ [y]) : ItR)]).map (·.2) = nxR l k i (s + 1) ∧ Below W4.heap.size W4 w7) := by
                refine ⟨hlt3, ?_, ?_, ?_, ?_⟩
                · rw [List.length_append, vlr_snoc]; exact hown7
                · exact (R6.out.below (bel_one w6 _)).grown hgrow7 (by simpa using hat7)
                · rw [List.map_append, HMJ.out, nx_code l k i s (by rw [HCS.out]; exact hlt3), HGD.out, HCS.out, HY.out]; rfl
                · have h6 : Below W4.heap.size W4 w6 := HBJ.out.trans (B6.out.mono HBJ.out.size)
                  exact (h6.alloc h6.size _).grown hgrow7 (by have := h6.size; simp; omega) (fun g hg => (O6.out.lt g hg).1)
              clear hown7 hgrow7 hat7
              go_wp2_with fail
              go_roundw
              case rel => exact ⟨s + 1, _, by go_num, NX.out⟩
              case measure => simp [intOf]; omega
            · have hlt3' : ¬ (s : Int) < (cs.length : Int) := by omega
              have e : s = cs.length := by omega
              have NX : Hid (i + 1 ≤ rl ∧ wr.ownsRow W4.heap.size 26 1 u6 J.length (vlr J) ∧ RtQ wr u6.ownBlock J ∧ J.map (·.2) = nxR l k (i + 1) 0 ∧ Below W4.heap.size W4 wr) := by
                refine ⟨hlt2, hown, hits, ?_, hbl⟩
                rw [hmap, e, nx_row l k i (by rw [← HIL.out, HRL.out]; exact hlt2), HCS.out]
              clear hS hown hits hmap hbl hlt3 e
              go_wp2_with fail
              go_roundw
              case rel => exact ⟨i + 1, J, by go_num, NX.out⟩
              case measure => simp [intOf]; omega
        · have hlt2' : ¬ (i : Int) < (rl : Int) := by omega
          have e : i = rl := by omega
          have NX : Hid (k + 1 ≤ n ∧ wr.ownsRow W1.heap.size 26 1 u6 J.length (vlr J) ∧ RtQ wr u6.ownBlock J ∧ J.map (·.2) = alR l (k + 1) ∧ Below W1.heap.size W1 wr) := by
            refine ⟨hlt, own_down hown HW0.out.size, hits, ?_, HW0.out.trans (hbl.mono HW0.out.size)⟩
            rw [hmap, e, ← HRL.out, HIL.out, nx_all]
          clear hS hown hits hmap hbl hlt2 e
          go_wp2_with fail
          go_roundw
          case rel => exact ⟨k + 1, J, by go_num, NX.out⟩
          case measure => simp [intOf]; omega
    · have hlt' : ¬ (k : Int) < (n : Int) := by omega
      have e : k = n := by omega
      subst e
      obtain ⟨oa, oc, rfl, hw⟩ := wn_own hown
      have PP : Hid (AllP l w (.returned (.slice oa I.length oc)) wr) := by
        refine ⟨B1.out.trans (hbl.mono B1.out.size), oa, oc, I, ?_, hw, fun x hx => ?_, ?_⟩
        · rw [HN.out, ← hmap, List.length_map]
        · obtain ⟨a', c', h1, h2, h3⟩ := hits x hx
          exact ⟨a', c', h1, h2, fun d e => ⟨(h3 d e).1, by simp⟩⟩
        · rw [HN.out]; exact hmap
      clear hS hown hits hmap hbl hw hlt x0 y0
      go_wp2_with fail
      go_ret
      exact PP.out
end Go.Proofs.YtadfmplafehjlaaDoor
namespace Go.Proofs.YtadfmplafehjlaaDoor

section
variable {l : List Fd} {E : List Ed}
/-- The edits that a record fails. -/
def fmS (E : List Ed) (x : List Int) : Nat := bz (flB E x) E.length
theorem prt_fm (hok : Ok l E) {x : List Int} : ∀ (d i : Nat) (B : Nat → Nat) (F : Nat), i + d = l.length → Prg l E i B F → ∀ C G, (C, G) ∈ prt l E d i B F → inBx l x C → G = fmS E x
  | 0, i, B, F, hd, hp, C, G, hC, hx => by
    have e : C = B ∧ G = F := by
      have : (C, G) = (B, F) := by simpa [prt] using hC
      injection this with h1 h2
      exact ⟨h1, h2⟩
    rw [e.2, hp.fs]
    rw [e.1] at hx
    refine bz_ext fun n hn => ?_
    unfold flB
    rw [hok.sl n hn, show i = l.length by omega]
    exact al_ext fun j hj => hp.hd hok hx (by omega) hj
  | d + 1, i, B, F, hd, hp, C, G, hC, hx => by
    unfold prt at hC
    split at hC
    · rename_i h0
      have e : (C, G) = (B, F) := by simpa using hC
      injection e with h1 h2
      have := hp.zero hok (by omega) (h1 ▸ hx) h0
      rw [h2, h0]
      exact (bz_none fun n hn => by have := al_iff.1 this n hn; simpa using this).symm
    · obtain ⟨k, hk, hC⟩ := List.mem_flatMap.1 hC
      have hkb : (B i).testBit k = true := by unfold lst at hk; exact (List.mem_filter.1 hk).2
      exact prt_fm hok d (i + 1) _ _ (by omega) (hp.step hok (by omega) (bits_lt (hp.lt i (by omega)) hkb)) C G hC hx
/-- The sets of edits of all parts. -/
def gpL (l : List Fd) (E : List Ed) : List Nat := (prs l E (fuS l)).map (·.2)
theorem gp_iff (hok : Ok l E) (F : Nat) : F ∈ gpL l E ↔ ∃ x, x ∈ alR l l.length ∧ fmS E x = F := by
  unfold gpL
  constructor
  · intro h
    obtain ⟨⟨C, G⟩, hC, rfl⟩ := List.mem_map.1 h
    have hb := prs_ok (fu_lt l) _ hC
    let x : List Int := (List.range l.length).map fun j => fn (fd l j).cs (ch C j)
    have hxl : x.length = l.length := by simp [x]
    have hxf : ∀ j, j < l.length → fn x j = fn (fd l j).cs (ch C j) := fun j hj => by
      unfold fn
      rw [List.getD_eq_getElem?_getD, List.getElem?_map, List.getElem?_range hj]
      rfl
    have hx : inBx l x C := ⟨hxl, fun j hj => by
      rw [hxf j hj]
      have h20 := hok.c20 j hj
      have h1 := hb j hj
      have h2 : (C j).testBit (ch C j) = true := ch_bit (by omega) h1.1 h1.2
      exact ⟨ch C j, bits_lt h1.2 h2, rfl, h2⟩⟩
    rw [prs_full hok] at hC
    refine ⟨x, (alR_mem l _ x).2 ⟨hxl, fun j hj => ?_⟩, (prt_fm hok l.length 0 _ _ (by omega) (prg_full l E) C G hC hx).symm⟩
    obtain ⟨k, q1, q2, _⟩ := hx.2 j hj
    exact inC_iff.2 ⟨k, q1, q2.symm⟩
  · rintro ⟨x, hx, rfl⟩
    obtain ⟨h1, h2⟩ := (alR_mem l _ x).1 hx
    have hx : inBx l x (fuS l) := ⟨h1, fun j hj => by
      obtain ⟨k, q1, q2⟩ := inC_iff.1 (h2 j hj)
      exact ⟨k, q1, q2.symm, by unfold fuS; rw [if_pos hj, Nat.testBit_two_pow_sub_one]; simpa using q1⟩⟩
    obtain ⟨C, G, q1, q2, _⟩ := prt_cover hok l.length 0 _ _ (by omega) (prg_full l E) hx
    have := prt_fm hok l.length 0 _ _ (by omega) (prg_full l E) C G q1 q2
    exact List.mem_map.2 ⟨(C, G), by rw [prs_full hok]; exact q1, this⟩
theorem gp_lt (hok : Ok l E) {F : Nat} (h : F ∈ gpL l E) : F < 2 ^ E.length := by
  obtain ⟨x, _, rfl⟩ := (gp_iff hok F).1 h
  exact bz_lt _ _
end
/-- Some record fails edit k alone, of those that are left. -/
def ndB (G : List Nat) (L k : Nat) : Bool := G.any fun F => F &&& L == 2 ^ k
/-- What is left when the first k edits were looked at. -/
def lfB (G : List Nat) (m : Nat) : Nat → Nat → Bool
  | 0, _ => true
  | k + 1, j => if j = k then ndB G (bz (lfB G m k) m) k else lfB G m k j
def lfM (G : List Nat) (m k : Nat) : Nat := bz (lfB G m k) m
theorem lf_top (G : List Nat) (m : Nat) : ∀ {k j : Nat}, k ≤ j → lfB G m k j = true
  | 0, _, _ => rfl
  | k + 1, j, h => by
    unfold lfB
    rw [if_neg (by omega)]; exact lf_top G m (by omega)
theorem lf_at (G : List Nat) (m : Nat) {k j : Nat} (h : j ≠ k) : lfB G m (k + 1) j = lfB G m k j := by
  show (if j = k then _ else _) = _
  rw [if_neg h]
theorem lf_self (G : List Nat) (m k : Nat) : lfB G m (k + 1) k = ndB G (lfM G m k) k := by
  show (if k = k then _ else _) = _
  rw [if_pos rfl]; rfl
/-- A needed edit stays. -/
theorem lf_yes (G : List Nat) (m : Nat) {k : Nat} (h : ndB G (lfM G m k) k = true) : lfM G m (k + 1) = lfM G m k :=
  bz_ext fun j _ => by
    by_cases e : j = k
    · subst e; rw [lf_self, h, lf_top G m (Nat.le_refl _)]
    · exact lf_at G m e
theorem lf_no_bits (G : List Nat) (m : Nat) {k : Nat} (h : ndB G (lfM G m k) k = false) (j : Nat) : lfB G m (k + 1) j = (lfB G m k j && !decide (j = k)) := by
  by_cases e : j = k
  · subst e; rw [lf_self, h]; simp
  · rw [lf_at G m e]; simp [e]
theorem lf_0 (G : List Nat) (m : Nat) : lfM G m 0 = 2 ^ m - 1 := by
  unfold lfM
  rw [← bz_all]
  exact bz_ext fun _ _ => rfl
theorem lf_lt (G : List Nat) (m k : Nat) : lfM G m k < 2 ^ m := bz_lt _ _
theorem lf_no (G : List Nat) (m : Nat) {k : Nat} (hm : m ≤ 60) (hk : k < m) (h : ndB G (lfM G m k) k = false) : lfM G m k &&& (18446744073709551615 - 2 ^ k) = lfM G m (k + 1) := by
  refine nat_ext fun j => ?_
  by_cases hj : j < 64
  · rcases andNot_bit (lfM G m k) (2 ^ k) j hj with q | q
    · rw [q]
      unfold lfM
      rw [bz_bit, bz_bit, lf_no_bits G m h, Nat.testBit_two_pow]
      by_cases e : k = j
      · subst e; simp
      · have : ¬ j = k := fun q => e q.symm
        simp [e, this]
    · have : 2 ^ k < 2 ^ 64 := Nat.pow_lt_pow_right (by omega) (by omega)
      omega
  · have h1 : (lfM G m (k + 1)).testBit j = false := Nat.testBit_lt_two_pow (Nat.lt_of_lt_of_le (lf_lt G m (k + 1)) (Nat.pow_le_pow_right (by omega) (by omega)))
    have h2 : (lfM G m k).testBit j = false := Nat.testBit_lt_two_pow (Nat.lt_of_lt_of_le (lf_lt G m k) (Nat.pow_le_pow_right (by omega) (by omega)))
    rw [Nat.testBit_and, h1, h2]; rfl
/-- What bits say of 'F and what is left is k alone'. -/
theorem and_one {p q : Nat → Bool} {m k : Nat} (hk : k < m) : (bz p m &&& bz q m = 2 ^ k) ↔ (p k = true ∧ q k = true ∧ ∀ j, j < m → j ≠ k → p j = true → q j = false) := by
  rw [bz_and]
  constructor
  · intro h
    have hb : ∀ j, j < m → (p j && q j) = decide (j = k) := fun j hj => by
      have := congrArg (fun x => x.testBit j) h
      simp only [bz_bit, Nat.testBit_two_pow] at this
      rw [decide_eq_true hj, Bool.true_and] at this
      rw [this, Bool.eq_iff_iff]; simp; omega
    have h1 := hb k hk
    rw [decide_eq_true rfl, Bool.and_eq_true] at h1
    refine ⟨h1.1, h1.2, fun j hj hne hp => ?_⟩
    have := hb j hj
    rw [hp, Bool.true_and, decide_eq_false hne] at this
    exact this
  · rintro ⟨h1, h2, h3⟩
    rw [← bz_one hk]
    refine bz_ext fun j hj => ?_
    by_cases e : j = k
    · subst e; rw [h1, h2]; simp
    · rw [decide_eq_false e]
      cases hp : p j with
      | false => rfl
      | true => rw [h3 j hj e hp]; rfl
theorem and_none {p q : Nat → Bool} {m : Nat} : (bz p m &&& bz q m = 0) ↔ ∀ j, j < m → p j = true → q j = false := by
  rw [bz_and, bz_zero]
  constructor
  · intro h j hj hp
    have := h j hj
    rw [hp, Bool.true_and] at this; exact this
  · intro h j hj
    cases hp : p j with
    | false => rfl
    | true => rw [h j hj hp]; rfl
section
variable {l : List Fd} {E : List Ed}
/-- The reference's word on one edit, of those that are left. -/
def rnB (l : List Fd) (E : List Ed) (i : Nat) (q : Nat → Bool) : Bool := (alR l l.length).any fun x => flB E x i && al (fun k => decide (k = i) || !q k || !flB E x k) E.length
def rpB (l : List Fd) (E : List Ed) (q : Nat → Bool) : Bool := (alR l l.length).any fun x => al (fun k => !q k || !flB E x k) E.length
theorem rn_nd (hok : Ok l E) {i : Nat} (hi : i < E.length) {q : Nat → Bool} (hq : q i = true) : rnB l E i q = ndB (gpL l E) (bz q E.length) i := by
  unfold rnB ndB
  rw [Bool.eq_iff_iff, List.any_eq_true, List.any_eq_true]
  constructor
  · rintro ⟨x, hx, h⟩
    rw [Bool.and_eq_true, al_iff] at h
    refine ⟨fmS E x, (gp_iff hok _).2 ⟨x, hx, rfl⟩, ?_⟩
    rw [beq_iff_eq]
    refine (and_one hi).2 ⟨h.1, hq, fun j hj hne hp => ?_⟩
    have := h.2 j hj
    rw [hp, decide_eq_false hne] at this
    simpa using this
  · rintro ⟨F, hF, h⟩
    rw [beq_iff_eq] at h
    obtain ⟨x, hx, rfl⟩ := (gp_iff hok F).1 hF
    obtain ⟨h1, _, h3⟩ := (and_one hi).1 h
    refine ⟨x, hx, ?_⟩
    rw [h1, Bool.true_and]
    refine al_iff.2 fun j hj => ?_
    by_cases e : j = i
    · simp [e]
    · cases hp : flB E x j with
      | false => simp
      | true => rw [h3 j hj e hp]; simp
theorem rp_iff (hok : Ok l E) (q : Nat → Bool) : rpB l E q = true ↔ ∃ F, F ∈ gpL l E ∧ F &&& bz q E.length = 0 := by
  unfold rpB
  rw [List.any_eq_true]
  constructor
  · rintro ⟨x, hx, h⟩
    rw [al_iff] at h
    refine ⟨fmS E x, (gp_iff hok _).2 ⟨x, hx, rfl⟩, and_none.2 fun j hj hp => ?_⟩
    have := h j hj
    rw [hp] at this
    simpa using this
  · rintro ⟨F, hF, h⟩
    obtain ⟨x, hx, rfl⟩ := (gp_iff hok F).1 hF
    have h2 := and_none.1 h
    refine ⟨x, hx, al_iff.2 fun j hj => ?_⟩
    cases hp : flB E x j with
    | false => simp
    | true => rw [h2 j hj hp]; rfl
/-- No record passes those that are left: so one passes without edit i just if it is needed. -/
theorem rp_nd (hok : Ok l E) {i : Nat} (hi : i < E.length) {q : Nat → Bool} (hq : q i = true) (h : rpB l E q = false) : rpB l E (fun j => q j && !decide (j = i)) = ndB (gpL l E) (bz q E.length) i := by
  have h0 : ∀ F, F ∈ gpL l E → F &&& bz q E.length ≠ 0 := fun F hF e => by
    have := (rp_iff hok q).2 ⟨F, hF, e⟩
    rw [h] at this; cases this
  rw [Bool.eq_iff_iff, rp_iff hok]
  unfold ndB
  rw [List.any_eq_true]
  constructor
  · rintro ⟨F, hF, e⟩
    refine ⟨F, hF, ?_⟩
    rw [beq_iff_eq]
    obtain ⟨x, hx, rfl⟩ := (gp_iff hok F).1 hF
    have h1 := h0 _ hF
    have h2 := and_none.1 e
    have h3 : ∀ j, j < E.length → j ≠ i → flB E x j = true → q j = false := fun j hj hne hp => by
      have := h2 j hj hp
      rw [decide_eq_false hne] at this
      simpa using this
    refine (and_one hi).2 ⟨?_, hq, h3⟩
    cases hp : flB E x i with
    | true => rfl
    | false =>
      refine absurd (and_none.2 fun j hj hp2 => ?_) h1
      by_cases e : j = i
      · rw [e, hp] at hp2; cases hp2
      · exact h3 j hj e hp2
  · rintro ⟨F, hF, e⟩
    rw [beq_iff_eq] at e
    obtain ⟨x, hx, rfl⟩ := (gp_iff hok F).1 hF
    obtain ⟨h1, _, h3⟩ := (and_one hi).1 e
    refine ⟨_, hF, and_none.2 fun j hj hp => ?_⟩
    by_cases e : j = i
    · simp [e]
    · rw [h3 j hj e hp]; rfl
end
end Go.Proofs.YtadfmplafehjlaaDoor
namespace Go.Proofs.YtadfmplafehjlaaDoor
open Go.RowKit Go.WideMaps Go.Maps Go.Shelf

attribute [local go_sem] Oper.semAt_some

theorem range_partsH {n : Nat} {g : Operand} {ps : Array Tmp} {assign body : Code} {Q : Exit → Act → World → Prop} {a : Act} {w : World} (w0 : World) (N : Nat → Prop) (Ow : World → Nat → Prop) (p : Nat) (l0 : List Fd) (E : List Ed) (B : Nat → Nat) (b1 b2 : Nat) (hps : ps.size = 2)
    (hg : a.eval g = .func (.func 78) #[] #[.pointer (some ⟨b1, 0, none⟩), .pointer (some ⟨b2, 0, none⟩)])
    (hn : 3 ≤ n) (hpl : PlR w0 p l0 E) (hok : Ok l0 E) (hB : ∀ j, j < l0.length → B j < 2 ^ (fd l0 j).cs.length) (hT : TabAt 0 Lib.deBruijn64tab w0) (ht : 0 < w0.heap.size)
    (hN : ∀ b, N b → w0.heap.size ≤ b ∧ b < w.heap.size) (n1 : ¬ N b1 ∧ b1 < w.heap.size) (n2 : ¬ N b2 ∧ b2 < w.heap.size) (hw0 : w0.heap.size ≤ w.heap.size)
    (I Ix : Nat → World → Prop) (hIb : ∀ k W W', I k W → Below w.heap.size W W' → (∀ b, Ow W b → W'.heap[b]? = W.heap[b]?) → I k W') (hIo : ∀ k W, I k W → ∀ b, Ow W b → w.heap.size + 2 ≤ b ∧ b < W.heap.size) (hIv : ∀ k W W', I k W → Below w.heap.size W W' → ∀ b, Ow W' b → Ow W b) (hIw : ∀ k W, I k W → Below w0.heap.size w0 W ∧ W.cell? ⟨b1, 0, none⟩ = some (.pointer (some ⟨p, 0, none⟩)) ∧ BxAt W b2 0 B) (hIx : OwnFrom w.heap.size Ix) (h0 : I 0 w) (a₁ : (Nat → Nat) × Nat → Act)
    (hassign : ∀ (l m : Nat) (x : (Nat → Nat) × Nat) (W : World) (K : Act → World → Prop), K (a₁ x) W →
      assign.wpIn (Fence.wide.inRound l) m Tryd.prog (Exit.then K (fun _ _ _ => False)) { tmps := (ps.zip #[bxV x.1, .int .u64 x.2]).foldl (fun t (p, v) => t.setIfInBounds p v) a.tmps, defers := [] } W)
    (hbody : ∀ (l m k : Nat) (x : (Nat → Nat) × Nat) (V : World), (prs l0 E B)[k]? = some x → I k V → w.heap.size + 2 ≤ V.heap.size → body.wpIn (Fence.wide.inRound l) m Tryd.prog (rgPost I Ix N Ow w.heap.size k V) (a₁ x) V)
    (hdone : ∀ (W : World), I (prs l0 E B).length W → W.heap[w.heap.size]? = some (.deferred (some [])) → Q .normal { a with defers := { target := .collected w.heap.size, args := #[] } :: a.defers } W)
    (hstop : ∀ (k : Nat) (W : World), k < (prs l0 E B).length → Ix k W → W.heap[w.heap.size]? = some (.deferred (some [])) → Code.ret.wpIn Fence.wide n Tryd.prog Q { a with defers := { target := .collected w.heap.size, args := #[] } :: a.defers } W) :
    (Code.rangeFunc g ps assign body).wpIn Fence.wide n Tryd.prog Q a w := by
  refine wpIn_rangeFunc fun fn hfn => ?_
  obtain ⟨rows, hrows⟩ : ∃ r, prs l0 E B = r := ⟨_, rfl⟩
  rw [hrows] at hbody hdone hstop
  obtain ⟨rec, hrec⟩ : ∃ rec : LoopState → Option Code → Loop, rec = fun st pe => { state := st, pending := pe, fn, tmps := a.tmps, params := ps, assign, body, defers := w.heap.size } := ⟨_, rfl⟩
  obtain ⟨W1, hW1⟩ : ∃ W1, (w.alloc (.deferred (some []))).alloc (.loop (rec .ready none)) = W1 := ⟨_, rfl⟩
  have L1 : W1.heap[w.heap.size + 1]? = some (.loop (rec .ready none)) := by
    rw [← hW1]; have := World.alloc_heap_new (w.alloc (.deferred (some []))) (.loop (rec .ready none)); rwa [World.size_alloc] at this
  have D1 : W1.heap[w.heap.size]? = some (.deferred (some [])) := by
    rw [← hW1]; exact (Below.heap_alloc _ _ _ (by simp)).trans (World.alloc_heap_new w _)
  have S1 : w.heap.size + 2 ≤ W1.heap.size := by rw [← hW1]; simp
  have bW : Below w.heap.size w W1 := by rw [← hW1]; exact ((Below.refl _ w).alloc (Nat.le_refl _) _).alloc (by simp) _
  have I1 : I 0 W1 := hIb 0 w W1 h0 bW fun b hb => bW.block b (hIo 0 w h0 b hb).2
  let RD (st : LoopState) (pe : Option Code) (W : World) : Prop := W.heap[w.heap.size + 1]? = some (.loop (rec st pe)) ∧ W.heap[w.heap.size]? = some (.deferred (some []))
  refine ⟨w.heap.size + 1, [{ target := .collected w.heap.size, args := #[] }], W1, { target := .fn (.func 78) #[.pointer (some ⟨b1, 0, none⟩), .pointer (some ⟨b2, 0, none⟩)], args := #[.func (.yield (w.heap.size + 1)) #[] #[]] }, W1, 78,
    #[.func (.yield (w.heap.size + 1)) #[] #[]] ++ #[.pointer (some ⟨b1, 0, none⟩), .pointer (some ⟨b2, 0, none⟩)], W1, ?_, ?_, fun _ _ => trivial, ?_, fun _ => by omega, ?_⟩
  · rw [← hW1, hrec]; exact run_enterLoop_outer _ _ _ _ _
  · simp only [resolve, hg]
    simp [go_sem]
  · simp [invoke, go_sem, enters_of Tryd.func78 (by kernel_rfl) rfl]
  · have hv : Dw w0 (fun b => N b ∨ b = w.heap.size + 1) Ow p (w.heap.size + 2) l0 E (w.heap.size + 1) rows (fun k W => I k W ∧ RD .ready none W ∧ k ≤ rows.length ∧ w.heap.size + 2 ≤ W.heap.size) (fun k W => Ix k W ∧ RD .done (some .ret) W) := by
      refine ⟨hpl, hT, ht, by omega, fun b hb => ?_, fun k W h => ⟨(hIw k W h.1).1, h.2.2.2⟩, fun k W h b hb => hIo k W h.1 b hb, fun k W W' h hb b => hIv k W W' h.1 (hb.mono (by omega)) b, fun k W W' h hb ho => ?_, fun m k x W hk h => ?_⟩
      · rcases hb with e | e
        · have := hN b e; omega
        · omega
      · exact ⟨hIb k W W' h.1 (hb.mono (by omega)) ho, ⟨(hb.block _ (by omega)).trans h.2.1.1, (hb.block _ (by omega)).trans h.2.1.2⟩, h.2.2.1, Nat.le_trans h.2.2.2 hb.size⟩
      · obtain ⟨hi, ⟨hl, hd⟩, hkl, hsz⟩ := h
        have hy := run_yield (P := Tryd.prog) (args := #[bxV x.1, Value.int .u64 x.2]) hl (by rw [hrec]; exact hps.symm)
        rw [hrec] at hy
        have bA : Below W.heap.size W W := Below.refl _ _
        have hlt0 : w.heap.size + 1 < W.heap.size := by omega
        have hlA : W.heap[w.heap.size + 1]? = some (.loop (rec .ready none)) := (bA.block _ hlt0).trans hl
        have hdA : W.heap[w.heap.size]? = some (.deferred (some [])) := (bA.block _ (by omega)).trans hd
        have hltA : w.heap.size + 1 < W.heap.size := by omega
        refine ⟨fn, _, assign, body, hy, roundIn_of_wpIn hfn (hassign _ _ x W _ ?_)⟩
        refine ⟨_, run_beginRound hlA (by rw [hrec]), ?_⟩
        obtain ⟨V, hV⟩ : ∃ V, W.putObj (w.heap.size + 1) (.loop { rec .ready none with state := .busy }) = V := ⟨_, rfl⟩
        have hVs : V.heap.size = W.heap.size := by rw [← hV]; simp [World.putObj]
        have hl2 : V.heap[w.heap.size + 1]? = some (.loop { rec .ready none with state := .busy }) := by rw [← hV]; exact World.putObj_heap_same hltA
        have hd2 : V.heap[w.heap.size]? = some (.deferred (some [])) := by rw [← hV]; exact (World.putObj_heap_other (by omega)).trans hdA
        have bV : Below w.heap.size W V := by
          rw [← hV]
          exact ⟨rfl, rfl, rfl, by simp [World.putObj], fun i hi => World.putObj_heap_other (by omega)⟩
        rw [hV]
        have iA : I k W := hIb k W W hi (bA.mono (by omega)) fun b hb => bA.block b (hIo k W hi b hb).2
        have iV : I k V := hIb k W V iA bV fun b hb => by
          have := (hIo k W iA b hb).1
          rw [← hV]; exact World.putObj_heap_other (by omega)
        have nrO : ∀ b, b < w.heap.size + 2 → ¬ Ow V b := fun b hb e => by have := (hIo k V iV b e).1; omega
        have kV : Kg (fun b => N b ∨ b = w.heap.size + 1) Ow W V := by
          refine ⟨by rw [← hV]; rfl, by rw [← hV]; rfl, by rw [← hV]; rfl, by omega, fun b hb hn ho => ?_, fun b hb => .inl (hIv k W W hi (bA.mono (by omega)) b (hIv k W V iA bV b hb))⟩
          rw [← hV, World.putObj_heap_other (fun e => hn (.inr e)), bA.block b hb]
        have kP : ∀ (W3 : World) (o : Obj), Kg N Ow V W3 → (∀ b, Ow (W3.putObj (w.heap.size + 1) o) b → Ow W3 b) → Kg (fun b => N b ∨ b = w.heap.size + 1) Ow W (W3.putObj (w.heap.size + 1) o) := fun W3 o h1 h2 => by
          refine kV.trans ⟨h1.os, h1.tape, h1.output, ?_, fun b hb hn ho => ?_, fun b hb => h1.ow b (h2 b hb)⟩
          · have := h1.size; simpa [World.putObj] using this
          · rw [World.putObj_heap_other (fun e => hn (.inr e)), h1.block b hb (fun e => hn (.inl e)) ho]
        refine wpIn_mono (hbody _ _ k x V hk iV (by omega)) ?_
        have fin : ∀ (jump : Option Code) (W3 : World), W3.heap[w.heap.size + 1]? = V.heap[w.heap.size + 1]? →
            (Instr.endRound (w.heap.size + 1) jump).run Tryd.prog W3 = .ok (.bool jump.isNone) (W3.putObj (w.heap.size + 1) (.loop (rec (if jump.isNone then .ready else .done) jump))) := fun jump W3 hk3 => by
          have hr := run_endRound (P := Tryd.prog) jump (hk3.trans hl2)
          rw [hrec] at hr ⊢; exact hr
        rintro e a3 W3 hp
        cases e with
        | normal =>
          obtain ⟨hb3, hi3⟩ := hp
          have nr : ¬ N (w.heap.size + 1) := fun e => by have := (hN _ e).2; omega
          have nd : ¬ N w.heap.size := fun e => by have := (hN _ e).2; omega
          have hr := fin none W3 (hb3.block _ (by omega) nr (nrO _ (by omega)))
          have hs3 := hb3.size
          have bP : Below w.heap.size W3 (W3.putObj (w.heap.size + 1) (.loop (rec .ready none))) := ⟨rfl, rfl, rfl, by simp [World.putObj], fun i hi => World.putObj_heap_other (by omega)⟩
          refine ⟨_, _, hr, .inl ⟨rfl, ⟨hIb _ W3 _ hi3 bP fun b hb => World.putObj_heap_other (by have := (hIo _ W3 hi3 b hb).1; omega), ⟨?_, ?_⟩, ?_, ?_⟩, kP W3 _ hb3 (hIv _ W3 _ hi3 bP)⟩⟩
          · exact World.putObj_heap_same (by omega)
          · exact (World.putObj_heap_other (by omega)).trans ((hb3.block _ (by omega) nd (nrO _ (by omega))).trans hd2)
          · exact (List.getElem?_eq_some_iff.1 hk).1
          · show _ ≤ (World.putObj _ _ _).heap.size
            simp [World.putObj]; omega
        | ret =>
          obtain ⟨hb3, hi3, ho3⟩ := hp
          have nr : ¬ N (w.heap.size + 1) := fun e => by have := (hN _ e).2; omega
          have nd : ¬ N w.heap.size := fun e => by have := (hN _ e).2; omega
          have hs3 := hb3.size
          have h3 : W3.heap[w.heap.size + 1]? = V.heap[w.heap.size + 1]? := hb3.block _ (by omega) nr (nrO _ (by omega))
          have hr := fin (some .ret) W3 h3
          refine ⟨_, _, hr, .inr ⟨rfl, ⟨hIx.putObj _ hi3 (by omega) (h3.trans hl2) rfl, ?_, ?_⟩, kP W3 _ hb3 (ho3 _ (by simp [World.putObj]) fun i hi => World.putObj_heap_other (by omega))⟩⟩
          · exact World.putObj_heap_same (by omega)
          · exact (World.putObj_heap_other (by omega)).trans ((hb3.block _ (by omega) nd (nrO _ (by omega))).trans hd2)
        | exit id => exact hp.elim
        | goto t => exact hp.elim
        | panic ch => exact hp.elim
        | outgrown => exact hp.elim
    have hw1 := hIw 0 W1 I1
    subst hrows
    have q1 : ¬ (N b1 ∨ b1 = w.heap.size + 1) ∧ b1 < w.heap.size + 2 := ⟨fun e => e.elim n1.1 (fun e => by have := n1.2; omega), by have := n1.2; omega⟩
    have q2 : ¬ (N b2 ∨ b2 = w.heap.size + 1) ∧ b2 < w.heap.size + 2 := ⟨fun e => e.elim n2.1 (fun e => by have := n2.2; omega), by have := n2.2; omega⟩
    have HP := parts1G_c w0 _ Ow p (w.heap.size + 2) l0 E (w.heap.size + 1) B _ _ hv hok hB (fun k W h => h.2.2.1) b1 b2 q1 q2 W1 ⟨I1, ⟨L1, D1⟩, Nat.zero_le _, S1⟩ hw1.2.1 hw1.2.2
    refine ((callsIn_wide (n := n - 1)).2 HP).mono ?_
    rintro e W2 ⟨⟨v, rfl⟩, (⟨hi, ⟨hl, hd⟩, _, hs⟩ | ⟨k, hk, hi, hl, hd⟩)⟩
    · have hr := run_endLoop (P := Tryd.prog) hl (by rw [hrec]; simp)
      rw [hrec] at hr
      refine ⟨none, _, hr, hdone _ (hIb _ W2 _ hi ⟨rfl, rfl, rfl, by simp [World.putObj], fun i hi => World.putObj_heap_other (by omega)⟩ fun b hb => World.putObj_heap_other (by have := (hIo _ W2 hi b hb).1; omega)) ((World.putObj_heap_other (by omega)).trans hd)⟩
    · have hr := run_endLoop (P := Tryd.prog) hl (by rw [hrec]; simp)
      rw [hrec] at hr
      exact ⟨some .ret, _, hr, hstop k _ hk (hIx.putObj _ hi (by omega) hl rfl) ((World.putObj_heap_other (by omega)).trans hd)⟩
end Go.Proofs.YtadfmplafehjlaaDoor
namespace Go.Proofs.YtadfmplafehjlaaDoor
open Go.RowKit Go.WideMaps Go.Maps Go.Shelf

attribute [local go_sem] Oper.semAt_some

section
open Go.ChangeMaps Go.MapKept
theorem lawU : Keyed Tryd.prog 54 := int_keyed Tryd.underlying54
theorem key_u {s x : Int} (h : s ≠ x) : (Lit.int .u64 s) ≠ .int .u64 x := by
  intro e
  injection e with _ e
  exact h e
/-- A set of numbers, as a map to true. -/
def MapBD (D : DataW Value) (p : Int → Bool) : Prop :=
  Maps.IsMap D ∧ ∀ s : Int, Maps.has D (.int .u64 s) = p s ∧ ∀ z, D.atKey (.int .u64 s) (.held z) = .held (if p s = true then .bool true else z)
def MapB (w : World) (b n : Nat) (p : Int → Bool) : Prop := ∃ D : DataW Value, w.ownsMap Tryd.prog 54 asIsK b n D ∧ MapBD D p
theorem MapBD.none : MapBD (.map []) fun _ => false := ⟨⟨[], rfl⟩, fun _ => ⟨rfl, fun _ => rfl⟩⟩
theorem MapBD.put {D : DataW Value} {p : Int → Bool} (h : MapBD D p) (s : Int) : MapBD (D.put (.int .u64 s) (.held (.bool true))) fun x => decide (x = s) || p x := by
  obtain ⟨hm, hf⟩ := h
  refine ⟨?_, fun x => ?_⟩
  · obtain ⟨es, rfl⟩ := hm
    exact ⟨_, rfl⟩
  · by_cases hx : x = s
    · subst hx
      have hk : WideAt.IsKeyLit (.int .u64 x) := trivial
      exact ⟨by rw [Maps.has_put_same hm hk]; simp, fun z => by rw [Maps.atKey_put_same hm hk]; simp⟩
    · exact ⟨by rw [Maps.has_put_other (key_u hx), (hf x).1]; simp [hx], fun z => by rw [Maps.atKey_put_other (key_u hx), (hf x).2]; simp [hx]⟩
theorem MapB.lt {w : World} {b n : Nat} {p : Int → Bool} (h : MapB w b n p) : b < w.heap.size := by
  obtain ⟨D, h, _⟩ := h; exact h.lt
theorem MapB.same {w w' : World} {b n : Nat} {p : Int → Bool} (h : MapB w b n p) (hb : w'.heap[b]? = w.heap[b]?) : MapB w' b n p := by
  obtain ⟨D, ⟨es, clock, h1, h2⟩, hD⟩ := h
  exact ⟨D, ⟨es, clock, hb.trans h1, h2⟩, hD⟩
theorem MapB.made (w : World) : MapB (w.alloc (.map #[] 0)) w.heap.size 0 fun _ => false := ⟨_, World.ownsMap_made w _ _ _, MapBD.none⟩
theorem MapB.congr {w : World} {b n : Nat} {p q : Int → Bool} (h : MapB w b n p) (e : ∀ s, p s = q s) : MapB w b n q := by
  have : p = q := funext e
  rw [← this]; exact h
end
/-- The numbers among the edits of the first k parts. -/
def gpK (rows : Prts) (k : Nat) (s : Int) : Bool := (rows.take k).any fun x => decide (((x.2 : Nat) : Int) = s)
theorem gpK_next {rows : Prts} {k : Nat} {x : (Nat → Nat) × Nat} (h : rows[k]? = some x) (s : Int) : gpK rows (k + 1) s = (decide (s = ((x.2 : Nat) : Int)) || gpK rows k s) := by
  unfold gpK
  rw [List.take_add_one, h, List.any_append, Bool.or_comm]
  congr 1
  simp only [Option.toList_some, List.any_cons, List.any_nil, Bool.or_false]
  rw [Bool.eq_iff_iff]; simp only [decide_eq_true_eq]
  exact eq_comm
/-- The numbers among the edits of all parts. -/
def gpP (l : List Fd) (E : List Ed) (s : Int) : Bool := (gpL l E).any fun F => decide (((F : Nat) : Int) = s)
theorem gpK_all (l : List Fd) (E : List Ed) (s : Int) : gpK (prs l E (fuS l)) (prs l E (fuS l)).length s = gpP l E s := by
  unfold gpK gpP gpL
  rw [List.take_length, List.any_map]; rfl
def GroP (l : List Fd) (E : List Ed) (w : World) (e : Ending) (w' : World) : Prop :=
  Below w.heap.size w w' ∧ ∃ b n, e = .returned (.map (some b)) ∧ MapB w' b n (gpP l E)
structure GrI (w W0 : World) (mb : Nat) (rows : Prts) (k : Nat) (W : World) : Prop where
  bel : Below w.heap.size w W
  sz : W0.heap.size ≤ W.heap.size
  old : ∀ b, b < W0.heap.size → b ≠ mb → W.heap[b]? = W0.heap[b]?
  mp : MapB W mb k (gpK rows k)
theorem GrI.turn {w W0 W W' : World} {mb : Nat} {rows : Prts} {k : Nat} (h : GrI w W0 mb rows k W) (hm : mb < W0.heap.size) (hw : w.heap.size ≤ W0.heap.size) (hb : Below W0.heap.size W W') : GrI w W0 mb rows k W' :=
  ⟨h.bel.trans (hb.mono hw), Nat.le_trans h.sz hb.size, fun b hb1 hb2 => (hb.block b hb1).trans (h.old b hb1 hb2), h.mp.same (hb.block mb hm)⟩
theorem GrI.cell {w W0 W : World} {mb : Nat} {rows : Prts} {k : Nat} (h : GrI w W0 mb rows k W) {p : Addr} {v : Value} (e : W0.cell? p = some v) (hp : p.block ≠ mb) : W.cell? p = some v :=
  (World.cell?_of_block (h.old p.block (cellLt e) hp)).trans e
set_option maxRecDepth 100000 in
set_option maxHeartbeats 8000000 in
theorem groups_c (p : Nat) (l : List Fd) (E : List Ed) (w : World) (hP : PlR w p l E) (hok : Ok l E)
    (hT : TabAt 0 Lib.deBruijn64tab w) (ht : 0 < w.heap.size) :
    Calls Tryd.prog 46 #[.pointer (some ⟨p, 0, none⟩)] w (GroP l E w) := by
  have mixed : Tryd.prog.follows .mixedOrders = true := by kernel_rfl
  have HC := Lib.hid (fun V => parts_c p (fuS l) V)
  unfold bxV PaP at HC
  obtain ⟨Wm, hWm⟩ : ∃ V, w.alloc (.map #[] 0) = V := ⟨_, rfl⟩
  have bm : Below w.heap.size w Wm := by rw [← hWm]; exact (Below.refl _ w).alloc (Nat.le_refl _) _
  obtain ⟨mb, hmb⟩ : ∃ b, w.heap.size = b := ⟨_, rfl⟩
  obtain ⟨W1, hW1⟩ : ∃ V, Wm.alloc (.cells #[.map (some mb)] 82) = V := ⟨_, rfl⟩
  have b1 : Below w.heap.size w W1 := by rw [← hW1]; exact bm.alloc bm.size _
  have x0 := (hP.below b1).fu 0 (by decide)
  have x1 := (hP.below b1).fu 1 (by decide)
  have x2 := (hP.below b1).fu 2 (by decide)
  have x3 := (hP.below b1).fu 3 (by decide)
  have x4 := (hP.below b1).fu 4 (by decide)
  have x5 := (hP.below b1).fu 5 (by decide)
  have x6 := (hP.below b1).fu 6 (by decide)
  have x7 := (hP.below b1).fu 7 (by decide)
  have x8 := (hP.below b1).fu 8 (by decide)
  have x9 := (hP.below b1).fu 9 (by decide)
  have x10 := (hP.below b1).fu 10 (by decide)
  have x11 := (hP.below b1).fu 11 (by decide)
  simp only [Nat.reduceAdd] at x0 x1 x2 x3 x4 x5 x6 x7 x8 x9 x10 x11
  refine (callsIn_wide (n := 8)).1 ?_
  refine callsIn_of_wp_marks Tryd.func46 rfl trivial ?_ rfl
  simp only [Tryd.ntmps46, List.size_toArray, List.length_cons, List.length_nil, Nat.reduceAdd, Nat.reduceSub, Array.replicate_succ, Array.replicate_zero, List.push_toArray, List.append_toArray, List.nil_append, List.cons_append]
  have HP := Lib.hid hP
  have HT := Lib.hid hT
  have HOK := Lib.hid hok
  clear hP hT hok
  have hmm := @run_makeMap Tryd.prog
  gi_wp2_with (refine ⟨trivial, ?_⟩; gi_at_call 58; refine (callsIn_wide.2 (HC.out _)).mono ?_; rintro e w' ⟨rfl, rfl⟩)
  have hszm : Wm.heap.size = mb + 1 := by rw [← hWm, ← hmb]; simp
  have hsz1 : W1.heap.size = mb + 2 := by rw [← hW1]; simp; omega
  have box1 : Boxed W1 (mb + 1) 82 (.map (some mb)) := by rw [← hW1, ← hszm]; exact Boxed.new _ _ _
  have map1 : MapB W1 mb 0 (fun _ => false) := by
    have h1 : MapB Wm mb 0 (fun _ => false) := by rw [← hWm, ← hmb]; exact MapB.made w
    refine h1.same ?_
    rw [← hW1]; exact Below.heap_alloc _ _ _ (by omega)
  obtain ⟨W0, hW0⟩ : ∃ V, ((W1.alloc (.cells #[.pointer (some ⟨p, 0, none⟩)] 50)).alloc (.cells #[.int .u64 (fuS l 0), .int .u64 (fuS l 1), .int .u64 (fuS l 2), .int .u64 (fuS l 3), .int .u64 (fuS l 4), .int .u64 (fuS l 5), .int .u64 (fuS l 6), .int .u64 (fuS l 7), .int .u64 (fuS l 8), .int .u64 (fuS l 9), .int .u64 (fuS l 10), .int .u64 (fuS l 11)] 57)) = V := ⟨_, rfl⟩
  have b0 : Below W1.heap.size W1 W0 := by rw [← hW0]; exact ((Below.refl _ W1).alloc (Nat.le_refl _) _).alloc (by simp) _
  have hsz0 : W0.heap.size = mb + 4 := by rw [← hW0]; simp; omega
  have me1 : W0.cell? ⟨W1.heap.size, 0, none⟩ = some (.pointer (some ⟨p, 0, none⟩)) := by rw [← hW0]; exact Boxed.cell (t := 50) ((Boxed.new W1 _ _).alloc _)
  have me2 : BxAt W0 (W1.heap.size + 1) 0 (fuS l) := by rw [← hW0]; simpa using bx_made (W1.alloc (.cells #[.pointer (some ⟨p, 0, none⟩)] 50)) (fuS l)
  have box0 : Boxed W0 (mb + 1) 82 (.map (some mb)) := (b0.block _ (by omega)).trans box1
  have map0 := map1.same (b0.block mb (by omega))
  have BW : Hid (Below w.heap.size w W0) := b1.trans (b0.mono (by omega))
  rw [hW0]
  clear hW0 HC hW1 hWm bm x0 x1 x2 x3 x4 x5 x6 x7 x8 x9 x10 x11 box1 map1 b0 b1
  obtain ⟨g, hg⟩ : ∃ b, mb + 1 = b := ⟨_, rfl⟩
  obtain ⟨e1, he1⟩ : ∃ b, W1.heap.size = b := ⟨_, rfl⟩
  obtain ⟨e2, he2⟩ : ∃ b, e1 + 1 = b := ⟨_, rfl⟩
  rw [he1] at hsz1 me1 me2 ⊢
  rw [he2] at me2 ⊢
  have HG := Lib.hid hmb
  try rw [hszm]
  try rw [hg]
  rw [hg] at box0
  have O : Hid (g = mb + 1 ∧ e1 = mb + 2 ∧ e2 = mb + 3 ∧ W0.heap.size = mb + 4) := by unfold Hid; omega
  have BX0 := Lib.hid box0
  have MP0 := Lib.hid map0
  obtain ⟨rows, hrows⟩ : ∃ r, prs l E (fuS l) = r := ⟨_, rfl⟩
  have HR := Lib.hid hrows
  have HLN : Hid (rows.length ≤ 20000) := by unfold Hid; rw [← hrows]; exact prs_len HOK.out
  have HF64 : Hid (∀ x, x ∈ rows → x.2 < 18446744073709551616) := fun x hx => by
    have h1 : x.2 ∈ gpL l E := List.mem_map.2 ⟨x, by rw [hrows]; exact hx, rfl⟩
    have := gp_lt HOK.out h1
    exact Nat.lt_of_lt_of_le this (Nat.pow_le_pow_right (n := 2) (by omega) (show E.length ≤ 64 by have := HOK.out.m60; omega))
  clear hszm hsz1 hsz0 he1 he2 hg hrows box0 map0 hmb
  refine range_partsH (n := 8) w (fun b => b = mb) (fun _ _ => False) p l E (fuS l) e1 e2 rfl rfl (by decide) HP.out HOK.out (fu_lt l) HT.out ht ?hN ?n1 ?n2 ?hw0 (GrI w W0 mb rows) (fun _ _ => False) ?hIb ?hIo ?hIv ?hIw ?hIx ?h0
    (fun x => { tmps := #[.pointer (some ⟨p, 0, none⟩), undef, .map none, .pointer (some ⟨g, 0, none⟩), undef, .int .u64 x.2, .map (some mb), .pointer (some ⟨p, 0, none⟩), .pointer (some ⟨p, 0, none⟩), .pointer (some ⟨p, 0, none⟩), .pointer (some ⟨p, 1, none⟩), bxV (fuS l), .func (.func 78) #[] #[.pointer (some ⟨e1, 0, none⟩), .pointer (some ⟨e2, 0, none⟩)], bxV x.1, .int .u64 x.2, undef, undef, undef], defers := [] }) ?assign ?body ?done ?stop
  case hN => intro b hb; have := O.out; have := HG.out; rw [hb]; omega
  case n1 => have := O.out; exact ⟨fun e => by omega, by omega⟩
  case n2 => have := O.out; exact ⟨fun e => by omega, by omega⟩
  case hw0 => have := O.out; have := HG.out; omega
  case hIb => exact fun k W W' hI hb _ => hI.turn (by have := O.out; omega) (by have := O.out; have := HG.out; omega) hb
  case hIo => exact fun _ _ _ _ hb => hb.elim
  case hIv => exact fun _ _ _ _ _ _ hb => hb.elim
  case hIw =>
    intro k W hI
    have := O.out
    exact ⟨hI.bel, hI.cell me1 (by show e1 ≠ mb; omega), fun i hi => hI.cell (me2 i hi) (by show e2 ≠ mb; omega)⟩
  case hIx => rintro k X Y row h _ _; exact h
  case h0 => exact ⟨BW.out, Nat.le_refl _, fun _ _ _ => rfl, MP0.out.congr fun s => by unfold gpK; simp⟩
  case assign =>
    intro l' m x W K hK
    unfold bxV
    gi_wp2
    exact hK
  case body =>
    rintro l' m k x V hx hI hsz
    rw [HR.out] at hx
    obtain ⟨C, F⟩ := x
    have hF := HF64.out _ (List.mem_of_getElem? hx)
    have HX := Lib.hid hx
    have HI := Lib.hid hI
    have hgV : V.cell? ⟨g, 0, none⟩ = some (.map (some mb)) := hI.cell BX0.out.cell (by have := O.out; show g ≠ mb; omega)
    obtain ⟨D, hown, hD⟩ := hI.mp
    have HD := Lib.hid hD
    have hkn : k < maxLen := by
      have h1 := (List.getElem?_eq_some_iff.1 hx).1
      have h2 := HLN.out
      unfold maxLen; omega
    have hwf : (Lit.int .u64 (F : Int)).wf = true := by
      have hF : F < 18446744073709551616 := hF
      exact WalkArith.wf_u64 (by omega)
    clear hx hI hsz hD hF
    dsimp only
    gi_wp2_with (gi_at_mapUpdate; refine wpListIn_mapUpdate_own _ rfl _ _ _ 82 rfl 54 4 lawU Tryd.underlying82 asIsK mb k D rfl hown hkn _ _ (.int .u64 (F : Int)) rfl rfl (keyOf_int_mk Tryd.underlying54 hwf) (.held (.bool true)) [] rfl ?_)
    intro w1 hown1 hgrow1
    have I1 : GrI w W0 mb rows (k + 1) w1 := by
      have h := HI.out
      have hO := O.out
      have hG := HG.out
      refine ⟨h.bel.grown hgrow1 h.bel.size (fun j e => by cases e; omega), Nat.le_trans h.sz hgrow1.size, fun b h1 h2 => (hgrow1.block b (Nat.lt_of_lt_of_le h1 h.sz) (fun e => by injection e with e; exact h2 e)).trans (h.old b h1 h2), ?_⟩
      refine MapB.congr ⟨_, hown1, HD.out.put (F : Int)⟩ fun s => ?_
      rw [gpK_next HX.out]
    have K1 : Kg (fun b => b = mb) (fun _ _ => False) V w1 := ⟨hgrow1.os, hgrow1.tape, hgrow1.output, hgrow1.size, fun b h1 h2 _ => hgrow1.block b h1 (fun e => by injection e with e; exact h2 e), fun _ q => q.elim⟩
    have PP : Hid (∀ a, rgPost (GrI w W0 mb rows) (fun _ _ => False) (fun b => b = mb) (fun _ _ => False) W0.heap.size k V .normal a w1) := fun a => ⟨K1, I1⟩
    clear hown1 hgrow1 I1 K1 hown hgV
    gi_wp2
    exact PP.out _
  case done =>
    intro W hI hK
    rw [HR.out] at hI
    have hgV : W.cell? ⟨g, 0, none⟩ = some (.map (some mb)) := hI.cell BX0.out.cell (by have := O.out; show g ≠ mb; omega)
    have RR : Hid (GroP l E w (.returned (.map (some mb))) (W.putObj W0.heap.size (.deferred none))) := by
      have hO := O.out
      have hGG := HG.out
      refine ⟨hI.bel.grown (grownBy_putObj' _ _ _) hI.bel.size (fun k e => by cases e; omega), mb, rows.length, rfl, ?_⟩
      refine (hI.mp.same (World.putObj_heap_other (by omega))).congr fun s => ?_
      rw [← HR.out, gpK_all]
    have HK2 := Lib.hid hK
    clear hI hK
    gi_wp2
    refine ⟨by simp, .inl ⟨_, _, rfl, run_takeDeferred HK2.out, ?_⟩⟩
    exact ⟨_, by simp [results, Tryd.results46, go_sem], RR.out⟩
  case stop => exact fun k W _ h _ => h.elim
end Go.Proofs.YtadfmplafehjlaaDoor
