/-
  Package edit: setsOf.
  Package edit: prime boxes decide.
-/
import Derived.Test.YtadfmplafehjlaaDoorEP17
namespace Go.Proofs.YtadfmplafehjlaaDoor
open Go.RowKit Go.WideMaps Go.Maps Go.Shelf

attribute [local go_sem] Oper.semAt_some

/-- The places of the codes of field number i in a box. -/
def plL (l : List Fd) (B : Nat → Nat) (i : Nat) : List Nat := lst (fun k => (B i).testBit k) (fd l i).cs.length
/-- The codes at the first k places. -/
def cdL (cs : List Int) (NL : List Nat) (k : Nat) : List Int := (NL.take k).map (fn cs)
/-- The sets of a box. -/
def stB (l : List Fd) (B : Nat → Nat) : List (List Int) := (List.range l.length).map fun i => (plL l B i).map (fn (fd l i).cs)
theorem cdL_len {cs : List Int} {NL : List Nat} {k : Nat} (h : k ≤ NL.length) : (cdL cs NL k).length = k := by unfold cdL; rw [List.length_map, List.length_take]; omega
theorem cdL_next {cs : List Int} {NL : List Nat} {k : Nat} (h : k < NL.length) : cdL cs NL (k + 1) = cdL cs NL k ++ [fn cs (NL.getD k 0)] := by
  unfold cdL
  rw [List.take_add_one, List.map_append, List.getElem?_eq_getElem h, List.getD_eq_getElem?_getD, List.getElem?_eq_getElem h]; rfl
theorem stB_at {l : List Fd} {B : Nat → Nat} {i : Nat} (h : i < l.length) : st (stB l B) i = (plL l B i).map (fn (fd l i).cs) := by
  unfold st stB
  rw [List.getD_eq_getElem?_getD, List.getElem?_map, List.getElem?_range h]; rfl
theorem stB_len (l : List Fd) (B : Nat → Nat) : (stB l B).length = l.length := by simp [stB]
theorem infoSI : (Tryd.prog.info? 26).map (fun i => (i.zero, i.size, i.bytes)) = some (some (.slice none 0 0), 1, 24) := by kernel_rfl
theorem zerosS_ex (n : Nat) : ∃ Z, madeCells #[Value.slice none 0 0] n = Z ∧ ∀ j, j < n → Z[j]? = some (Value.slice none 0 0) := ⟨_, rfl, fun j h => by
  rw [← Array.getElem?_toList, toList_madeCells_one, List.getElem?_replicate]
  exact if_pos h⟩
/-- A row apart from a block. -/
def RdO (ob lo : Nat) (W : World) (a : Option Addr) (l : List Int) : Prop := Rd W a l ∧ ∀ b o, a = some ⟨b, o, none⟩ → b ≠ ob ∧ lo ≤ b
theorem RdO.keep {ob lo : Nat} {W W' : World} {a : Option Addr} {l : List Int} (h : RdO ob lo W a l) (hk : Kx (fun b => b = ob) W W') : RdO ob lo W' a l :=
  ⟨⟨h.1.1, fun h0 => by
    obtain ⟨b, o, e, hl, hc⟩ := h.1.2 h0
    exact ⟨b, o, e, Nat.lt_of_lt_of_le hl hk.size, fun j hj => hk.cell (hc j hj) (h.2 b o e).1⟩⟩, h.2⟩
/-- The sets of the first i fields stand, the other ones are empty. -/
def SoO (l : List Fd) (B : Nat → Nat) (ob lo i : Nat) (W : World) : Prop :=
  (∀ q, q < l.length → if q < i then ∃ a c, W.cell? ⟨ob, q, none⟩ = some (.slice a (st (stB l B) q).length c) ∧ RdO ob lo W a (st (stB l B) q) else W.cell? ⟨ob, q, none⟩ = some (.slice none 0 0)) ∧ ∀ o, W.frozen? ⟨ob, o, none⟩ = false
/-- Field number i gets its codes. -/
structure SoI (l : List Fd) (B : Nat → Nat) (ob : Nat) (W3 : World) (i : Nat) (cs : List Int) (NL : List Nat) (k : Nat) (v : Value) (W : World) : Prop where
  kx : Kx (fun b => b = ob) W3 W
  own : W.ownsRow W3.heap.size 3 1 v k ((cdL cs NL k).map (Value.int .i64))
  ci : W.cell? ⟨ob, i, none⟩ = some v
  oth : ∀ q, q ≠ i → W.cell? ⟨ob, q, none⟩ = W3.cell? ⟨ob, q, none⟩
  fr : ∀ o, W.frozen? ⟨ob, o, none⟩ = false
theorem SoI.add {l : List Fd} {B : Nat → Nat} {ob i k g cap : Nat} {W3 W W5 w6 : World} {cs : List Int} {NL : List Nat} {v : Value} {x : Int} (h : SoI l B ob W3 i cs NL k v W) (hk : k < NL.length) (hx : fn cs (NL.getD k 0) = x) (hob : ob < W3.heap.size) (hb : Below W.heap.size W W5)
    (hown : w6.ownsRow W3.heap.size 3 1 (.slice (some ⟨g, 0, none⟩) (k + 1) cap) (k + 1) ((cdL cs NL k).map (Value.int .i64) ++ [.int .i64 x])) (hg : W5.grownBy w6 v.ownBlock) :
    SoI l B ob W3 i cs NL (k + 1) (.slice (some ⟨g, 0, none⟩) (k + 1) cap) (w6.setCell ⟨ob, i, none⟩ (.slice (some ⟨g, 0, none⟩) (k + 1) cap)) := by
  have sz := h.kx.size
  have sz5 := hb.size
  have no : some ob ≠ v.ownBlock := fun q => by have := (h.own.lt ob q.symm).1; omega
  have obl : ob < W.heap.size := by omega
  have blk : w6.heap[ob]? = W.heap[ob]? := (hg.block ob (by omega) no).trans (hb.block ob obl)
  have gne : g ≠ ob := fun e => by have := (hown.lt g rfl).1; omega
  have K6 : Kx (fun b => b = ob) W3 w6 := by
    refine ⟨hg.os.trans (hb.os.trans h.kx.os), hg.tape.trans (hb.tape.trans h.kx.tape), hg.output.trans (hb.output.trans h.kx.output), by have := hg.size; omega, fun b h1 h2 => ?_⟩
    refine (hg.block b (by omega) fun q => ?_).trans ((hb.block b (by omega)).trans (h.kx.block b h1 h2))
    have := (h.own.lt b q.symm).1
    omega
  refine ⟨K6.trans kx_set, ?_, ?_, fun q hq => ?_, fun o => ?_⟩
  · rw [cdL_next hk, List.map_append, hx]
    exact own_same hown fun b e => set_block w6 ob i _ (fun q => by
      have e : some g = some b := e
      injection e with e
      exact gne (e.trans q))
  · exact World.cell?_setCell_same _ _ _ ((World.cell?_of_block blk).trans h.ci)
  · rw [World.cell?_setCell_other _ _ _ _ (fun e => by injection e with _ e; exact hq e.symm), World.cell?_of_block blk]
    exact h.oth q hq
  · rw [World.frozen?_setCell]
    exact (World.frozen?_of_block blk).trans (h.fr o)
theorem SoI.done {l : List Fd} {B : Nat → Nat} {ob lo i : Nat} {W3 W : World} {v : Value} (h0 : SoO l B ob lo i W3) (hlo : lo ≤ W3.heap.size) (hi : i < l.length) (hob : ob < W3.heap.size) (hn : (plL l B i).length ≤ 100) (h : SoI l B ob W3 i (fd l i).cs (plL l B i) (plL l B i).length v W) : SoO l B ob lo (i + 1) W := by
  refine ⟨fun q hq => ?_, h.fr⟩
  have hs := h0.1 q hq
  by_cases e : q = i
  · subst e
    rw [if_pos (by omega)]
    have e1 : st (stB l B) q = cdL (fd l q).cs (plL l B q) (plL l B q).length := by rw [stB_at hq]; unfold cdL; rw [List.take_length]
    have hl : (cdL (fd l q).cs (plL l B q) (plL l B q).length).length = (plL l B q).length := cdL_len (Nat.le_refl _)
    have ho := h.own
    rw [← hl] at ho
    rw [hl] at ho
    obtain ⟨a, c, hv, hr⟩ := rdI_own (l := cdL (fd l q).cs (plL l B q) (plL l B q).length) (by rw [hl]; exact ho) (by rw [hl]; omega)
    refine ⟨a, c, ?_, ?_⟩
    · rw [h.ci, hv, e1]
    · rw [e1]
      refine ⟨hr, fun b o ea => ?_⟩
      have := (h.own.lt b (by rw [hv, ea]; rfl)).1
      exact ⟨by omega, by omega⟩
  · by_cases hq2 : q < i
    · rw [if_pos hq2] at hs
      rw [if_pos (by omega)]
      obtain ⟨a, c, h1, h2⟩ := hs
      exact ⟨a, c, (h.oth q e).trans h1, h2.keep h.kx⟩
    · rw [if_neg hq2] at hs
      rw [if_neg (by omega)]
      exact (h.oth q e).trans hs
/-- A slice that reads as lists, in blocks of a kind. -/
def RdLP (P : Nat → Prop) (W : World) (a : Option Addr) (l : List (List Int)) : Prop :=
  l.length ≤ 9223372036854775807 ∧ (0 < l.length → ∃ b off, a = some ⟨b, off, none⟩ ∧ b < W.heap.size ∧ P b ∧ ∀ j, j < l.length → ∃ a' c', W.cell? ⟨b, off + j, none⟩ = some (.slice a' (st l j).length c') ∧ Rd W a' (st l j) ∧ ∀ b' o', a' = some ⟨b', o', none⟩ → P b')
theorem RdLP.rd {P : Nat → Prop} {W : World} {a : Option Addr} {l : List (List Int)} (h : RdLP P W a l) : RdL W a l :=
  ⟨h.1, fun h0 => by
    obtain ⟨b, off, e, hl, _, hc⟩ := h.2 h0
    exact ⟨b, off, e, hl, fun j hj => by obtain ⟨a', c', h1, h2, _⟩ := hc j hj; exact ⟨a', c', h1, h2⟩⟩⟩
theorem RdLP.mono {P Q : Nat → Prop} {W : World} {a : Option Addr} {l : List (List Int)} (h : RdLP P W a l) (hq : ∀ b, P b → Q b) : RdLP Q W a l :=
  ⟨h.1, fun h0 => by
    obtain ⟨b, off, e, hl, hp, hc⟩ := h.2 h0
    exact ⟨b, off, e, hl, hq b hp, fun j hj => by obtain ⟨a', c', h1, h2, h3⟩ := hc j hj; exact ⟨a', c', h1, h2, fun b' o' e' => hq b' (h3 b' o' e')⟩⟩⟩
theorem RdLP.keep {P N : Nat → Prop} {W W' : World} {a : Option Addr} {l : List (List Int)} (h : RdLP P W a l) (hk : Kx N W W') (hn : ∀ b, P b → ¬ N b) : RdLP P W' a l :=
  ⟨h.1, fun h0 => by
    obtain ⟨b, off, e, hl, hp, hc⟩ := h.2 h0
    refine ⟨b, off, e, Nat.lt_of_lt_of_le hl hk.size, hp, fun j hj => ?_⟩
    obtain ⟨a', c', h1, h2, h3⟩ := hc j hj
    refine ⟨a', c', hk.cell h1 (hn b hp), ⟨h2.1, fun q => ?_⟩, h3⟩
    obtain ⟨b2, o2, e2, hl2, hc2⟩ := h2.2 q
    exact ⟨b2, o2, e2, Nat.lt_of_lt_of_le hl2 hk.size, fun k hk2 => hk.cell (hc2 k hk2) (hn b2 (h3 b2 o2 e2))⟩⟩
def SoP (l : List Fd) (B : Nat → Nat) (w : World) (e : Ending) (w' : World) : Prop := (∃ a c, e = .returned (.slice a (stB l B).length c) ∧ RdLP (fun b => w.heap.size ≤ b) w' a (stB l B)) ∧ Below w.heap.size w w'
set_option maxRecDepth 100000 in
set_option maxHeartbeats 16000000 in
theorem setsOf_c (p : Nat) (l : List Fd) (E : List Ed) (B : Nat → Nat) (w : World) (hP : PlR w p l E) (hok : Ok l E) (hV : Vb l B)
    (hT : TabAt 0 Lib.deBruijn64tab w) (ht : 0 < w.heap.size) :
    Calls Tryd.prog 39 #[.pointer (some ⟨p, 0, none⟩), bxV B] w (SoP l B w) := by
  have mixed : Tryd.prog.follows .mixedOrders = true := by kernel_rfl
  obtain ⟨i1, hj, hy0, hy1, hy2⟩ := info_parts infoIn
  obtain ⟨W1, hW1⟩ : ∃ V, w.alloc (.cells #[.int .u64 (B 0), .int .u64 (B 1), .int .u64 (B 2), .int .u64 (B 3), .int .u64 (B 4), .int .u64 (B 5), .int .u64 (B 6), .int .u64 (B 7), .int .u64 (B 8), .int .u64 (B 9), .int .u64 (B 10), .int .u64 (B 11)] 57) = V := ⟨_, rfl⟩
  obtain ⟨z0, hz0⟩ : ∃ q, w.heap.size = q := ⟨_, rfl⟩
  have b1 : Below w.heap.size w W1 := by rw [← hW1]; exact bel_one _ _
  have a1 : BxAt W1 z0 0 B := by rw [← hW1, ← hz0]; exact bx_made w B
  have s1 : W1.heap.size = z0 + 1 := by rw [← hW1, ← hz0]; simp
  obtain ⟨n, hn⟩ : ∃ n, l.length = n := ⟨_, rfl⟩
  have HN := Lib.hid hn
  have n12 : n ≤ 12 := by rw [← hn]; exact hok.n12
  have hm0 := run_make_row' (P := Tryd.prog) 41 26 (.slice none 0 0) 24 Tryd.underlying41 infoSI rfl .i64 .i64 n (by omega) (by omega)
  obtain ⟨Z, hZ, hZ2⟩ := zerosS_ex n
  rw [hZ] at hm0
  obtain ⟨W2, hW2⟩ : ∃ V, W1.alloc (.cells Z 26) = V := ⟨_, rfl⟩
  obtain ⟨ob, hob⟩ : ∃ q, W1.heap.size = q := ⟨_, rfl⟩
  have b2 : Below W1.heap.size W1 W2 := by rw [← hW2]; exact bel_one _ _
  have B12 : Hid (Below w.heap.size w W2) := b1.trans (b2.mono b1.size)
  have OB : Hid (SoO l B ob z0 0 W2 ∧ ob < W2.heap.size ∧ z0 < W2.heap.size ∧ w.heap.size = z0 ∧ ob = z0 + 1 ∧ BxAt W2 z0 0 B) := by
    refine ⟨⟨fun q hq => ?_, fun o => ?_⟩, ?_, ?_, hz0, by omega, a1.below b2 (by omega)⟩
    · rw [if_neg (by omega), ← hW2, ← hob, World.cell?_alloc_new]; exact hZ2 q (by omega)
    · rw [← hW2, ← hob]; simp
    · rw [← hW2, ← hob]; simp
    · rw [← hW2]; simp; omega
  have HP := Lib.hid hP
  have HT := Lib.hid hT
  have HOK := Lib.hid hok
  have HV := Lib.hid hV
  obtain ⟨fb, fc, f0, flt, hfl⟩ := hP.fs
  have f1 := (b1.cell (p := ⟨p, 0, none⟩) (cellLt f0)).trans f0
  have f2 := (B12.out.cell (p := ⟨p, 0, none⟩) (cellLt f0)).trans f0
  rw [hn] at f1 f2
  have HFL := Lib.hid hfl
  unfold bxV
  clear hP hT hok hV hfl hn b1 b2 a1 s1 hZ hZ2 f0
  go_enter Tryd.func39, Tryd.ntmps39
  go_wp2_with fail
  clear hW1 hW2 hm0 f1 f2
  go_loopw [6, 7, 9, 21] (fun _ _ _ iv wr => ∃ i : Nat, iv = .int .i64 i ∧ Hid (i ≤ n ∧ SoO l B ob z0 i wr ∧ Below z0 w wr ∧ W2.heap.size ≤ wr.heap.size ∧ Kx (fun b => b = ob) W2 wr)) (fun _ _ _ iv _ => n - (intOf iv).toNat)
  case atStart => exact ⟨0, rfl, Nat.zero_le _, OB.out.1, by have := B12.out; rw [OB.out.2.2.2.1] at this; exact this, Nat.le_refl _, Kx.refl _ _⟩
  case round =>
    obtain ⟨i, rfl, hS⟩ := hrel
    obtain ⟨hi, hso, hb, hsz, hkx⟩ := hS.out
    have HSO := Lib.hid hso
    have HKW := Lib.hid hkx
    have BW : Hid (Below w.heap.size w wr) := by unfold Hid; rw [OB.out.2.2.2.1]; exact hb
    by_cases hlt : i < n
    · have hlt' : (i : Int) < (n : Int) := by omega
      have hi0 : (0 : Int) ≤ (i : Int) := by omega
      have hi12 : (i : Int) < 12 := by omega
      have hil : i < l.length := by rw [HN.out]; exact hlt
      obtain ⟨⟨c0, ⟨ga, gc, c1, hrc⟩, c2⟩, ⟨mm, c3, hmm, _⟩, h, c4', c4, hlt4, _⟩ := HFL.out i hil
      have lift : ∀ {o : Nat} {x : Value}, w.cell? ⟨fb, o, none⟩ = some x → wr.cell? ⟨fb, o, none⟩ = some x := fun e => (BW.out.cell (p := ⟨fb, _, none⟩) flt).trans e
      replace c0 := lift c0
      replace c1 := lift c1
      replace c2 := lift c2
      replace c3 := lift c3
      replace c4 := lift c4
      have hcl0 := HOK.out.c1 i hil
      have hcl20 := HOK.out.c20 i hil
      obtain ⟨gb, go, ega, hgl, hgc⟩ := hrc.2 hcl0
      subst ega
      have PLe : Hid (bz (fun k => (B i).testBit k) (fd l i).cs.length = B i) := bz_of (HV.out.lt i hil)
      obtain ⟨NL, hNL⟩ : ∃ L, plL l B i = L := ⟨_, rfl⟩
      have HNL := Lib.hid hNL
      have NLl : NL.length ≤ 20 := by rw [← hNL]; exact Nat.le_trans (lst_le _ _) hcl20
      have NLm : Hid (∀ k, k < NL.length → NL.getD k 0 < (fd l i).cs.length) := by
        have h1 : ∀ t, t ∈ NL → t < (fd l i).cs.length := fun t ht => by
          rw [← hNL] at ht
          unfold plL lst at ht
          exact List.mem_range.1 (List.mem_filter.1 ht).1
        exact fun k hk => h1 _ (by rw [List.getD_eq_getElem?_getD, List.getElem?_eq_getElem hk]; exact List.getElem_mem hk)
      have CN : Hid (∀ V, Below w.heap.size w V → Calls Tryd.prog 28 #[.int .u64 (B i : Nat)] V (NuP (toI NL) V)) := fun V hV => by
        have := numbers_c (fun k => (B i).testBit k) (fd l i).cs.length V (by omega) (tab_below HT.out ht hV) (Nat.lt_of_lt_of_le ht hV.size)
        rw [PLe.out] at this
        have e : lst (fun k => (B i).testBit k) (fd l i).cs.length = NL := hNL
        rw [e] at this; exact this
      obtain ⟨u, hu⟩ : ∃ u, fd l i = u := ⟨_, rfl⟩
      have HU := Lib.hid hu
      rw [hu] at c0 c1 c2 c4 hgc hcl0 hcl20
      rw [hu] at NLm
      obtain ⟨cl, hcl⟩ : ∃ c, u.cs.length = c := ⟨_, rfl⟩
      rw [hcl] at c1 c4 hcl20 NLm
      have HGC := Lib.hid hgc
      have HCL := Lib.hid hcl
      obtain ⟨W8, hW8⟩ : ∃ W, wr.alloc (.cells #[.string u.nm, .slice (some ⟨gb, go, none⟩) cl gc, .int .i64 u.wt, .map (some mm), .slice (some ⟨h, 0, none⟩) cl c4'] 94) = W := ⟨_, rfl⟩
      obtain ⟨z7, hz7⟩ : ∃ q, wr.heap.size = q := ⟨_, rfl⟩
      have b8 : Below wr.heap.size wr W8 := by rw [← hW8]; exact bel_one _ _
      have e1 : W8.cell? ⟨z7, 1, none⟩ = some (.slice (some ⟨gb, go, none⟩) cl gc) := by rw [← hW8, ← hz7, World.cell?_alloc_new]; rfl
      have x0 : W8.cell? ⟨z0, i, none⟩ = some (.int .u64 (B i)) := by
        have h1 := hkx.cell (OB.out.2.2.2.2.2 i (by omega)) (by have := OB.out.2.2.2.2.1; show z0 ≠ ob; omega)
        rw [Nat.zero_add] at h1
        exact (b8.cell (p := ⟨z0, i, none⟩) (cellLt h1)).trans h1
      have C1 := Lib.hid (CN.out W8 (BW.out.trans (b8.mono BW.out.size)))
      have B8 := Lib.hid b8
      have LW : Hid (z7 < W8.heap.size ∧ ob < wr.heap.size ∧ wr.heap.size = z7 ∧ gb < w.heap.size) := ⟨cellLt e1, by have := OB.out.2.1; omega, hz7, hgl⟩
      have E1 := Lib.hid e1
      obtain ⟨bi, hbi⟩ : ∃ q, B i = q := ⟨_, rfl⟩
      rw [hbi] at C1 x0
      obtain ⟨wq, hwq⟩ : ∃ V : World, V = wr := ⟨_, rfl⟩
      subst hwq
      clear lift hS hi hso hb hsz hkx b8 hrc hmm hlt4 hNL hu hcl hgc hbi PLe
      go_wp2_with fail
      refine C1.out.mono ?_
      rintro e1 W3 ⟨nv, rfl, hnv, b3⟩
      obtain ⟨na, nc, rfl, hnr⟩ := rdI_own hnv (by rw [toI_len]; omega)
      have HNR := Lib.hid hnr
      have HNB : Hid (∀ b o, na = some ⟨b, o, none⟩ → ob < b) := fun b o e => by
        subst e
        have h1 := (hnv.lt b rfl).1
        have h2 := LW.out
        omega
      have B3 : Hid (Below wq.heap.size wq W3) := B8.out.trans (b3.mono B8.out.size)
      have SO3 : Hid (SoO l B ob z0 i W3) := by
        have k := Kx.of_below (N := fun b => b = ob) B3.out
        refine ⟨fun q hq => ?_, fun o => (B3.out.frozen (p := ⟨ob, o, none⟩) LW.out.2.1).trans (HSO.out.2 o)⟩
        have := HSO.out.1 q hq
        by_cases e : q < i
        · rw [if_pos e] at this ⊢
          obtain ⟨a, c, h1, h2⟩ := this
          exact ⟨a, c, (B3.out.cell (p := ⟨ob, q, none⟩) LW.out.2.1).trans h1, h2.keep k⟩
        · rw [if_neg e] at this ⊢
          exact (B3.out.cell (p := ⟨ob, q, none⟩) LW.out.2.1).trans this
      have obl : Hid (ob < W3.heap.size) := Nat.lt_of_lt_of_le LW.out.2.1 B3.out.size
      have C3 : Hid (W3.cell? ⟨z7, 1, none⟩ = some (.slice (some ⟨gb, go, none⟩) cl gc) ∧ ∀ t, t < cl → W3.cell? ⟨gb, go + t, none⟩ = some (.int .i64 (fn u.cs t))) :=
        ⟨(b3.cell (p := ⟨z7, 1, none⟩) LW.out.1).trans E1.out, fun t ht => ((BW.out.trans (B3.out.mono BW.out.size)).cell (p := ⟨gb, go + t, none⟩) LW.out.2.2.2).trans (HGC.out t (by rw [HCL.out]; exact ht))⟩
      have S0 : Hid (SoI l B ob W3 i u.cs NL 0 (.slice none 0 0) W3) := by
        have := SO3.out.1 i (by rw [HN.out]; exact hlt)
        rw [if_neg (by omega)] at this
        exact ⟨Kx.refl _ _, World.ownsRow_nil _ _ _ _, this, fun _ _ => rfl, SO3.out.2⟩
      obtain ⟨nl, hnl⟩ : ∃ q, NL.length = q := ⟨_, rfl⟩
      have HNLL := Lib.hid hnl
      rw [toI_len, hnl]
      rw [hnl] at NLl
      clear hW8 e1 x0 C1 hnv hnr b3 hnl
      go_wp2_with fail
      go_loopw [9, 31] (fun _ iv wr => ∃ (k : Nat) (v : Value), iv = .int .i64 k ∧ Hid (k ≤ nl ∧ SoI l B ob W3 i u.cs NL k v wr)) (fun _ iv _ => nl - (intOf iv).toNat)
      case atStart => exact ⟨0, _, rfl, Nat.zero_le _, S0.out⟩
      case round =>
        obtain ⟨k, v, rfl, hS⟩ := hrel
        obtain ⟨hk, hin⟩ := hS.out
        have HIN := Lib.hid hin
        by_cases hlt2 : k < nl
        · have hlt2' : (k : Int) < (nl : Int) := by omega
          have hk0 : (0 : Int) ≤ (k : Int) := by omega
          have hkn : k < NL.length := by rw [HNLL.out]; exact hlt2
          obtain ⟨nb, no, ena, hnl2, hnc⟩ := HNR.out.2 (by rw [toI_len]; omega)
          subst ena
          have nbo : Hid (nb ≠ ob) := fun e => by have := HNB.out nb no rfl; omega
          have q0 := HIN.out.kx.cell (hnc k (by rw [toI_len]; exact hkn)) nbo.out
          rw [fn_toI hkn] at q0
          obtain ⟨t, hte⟩ : ∃ t, NL.getD k 0 = t := ⟨_, rfl⟩
          have htl : t < cl := by rw [← hte]; exact NLm.out k hkn
          obtain ⟨x, hx⟩ : ∃ x, fn u.cs t = x := ⟨_, rfl⟩
          have HXV : Hid (fn u.cs (NL.getD k 0) = x) := by unfold Hid; rw [hte]; exact hx
          rw [hte] at q0
          have ht0 : (0 : Int) ≤ (t : Int) := by omega
          have htI : (t : Int) < (cl : Int) := by omega
          obtain ⟨wo, hwo⟩ : ∃ V : World, V = wr := ⟨_, rfl⟩
          subst hwo
          have HOB : Hid (ob < W3.heap.size) := obl.out
          have gne : gb ≠ ob := by have := LW.out.2.2.2; have := OB.out.2.2.2; omega
          have HZ7 : Hid (z7 < W3.heap.size ∧ gb < W3.heap.size ∧ z7 ≠ ob ∧ gb ≠ ob) := ⟨cellLt C3.out.1, cellLt (C3.out.2 t htl), by have := LW.out.2.1; have := LW.out.2.2.1; omega, gne⟩
          have HKX := Lib.hid HIN.out.kx
          have HSS : Hid (∀ V, Below wo.heap.size wo V → S2e ⟨z7, 1, none⟩ ⟨gb, go + t, none⟩ (.slice (some ⟨gb, go, none⟩) cl gc) (.int .i64 x) V) := fun V hV => by
            have g1 := HKX.out.cell C3.out.1 HZ7.out.2.2.1
            have g2 := HKX.out.cell (C3.out.2 t htl) HZ7.out.2.2.2
            rw [hx] at g2
            exact ⟨(hV.cell (p := ⟨z7, 1, none⟩) (cellLt g1)).trans g1, (hV.cell (p := ⟨gb, go + t, none⟩) (cellLt g2)).trans g2⟩
          have HOI : Hid (∀ V, Below wo.heap.size wo V → V.cell? ⟨ob, i, none⟩ = some v) := fun V hV => (hV.cell (p := ⟨ob, i, none⟩) (cellLt HIN.out.ci)).trans HIN.out.ci
          have HFZ : Hid (∀ V, Below wo.heap.size wo V → ∀ o, V.frozen? ⟨ob, o, none⟩ = false) := fun V hV o => (hV.frozen (p := ⟨ob, o, none⟩) (show ob < wo.heap.size from cellLt HIN.out.ci)).trans (HIN.out.fr o)
          have HOW := Lib.hid HIN.out.own
          have HKL : Hid (k < NL.length) := hkn
          obtain ⟨cs, hcs⟩ : ∃ c, u.cs = c := ⟨_, rfl⟩
          rw [hcs] at HIN HXV HOW
          have HCS := Lib.hid hcs
          clear hS hk hin hnl2 hnc hte hx gne hkn hcs
          go_wp2_with fail
          clear q0
          refine wp_region_noPanic ?_
          refine wp_region_held_drew (S := (S2e ⟨z7, 1, none⟩ ⟨gb, go + t, none⟩ (.slice (some ⟨gb, go, none⟩) cl gc) (.int .i64 x))) (by kernel_rfl) (by exact HSS.out _ (Below.refl _ _).drew) (fun hS => ?_)
          obtain ⟨WD, hWD⟩ : ∃ W, wo.drew = W := ⟨_, rfl⟩
          have D0 : Hid (Below wo.heap.size wo WD) := by unfold Hid; rw [← hWD]; exact (Below.refl _ _).drew
          rw [hWD] at hS ⊢
          clear hWD
          refine wpAnyH_take (i := 0) (v := ?v0a0) rfl (by kernel_rfl) (by kernel_rfl) (by kernel_rfl) (fun _ _ _ h => h) (Or.inl ⟨by rfl, ?hy0a0⟩) (by assumption) ?rest0a0
          case hy0a0 =>
            intro w hSw
            dsimp only [S2e] at hSw
            go_simp
            try with_reducible rfl
          simp only [Act.put, List.getElem_toArray, List.getElem_cons_succ, List.getElem_cons_zero, List.setIfInBounds_toArray, List.set_cons_zero, List.set_cons_succ]
          refine wpAnyH_take (i := 1) (v := ?v1a1) rfl (by kernel_rfl) (by kernel_rfl) (by kernel_rfl) (fun _ _ _ h => h) (Or.inl ⟨by rfl, ?hy1a1⟩) (by assumption) ?rest1a1
          case hy1a1 =>
            intro w hSw
            dsimp only [S2e] at hSw
            go_simp
            try with_reducible rfl
          simp only [Act.put, List.getElem_toArray, List.getElem_cons_succ, List.getElem_cons_zero, List.setIfInBounds_toArray, List.set_cons_zero, List.set_cons_succ]
          refine wpAnyH_take (i := 2) (v := ?v2a2) rfl (by kernel_rfl) (by kernel_rfl) (by kernel_rfl) (fun _ _ _ h => h) (Or.inl ⟨by rfl, ?hy2a2⟩) (by assumption) ?rest2a2
          case hy2a2 =>
            intro w hSw
            dsimp only [S2e] at hSw
            go_simp
            try with_reducible rfl
          simp only [Act.put, List.getElem_toArray, List.getElem_cons_succ, List.getElem_cons_zero, List.setIfInBounds_toArray, List.set_cons_zero, List.set_cons_succ]
          refine wpAnyH_take (i := 3) (v := ?v3a3) rfl (by kernel_rfl) (by kernel_rfl) (by kernel_rfl) (fun _ _ _ h => h) (Or.inl ⟨by rfl, ?hy3a3⟩) (by assumption) ?rest3a3
          case hy3a3 =>
            intro w hSw
            dsimp only [S2e] at hSw
            go_simp
            try with_reducible rfl
          simp only [Act.put, List.getElem_toArray, List.getElem_cons_succ, List.getElem_cons_zero, List.setIfInBounds_toArray, List.set_cons_zero, List.set_cons_succ]
          refine wpAnyH_take (i := 4) (v := ?v4a4) rfl (by kernel_rfl) (by kernel_rfl) (by kernel_rfl) (fun _ _ _ h => h) (Or.inl ⟨by rfl, ?hy4a4⟩) (by assumption) ?rest4a4
          case hy4a4 =>
            intro w hSw
            dsimp only [S2e] at hSw
            go_simp
            try with_reducible rfl
          simp only [Act.put, List.getElem_toArray, List.getElem_cons_succ, List.getElem_cons_zero, List.setIfInBounds_toArray, List.set_cons_zero, List.set_cons_succ]
          refine wpAnyH_take (i := 6) (v := ?v6a6) rfl (by kernel_rfl) (by kernel_rfl) (by kernel_rfl) (fun _ _ _ h => h) (Or.inl ⟨by rfl, ?hy6a6⟩) (by assumption) ?rest6a6
          case hy6a6 =>
            intro w hSw
            dsimp only [S2e] at hSw
            go_simp
            try with_reducible rfl
          simp only [Act.put, List.getElem_toArray, List.getElem_cons_succ, List.getElem_cons_zero, List.setIfInBounds_toArray, List.set_cons_zero, List.set_cons_succ]
          refine wpAnyH_take (i := 7) (v := ?v7a7) rfl (by kernel_rfl) (by kernel_rfl) (by kernel_rfl) (fun _ _ _ h => h) (Or.inl ⟨by rfl, ?hy7a7⟩) (by assumption) ?rest7a7
          case hy7a7 =>
            intro w hSw
            dsimp only [S2e] at hSw
            go_simp
            try with_reducible rfl
          simp only [Act.put, List.getElem_toArray, List.getElem_cons_succ, List.getElem_cons_zero, List.setIfInBounds_toArray, List.set_cons_zero, List.set_cons_succ]
          refine wpAnyH_take (i := 8) (v := ?v8a8) rfl (by kernel_rfl) (by kernel_rfl) (by kernel_rfl) (fun _ _ _ h => h) (Or.inl ⟨by rfl, ?hy8a8⟩) (by assumption) ?rest8a8
          case hy8a8 =>
            intro w hSw
            dsimp only [S2e] at hSw
            go_simp
            try with_reducible rfl
          simp only [Act.put, List.getElem_toArray, List.getElem_cons_succ, List.getElem_cons_zero, List.setIfInBounds_toArray, List.set_cons_zero, List.set_cons_succ]
          refine wpAnyH_take (i := 9) (v := ?v9a9) rfl (by kernel_rfl) (by kernel_rfl) (by kernel_rfl) (fun _ _ _ h => h) (Or.inl ⟨by rfl, ?hy9a9⟩) (by assumption) ?rest9a9
          case hy9a9 =>
            intro w hSw
            dsimp only [S2e] at hSw
            go_simp
            try with_reducible rfl
          simp only [Act.put, List.getElem_toArray, List.getElem_cons_succ, List.getElem_cons_zero, List.setIfInBounds_toArray, List.set_cons_zero, List.set_cons_succ]
          refine wpAnyH_take (i := 10) (v := ?v10a10) rfl (by kernel_rfl) (by kernel_rfl) (by kernel_rfl) (fun _ _ _ h => h) (Or.inl ⟨by rfl, ?hy10a10⟩) (by assumption) ?rest10a10
          case hy10a10 =>
            intro w hSw
            dsimp only [S2e] at hSw
            go_simp
            try with_reducible rfl
          simp only [Act.put, List.getElem_toArray, List.getElem_cons_succ, List.getElem_cons_zero, List.setIfInBounds_toArray, List.set_cons_zero, List.set_cons_succ]
          refine wpAnyH_take (i := 11) (v := ?v11a11) rfl (by kernel_rfl) (by kernel_rfl) (by kernel_rfl) (fun _ _ _ h => h) (Or.inl ⟨by rfl, ?hy11a11⟩) (by assumption) ?rest11a11
          case hy11a11 =>
            intro w hSw
            dsimp only [S2e] at hSw
            go_simp
            try with_reducible rfl
          simp only [Act.put, List.getElem_toArray, List.getElem_cons_succ, List.getElem_cons_zero, List.setIfInBounds_toArray, List.set_cons_zero, List.set_cons_succ]
          refine wpAnyH_ready (rs := [5, 12]) (by kernel_rfl) (by simp) ?_
          refine AllReadyH.cons rfl (fun K hK => ?_) (AllReadyH.cons rfl (fun K hK => ?_) AllReadyH.nil)
          · have ld0 := HOI.out WD D0.out
            go_simp
            refine hK _ _ hS (fun _ => ?_)
            clear hK K ld0
            try simp only [Act.put, List.setIfInBounds_toArray, List.set_cons_zero, List.set_cons_succ]
            refine wpAnyH_ready (rs := [12]) (by kernel_rfl) (by simp) ?_
            refine AllReadyH.cons rfl (fun K hK => ?_) AllReadyH.nil
            obtain ⟨W5, hW5⟩ : ∃ W, WD.alloc (.cells #[.int .i64 x] 3) = W := ⟨_, rfl⟩
            have b5 : Below WD.heap.size WD W5 := by rw [← hW5]; exact bel_one _ _
            have D5 : Hid (Below wo.heap.size wo W5) := D0.out.trans (b5.mono D0.out.size)
            have hS5 := HSS.out W5 D5.out
            go_simp
            try rw [hW5]
            refine hK _ _ hS5 (fun _ => ?_)
            clear hK K
            try simp only [Act.put, List.setIfInBounds_toArray, List.set_cons_zero, List.set_cons_succ]
            refine wpAnyH_ready (rs := [13]) (by kernel_rfl) (by simp) ?_
            refine AllReadyH.cons rfl (fun K hK => ?_) AllReadyH.nil
            rw [if_pos (by rfl)]
            refine wp_append_lies _ _ _ 26 rfl W3.heap.size 3 i1 (.int .i64 0) 1 8 Tryd.underlying26 hj hy0 hy1 hy2 rfl (by decide) v k ((cdL cs NL k).map (Value.int .i64)) rfl (keep_own HOW.out D5.out) ⟨WD.heap.size, 0, none⟩ 1 1 [.int .i64 x] rfl rfl (by rw [← hW5]; exact cell_one_new _ _ _) ?d1A (by decide) ?d2A ?d3A ?d4A _ rfl ?_
            case d1A => intro u hu; simp at hu; subst hu; rfl
            case d2A => unfold maxLen; omega
            case d3A => omega
            case d4A => have := HKX.out.size; have := D5.out.size; omega
            intro g6 cap6 w6 hown6 hgrow6 hat6 hlt6
            have NB : ∀ {b o : Nat} {u : Value}, W5.cell? ⟨b, o, none⟩ = some u → (b = ob ∨ b < W3.heap.size) → w6.cell? ⟨b, o, none⟩ = some u := fun {b o} {u} e hb => hgrow6.cell e (fun q => by
              have := (HOW.out.lt b q.symm).1
              have := HOB.out
              rcases hb with q | q <;> omega)
            have NS : ∀ {b o : Nat} {u : Value}, b ≠ ob → w6.cell? ⟨b, o, none⟩ = some u → (w6.setCell ⟨ob, i, none⟩ (.slice (some ⟨g6, 0, none⟩) (k + 1) cap6)).cell? ⟨b, o, none⟩ = some u := fun hb e => by
              rw [World.cell?_setCell_other _ _ _ _ (fun q => by injection q with q; exact hb q.symm)]; exact e
            have hS6 : S2e ⟨z7, 1, none⟩ ⟨gb, go + t, none⟩ (.slice (some ⟨gb, go, none⟩) cl gc) (.int .i64 x) w6 := ⟨NB hS5.1 (.inr HZ7.out.1), NB hS5.2 (.inr HZ7.out.2.1)⟩
            have hS7 : S2e ⟨z7, 1, none⟩ ⟨gb, go + t, none⟩ (.slice (some ⟨gb, go, none⟩) cl gc) (.int .i64 x) (w6.setCell ⟨ob, i, none⟩ (.slice (some ⟨g6, 0, none⟩) (k + 1) cap6)) := ⟨NS HZ7.out.2.2.1 hS6.1, NS HZ7.out.2.2.2 hS6.2⟩
            have P6 : Hid (w6.cell? ⟨ob, i, none⟩ = some v ∧ w6.frozen? ⟨ob, i, none⟩ = false) := by
              have h1 := HOI.out W5 D5.out
              have no : some ob ≠ v.ownBlock := fun q => by
                have := (HOW.out.lt ob q.symm).1
                have := HOB.out
                omega
              exact ⟨hgrow6.cell h1 no, (World.frozen?_of_block (hgrow6.block ob (cellLt h1) no)).trans (HFZ.out W5 D5.out i)⟩
            have I7 : Hid (SoI l B ob W3 i cs NL (k + 1) (.slice (some ⟨g6, 0, none⟩) (k + 1) cap6) (w6.setCell ⟨ob, i, none⟩ (.slice (some ⟨g6, 0, none⟩) (k + 1) cap6))) :=
              HIN.out.add HKL.out HXV.out HOB.out D5.out hown6 hgrow6
            clear hown6 hgrow6 hat6 hlt6 hW5 b5 NB NS
            refine hK _ _ hS6 (fun _ => ?_)
            clear hK K
            try simp only [Act.put, List.setIfInBounds_toArray, List.set_cons_zero, List.set_cons_succ]
            refine wpAnyH_take (i := 14) (v := ?v14yA) rfl (by kernel_rfl) (by kernel_rfl) (by kernel_rfl) (fun _ _ _ h => h) (Or.inl ⟨by rfl, ?hy14yA⟩) (by assumption) ?rest14yA
            case hy14yA =>
              intro w hSw
              dsimp only [S2e] at hSw
              go_simp
              try with_reducible rfl
            simp only [Act.put, List.getElem_toArray, List.getElem_cons_succ, List.getElem_cons_zero, List.setIfInBounds_toArray, List.set_cons_zero, List.set_cons_succ]
            refine wpAnyH_ready (rs := [15]) (by kernel_rfl) (by simp) ?_
            refine AllReadyH.cons rfl (fun K hK => ?_) AllReadyH.nil
            obtain ⟨p6, p7⟩ := P6.out
            obtain ⟨W8, hW8⟩ : ∃ W, w6.setCell ⟨ob, i, none⟩ (.slice (some ⟨g6, 0, none⟩) (k + 1) cap6) = W := ⟨_, rfl⟩
            rw [hW8] at I7 hS7
            go_simp
            try rw [hW8]
            refine hK _ _ hS7 (fun _ => ?_)
            clear hK K hS6 hS7 hW8 p6 p7 P6 hS5 hS
            try simp only [Act.put, List.setIfInBounds_toArray, List.set_cons_zero, List.set_cons_succ]
            refine wpAnyH_done (by kernel_rfl) ?_ _
            refine NoPanic.normal ?_
            clear HOW HOI HSS HFZ
            go_wp2
            go_roundw
            case rel => exact ⟨k + 1, _, by go_num, hlt2, by rw [HCS.out]; exact I7.out⟩
            case measure => simp [intOf]; omega
          · obtain ⟨W5, hW5⟩ : ∃ W, WD.alloc (.cells #[.int .i64 x] 3) = W := ⟨_, rfl⟩
            have b5 : Below WD.heap.size WD W5 := by rw [← hW5]; exact bel_one _ _
            have D5 : Hid (Below wo.heap.size wo W5) := D0.out.trans (b5.mono D0.out.size)
            have hS5 := HSS.out W5 D5.out
            go_simp
            try rw [hW5]
            refine hK _ _ hS5 (fun _ => ?_)
            clear hK K
            try simp only [Act.put, List.setIfInBounds_toArray, List.set_cons_zero, List.set_cons_succ]
            refine wpAnyH_ready (rs := [5]) (by kernel_rfl) (by simp) ?_
            refine AllReadyH.cons rfl (fun K hK => ?_) AllReadyH.nil
            have ld0 := HOI.out W5 D5.out
            go_simp
            refine hK _ _ hS5 (fun _ => ?_)
            clear hK K ld0
            try simp only [Act.put, List.setIfInBounds_toArray, List.set_cons_zero, List.set_cons_succ]
            refine wpAnyH_ready (rs := [13]) (by kernel_rfl) (by simp) ?_
            refine AllReadyH.cons rfl (fun K hK => ?_) AllReadyH.nil
            rw [if_pos (by rfl)]
            refine wp_append_lies _ _ _ 26 rfl W3.heap.size 3 i1 (.int .i64 0) 1 8 Tryd.underlying26 hj hy0 hy1 hy2 rfl (by decide) v k ((cdL cs NL k).map (Value.int .i64)) rfl (keep_own HOW.out D5.out) ⟨WD.heap.size, 0, none⟩ 1 1 [.int .i64 x] rfl rfl (by rw [← hW5]; exact cell_one_new _ _ _) ?d1B (by decide) ?d2B ?d3B ?d4B _ rfl ?_
            case d1B => intro u hu; simp at hu; subst hu; rfl
            case d2B => unfold maxLen; omega
            case d3B => omega
            case d4B => have := HKX.out.size; have := D5.out.size; omega
            intro g6 cap6 w6 hown6 hgrow6 hat6 hlt6
            have NB : ∀ {b o : Nat} {u : Value}, W5.cell? ⟨b, o, none⟩ = some u → (b = ob ∨ b < W3.heap.size) → w6.cell? ⟨b, o, none⟩ = some u := fun {b o} {u} e hb => hgrow6.cell e (fun q => by
              have := (HOW.out.lt b q.symm).1
              have := HOB.out
              rcases hb with q | q <;> omega)
            have NS : ∀ {b o : Nat} {u : Value}, b ≠ ob → w6.cell? ⟨b, o, none⟩ = some u → (w6.setCell ⟨ob, i, none⟩ (.slice (some ⟨g6, 0, none⟩) (k + 1) cap6)).cell? ⟨b, o, none⟩ = some u := fun hb e => by
              rw [World.cell?_setCell_other _ _ _ _ (fun q => by injection q with q; exact hb q.symm)]; exact e
            have hS6 : S2e ⟨z7, 1, none⟩ ⟨gb, go + t, none⟩ (.slice (some ⟨gb, go, none⟩) cl gc) (.int .i64 x) w6 := ⟨NB hS5.1 (.inr HZ7.out.1), NB hS5.2 (.inr HZ7.out.2.1)⟩
            have hS7 : S2e ⟨z7, 1, none⟩ ⟨gb, go + t, none⟩ (.slice (some ⟨gb, go, none⟩) cl gc) (.int .i64 x) (w6.setCell ⟨ob, i, none⟩ (.slice (some ⟨g6, 0, none⟩) (k + 1) cap6)) := ⟨NS HZ7.out.2.2.1 hS6.1, NS HZ7.out.2.2.2 hS6.2⟩
            have P6 : Hid (w6.cell? ⟨ob, i, none⟩ = some v ∧ w6.frozen? ⟨ob, i, none⟩ = false) := by
              have h1 := HOI.out W5 D5.out
              have no : some ob ≠ v.ownBlock := fun q => by
                have := (HOW.out.lt ob q.symm).1
                have := HOB.out
                omega
              exact ⟨hgrow6.cell h1 no, (World.frozen?_of_block (hgrow6.block ob (cellLt h1) no)).trans (HFZ.out W5 D5.out i)⟩
            have I7 : Hid (SoI l B ob W3 i cs NL (k + 1) (.slice (some ⟨g6, 0, none⟩) (k + 1) cap6) (w6.setCell ⟨ob, i, none⟩ (.slice (some ⟨g6, 0, none⟩) (k + 1) cap6))) :=
              HIN.out.add HKL.out HXV.out HOB.out D5.out hown6 hgrow6
            clear hown6 hgrow6 hat6 hlt6 hW5 b5 NB NS
            refine hK _ _ hS6 (fun _ => ?_)
            clear hK K
            try simp only [Act.put, List.setIfInBounds_toArray, List.set_cons_zero, List.set_cons_succ]
            refine wpAnyH_take (i := 14) (v := ?v14yB) rfl (by kernel_rfl) (by kernel_rfl) (by kernel_rfl) (fun _ _ _ h => h) (Or.inl ⟨by rfl, ?hy14yB⟩) (by assumption) ?rest14yB
            case hy14yB =>
              intro w hSw
              dsimp only [S2e] at hSw
              go_simp
              try with_reducible rfl
            simp only [Act.put, List.getElem_toArray, List.getElem_cons_succ, List.getElem_cons_zero, List.setIfInBounds_toArray, List.set_cons_zero, List.set_cons_succ]
            refine wpAnyH_ready (rs := [15]) (by kernel_rfl) (by simp) ?_
            refine AllReadyH.cons rfl (fun K hK => ?_) AllReadyH.nil
            obtain ⟨p6, p7⟩ := P6.out
            obtain ⟨W8, hW8⟩ : ∃ W, w6.setCell ⟨ob, i, none⟩ (.slice (some ⟨g6, 0, none⟩) (k + 1) cap6) = W := ⟨_, rfl⟩
            rw [hW8] at I7 hS7
            go_simp
            try rw [hW8]
            refine hK _ _ hS7 (fun _ => ?_)
            clear hK K hS6 hS7 hW8 p6 p7 P6 hS5 hS
            try simp only [Act.put, List.setIfInBounds_toArray, List.set_cons_zero, List.set_cons_succ]
            refine wpAnyH_done (by kernel_rfl) ?_ _
            refine NoPanic.normal ?_
            clear HOW HOI HSS HFZ
            go_wp2
            go_roundw
            case rel => exact ⟨k + 1, _, by go_num, hlt2, by rw [HCS.out]; exact I7.out⟩
            case measure => simp [intOf]; omega
        · have hlt2' : ¬ (k : Int) < (nl : Int) := by omega
          have NX : Hid (i + 1 ≤ n ∧ SoO l B ob z0 (i + 1) wr ∧ Below z0 w wr ∧ W2.heap.size ≤ wr.heap.size ∧ Kx (fun b => b = ob) W2 wr) := by
            have e : k = NL.length := by rw [HNLL.out]; omega
            have k1 : Kx (fun b => b = ob) W2 wr := (HKW.out.trans (Kx.of_below B3.out)).trans hin.kx
            have hh := OB.out.2.2.2
            refine ⟨hlt, ?_, ?_, k1.size, k1⟩
            · refine SoI.done SO3.out (by have := OB.out.2.2.1; have := HKW.out.size; have := B3.out.size; omega) hil obl.out (by rw [HNL.out, HNLL.out]; omega) (v := v) ?_
              rw [HNL.out, HU.out, ← e]; exact hin
            · have h1 := B12.out
              rw [hh.1] at h1
              exact h1.trans (k1.below (by have := OB.out.2.2.1; omega) (fun b e => by omega))
          clear hS hk hin hlt2
          go_wp2_with fail
          go_roundw
          case rel => exact ⟨i + 1, by go_num, NX.out⟩
          case measure => simp [intOf]; omega
    · have hlt' : ¬ (i : Int) < (n : Int) := by omega
      have PP : Hid (SoP l B w (.returned (.slice (some ⟨ob, 0, none⟩) n n)) wr) := by
        refine ⟨⟨some ⟨ob, 0, none⟩, n, by rw [stB_len, HN.out], by rw [stB_len, HN.out]; omega, fun _ => ⟨ob, 0, rfl, ?_, ?_, fun j hj => ?_⟩⟩, BW.out⟩
        · have := OB.out.2.1; omega
        · have := OB.out.2.2.2; omega
        · rw [stB_len] at hj
          have := hso.1 j hj
          rw [if_pos (by rw [HN.out] at hj; omega)] at this
          obtain ⟨a, c, h1, h2⟩ := this
          rw [Nat.zero_add]
          exact ⟨a, c, h1, h2.1, fun b' o' e => by have := (h2.2 b' o' e).2; have := OB.out.2.2.2; omega⟩
      clear hS hi hso hb hsz hkx hlt
      go_wp2_with fail
      go_ret
      exact PP.out
end Go.Proofs.YtadfmplafehjlaaDoor
namespace Go.Proofs.YtadfmplafehjlaaDoor
open Go.RowKit Go.WideMaps Go.Maps Go.Shelf

section
variable {l : List Fd} {E : List Ed}
/-- A box has all codes of a field that is free, the value of one that is not. -/
def iB (l : List Fd) (r : List Int) (g : List Nat) (P : Nat → Nat) (k : Nat) : Bool := if k ∈ g then decide ((fd l k).cs.length ≤ (plL l P k).length) else inC ((plL l P k).map (fn (fd l k).cs)) (fn r k)
def inB (l : List Fd) (r : List Int) (g : List Nat) (P : Nat → Nat) : Bool := al (iB l r g P) l.length
theorem flt_all {α : Type} {p : α → Bool} {s : List α} (h : s.length ≤ (s.filter p).length) : ∀ x, x ∈ s → p x = true :=
  List.length_filter_eq_length_iff.1 (Nat.le_antisymm (List.length_filter_le _ _) h)
theorem pl_full {P : Nat → Nat} {k : Nat} : (fd l k).cs.length ≤ (plL l P k).length ↔ ∀ t, t < (fd l k).cs.length → (P k).testBit t = true := by
  constructor
  · intro h t ht
    exact flt_all (s := List.range (fd l k).cs.length) (p := fun t => (P k).testBit t) (by rw [List.length_range]; exact h) t (List.mem_range.2 ht)
  · intro h
    have h1 : ((List.range (fd l k).cs.length).filter fun t => (P k).testBit t).length = (List.range (fd l k).cs.length).length := by
      rw [List.length_filter_eq_length_iff]
      exact fun t ht => h t (List.mem_range.1 ht)
    rw [List.length_range] at h1
    exact Nat.le_of_eq h1.symm
theorem inC_mem {s : List Int} {x : Int} : inC s x = true ↔ x ∈ s := by
  rw [inC_iff]
  constructor
  · rintro ⟨q, hq, e⟩
    rw [← e]
    unfold fn
    rw [List.getD_eq_getElem?_getD, List.getElem?_eq_getElem hq]
    exact List.getElem_mem hq
  · intro h
    obtain ⟨q, hq, e⟩ := List.getElem_of_mem h
    exact ⟨q, hq, by unfold fn; rw [List.getD_eq_getElem?_getD, List.getElem?_eq_getElem hq]; exact e⟩
theorem pl_in {P : Nat → Nat} {k : Nat} {x : Int} : inC ((plL l P k).map (fn (fd l k).cs)) x = true ↔ ∃ t, t < (fd l k).cs.length ∧ (P k).testBit t = true ∧ fn (fd l k).cs t = x := by
  rw [inC_mem, List.mem_map]
  constructor
  · rintro ⟨t, ht, e⟩
    unfold plL lst at ht
    have := List.mem_filter.1 ht
    exact ⟨t, List.mem_range.1 this.1, this.2, e⟩
  · rintro ⟨t, h1, h2, e⟩
    exact ⟨t, by unfold plL lst; exact List.mem_filter.2 ⟨List.mem_range.2 h1, h2⟩, e⟩
theorem decide_iff (hok : Ok l E) {L : List (Nat → Nat)} (hG : Good l E L) (h1 : ∀ n, n < E.length → Cov L (ebS l E n)) (h2 : ∀ a, a < L.length → ∀ b, b < a → JC l L a b) {r : List Int} {g : List Nat} (hr : r.length = l.length) (hg : ∀ x, x ∈ g → x < l.length) :
    fil l E g r = none ↔ (∃ k, k < l.length ∧ k ∉ g ∧ inC (fd l k).cs (fn r k) = false) ∨ ∃ P, P ∈ L ∧ inB l r g P = true := by
  constructor
  · intro hf
    refine Classical.byContradiction fun q => ?_
    have q1 : ∀ k, k < l.length → k ∉ g → inC (fd l k).cs (fn r k) = true := fun k hk hkg => by
      cases e : inC (fd l k).cs (fn r k) with
      | true => rfl
      | false => exact absurd (.inl ⟨k, hk, hkg, e⟩) q
    have hw : ∀ k, k < l.length → k ∉ g → ∃ t, t < (fd l k).cs.length ∧ fn (fd l k).cs t = fn r k ∧ wib l r g k = 2 ^ t := fun k hk hkg => by
      obtain ⟨t, ht, e⟩ := inC_iff.1 (q1 k hk hkg)
      refine ⟨t, ht, e, ?_⟩
      unfold wib
      rw [if_pos hk, if_neg hkg, ← e]
      exact Ok.mk_at hok hk ht
    have hwf : ∀ k, k < l.length → k ∈ g → wib l r g k = fuS l k := fun k hk hkg => by unfold wib; rw [if_pos hk, if_pos hkg]
    have hV : Vb l (wib l r g) := by
      refine ⟨fun k hk => ?_, wib_lt r g, fun k hk => ?_⟩
      · by_cases e : k ∈ g
        · rw [hwf k hk e]; exact fu_ne hok hk
        · obtain ⟨t, _, _, e3⟩ := hw k hk e
          rw [e3]; exact Nat.ne_of_gt (Nat.two_pow_pos _)
      · unfold wib; rw [if_neg (by omega)]
    have hC : Clo l E (wib l r g) := fun x hx => by
      cases e : paB l E x with
      | false => rfl
      | true =>
        exfalso
        refine fil_ex g r x hg hr hx.1 e (fun j hj hjg => ?_) hf
        obtain ⟨t, a1, a2, a3⟩ := hx.2 j hj
        obtain ⟨t', b1, b2, b3⟩ := hw j hj hjg
        rw [b3, Nat.testBit_two_pow] at a3
        have := of_decide_eq_true a3
        subst this
        rw [a2, b2]
    have hcv := cover hok (L := L) (fun P hP => (hG P hP).1) h1 (fun A B hA hB k hk he => ?_) (cnt l (wib l r g) l.length) (wib l r g) (Nat.le_refl _) hV hC
    · obtain ⟨P, hP, hw2⟩ := hcv
      apply q
      refine .inr ⟨P, hP, al_iff.2 fun k hk => ?_⟩
      unfold iB
      by_cases e : k ∈ g
      · rw [if_pos e]
        refine decide_eq_true (pl_full.2 fun t ht => hw2 k t ?_)
        rw [hwf k hk e, fu_bit hk]
        exact decide_eq_true ht
      · rw [if_neg e]
        obtain ⟨t, a1, a2, a3⟩ := hw k hk e
        exact pl_in.2 ⟨t, a1, hw2 k t (by rw [a3, Nat.testBit_two_pow]; simp), a2⟩
    · obtain ⟨a, ha, ea⟩ := mem_bx hA
      obtain ⟨b, hb, eb⟩ := mem_bx hB
      rcases Nat.lt_trichotomy a b with h | h | h
      · have := h2 b hb a h k hk
        rw [ea, eb, jo_comm] at this
        exact this he
      · subst h
        rw [ea] at eb
        subst eb
        refine ⟨A, hA, fun i t ht => ?_⟩
        unfold joB at ht
        split at ht
        · rw [Nat.or_self] at ht; exact ht
        · rw [Nat.and_self] at ht; exact ht
      · have := h2 a ha b h k hk
        rw [ea, eb] at this
        exact this he
  · rintro (⟨k, hk, hkg, e⟩ | ⟨P, hP, hin⟩)
    · exact fil_bad hk g r hkg (fun x hx => by rw [hr]; exact hg x hx) e
    · cases e : fil l E g r with
      | none => rfl
      | some x =>
        exfalso
        obtain ⟨a1, a2, a3⟩ := fil_some g r x (fun i hi => by rw [hr]; exact hg i hi) e
        have hx : inBx l x P := ⟨by rw [a1, hr], fun k hk => by
          have hi := al_iff.1 hin k hk
          unfold iB at hi
          by_cases e : k ∈ g
          · rw [if_pos e] at hi
            have hv : vdB l x = true := by unfold paB at a2; rw [Bool.and_eq_true] at a2; exact a2.1
            obtain ⟨t, b1, b2⟩ := inC_iff.1 (al_iff.1 hv k hk)
            exact ⟨t, b1, b2.symm, pl_full.1 (of_decide_eq_true hi) t b1⟩
          · rw [if_neg e] at hi
            obtain ⟨t, b1, b2, b3⟩ := pl_in.1 hi
            exact ⟨t, b1, by rw [a3 k e, b3], b2⟩⟩
        rw [(hG P hP).2 x hx] at a2; cases a2
end
end Go.Proofs.YtadfmplafehjlaaDoor
