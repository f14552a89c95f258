/-
  What a sight of package value holds, and isPlace.
-/
import Derived.Test.YtngijlmokhkdjaaDoorTySpec
import Derived.Test.YtngijlmokhkdjaaDoorTyMap
import Derived.Test.YtngijlmokhkdjaaDoorShelf
import Derived.Deep.RegionHeld3
namespace Go.Proofs.YtngijlmokhkdjaaDoor
open Go.RowKit

/-- A map of loops, each under its name; their own places lie in the memory of world w0. -/
def SeesL (w0 w : World) (b : Nat) (L : List Ne) : Prop :=
  ∃ n f, n ≤ L.length ∧ MapIs w b n f ∧ ∀ nm, (findL L nm = none → f nm = none) ∧ ∀ l, findL L nm = some l → ∃ lv, f nm = some (.agg #[.string l.nm, lv]) ∧ IsN w0 lv l.lp
/-- A map of cells, each under its name. -/
def SeesC (w0 w : World) (b : Nat) (C : List Cl) : Prop :=
  ∃ n f, n ≤ C.length ∧ MapIs w b n f ∧ ∀ nm, (findC C nm = none → f nm = none) ∧ ∀ c, findC C nm = some c → ∃ lv, f nm = some (.agg #[.string c.nm, .int .i64 c.kind, lv]) ∧ IsN w0 lv c.lp
theorem SeesL.below {w0 w w' : World} {b B : Nat} {L : List Ne} (h : SeesL w0 w b L) (hb : Below B w w') (hl : b < B) : SeesL w0 w' b L := by
  obtain ⟨n, f, hn, hm, hf⟩ := h; exact ⟨n, f, hn, hm.below hb hl, hf⟩
theorem SeesC.below {w0 w w' : World} {b B : Nat} {C : List Cl} (h : SeesC w0 w b C) (hb : Below B w w') (hl : b < B) : SeesC w0 w' b C := by
  obtain ⟨n, f, hn, hm, hf⟩ := h; exact ⟨n, f, hn, hm.below hb hl, hf⟩
theorem SeesL.lt {w0 w : World} {b : Nat} {L : List Ne} (h : SeesL w0 w b L) : b < w.heap.size := by obtain ⟨n, f, hn, hm, hf⟩ := h; exact hm.lt
theorem SeesC.lt {w0 w : World} {b : Nat} {C : List Cl} (h : SeesC w0 w b C) : b < w.heap.size := by obtain ⟨n, f, hn, hm, hf⟩ := h; exact hm.lt
theorem SeesL.kept {w0 w w' : World} {b : Nat} {L : List Ne} {row : Option Nat} (h : SeesL w0 w b L) (hg : w.grownBy w' row) (hne : some b ≠ row) : SeesL w0 w' b L := by
  obtain ⟨n, f, hn, hm, hf⟩ := h; exact ⟨n, f, hn, hm.kept hg hne, hf⟩
theorem SeesC.kept {w0 w w' : World} {b : Nat} {C : List Cl} {row : Option Nat} (h : SeesC w0 w b C) (hg : w.grownBy w' row) (hne : some b ≠ row) : SeesC w0 w' b C := by
  obtain ⟨n, f, hn, hm, hf⟩ := h; exact ⟨n, f, hn, hm.kept hg hne, hf⟩
/-- What is found in a map of loops. -/
theorem SeesL.look {w0 w : World} {b : Nat} {L : List Ne} (h : SeesL w0 w b L) (s : ByteArray) (hs : s.size ≤ 9223372036854775807) :
    (findL L s = none ∧ ∀ w', Below w.heap.size w w' → (Instr.lookup 42 (.map (some b)) (.string s) true).run Tryd.prog w' = .ok (.tuple #[.agg #[.string ⟨#[]⟩, .slice none 0 0], .bool false]) w') ∨
    ∃ l lv, findL L s = some l ∧ IsN w0 lv l.lp ∧ ∀ w', Below w.heap.size w w' → (Instr.lookup 42 (.map (some b)) (.string s) true).run Tryd.prog w' = .ok (.tuple #[.agg #[.string l.nm, lv], .bool true]) w' := by
  obtain ⟨n, f, hn, hm, hf⟩ := h
  cases e : findL L s with
  | none =>
    refine .inl ⟨rfl, fun w' hw => ?_⟩
    have := (hm.below hw hm.lt).look Tryd.underlying42 (Tryd.zeroValue60 w') hs
    rw [(hf s).1 e] at this
    exact this
  | some l =>
    obtain ⟨lv, e1, hi⟩ := (hf s).2 l e
    refine .inr ⟨l, lv, rfl, hi, fun w' hw => ?_⟩
    have := (hm.below hw hm.lt).look Tryd.underlying42 (Tryd.zeroValue60 w') hs
    rw [e1] at this
    exact this
/-- What is found in a map of cells. -/
theorem SeesC.look {w0 w : World} {b : Nat} {C : List Cl} (h : SeesC w0 w b C) (s : ByteArray) (hs : s.size ≤ 9223372036854775807) :
    (findC C s = none ∧ ∀ w', Below w.heap.size w w' → (Instr.lookup 41 (.map (some b)) (.string s) true).run Tryd.prog w' = .ok (.tuple #[.agg #[.string ⟨#[]⟩, .int .i64 0, .slice none 0 0], .bool false]) w') ∨
    ∃ c lv, findC C s = some c ∧ IsN w0 lv c.lp ∧ ∀ w', Below w.heap.size w w' → (Instr.lookup 41 (.map (some b)) (.string s) true).run Tryd.prog w' = .ok (.tuple #[.agg #[.string c.nm, .int .i64 c.kind, lv], .bool true]) w' := by
  obtain ⟨n, f, hn, hm, hf⟩ := h
  cases e : findC C s with
  | none =>
    refine .inl ⟨rfl, fun w' hw => ?_⟩
    have := (hm.below hw hm.lt).look Tryd.underlying41 (Tryd.zeroValue57 w') hs
    rw [(hf s).1 e] at this
    exact this
  | some l =>
    obtain ⟨lv, e1, hi⟩ := (hf s).2 l e
    refine .inr ⟨l, lv, rfl, hi, fun w' hw => ?_⟩
    have := (hm.below hw hm.lt).look Tryd.underlying41 (Tryd.zeroValue57 w') hs
    rw [e1] at this
    exact this
/-- A cell more. -/
theorem SeesC.more {w0 w' : World} {b n : Nat} {f : ByteArray → Option Value} {C : List Cl} (c : Cl) (lv : Value) (hn : n ≤ C.length) (hm : MapIs w' b (n + 1) (fun x => if x = c.nm then some (.agg #[.string c.nm, .int .i64 c.kind, lv]) else f x)) (hN : findC C c.nm = none)
    (hf : ∀ nm, (findC C nm = none → f nm = none) ∧ ∀ c, findC C nm = some c → ∃ lv, f nm = some (.agg #[.string c.nm, .int .i64 c.kind, lv]) ∧ IsN w0 lv c.lp) (hi : IsN w0 lv c.lp) : SeesC w0 w' b (C ++ [c]) := by
  refine ⟨n + 1, _, by simp; omega, hm, fun nm => ?_⟩
  by_cases h : nm = c.nm
  · subst h
    have e : findC (C ++ [c]) c.nm = some c := by rw [findC_append, hN]; simp
    rw [e]
    exact ⟨(fun h => by cases h), (fun c' h => by cases h; exact ⟨lv, by simp, hi⟩)⟩
  · have e : findC (C ++ [c]) nm = findC C nm := by rw [findC_append, if_neg (fun q => h q.symm)]; simp
    rw [e]
    simp only [if_neg h]
    exact hf nm
/-- A loop more. -/
theorem SeesL.more {w0 w' : World} {b n : Nat} {f : ByteArray → Option Value} {L : List Ne} (c : Ne) (lv : Value) (hn : n ≤ L.length) (hm : MapIs w' b (n + 1) (fun x => if x = c.nm then some (.agg #[.string c.nm, lv]) else f x)) (hN : findL L c.nm = none)
    (hf : ∀ nm, (findL L nm = none → f nm = none) ∧ ∀ c, findL L nm = some c → ∃ lv, f nm = some (.agg #[.string c.nm, lv]) ∧ IsN w0 lv c.lp) (hi : IsN w0 lv c.lp) : SeesL w0 w' b (L ++ [c]) := by
  refine ⟨n + 1, _, by simp; omega, hm, fun nm => ?_⟩
  by_cases h : nm = c.nm
  · subst h
    have e : findL (L ++ [c]) c.nm = some c := by rw [findL_append, hN]; simp
    rw [e]
    exact ⟨(fun h => by cases h), (fun c' h => by cases h; exact ⟨lv, by simp, hi⟩)⟩
  · have e : findL (L ++ [c]) nm = findL L nm := by rw [findL_append, if_neg (fun q => h q.symm)]; simp
    rw [e]
    simp only [if_neg h]
    exact hf nm

theorem IsN.len {w : World} {v : Value} {l : List ByteArray} (h : IsN w v l) : l.length ≤ 9223372036854775807 := by
  rcases h with ⟨a, c, rfl, rfl⟩ | ⟨b, off, cap, rfl, h1, h2, h3⟩
  · simp
  · omega
/-- Whether a list of texts is the beginning of a row. -/
theorem equal_c (w : World) (v : Value) (l : List ByteArray) (b off m cap : Nat) (pl : List ByteArray) (hv : IsN w v l) (hm : m ≤ pl.length) (hm2 : m ≤ 9223372036854775807) (hbl : b < w.heap.size)
    (hc : ∀ j, j < pl.length → w.cell? ⟨b, off + j, none⟩ = some (.string (pl.getD j noText))) :
    ∀ W, Below w.heap.size w W → Calls Tryd.prog 30 #[v, .slice (some ⟨b, off, none⟩) m cap] W fun e w' => e = .returned (.bool (decide (l = pl.take m))) ∧ Below W.heap.size W w' := by
  intro W hW
  rcases hv with ⟨a, c, rfl, rfl⟩ | ⟨b2, off2, cap2, rfl, h1, h2, h3, h4⟩
  · refine (Tryd.slices_Equal_string_empty a (some ⟨b, off, none⟩) c m cap W hm2).mono fun e w' ⟨he, hw⟩ => ⟨?_, by rw [hw]; exact Below.refl _ _⟩
    rw [he]
    have : (m = 0) ↔ ([] = pl.take m) := by
      constructor
      · intro h; subst h; simp
      · intro h
        have h2 := congrArg List.length h
        rw [List.length_take, List.length_nil] at h2
        omega
    simp only [decide_eq_decide.2 this]
  · refine (Tryd.slices_Equal_string b2 off2 l.length cap2 b off m cap l pl W (Nat.le_refl _) hm (by omega) hm2 (fun j hj => (hW.cell (p := ⟨b2, off2 + j, none⟩) h3).trans (h4 j hj)) (fun j hj => (hW.cell (p := ⟨b, off + j, none⟩) hbl).trans (hc j hj))).mono fun e w' ⟨he, q, hw⟩ => ⟨?_, by rw [hw]; exact below_drewN (Below.refl _ _) q⟩
    rw [he, List.take_length]

set_option maxRecDepth 100000 in
theorem isPlace_c (w0 w : World) (b1 b2 : Nat) (L : List Ne) (v : Value) (pl : List ByteArray) (hb0 : Below w0.heap.size w0 w) (hL : SeesL w0 w b2 L) (h1 : OnceL L) (hv : IsN w v pl) (hs : ∀ s ∈ pl, s.size ≤ 9223372036854775807) :
    Calls Tryd.prog 22 #[.agg #[.map (some b1), .map (some b2)], v] w fun e w' => e = .returned (.bool (placeS L pl)) ∧ Below w.heap.size w w' := by
  rcases hv with ⟨a, c, rfl, rfl⟩ | ⟨b, off, cap, rfl, hpos, hmax, hbl, hc⟩
  · have e0 : Hid (placeS L [] = true) := by unfold Hid placeS; simp
    go_enter Tryd.func22, Tryd.ntmps22
    go_wp2
    go_ret
    exact ⟨by rw [e0.out]; rfl, (Below.refl _ _).alloc (Nat.le_refl _) _⟩
  · obtain ⟨x, hx⟩ : ∃ x, x = pl.getD (pl.length - 1) noText := ⟨_, rfl⟩
    have hxs : x.size ≤ 9223372036854775807 := by
      have : x ∈ pl := by rw [hx, List.getD_eq_getElem?_getD, List.getElem?_eq_getElem (by omega)]; simp
      exact hs x this
    have hne : pl ≠ [] := by intro h; rw [h] at hpos; simp at hpos
    have e0 := placeS_find h1 pl
    rw [← hx, decide_eq_false hne, Bool.false_or] at e0
    have cx := hc (pl.length - 1) (by omega)
    rw [← hx] at cx
    rcases hL.look x hxs with ⟨hn, hrun⟩ | ⟨l, lv, hl, hi0, hrun⟩
    · rw [hn] at e0
      obtain ⟨m, hm⟩ : ∃ m, pl.length = m + 1 := ⟨pl.length - 1, by omega⟩
      rw [hm, Nat.add_sub_cancel] at cx
      rw [hm] at hmax ⊢
      have E0 := Lib.hid e0
      have r1 : (Instr.lookup 42 (.map (some b2)) (.string x) true).run Tryd.prog (w.alloc (.cells #[.map (some b1), .map (some b2)] 44)).drew = .ok (.tuple #[.agg #[.string ⟨#[]⟩, .slice none 0 0], .bool false]) (w.alloc (.cells #[.map (some b1), .map (some b2)] 44)).drew := hrun _ (below_drewN ((Below.refl w.heap.size w).alloc (Nat.le_refl _) (.cells #[.map (some b1), .map (some b2)] 44)) 1)
      clear e0 hn hrun hL h1 hx hs hc
      obtain ⟨hm1, hm2⟩ := hmax
      have n1 : ((m : Int) + 1) ≠ 0 := by omega
      have n2 : (m : Int) ≤ cap := by omega
      clear hpos hne hm
      go_enter Tryd.func22, Tryd.ntmps22
      have cx' : (w.alloc (.cells #[.map (some b1), .map (some b2)] 44)).cell? ⟨b, off + m, none⟩ = some (.string x) := by
        rw [World.cell?_alloc_past _ _ _ hbl]; exact cx
      clear cx
      go_wp2_with fail
      go_region
      go_wp2_with fail
      go_ret
      exact ⟨by rw [E0.out]; rfl, below_drewN (((Below.refl _ _).alloc (Nat.le_refl _) _).alloc (by simp) _) 1⟩
    · rw [hl] at e0
      have hi := hi0.below hb0
      clear hi0
      obtain ⟨m, hm⟩ : ∃ m, pl.length = m + 1 := ⟨pl.length - 1, by omega⟩
      obtain ⟨hm1, hm2⟩ := hmax
      have HQ := Lib.hid (equal_c w lv l.lp b off m cap pl hi (by omega) (by omega) hbl hc)
      obtain ⟨la, lc, rfl⟩ := hi.form
      have hll := hi.len
      rw [hm, Nat.add_sub_cancel] at cx e0
      rw [hm] at hm1 ⊢
      have E0 := Lib.hid e0
      have r1 : (Instr.lookup 42 (.map (some b2)) (.string x) true).run Tryd.prog (w.alloc (.cells #[.map (some b1), .map (some b2)] 44)).drew = .ok (.tuple #[.agg #[.string l.nm, .slice la l.lp.length lc], .bool true]) (w.alloc (.cells #[.map (some b1), .map (some b2)] 44)).drew := hrun _ (below_drewN ((Below.refl w.heap.size w).alloc (Nat.le_refl _) (.cells #[.map (some b1), .map (some b2)] 44)) 1)
      have cx' : (w.alloc (.cells #[.map (some b1), .map (some b2)] 44)).cell? ⟨b, off + m, none⟩ = some (.string x) := by
        rw [World.cell?_alloc_past _ _ _ hbl]; exact cx
      have n1 : ((m : Int) + 1) ≠ 0 := by omega
      have n2 : (m : Int) ≤ cap := by omega
      clear hpos hne hm e0 hl hrun hL h1 hx hs hc hi cx
      go_enter Tryd.func22, Tryd.ntmps22
      go_wp2_with fail
      go_region
      go_wp2_with fail
      have B2 : ∀ o1 o2, Below w.heap.size w ((w.alloc o1).alloc o2).drew := fun o1 o2 => below_drewN (((Below.refl w.heap.size w).alloc (Nat.le_refl _) o1).alloc (by simp) o2) 1
      refine (HQ.out _ (B2 _ _)).mono ?_
      rintro e w4 ⟨rfl, hB⟩
      have HB := Lib.hid ((B2 _ _).trans (hB.mono (B2 _ _).size))
      clear hB B2
      go_wp2
      go_ret
      exact ⟨by rw [E0.out]; rfl, HB.out⟩

set_option maxRecDepth 100000 in
theorem isAround_c (w : World) (v1 v2 : Value) (l1 l2 : List ByteArray) (h1 : IsN w v1 l1) (h2 : IsN w v2 l2) :
    Calls Tryd.prog 45 #[v1, v2] w fun e w' => e = .returned (.bool (beginsS l1 l2)) ∧ Below w.heap.size w w' := by
  have hn1 := h1.len
  have hn2 := h2.len
  by_cases hle : l1.length ≤ l2.length
  · have e0 : Hid (beginsS l1 l2 = decide (l1 = l2.take l1.length)) := by
      unfold Hid beginsS
      rw [decide_eq_decide]
      constructor
      · intro h; exact h.2.symm
      · intro h; exact ⟨hle, h.symm⟩
    have n1 : (l1.length : Int) ≤ (l2.length : Int) := by omega
    rcases h2 with ⟨a2, c2, rfl, rfl⟩ | ⟨b, off, cap, rfl, hpos, hcap, hbl, hc⟩
    · have h0 : l1 = [] := by
        cases l1 with
        | nil => rfl
        | cons x r => simp at hle
      subst h0
      obtain ⟨a1, c1, rfl⟩ := h1.form
      have HQ := Lib.hid (fun W => Tryd.slices_Equal_string_empty a1 a2 c1 0 c2 W (by omega))
      have m1 : (0 : Int) ≤ (c2 : Int) := by omega
      clear h1 hle hn1 hn2
      go_enter Tryd.func45, Tryd.ntmps45
      go_wp2_with fail
      refine (HQ.out _).mono ?_
      rintro e w4 ⟨rfl, rfl⟩
      go_wp2
      go_ret
      exact ⟨by rw [e0.out]; rfl, Below.refl _ _⟩
    · have HQ := Lib.hid (equal_c w v1 l1 b off l1.length cap l2 h1 hle hn1 hbl hc)
      obtain ⟨a1, c1, rfl⟩ := h1.form
      obtain ⟨k1, k2⟩ := hcap
      have m1 : (l1.length : Int) ≤ (cap : Int) := by omega
      clear h1 hc
      go_enter Tryd.func45, Tryd.ntmps45
      go_wp2_with fail
      refine (HQ.out _ (Below.refl _ _)).mono ?_
      rintro e w4 ⟨rfl, hB⟩
      have HB := Lib.hid hB
      clear hB
      go_wp2
      go_ret
      exact ⟨by rw [e0.out]; rfl, HB.out⟩
  · have e0 : Hid (beginsS l1 l2 = false) := by unfold Hid beginsS; simp [hle]
    have n1 : ¬ ((l1.length : Int) ≤ (l2.length : Int)) := by omega
    have n2 : (l2.length : Int) < (l1.length : Int) := by omega
    obtain ⟨a1, c1, rfl⟩ := h1.form
    obtain ⟨a2, c2, rfl⟩ := h2.form
    clear h1 h2 hle
    go_enter Tryd.func45, Tryd.ntmps45
    go_wp2
    go_ret
    exact ⟨by rw [e0.out]; rfl, Below.refl _ _⟩
end Go.Proofs.YtngijlmokhkdjaaDoor
