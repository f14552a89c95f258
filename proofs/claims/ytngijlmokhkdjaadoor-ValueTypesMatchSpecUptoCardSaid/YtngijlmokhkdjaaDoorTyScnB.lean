/-
  Scenes: what both CheckScene say, as plain functions; how Bounds and Rows lie in memory; checkRow, checkBound and checkRows of package value.
  checkBound and checkRows of package value (their cases made by a program).
-/
import Derived.Test.YtngijlmokhkdjaaDoorTyOrd
import Derived.Test.YtngijlmokhkdjaaDoorTyTypeOf
namespace Go.Proofs.YtngijlmokhkdjaaDoor
open Go.RowKit

structure Bd where
  nm : ByteArray
  row : List Int
  vk : Int
  vn : Int
  vs : ByteArray
  vl : List Int
  asked : Bool
structure Ro where
  nm : ByteArray
  row : List Int
  nums : List Int
noncomputable def rowS (row : List Int) (n : Nat) : Int := if row.length ≠ n then 3 else cNum row
noncomputable def boundS (C : List Cl) (x : Bd) : Int :=
  match findC C x.nm with
  | none => 5
  | some c => if rowS x.row c.lp.length ≠ 0 then rowS x.row c.lp.length else if cChk x.vk x.vn x.vs x.vl ≠ 0 then cChk x.vk x.vn x.vs x.vl else if x.vk ≠ 0 ∧ x.vk ≠ 1 ∧ x.vk ≠ c.kind then 8 else 0
/-- What is said of increasing numbers, behind one that is ahead of them. -/
def numsF : Option Int → List Int → Int
  | _, [] => 0
  | none, n :: r => if n < 1 ∨ 999 < n then 1 else numsF (some n) r
  | some q, n :: r => if n < 1 ∨ 999 < n then 1 else if n ≤ q then 7 else numsF (some n) r
noncomputable def rowsS (L : List Ne) (x : Ro) : Int :=
  match findL L x.nm with
  | none => 5
  | some l => if rowS x.row l.lp.length ≠ 0 then rowS x.row l.lp.length else numsF none x.nums
noncomputable def boundsF (C : List Cl) : Option Bd → List Bd → Int
  | _, [] => 0
  | none, x :: r => if boundS C x ≠ 0 then boundS C x else boundsF C (some x) r
  | some y, x :: r => if boundS C x ≠ 0 then boundS C x else if nextS (ordS y.nm y.row x.nm x.row) ≠ 0 then nextS (ordS y.nm y.row x.nm x.row) else boundsF C (some x) r
noncomputable def rowsF (L : List Ne) : Option Ro → List Ro → Int
  | _, [] => 0
  | none, x :: r => if rowsS L x ≠ 0 then rowsS L x else rowsF L (some x) r
  | some y, x :: r => if rowsS L x ≠ 0 then rowsS L x else if nextS (ordS y.nm y.row x.nm x.row) ≠ 0 then nextS (ordS y.nm y.row x.nm x.row) else rowsF L (some x) r
/-- What CheckScene says. -/
noncomputable def sceneS (C : List Cl) (L : List Ne) (B : List Bd) (R : List Ro) : Int :=
  if sightS C L ≠ 0 then sightS C L else if 20000 < B.length ∨ 20000 < R.length then 2 else if boundsF C none B ≠ 0 then boundsF C none B else rowsF L none R

/-- The one ahead of number k. -/
def ahead {A : Type} (l : List A) (k : Nat) : Option A := if k = 0 then none else l[k - 1]?
theorem ahead_zero {A : Type} (l : List A) : ahead l 0 = none := rfl
theorem ahead_succ {A : Type} {l : List A} {k : Nat} {x : A} (h : l[k]? = some x) : ahead l (k + 1) = some x := by
  unfold ahead; rw [if_neg (by omega)]; simpa using h
theorem numsF_drop {l : List Int} {k : Nat} {n : Int} (h : l[k]? = some n) : numsF (ahead l k) (l.drop k) = if n < 1 ∨ 999 < n then 1 else if (0 < k ∧ n ≤ l.getD (k - 1) 0) then 7 else numsF (ahead l (k + 1)) (l.drop (k + 1)) := by
  obtain ⟨hk, he⟩ := List.getElem?_eq_some_iff.1 h
  rw [List.drop_eq_getElem_cons hk, he, ahead_succ h]
  by_cases h0 : k = 0
  · subst h0
    have : ¬ (0 < 0 ∧ n ≤ l.getD (0 - 1) 0) := by omega
    rw [if_neg this, ahead_zero]; rfl
  · have e : ahead l k = some (l.getD (k - 1) 0) := by
      unfold ahead
      rw [if_neg h0, List.getD_eq_getElem?_getD, List.getElem?_eq_getElem (by omega)]
      rfl
    rw [e]
    have : (0 < k ∧ n ≤ l.getD (k - 1) 0) ↔ n ≤ l.getD (k - 1) 0 := by omega
    simp only [numsF, this]
theorem boundsF_drop {C : List Cl} {l : List Bd} {k : Nat} {x : Bd} (h : l[k]? = some x) : boundsF C (ahead l k) (l.drop k) = if boundS C x ≠ 0 then boundS C x else match ahead l k with
    | none => boundsF C (ahead l (k + 1)) (l.drop (k + 1))
    | some y => if nextS (ordS y.nm y.row x.nm x.row) ≠ 0 then nextS (ordS y.nm y.row x.nm x.row) else boundsF C (ahead l (k + 1)) (l.drop (k + 1)) := by
  obtain ⟨hk, he⟩ := List.getElem?_eq_some_iff.1 h
  rw [List.drop_eq_getElem_cons hk, he, ahead_succ h]
  cases ahead l k <;> rfl
theorem rowsF_drop {L : List Ne} {l : List Ro} {k : Nat} {x : Ro} (h : l[k]? = some x) : rowsF L (ahead l k) (l.drop k) = if rowsS L x ≠ 0 then rowsS L x else match ahead l k with
    | none => rowsF L (ahead l (k + 1)) (l.drop (k + 1))
    | some y => if nextS (ordS y.nm y.row x.nm x.row) ≠ 0 then nextS (ordS y.nm y.row x.nm x.row) else rowsF L (ahead l (k + 1)) (l.drop (k + 1)) := by
  obtain ⟨hk, he⟩ := List.getElem?_eq_some_iff.1 h
  rw [List.drop_eq_getElem_cons hk, he, ahead_succ h]
  cases ahead l k <;> rfl

/-- The cells of block b from an offset on read as a row of Bounds. -/
def IsBs (w : World) (b : Nat) : List Bd → Nat → Prop
  | [], _ => True
  | c :: r, off => (∃ rv sv, w.cell? ⟨b, off, none⟩ = some (.string c.nm) ∧ w.cell? ⟨b, off + 1, none⟩ = some rv ∧ w.cell? ⟨b, off + 2, none⟩ = some (.int .i64 c.vk) ∧ w.cell? ⟨b, off + 3, none⟩ = some (.int .i64 c.vn) ∧ w.cell? ⟨b, off + 4, none⟩ = some (.string c.vs) ∧ w.cell? ⟨b, off + 5, none⟩ = some sv ∧ w.cell? ⟨b, off + 6, none⟩ = some (.bool c.asked) ∧ IsL w rv c.row ∧ IsL w sv c.vl) ∧ IsBs w b r (off + 7)
/-- The cells of block b from an offset on read as a row of Rows. -/
def IsRs (w : World) (b : Nat) : List Ro → Nat → Prop
  | [], _ => True
  | c :: r, off => (∃ rv nv, w.cell? ⟨b, off, none⟩ = some (.string c.nm) ∧ w.cell? ⟨b, off + 1, none⟩ = some rv ∧ w.cell? ⟨b, off + 2, none⟩ = some nv ∧ IsL w rv c.row ∧ IsL w nv c.nums) ∧ IsRs w b r (off + 3)
def IsB (w : World) (v : Value) (l : List Bd) : Prop :=
  ∃ a c, v = .slice a l.length c ∧ (l.length = 0 ∨ ∃ b off, a = some ⟨b, off, none⟩ ∧ b < w.heap.size ∧ l.length ≤ 9223372036854775807 ∧ IsBs w b l off)
def IsR (w : World) (v : Value) (l : List Ro) : Prop :=
  ∃ a c, v = .slice a l.length c ∧ (l.length = 0 ∨ ∃ b off, a = some ⟨b, off, none⟩ ∧ b < w.heap.size ∧ l.length ≤ 9223372036854775807 ∧ IsRs w b l off)
theorem IsBs.below {w w' : World} (hb : Below w.heap.size w w') {b : Nat} (hl : b < w.heap.size) : ∀ {l : List Bd} {off : Nat}, IsBs w b l off → IsBs w' b l off
  | [], _, _ => trivial
  | c :: r, off, h => by
    simp only [IsBs] at h ⊢
    obtain ⟨⟨rv, sv, h0, h1, h2, h3, h4, h5, h6, h7, h8⟩, hr⟩ := h
    have cc := fun (o : Nat) => hb.cell (p := ⟨b, o, none⟩) hl
    exact ⟨⟨rv, sv, by rw [cc]; exact h0, by rw [cc]; exact h1, by rw [cc]; exact h2, by rw [cc]; exact h3, by rw [cc]; exact h4, by rw [cc]; exact h5, by rw [cc]; exact h6, h7.below hb, h8.below hb⟩, IsBs.below hb hl hr⟩
theorem IsRs.below {w w' : World} (hb : Below w.heap.size w w') {b : Nat} (hl : b < w.heap.size) : ∀ {l : List Ro} {off : Nat}, IsRs w b l off → IsRs w' b l off
  | [], _, _ => trivial
  | c :: r, off, h => by
    simp only [IsRs] at h ⊢
    obtain ⟨⟨rv, nv, h0, h1, h2, h3, h4⟩, hr⟩ := h
    have cc := fun (o : Nat) => hb.cell (p := ⟨b, o, none⟩) hl
    exact ⟨⟨rv, nv, by rw [cc]; exact h0, by rw [cc]; exact h1, by rw [cc]; exact h2, h3.below hb, h4.below hb⟩, IsRs.below hb hl hr⟩
theorem IsB.below {w w' : World} {v : Value} {l : List Bd} (h : IsB w v l) (hb : Below w.heap.size w w') : IsB w' v l := by
  obtain ⟨a, c, hv, h⟩ := h
  refine ⟨a, c, hv, ?_⟩
  rcases h with h | ⟨b, off, ha, hl, hn, hs⟩
  · exact .inl h
  · exact .inr ⟨b, off, ha, Nat.lt_of_lt_of_le hl hb.size, hn, hs.below hb hl⟩
theorem IsR.below {w w' : World} {v : Value} {l : List Ro} (h : IsR w v l) (hb : Below w.heap.size w w') : IsR w' v l := by
  obtain ⟨a, c, hv, h⟩ := h
  refine ⟨a, c, hv, ?_⟩
  rcases h with h | ⟨b, off, ha, hl, hn, hs⟩
  · exact .inl h
  · exact .inr ⟨b, off, ha, Nat.lt_of_lt_of_le hl hb.size, hn, hs.below hb hl⟩
theorem IsBs.at {w : World} {b : Nat} : ∀ {l : List Bd} {off k : Nat} {c : Bd}, IsBs w b l off → l[k]? = some c →
    ∃ rv sv, w.cell? ⟨b, off + k * 7, none⟩ = some (.string c.nm) ∧ w.cell? ⟨b, off + k * 7 + 1, none⟩ = some rv ∧ w.cell? ⟨b, off + k * 7 + 2, none⟩ = some (.int .i64 c.vk) ∧ w.cell? ⟨b, off + k * 7 + 3, none⟩ = some (.int .i64 c.vn) ∧ w.cell? ⟨b, off + k * 7 + 4, none⟩ = some (.string c.vs) ∧ w.cell? ⟨b, off + k * 7 + 5, none⟩ = some sv ∧ w.cell? ⟨b, off + k * 7 + 6, none⟩ = some (.bool c.asked) ∧ IsL w rv c.row ∧ IsL w sv c.vl
  | [], _, _, _, _, h => by simp at h
  | x :: r, off, 0, c, h, hk => by
    simp only [List.getElem?_cons_zero, Option.some.injEq] at hk
    subst hk
    simp only [IsBs] at h
    simpa using h.1
  | x :: r, off, k + 1, c, h, hk => by
    simp only [IsBs] at h
    have := IsBs.at (k := k) h.2 (by simpa using hk)
    rw [show off + (k + 1) * 7 = off + 7 + k * 7 by omega]
    exact this
theorem IsRs.at {w : World} {b : Nat} : ∀ {l : List Ro} {off k : Nat} {c : Ro}, IsRs w b l off → l[k]? = some c →
    ∃ rv nv, w.cell? ⟨b, off + k * 3, none⟩ = some (.string c.nm) ∧ w.cell? ⟨b, off + k * 3 + 1, none⟩ = some rv ∧ w.cell? ⟨b, off + k * 3 + 2, none⟩ = some nv ∧ IsL w rv c.row ∧ IsL w nv c.nums
  | [], _, _, _, _, h => by simp at h
  | x :: r, off, 0, c, h, hk => by
    simp only [List.getElem?_cons_zero, Option.some.injEq] at hk
    subst hk
    simp only [IsRs] at h
    simpa using h.1
  | x :: r, off, k + 1, c, h, hk => by
    simp only [IsRs] at h
    have := IsRs.at (k := k) h.2 (by simpa using hk)
    rw [show off + (k + 1) * 3 = off + 3 + k * 3 by omega]
    exact this

/-! ### The walks of package value -/
theorem checkRow_c (v : Value) (row : List Int) (a : Option Addr) (n c : Nat) (w : World) (h : IsL w v row) :
    Calls Tryd.prog 56 #[v, .slice a n c] w fun e w' => e = .returned (.int .i64 (rowS row n)) ∧ w' = w := by
  have HN := Lib.hid (checkNumbers_c v row w h)
  obtain ⟨p, q, rfl, _⟩ := h.len
  clear h
  by_cases hn : row.length = n
  · have e : Hid (rowS row n = cNum row) := by unfold Hid rowS; rw [if_neg (by simpa using hn)]
    have t1 : ((row.length : Int) != (n : Int)) = false := by simp [hn]
    clear hn
    generalize rowS row n = R at e ⊢
    generalize cNum row = K at e HN
    go_enter Tryd.func56, Tryd.ntmps56
    go_wp2_with fail
    refine HN.out.mono ?_
    rintro e w4 ⟨rfl, rfl⟩
    go_wp2
    go_ret
    exact ⟨ret_int e.out.symm, rfl⟩
  · have e : Hid (rowS row n = 3) := by unfold Hid rowS; rw [if_pos hn]
    have t1 : ((row.length : Int) != (n : Int)) = true := by simp; omega
    clear hn HN
    go_enter Tryd.func56, Tryd.ntmps56
    go_wp2
    go_ret
    exact ⟨ret_int e.out.symm, rfl⟩
end Go.Proofs.YtngijlmokhkdjaaDoor

namespace Go.Proofs.YtngijlmokhkdjaaDoor
open Go.RowKit

set_option maxRecDepth 100000 in
set_option maxHeartbeats 8000000 in
theorem checkBound_c (w0 w : World) (b1 b2 : Nat) (C : List Cl) (nm : ByteArray) (row : List Int) (vk vn : Int) (vs : ByteArray) (vl : List Int) (asked : Bool) (rv sv : Value) (hSC : SeesC w0 w b1 C) (hr : IsL w rv row) (hv : IsL w sv vl) (hnm : nm.size ≤ 9223372036854775807) (hvs : vs.size ≤ 9223372036854775807) :
    Calls Tryd.prog 35 #[.agg #[.map (some b1), .map (some b2)], .agg #[.string nm, rv, .int .i64 vk, .int .i64 vn, .string vs, sv, .bool asked]] w fun e w' => e = .returned (.int .i64 (boundS C ⟨nm, row, vk, vn, vs, vl, asked⟩)) ∧ Below w.heap.size w w' := by
  have HR := Lib.hid (fun W (hW : Below w.heap.size w W) a n c => checkRow_c rv row a n c W (hr.below hW))
  have HV := Lib.hid (fun W (hW : Below w.heap.size w W) => check_c vk vn vs sv vl W (hv.below hW) hvs)
  obtain ⟨rp, rc, rfl, _⟩ := hr.len
  obtain ⟨sp, sc, rfl, _⟩ := hv.len
  clear hr hv hvs
  have BB := ((Below.refl w.heap.size w).alloc (Nat.le_refl _) (.cells #[.map (some b1), .map (some b2)] 44)).alloc (by simp) (.cells #[.string nm, .slice rp row.length rc, .int .i64 vk, .int .i64 vn, .string vs, .slice sp vl.length sc, .bool asked] 75)
  rcases hSC.look nm hnm with ⟨hf, hrun⟩ | ⟨x, lvx, hf, hix, hrun⟩
  · have e0 : Hid (boundS C ⟨nm, row, vk, vn, vs, vl, asked⟩ = 5) := by unfold Hid boundS; rw [hf]
    have r1 := hrun _ BB
    clear hf hrun hSC HR HV
    go_enter Tryd.func35, Tryd.ntmps35
    go_wp2
    go_ret
    exact ⟨ret_int e0.out.symm, BB.alloc BB.size _⟩
  · have eA : boundS C ⟨nm, row, vk, vn, vs, vl, asked⟩ = if rowS row x.lp.length ≠ 0 then rowS row x.lp.length else if cChk vk vn vs vl ≠ 0 then cChk vk vn vs vl else if vk ≠ 0 ∧ vk ≠ 1 ∧ vk ≠ x.kind then 8 else 0 := by unfold boundS; rw [hf]
    have r1 := hrun _ BB
    obtain ⟨xa, xc, rfl⟩ := hix.form
    obtain ⟨xnm, xk, xlp⟩ := x
    simp only at r1 eA ⊢
    have BB3 := fun o3 => BB.alloc BB.size o3
    clear hf hrun hSC hix
    obtain ⟨P, hP⟩ : ∃ P, P = rowS row xlp.length := ⟨_, rfl⟩
    obtain ⟨Q, hQ⟩ : ∃ Q, Q = cChk vk vn vs vl := ⟨_, rfl⟩
    have HR2 := Lib.hid (fun W hW a c => by have := HR.out W hW a xlp.length c; rw [← hP] at this; exact this)
    rw [← hQ] at HV
    rw [← hP, ← hQ] at eA
    clear hP hQ HR
    generalize boundS C ⟨nm, row, vk, vn, vs, vl, asked⟩ = R at eA ⊢
    by_cases hP0 : P = 0
    · subst hP0
      by_cases hQ0 : Q = 0
      · subst hQ0
        have eB : Hid (R = if vk ≠ 0 ∧ vk ≠ 1 ∧ vk ≠ xk then 8 else 0) := eA.trans ((if_neg (fun h => h rfl)).trans (if_neg (fun h => h rfl)))
        clear eA
        by_cases h0 : vk = 0
        · have eR : Hid (R = 0) := eB.out.trans (if_neg (fun h => h.1 h0))
          have t0 : (vk != 0) = false := by simp [h0]
          clear eB h0
          go_enter Tryd.func35, Tryd.ntmps35
          go_wp2_with fail
          refine (HR2.out _ (BB3 _) _ _).mono ?_
          rintro e w4 ⟨rfl, rfl⟩
          go_wp2_with fail
          refine (HV.out _ (BB3 _)).mono ?_
          rintro e w5 ⟨rfl, hB⟩
          have HB := Lib.hid ((BB3 _).trans (hB.mono (BB3 _).size))
          have dd : w5.cell? ⟨w.heap.size + 2, 1, none⟩ = some (.int .i64 xk) := by
            rw [hB.cell (p := ⟨w.heap.size + 2, 1, none⟩) (by simp), World.cell?_alloc_at _ _ _ _ (by simp)]; rfl
          have d2 : w5.cell? ⟨w.heap.size + 1, 2, none⟩ = some (.int .i64 vk) := by
            rw [hB.cell (p := ⟨w.heap.size + 1, 2, none⟩) (by simp), World.cell?_alloc_past _ _ _ (by simp), World.cell?_alloc_at _ _ _ _ (by simp)]; rfl
          clear hB BB BB3 r1
          go_wp2
          go_ret
          exact ⟨ret_int eR.out.symm, HB.out⟩
        by_cases h1 : vk = 1
        · have eR : Hid (R = 0) := eB.out.trans (if_neg (fun h => h.2.1 h1))
          have t0 : (vk != 0) = true := by simp [h0]
          have t1 : (vk != 1) = false := by simp [h1]
          clear eB h0 h1
          go_enter Tryd.func35, Tryd.ntmps35
          go_wp2_with fail
          refine (HR2.out _ (BB3 _) _ _).mono ?_
          rintro e w4 ⟨rfl, rfl⟩
          go_wp2_with fail
          refine (HV.out _ (BB3 _)).mono ?_
          rintro e w5 ⟨rfl, hB⟩
          have HB := Lib.hid ((BB3 _).trans (hB.mono (BB3 _).size))
          have dd : w5.cell? ⟨w.heap.size + 2, 1, none⟩ = some (.int .i64 xk) := by
            rw [hB.cell (p := ⟨w.heap.size + 2, 1, none⟩) (by simp), World.cell?_alloc_at _ _ _ _ (by simp)]; rfl
          have d2 : w5.cell? ⟨w.heap.size + 1, 2, none⟩ = some (.int .i64 vk) := by
            rw [hB.cell (p := ⟨w.heap.size + 1, 2, none⟩) (by simp), World.cell?_alloc_past _ _ _ (by simp), World.cell?_alloc_at _ _ _ _ (by simp)]; rfl
          clear hB BB BB3 r1
          go_wp2
          go_ret
          exact ⟨ret_int eR.out.symm, HB.out⟩
        by_cases h2 : vk = xk
        · have eR : Hid (R = 0) := eB.out.trans (if_neg (fun h => h.2.2 h2))
          have t0 : (vk != 0) = true := by simp [h0]
          have t1 : (vk != 1) = true := by simp [h1]
          have t2 : (vk != xk) = false := by simp [h2]
          clear eB h0 h1 h2
          go_enter Tryd.func35, Tryd.ntmps35
          go_wp2_with fail
          refine (HR2.out _ (BB3 _) _ _).mono ?_
          rintro e w4 ⟨rfl, rfl⟩
          go_wp2_with fail
          refine (HV.out _ (BB3 _)).mono ?_
          rintro e w5 ⟨rfl, hB⟩
          have HB := Lib.hid ((BB3 _).trans (hB.mono (BB3 _).size))
          have dd : w5.cell? ⟨w.heap.size + 2, 1, none⟩ = some (.int .i64 xk) := by
            rw [hB.cell (p := ⟨w.heap.size + 2, 1, none⟩) (by simp), World.cell?_alloc_at _ _ _ _ (by simp)]; rfl
          have d2 : w5.cell? ⟨w.heap.size + 1, 2, none⟩ = some (.int .i64 vk) := by
            rw [hB.cell (p := ⟨w.heap.size + 1, 2, none⟩) (by simp), World.cell?_alloc_past _ _ _ (by simp), World.cell?_alloc_at _ _ _ _ (by simp)]; rfl
          clear hB BB BB3 r1
          go_wp2
          go_ret
          exact ⟨ret_int eR.out.symm, HB.out⟩
        have eR : Hid (R = 8) := eB.out.trans (if_pos ⟨h0, h1, h2⟩)
        have t0 : (vk != 0) = true := by simp [h0]
        have t1 : (vk != 1) = true := by simp [h1]
        have t2 : (vk != xk) = true := by simp [h2]
        clear eB h0 h1 h2
        go_enter Tryd.func35, Tryd.ntmps35
        go_wp2_with fail
        refine (HR2.out _ (BB3 _) _ _).mono ?_
        rintro e w4 ⟨rfl, rfl⟩
        go_wp2_with fail
        refine (HV.out _ (BB3 _)).mono ?_
        rintro e w5 ⟨rfl, hB⟩
        have HB := Lib.hid ((BB3 _).trans (hB.mono (BB3 _).size))
        have dd : w5.cell? ⟨w.heap.size + 2, 1, none⟩ = some (.int .i64 xk) := by
          rw [hB.cell (p := ⟨w.heap.size + 2, 1, none⟩) (by simp), World.cell?_alloc_at _ _ _ _ (by simp)]; rfl
        have d2 : w5.cell? ⟨w.heap.size + 1, 2, none⟩ = some (.int .i64 vk) := by
          rw [hB.cell (p := ⟨w.heap.size + 1, 2, none⟩) (by simp), World.cell?_alloc_past _ _ _ (by simp), World.cell?_alloc_at _ _ _ _ (by simp)]; rfl
        clear hB BB BB3 r1
        go_wp2
        go_ret
        exact ⟨ret_int eR.out.symm, HB.out⟩
      · have eR : Hid (R = Q) := eA.trans ((if_neg (fun h => h rfl)).trans (if_pos hQ0))
        have q1 : (Q != 0) = true := by simpa using hQ0
        clear eA hQ0
        go_enter Tryd.func35, Tryd.ntmps35
        go_wp2_with fail
        refine (HR2.out _ (BB3 _) _ _).mono ?_
        rintro e w4 ⟨rfl, rfl⟩
        go_wp2_with fail
        refine (HV.out _ (BB3 _)).mono ?_
        rintro e w5 ⟨rfl, hB⟩
        have HB := Lib.hid ((BB3 _).trans (hB.mono (BB3 _).size))
        clear hB BB BB3 r1
        go_wp2
        go_ret
        exact ⟨ret_int eR.out.symm, HB.out⟩
    · have eR : Hid (R = P) := eA.trans (if_pos hP0)
      have q1 : (P != 0) = true := by simpa using hP0
      clear eA hP0 HV
      go_enter Tryd.func35, Tryd.ntmps35
      go_wp2_with fail
      refine (HR2.out _ (BB3 _) _ _).mono ?_
      rintro e w4 ⟨rfl, rfl⟩
      go_wp2
      go_ret
      exact ⟨ret_int eR.out.symm, BB3 _⟩

set_option maxRecDepth 100000 in
set_option maxHeartbeats 8000000 in
theorem checkRows_c (w0 w : World) (b1 b2 : Nat) (L : List Ne) (nm : ByteArray) (row nums : List Int) (rv nv : Value) (hSL : SeesL w0 w b2 L) (hr : IsL w rv row) (hn : IsL w nv nums) (hnm : nm.size ≤ 9223372036854775807) :
    Calls Tryd.prog 38 #[.agg #[.map (some b1), .map (some b2)], .agg #[.string nm, rv, nv]] w fun e w' => e = .returned (.int .i64 (rowsS L ⟨nm, row, nums⟩)) ∧ Below w.heap.size w w' := by
  have HR := Lib.hid (fun W (hW : Below w.heap.size w W) a n c => checkRow_c rv row a n c W (hr.below hW))
  have HN := Lib.hid (fun W (hW : Below w.heap.size w W) => hn.below hW)
  obtain ⟨rp, rc, rfl, _⟩ := hr.len
  obtain ⟨np, nc, rfl, hnl⟩ := hn.len
  clear hr hn
  have BB := ((Below.refl w.heap.size w).alloc (Nat.le_refl _) (.cells #[.map (some b1), .map (some b2)] 44)).alloc (by simp) (.cells #[.string nm, .slice rp row.length rc, .slice np nums.length nc] 80)
  rcases hSL.look nm hnm with ⟨hf, hrun⟩ | ⟨x, lvx, hf, hix, hrun⟩
  · have e0 : Hid (rowsS L ⟨nm, row, nums⟩ = 5) := by unfold Hid rowsS; rw [hf]
    have r1 := hrun _ BB
    clear hf hrun hSL HR HN
    go_enter Tryd.func38, Tryd.ntmps38
    go_wp2
    go_ret
    exact ⟨ret_int e0.out.symm, BB.alloc BB.size _⟩
  · have eA : rowsS L ⟨nm, row, nums⟩ = if rowS row x.lp.length ≠ 0 then rowS row x.lp.length else numsF none nums := by unfold rowsS; rw [hf]
    have r1 := hrun _ BB
    obtain ⟨xa, xc, rfl⟩ := hix.form
    obtain ⟨xnm, xlp⟩ := x
    simp only at r1 eA ⊢
    have BB3 := fun o3 => BB.alloc BB.size o3
    clear hf hrun hSL hix
    obtain ⟨P, hP⟩ : ∃ P, P = rowS row xlp.length := ⟨_, rfl⟩
    have HR2 := Lib.hid (fun W hW a c => by have := HR.out W hW a xlp.length c; rw [← hP] at this; exact this)
    rw [← hP] at eA
    clear hP HR
    generalize rowsS L ⟨nm, row, nums⟩ = R at eA ⊢
    by_cases hP0 : P = 0
    · subst hP0
      have eB : Hid (R = numsF (ahead nums 0) (nums.drop 0)) := eA.trans (if_neg (fun h => h rfl))
      clear eA
      go_enter Tryd.func38, Tryd.ntmps38
      go_wp2_with fail
      refine (HR2.out _ (BB3 _) _ _).mono ?_
      rintro e w4 ⟨rfl, rfl⟩
      go_wp2_with fail
      have HB3 := Lib.hid (BB3 (.cells #[.string xnm, .slice xa xlp.length xc] 60))
      have HNW := Lib.hid (HN.out _ HB3.out)
      clear BB BB3 r1 HR2
      go_loop [8, 9, 31] (fun _ _ i => ∃ k : Nat, k ≤ nums.length ∧ i = .int .i64 k ∧ Hid (R = numsF (ahead nums k) (nums.drop k))) (fun _ _ i => nums.length - (intOf i).toNat)
      case atStart => exact ⟨0, Nat.zero_le _, rfl, eB.out⟩
      case round =>
        obtain ⟨k, hk, rfl, hA⟩ := hrel
        clear eB
        by_cases hlt : k < nums.length
        · have hkk : (k : Int) < (nums.length : Int) := by omega
          obtain ⟨b, off, e1, hbl, hc⟩ := HNW.out.cells (by omega)
          subst e1
          obtain ⟨z, hz⟩ : ∃ z, nums[k]? = some z := ⟨nums[k], List.getElem?_eq_getElem hlt⟩
          have hzd : nums.getD k 0 = z := by rw [List.getD_eq_getElem?_getD, hz]; rfl
          have c1 := hc k hlt
          rw [hzd] at c1
          have hE := hA.out.trans (numsF_drop hz)
          clear hz hzd
          by_cases hr1 : z < 1
          · have eR : Hid (R = 1) := hE.trans (if_pos (.inl hr1))
            clear hE hA hc
            go_wp2
            go_ret
            exact ⟨ret_int eR.out.symm, HB3.out⟩
          · by_cases hr2 : 999 < z
            · have eR : Hid (R = 1) := hE.trans (if_pos (.inr hr2))
              clear hE hA hc
              go_wp2
              go_ret
              exact ⟨ret_int eR.out.symm, HB3.out⟩
            · have hE2 := hE.trans (if_neg (by omega))
              have d1 : decide (z < 1) = false := by simpa using hr1
              have d2 : decide (999 < z) = false := by simpa using hr2
              clear hE hr1 hr2
              by_cases hk0 : k = 0
              · subst hk0
                have eR : Hid (R = numsF (ahead nums (0 + 1)) (nums.drop (0 + 1))) := hE2.trans (if_neg (by omega))
                rw [Nat.add_zero] at c1
                clear hE2 hA hc
                go_wp2
                go_round
                case rel => exact ⟨0 + 1, by omega, by go_num, eR.out⟩
                case measure => simp [intOf]; omega
              · have c2 := hc (k - 1) (by omega)
                obtain ⟨y, hy⟩ : ∃ y, y = nums.getD (k - 1) 0 := ⟨_, rfl⟩
                rw [← hy] at c2 hE2
                clear hy hc
                obtain ⟨j, rfl⟩ : ∃ j, k = j + 1 := ⟨k - 1, by omega⟩
                rw [Nat.add_sub_cancel] at c2
                have k0 : (0 : Int) < ((j : Int) + 1) := by omega
                have kj : j < nums.length := by omega
                have kji : (j : Int) < (nums.length : Int) := by omega
                by_cases hle : z ≤ y
                · have eR : Hid (R = 7) := hE2.trans (if_pos ⟨by omega, hle⟩)
                  have d3 : decide (z ≤ y) = true := by simpa using hle
                  clear hE2 hA hk0 hle
                  go_wp2
                  go_ret
                  exact ⟨ret_int eR.out.symm, HB3.out⟩
                · have eR : Hid (R = numsF (ahead nums (j + 1 + 1)) (nums.drop (j + 1 + 1))) := hE2.trans (if_neg (fun h => hle h.2))
                  have d3 : decide (z ≤ y) = false := by simpa using hle
                  clear hE2 hA hk0 hle
                  go_wp2
                  go_round
                  case rel => exact ⟨j + 1 + 1, by omega, by first | go_num | (congr 1), eR.out⟩
                  case measure => simp [intOf]; omega
        · obtain rfl : k = nums.length := by omega
          have eR : Hid (R = 0) := by unfold Hid; rw [hA.out, List.drop_length]; cases ahead nums nums.length <;> rfl
          clear hA
          go_wp2
          go_ret
          exact ⟨ret_int eR.out.symm, HB3.out⟩
    · have eR : Hid (R = P) := eA.trans (if_pos hP0)
      have q1 : (P != 0) = true := by simpa using hP0
      clear eA hP0 HN
      go_enter Tryd.func38, Tryd.ntmps38
      go_wp2_with fail
      refine (HR2.out _ (BB3 _) _ _).mono ?_
      rintro e w4 ⟨rfl, rfl⟩
      go_wp2
      go_ret
      exact ⟨ret_int eR.out.symm, BB3 _⟩
end Go.Proofs.YtngijlmokhkdjaaDoor
