/-
  CheckFrame of package sample.
-/
import Derived.Test.YtkppfceogknlkaaDoorFrmName
import Derived.Test.YtkppfceogknlkaaDoorFrmOf
namespace Go.Proofs.YtkppfceogknlkaaDoor
open Go.RowKit Go.WideMaps Go.Maps

/-- The error of a unit behind the one with the number last. -/
def chkU (u : Un) (last : Int) : Int :=
  if u.id < 1 then 1 else if u.id ≤ last then 7 else if nameS u.st = false then 5 else if u.cl < 0 then 1 else if 5000 < u.cl then 1 else if u.sz < 1 then 1 else if 1000000 < u.sz then 1 else 0
def unV (u : Un) : Value := .agg #[.int .i64 u.id, .string u.st, .int .i64 u.cl, .int .i64 u.sz]
def IntP (n : Int) (w : World) (e : Ending) (w' : World) : Prop := e = .returned (.int .i64 n) ∧ Below w.heap.size w w'
set_option maxHeartbeats 2000000 in
theorem checkUnit_c (u : Un) (last : Int) (w : World) : Calls Tryd.prog 17 #[unV u, .int .i64 last] w (IntP (chkU u last) w) := by
  obtain ⟨id, st, cl, sz⟩ := u
  unfold unV
  have B := Lib.hid (bel_one w (.cells #[.int .i64 id, .string st, .int .i64 cl, .int .i64 sz] 47))
  have HN := Lib.hid (fun w => isName_c st w)
  by_cases h1 : id < 1
  · have e : Hid (chkU ⟨id, st, cl, sz⟩ last = 1) := by unfold Hid chkU; rw [if_pos h1]
    go_enter Tryd.func17, Tryd.ntmps17
    go_wp2
    go_ret
    exact ⟨by rw [e.out]; rfl, B.out⟩
  by_cases h2 : id ≤ last
  · have e : Hid (chkU ⟨id, st, cl, sz⟩ last = 7) := by unfold Hid chkU; rw [if_neg h1, if_pos h2]
    go_enter Tryd.func17, Tryd.ntmps17
    go_wp2
    go_ret
    exact ⟨by rw [e.out]; rfl, B.out⟩
  by_cases h3 : nameS st = false
  · have e : Hid (chkU ⟨id, st, cl, sz⟩ last = 5) := by unfold Hid chkU; rw [if_neg h1, if_neg h2, if_pos h3]
    rw [h3] at HN
    clear h3
    go_enter Tryd.func17, Tryd.ntmps17
    go_wp2_with (go_at_call 27; refine (HN.out _).mono ?_; rintro e w' ⟨rfl, rfl⟩)
    go_ret
    exact ⟨by rw [e.out]; rfl, B.out⟩
  have h3' : nameS st = true := by simpa using h3
  have hc : Hid (chkU ⟨id, st, cl, sz⟩ last = if cl < 0 then 1 else if 5000 < cl then 1 else if sz < 1 then 1 else if 1000000 < sz then 1 else 0) := by unfold Hid chkU; rw [if_neg h1, if_neg h2, if_neg h3]
  rw [h3'] at HN
  clear h3 h3'
  by_cases h4 : cl < 0
  · have e : Hid (chkU ⟨id, st, cl, sz⟩ last = 1) := by unfold Hid; rw [hc.out, if_pos h4]
    go_enter Tryd.func17, Tryd.ntmps17
    go_wp2_with (go_at_call 27; refine (HN.out _).mono ?_; rintro e w' ⟨rfl, rfl⟩)
    go_ret
    exact ⟨by rw [e.out]; rfl, B.out⟩
  by_cases h5 : 5000 < cl
  · have e : Hid (chkU ⟨id, st, cl, sz⟩ last = 1) := by unfold Hid; rw [hc.out, if_neg h4, if_pos h5]
    go_enter Tryd.func17, Tryd.ntmps17
    go_wp2_with (go_at_call 27; refine (HN.out _).mono ?_; rintro e w' ⟨rfl, rfl⟩)
    go_ret
    exact ⟨by rw [e.out]; rfl, B.out⟩
  by_cases h6 : sz < 1
  · have e : Hid (chkU ⟨id, st, cl, sz⟩ last = 1) := by unfold Hid; rw [hc.out, if_neg h4, if_neg h5, if_pos h6]
    go_enter Tryd.func17, Tryd.ntmps17
    go_wp2_with (go_at_call 27; refine (HN.out _).mono ?_; rintro e w' ⟨rfl, rfl⟩)
    go_ret
    exact ⟨by rw [e.out]; rfl, B.out⟩
  by_cases h7 : 1000000 < sz
  · have e : Hid (chkU ⟨id, st, cl, sz⟩ last = 1) := by unfold Hid; rw [hc.out, if_neg h4, if_neg h5, if_neg h6, if_pos h7]
    go_enter Tryd.func17, Tryd.ntmps17
    go_wp2_with (go_at_call 27; refine (HN.out _).mono ?_; rintro e w' ⟨rfl, rfl⟩)
    go_ret
    exact ⟨by rw [e.out]; rfl, B.out⟩
  · have e : Hid (chkU ⟨id, st, cl, sz⟩ last = 0) := by unfold Hid; rw [hc.out, if_neg h4, if_neg h5, if_neg h6, if_neg h7]
    go_enter Tryd.func17, Tryd.ntmps17
    go_wp2_with (go_at_call 27; refine (HN.out _).mono ?_; rintro e w' ⟨rfl, rfl⟩)
    go_ret
    exact ⟨by rw [e.out]; rfl, B.out⟩
/-- The number ahead of a unit's. -/
def prev (l : List Un) (k : Nat) : Int := if k = 0 then 0 else (un l (k - 1)).id
/-- The first error of the first k units. -/
def firstE (l : List Un) : Nat → Int
  | 0 => 0
  | k + 1 => if firstE l k = 0 then chkU (un l k) (prev l k) else firstE l k
theorem firstE_stays {l : List Un} {k : Nat} (h : firstE l k ≠ 0) : ∀ m, firstE l (k + m) = firstE l k
  | 0 => rfl
  | m + 1 => by
    show (if firstE l (k + m) = 0 then _ else firstE l (k + m)) = _
    rw [firstE_stays h m, if_neg h]
def chkF (l : List Un) : Int := if l.length ≤ 5000 then (if firstE l l.length = 0 then (if 40 < (strN l).length then 2 else 0) else firstE l l.length) else 2
theorem chkF_large {l : List Un} (h : ¬ l.length ≤ 5000) : chkF l = 2 := by unfold chkF; rw [if_neg h]
theorem chkF_at {l : List Un} (h : l.length ≤ 5000) {k : Nat} (hk : k < l.length) (h0 : firstE l k = 0) (h1 : chkU (un l k) (prev l k) ≠ 0) : chkF l = chkU (un l k) (prev l k) := by
  have e : firstE l (k + 1) = chkU (un l k) (prev l k) := by
    show (if firstE l k = 0 then _ else _) = _
    rw [if_pos h0]
  have s := firstE_stays (l := l) (k := k + 1) (by rw [e]; exact h1) (l.length - (k + 1))
  rw [show k + 1 + (l.length - (k + 1)) = l.length by omega, e] at s
  unfold chkF
  rw [if_pos h, s, if_neg h1]
theorem chkF_many {l : List Un} (h : l.length ≤ 5000) (h0 : firstE l l.length = 0) (h1 : 40 < (strN l).length) : chkF l = 2 := by unfold chkF; rw [if_pos h, if_pos h0, if_pos h1]
theorem chkF_ok {l : List Un} (h : l.length ≤ 5000) (h0 : firstE l l.length = 0) (h1 : ¬ 40 < (strN l).length) : chkF l = 0 := by unfold chkF; rw [if_pos h, if_pos h0, if_neg h1]
/-- The set of the first k strata. -/
def sd (l : List Un) : Nat → DataW Unit
  | 0 => .map []
  | k + 1 => (sd l k).put (.string (sk (un l k))) (.lit (.bool true))
theorem sd_isMap (l : List Un) : ∀ k, IsMap (sd l k)
  | 0 => isMap_empty
  | k + 1 => by
    obtain ⟨es, e⟩ := sd_isMap l k
    show IsMap ((sd l k).put _ _)
    rw [e]
    exact ⟨_, rfl⟩
theorem sd_has (l : List Un) (x : List UInt8) : ∀ k, has (sd l k) (.string x) = true ↔ ∃ i, i < k ∧ sk (un l i) = x
  | 0 => by simp [sd, has]
  | k + 1 => by
    show has ((sd l k).put (.string (sk (un l k))) _) (.string x) = true ↔ _
    by_cases e : sk (un l k) = x
    · subst e
      rw [has_put_same (sd_isMap _ _) (show WideAt.IsKeyLit (.string (sk (un l k))) from trivial)]
      exact ⟨fun _ => ⟨k, by omega, rfl⟩, fun _ => rfl⟩
    · rw [has_put_other (fun h => e (by injection h with h; exact h.symm)), sd_has l x k]
      constructor
      · rintro ⟨i, h1, h2⟩; exact ⟨i, by omega, h2⟩
      · rintro ⟨i, h1, h2⟩
        have : i ≠ k := fun h => e (h ▸ h2)
        exact ⟨i, by omega, h2⟩
theorem strN_nodup (l : List Un) : (strN l).Nodup := compact_nodup leS leB_anti (List.pairwise_mergeSort leB_tr leB_to _) (fun a => by unfold leS; simp)
theorem strN_mem {l : List Un} {x : List UInt8} : x ∈ strN l ↔ ∃ i, i < l.length ∧ sk (un l i) = x := by
  unfold strN
  rw [mem_compact, List.mem_mergeSort, List.mem_map]
  constructor
  · rintro ⟨u, hu, h2⟩
    obtain ⟨i, hi, rfl⟩ := List.mem_iff_getElem.1 hu
    exact ⟨i, hi, by unfold un; rw [List.getD, List.getElem?_eq_getElem hi]; simpa using h2⟩
  · rintro ⟨i, h1, h2⟩
    refine ⟨l[i], List.getElem_mem h1, ?_⟩
    unfold un at h2
    rw [List.getD, List.getElem?_eq_getElem h1] at h2
    simpa using h2
/-- How many strata the set has. -/
theorem sd_size {R : Value → Option (DataW Unit × List MemPlace)} {w : World} {b n : Nat} {l : List Un} (hown : w.ownsMap Tryd.prog 9 R b n (sd l l.length)) : Maps.size (sd l l.length) = (strN l).length := by
  have h := Collected.perm (left := fun _ => false) (ss := strN l) ⟨strN_nodup l, fun x => by rw [strN_mem, sd_has]; simp⟩ hown (string_keyed Tryd.underlying9) Tryd.underlying9 (fun _ => rfl)
  obtain ⟨es, e⟩ := hown.isMap
  rw [e] at h ⊢
  rw [h.length_eq]
  show es.length = (es.map _).length
  rw [List.length_map]
end Go.Proofs.YtkppfceogknlkaaDoor
