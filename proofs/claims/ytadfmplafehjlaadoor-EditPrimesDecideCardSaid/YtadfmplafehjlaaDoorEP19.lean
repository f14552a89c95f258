/-
  Package edit: boxes are compared by their sets.
  Package edit: a row of edits is sorted by their sets.
  Package edit: the sort of edits by their sets.
  Package edit: Primes.
-/
import Derived.Test.YtadfmplafehjlaaDoorEP18
import Derived.Test.YtadfmplafehjlaaDoorShelfB
import Derived.Lib.OwnBridge
import Derived.Shelf.GgClosure.Gives
namespace Go.Proofs.YtadfmplafehjlaaDoor
open Go.RowKit Go.WideMaps Go.Maps Go.Shelf Go.Sort

/-- Lists are compared by their first elements that differ. -/
def lexC {α : Type} (c : α → α → Int) : List α → List α → Int
  | [], [] => 0
  | [], _ :: _ => -1
  | _ :: _, [] => 1
  | a :: s, b :: t => if c a b ≠ 0 then c a b else lexC c s t
/-- A comparison of an order. -/
structure GC {α : Type} (c : α → α → Int) : Prop where
  rf : ∀ x, c x x = 0
  sy : ∀ x y, 0 < c x y ↔ c y x < 0
  tr : ∀ x y z, c x y ≤ 0 → c y z ≤ 0 → c x z ≤ 0
theorem GC.zero {α : Type} {c : α → α → Int} (h : GC c) {x y : α} (e : c x y = 0) : c y x = 0 := by
  have h1 := h.sy x y
  have h2 := h.sy y x
  omega
theorem GC.lex {α : Type} {c : α → α → Int} (h : GC c) : GC (lexC c) where
  rf x := by
    induction x with
    | nil => rfl
    | cons a s ih => unfold lexC; rw [if_neg (by rw [h.rf]; simp)]; exact ih
  sy x := by
    induction x with
    | nil => intro y; cases y <;> simp [lexC]
    | cons a s ih =>
      intro y
      cases y with
      | nil => simp [lexC]
      | cons b t =>
        unfold lexC
        by_cases e : c a b = 0
        · rw [if_neg (by simpa using e), if_neg (by simpa using h.zero e)]; exact ih t
        · have e2 : c b a ≠ 0 := fun q => e (h.zero q)
          rw [if_pos e, if_pos e2]; exact h.sy a b
  tr x := by
    induction x with
    | nil => intro y z _ _; cases z <;> simp [lexC]
    | cons a s ih =>
      intro y z h1 h2
      cases y with
      | nil => simp [lexC] at h1
      | cons b t =>
        cases z with
        | nil => simp [lexC] at h2
        | cons d u =>
          unfold lexC at h1 h2 ⊢
          have n1 : c a b ≤ 0 := by
            by_cases e : c a b = 0
            · omega
            · rw [if_pos e] at h1; exact h1
          have n2 : c b d ≤ 0 := by
            by_cases e : c b d = 0
            · omega
            · rw [if_pos e] at h2; exact h2
          have n3 := h.tr a b d n1 n2
          by_cases e : c a d = 0
          · rw [if_neg (by simpa using e)]
            have e0 := h.zero e
            have z1 : c a b = 0 := by
              have h5 := h.tr b d a n2 (by omega)
              have h6 := h.sy b a
              omega
            have z2 : c b d = 0 := by
              have h5 := h.tr d a b (by omega) n1
              have h6 := h.sy d b
              omega
            rw [if_neg (by simpa using z1)] at h1
            rw [if_neg (by simpa using z2)] at h2
            exact ih t u h1 h2
          · rw [if_pos e]; exact n3
theorem GC.swo {α : Type} {c : α → α → Int} (h : GC c) : SWO (ltOf c) where
  irrefl x := by unfold ltOf; rw [h.rf]; rfl
  trans x y z h1 h2 := by
    unfold ltOf at *
    have h1 := of_decide_eq_true h1
    have h2 := of_decide_eq_true h2
    refine decide_eq_true ?_
    have h3 := h.tr x y z (by omega) (by omega)
    by_cases e : c x z = 0
    · have h4 := h.tr z x y (by rw [h.zero e]; omega) (by omega)
      have h5 := h.sy z y
      omega
    · omega
  ntrans x y z h1 h2 := by
    unfold ltOf at *
    have h1 := of_decide_eq_false h1
    have h2 := of_decide_eq_false h2
    refine decide_eq_false ?_
    have a1 := h.sy y x
    have a2 := h.sy z y
    have a3 := h.sy x z
    have a4 := h.sy x y
    have a5 := h.sy y z
    have a6 := h.sy z x
    have h3 := h.tr z y x (by omega) (by omega)
    omega
theorem gcI : GC Lib.compareInt where
  rf x := by unfold Lib.compareInt; simp
  sy x y := by unfold Lib.compareInt; repeat' split <;> omega
  tr x y z := by unfold Lib.compareInt; repeat' split <;> omega
theorem gcS : GC (lexC (lexC Lib.compareInt)) := gcI.lex.lex
theorem drop_fn {a : List Int} {k : Nat} (h : k < a.length) : a.drop k = fn a k :: a.drop (k + 1) := by
  rw [List.drop_eq_getElem_cons h]
  unfold fn
  rw [List.getD_eq_getElem?_getD, List.getElem?_eq_getElem h]; rfl
theorem drop_st {a : List (List Int)} {k : Nat} (h : k < a.length) : a.drop k = st a k :: a.drop (k + 1) := by
  rw [List.drop_eq_getElem_cons h]
  unfold st
  rw [List.getD_eq_getElem?_getD, List.getElem?_eq_getElem h]; rfl
set_option maxRecDepth 100000 in
set_option maxHeartbeats 8000000 in
theorem compareI_c (aa : Option Addr) (ca : Nat) (a : List Int) (ba : Option Addr) (cb : Nat) (b : List Int) (w : World) (ha : Rd w aa a) (hb : Rd w ba b) :
    Calls Tryd.prog 43 #[.slice aa a.length ca, .slice ba b.length cb] w fun e w' => e = .returned (.int .i64 (lexC Lib.compareInt a b)) ∧ w' = w := by
  have HA := Lib.hid ha
  have HB := Lib.hid hb
  have hm64 : a.length ≤ 9223372036854775807 := ha.1
  have hq64 : b.length ≤ 9223372036854775807 := hb.1
  obtain ⟨m, hm⟩ : ∃ m, a.length = m := ⟨_, rfl⟩
  obtain ⟨q, hq⟩ : ∃ m, b.length = m := ⟨_, rfl⟩
  have HM := Lib.hid hm
  have HQ := Lib.hid hq
  rw [hm] at hm64 ⊢
  rw [hq] at hq64 ⊢
  clear ha hb hm hq
  go_enter Tryd.func43, Tryd.ntmps43
  go_wp2_with fail
  go_loopw [5, 6, 7, 8, 11] (fun _ _ _ _ iv wr => ∃ (k : Nat), iv = .int .i64 k ∧ Hid (k ≤ m ∧ k ≤ q ∧ lexC Lib.compareInt a b = lexC Lib.compareInt (a.drop k) (b.drop k) ∧ w = wr)) (fun _ _ _ _ iv _ => m - (intOf iv).toNat)
  case atStart => exact ⟨0, rfl, Nat.zero_le _, Nat.zero_le _, rfl, rfl⟩
  case round =>
    obtain ⟨k, rfl, hS⟩ := hrel
    obtain ⟨hk, hkq, hs, rfl⟩ := hS.out
    have HS := Lib.hid hs
    by_cases hlt : k < m
    · have hlt' : (k : Int) < (m : Int) := by omega
      have hk0 : (0 : Int) ≤ (k : Int) := by omega
      have hka : k < a.length := by rw [HM.out]; exact hlt
      obtain ⟨ga, oa, rfl, _, hca⟩ := HA.out.2 (by omega)
      have c0 := hca k hka
      by_cases hge : k < q
      · have hge' : ¬ (q : Int) ≤ (k : Int) := by omega
        have hgl : (k : Int) < (q : Int) := by omega
        have hkb : k < b.length := by rw [HQ.out]; exact hge
        obtain ⟨gb, ob, rfl, _, hcb⟩ := HB.out.2 (by omega)
        have c1 := hcb k hkb
        have ST : Hid (lexC Lib.compareInt a b = if Lib.compareInt (fn a k) (fn b k) ≠ 0 then Lib.compareInt (fn a k) (fn b k) else lexC Lib.compareInt (a.drop (k + 1)) (b.drop (k + 1))) := by
          unfold Hid; rw [hs, drop_fn hka, drop_fn hkb]; rfl
        obtain ⟨x, hx⟩ : ∃ x, fn a k = x := ⟨_, rfl⟩
        obtain ⟨y, hy⟩ : ∃ x, fn b k = x := ⟨_, rfl⟩
        rw [hx] at c0
        rw [hy] at c1
        rw [hx, hy] at ST
        have CC : Hid (∀ V, Calls Tryd.prog 69 #[.int .i64 x, .int .i64 y] V fun e w' => e = .returned (.int .i64 (Lib.compareInt x y)) ∧ w' = V) := fun V => Tryd.cmp_Compare_int x y V
        obtain ⟨z, hz⟩ : ∃ z, Lib.compareInt x y = z := ⟨_, rfl⟩
        rw [hz] at CC ST
        clear hS hk hkq hs hca hcb hka hkb hx hy hz
        by_cases e : z = 0
        · have g1 : (z != 0) = false := by rw [e]; rfl
          have N2 : Hid (lexC Lib.compareInt a b = lexC Lib.compareInt (a.drop (k + 1)) (b.drop (k + 1))) := by unfold Hid; rw [ST.out, if_neg (by simpa using e)]
          clear e
          go_wp2_with fail
          refine (CC.out _).mono ?_
          rintro e1 w4 ⟨rfl, rfl⟩
          go_wp2_with fail
          go_roundw
          case rel => exact ⟨k + 1, by go_num, by unfold Hid; exact ⟨hlt, hge, N2.out, trivial⟩⟩
          case measure => simp [intOf]; omega
        · have g1 : (z != 0) = true := by simpa using e
          have N2 : Hid (lexC Lib.compareInt a b = z) := by unfold Hid; rw [ST.out, if_pos e]
          clear e
          go_wp2_with fail
          refine (CC.out _).mono ?_
          rintro e1 w4 ⟨rfl, rfl⟩
          go_wp2_with fail
          go_ret
          exact ⟨by rw [N2.out]; rfl, rfl⟩
      · have hge' : (q : Int) ≤ (k : Int) := by omega
        have N2 : Hid (lexC Lib.compareInt a b = 1) := by
          unfold Hid; rw [hs, drop_fn hka, List.drop_eq_nil_of_le (show b.length ≤ k by rw [HQ.out]; omega)]; rfl
        clear hS hk hkq hs hca hka hge
        go_wp2_with fail
        go_ret
        exact ⟨by rw [N2.out]; rfl, rfl⟩
    · have hlt' : ¬ (k : Int) < (m : Int) := by omega
      have ea : a.drop k = [] := List.drop_eq_nil_of_le (by rw [HM.out]; omega)
      by_cases e : m < q
      · have e' : (m : Int) < (q : Int) := by omega
        have N2 : Hid (lexC Lib.compareInt a b = -1) := by
          unfold Hid; rw [hs, ea, drop_fn (by rw [HQ.out]; omega)]; rfl
        clear hS hk hkq hs hlt e ea
        go_wp2_with fail
        go_ret
        exact ⟨by rw [N2.out]; rfl, rfl⟩
      · have e' : ¬ (m : Int) < (q : Int) := by omega
        have N2 : Hid (lexC Lib.compareInt a b = 0) := by
          unfold Hid; rw [hs, ea, List.drop_eq_nil_of_le (show b.length ≤ k by rw [HQ.out]; omega)]; rfl
        clear hS hk hkq hs hlt e ea
        go_wp2_with fail
        go_ret
        exact ⟨by rw [N2.out]; rfl, rfl⟩
abbrev cmV : Value := .func (.func 43) #[] #[]
set_option maxRecDepth 100000 in
set_option maxHeartbeats 8000000 in
theorem compareF_c (aa : Option Addr) (ca : Nat) (a : List (List Int)) (ba : Option Addr) (cb : Nat) (b : List (List Int)) (w : World) (ha : RdL w aa a) (hb : RdL w ba b) :
    Calls Tryd.prog 42 #[.slice aa a.length ca, .slice ba b.length cb, cmV] w fun e w' => e = .returned (.int .i64 (lexC (lexC Lib.compareInt) a b)) ∧ w' = w := by
  have HA := Lib.hid ha
  have HB := Lib.hid hb
  have hm64 : a.length ≤ 9223372036854775807 := ha.1
  have hq64 : b.length ≤ 9223372036854775807 := hb.1
  obtain ⟨m, hm⟩ : ∃ m, a.length = m := ⟨_, rfl⟩
  obtain ⟨q, hq⟩ : ∃ m, b.length = m := ⟨_, rfl⟩
  have HM := Lib.hid hm
  have HQ := Lib.hid hq
  rw [hm] at hm64 ⊢
  rw [hq] at hq64 ⊢
  clear ha hb hm hq
  go_enter Tryd.func42, Tryd.ntmps42
  go_wp2_with fail
  go_loopw [7, 8, 9, 10, 13] (fun _ _ _ _ iv wr => ∃ (k : Nat), iv = .int .i64 k ∧ Hid (k ≤ m ∧ k ≤ q ∧ lexC (lexC Lib.compareInt) a b = lexC (lexC Lib.compareInt) (a.drop k) (b.drop k) ∧ w = wr)) (fun _ _ _ _ iv _ => m - (intOf iv).toNat)
  case atStart => exact ⟨0, rfl, Nat.zero_le _, Nat.zero_le _, rfl, rfl⟩
  case round =>
    obtain ⟨k, rfl, hS⟩ := hrel
    obtain ⟨hk, hkq, hs, rfl⟩ := hS.out
    have HS := Lib.hid hs
    by_cases hlt : k < m
    · have hlt' : (k : Int) < (m : Int) := by omega
      have hk0 : (0 : Int) ≤ (k : Int) := by omega
      have hka : k < a.length := by rw [HM.out]; exact hlt
      obtain ⟨ga, oa, rfl, _, hca⟩ := HA.out.2 (by omega)
      obtain ⟨xa, xc, c0, hra⟩ := hca k hka
      by_cases hge : k < q
      · have hge' : ¬ (q : Int) ≤ (k : Int) := by omega
        have hgl : (k : Int) < (q : Int) := by omega
        have hkb : k < b.length := by rw [HQ.out]; exact hge
        obtain ⟨gb, ob, rfl, _, hcb⟩ := HB.out.2 (by omega)
        obtain ⟨ya, yc, c1, hrb⟩ := hcb k hkb
        have ST : Hid (lexC (lexC Lib.compareInt) a b = if lexC Lib.compareInt (st a k) (st b k) ≠ 0 then lexC Lib.compareInt (st a k) (st b k) else lexC (lexC Lib.compareInt) (a.drop (k + 1)) (b.drop (k + 1))) := by
          unfold Hid; rw [hs, drop_st hka, drop_st hkb]; rfl
        have CC := Lib.hid (compareI_c xa xc (st a k) ya yc (st b k) w hra hrb)
        obtain ⟨z, hz⟩ : ∃ z, lexC Lib.compareInt (st a k) (st b k) = z := ⟨_, rfl⟩
        rw [hz] at CC ST
        obtain ⟨xl, hxl⟩ : ∃ z, (st a k).length = z := ⟨_, rfl⟩
        obtain ⟨yl, hyl⟩ : ∃ z, (st b k).length = z := ⟨_, rfl⟩
        rw [hxl] at CC c0
        rw [hyl] at CC c1
        clear hS hk hkq hs hca hcb hka hkb hra hrb hz hxl hyl
        by_cases e : z = 0
        · have g1 : (z != 0) = false := by rw [e]; rfl
          have N2 : Hid (lexC (lexC Lib.compareInt) a b = lexC (lexC Lib.compareInt) (a.drop (k + 1)) (b.drop (k + 1))) := by unfold Hid; rw [ST.out, if_neg (by simpa using e)]
          clear e
          go_wp2_with fail
          refine CC.out.mono ?_
          rintro e1 w4 ⟨rfl, rfl⟩
          go_wp2_with fail
          go_roundw
          case rel => exact ⟨k + 1, by go_num, by unfold Hid; exact ⟨hlt, hge, N2.out, trivial⟩⟩
          case measure => simp [intOf]; omega
        · have g1 : (z != 0) = true := by simpa using e
          have N2 : Hid (lexC (lexC Lib.compareInt) a b = z) := by unfold Hid; rw [ST.out, if_pos e]
          clear e
          go_wp2_with fail
          refine CC.out.mono ?_
          rintro e1 w4 ⟨rfl, rfl⟩
          go_wp2_with fail
          go_ret
          exact ⟨by rw [N2.out]; rfl, rfl⟩
      · have hge' : (q : Int) ≤ (k : Int) := by omega
        have N2 : Hid (lexC (lexC Lib.compareInt) a b = 1) := by
          unfold Hid; rw [hs, drop_st hka, List.drop_eq_nil_of_le (show b.length ≤ k by rw [HQ.out]; omega)]; rfl
        clear hS hk hkq hs hca hka hge hra
        go_wp2_with fail
        go_ret
        exact ⟨by rw [N2.out]; rfl, rfl⟩
    · have hlt' : ¬ (k : Int) < (m : Int) := by omega
      have ea : a.drop k = [] := List.drop_eq_nil_of_le (by rw [HM.out]; omega)
      by_cases e : m < q
      · have e' : (m : Int) < (q : Int) := by omega
        have N2 : Hid (lexC (lexC Lib.compareInt) a b = -1) := by
          unfold Hid; rw [hs, ea, drop_st (by rw [HQ.out]; omega)]; rfl
        clear hS hk hkq hs hlt e ea
        go_wp2_with fail
        go_ret
        exact ⟨by rw [N2.out]; rfl, rfl⟩
      · have e' : ¬ (m : Int) < (q : Int) := by omega
        have N2 : Hid (lexC (lexC Lib.compareInt) a b = 0) := by
          unfold Hid; rw [hs, ea, List.drop_eq_nil_of_le (show b.length ≤ k by rw [HQ.out]; omega)]; rfl
        clear hS hk hkq hs hlt e ea
        go_wp2_with fail
        go_ret
        exact ⟨by rw [N2.out]; rfl, rfl⟩
end Go.Proofs.YtadfmplafehjlaaDoor
namespace Go.Proofs.YtadfmplafehjlaaDoor
open Go.RowKit Go.WideMaps Go.Maps Go.Lib Go.Sort

theorem flat_at {α : Type} [Inhabited α] {enc : α → List Value} {k : Nat} (hk : ∀ x, (enc x).length = k) (k0 : 0 < k) : ∀ (l : List α) (t : Nat), t < l.length * k → (l.flatMap enc)[t]? = some (enc l[t / k]!)[t % k]!
  | [], t, h => by simp at h
  | x :: l, t, h => by
    rw [List.flatMap_cons]
    by_cases e : t < k
    · rw [List.getElem?_append_left (by rw [hk]; exact e), Nat.div_eq_of_lt e, Nat.mod_eq_of_lt e]
      have : t < (enc x).length := by rw [hk]; exact e
      simp [this]
    · rw [List.getElem?_append_right (by rw [hk]; omega), hk]
      have e2 : t / k = (t - k) / k + 1 := by
        rw [← Nat.sub_add_cancel (show k ≤ t by omega), Nat.add_div_right _ k0, Nat.add_sub_cancel]
      have e3 : t % k = (t - k) % k := by
        rw [Nat.mod_eq_sub_mod (show t ≥ k by omega)]
      have hl : t - k < l.length * k := by simp only [List.length_cons, Nat.succ_mul] at h; omega
      rw [flat_at hk k0 l (t - k) hl, e2, e3]
      simp
theorem flat_list {α : Type} [Inhabited α] {enc : α → List Value} {k : Nat} (hk : ∀ x, (enc x).length = k) (k0 : 0 < k) (d : Array α) : (flatK enc k d).toList = d.toList.flatMap enc := by
  have hl : (d.toList.flatMap enc).length = d.size * k := by
    have : ∀ l : List α, (l.flatMap enc).length = l.length * k := fun l => by
      induction l with
      | nil => simp
      | cons x l ih => rw [List.flatMap_cons, List.length_append, hk, ih, List.length_cons, Nat.succ_mul]; omega
    rw [this]; simp
  apply List.ext_getElem?
  intro t
  by_cases ht : t < d.size * k
  · have ht2 : t < d.toList.length * k := by simpa using ht
    rw [flat_at hk k0 d.toList t ht2]
    have e := get_flatK enc k d t ht
    have hs : t < (flatK enc k d).size := by rw [size_flatK]; exact ht
    rw [Array.getElem?_toList, Array.getElem?_eq_getElem hs]
    rw [getElem!_pos _ t hs] at e
    rw [e]
    have hd : t / k < d.size := by rw [Nat.div_lt_iff_lt_mul k0]; exact ht
    simp [getElem!_pos, hd]
  · rw [List.getElem?_eq_none (by rw [Array.length_toList, size_flatK]; omega), List.getElem?_eq_none (by rw [hl]; omega)]
/-- An edit that is made of a box: where its sets lie. -/
structure El where
  a : Option Addr
  c : Nat
  B : Nat → Nat
def ecell (l : List Fd) (x : El) : List Value := [.string ByteArray.empty, .slice x.a (stB l x.B).length x.c]
def erow (l : List Fd) (K : List El) : List Value := K.flatMap (ecell l)
def cfE (l : List Fd) (x y : El) : Int := lexC (lexC Lib.compareInt) (stB l x.B) (stB l y.B)
/-- The sets of an edit read, beside a block. -/
def ElR (l : List Fd) (g : Nat) (W : World) (x : El) : Prop := RdLP (fun b => b ≠ g) W x.a (stB l x.B)
theorem kx_sort {α : Type} [Inhabited α] {enc : α → List Value} {k : Nat} {W : World} {g m : Nat} {d : Array α} {os : Array Obj} : Kx (fun b => b = g) W (sortWorldK enc k W g 0 m d os) := by
  refine ⟨rfl, rfl, rfl, ?_, fun b hb hn => ?_⟩
  · show W.heap.size ≤ (grow (putRow id (Sort.ahead W m) g 0 (flatK enc k d)) os).heap.size
    simp [grow, putRow, mapBlock, Sort.ahead]
  · show (grow (putRow id (Sort.ahead W m) g 0 (flatK enc k d)) os).heap[b]? = _
    rw [heap_grow_old _ _ (by simpa [putRow, mapBlock, Sort.ahead] using hb)]
    have hn' : ¬ g = b := fun e => hn e.symm
    simp [putRow, mapBlock, Sort.ahead, Array.getElem?_modify, hn']
abbrev srvE : Value := .func (.func 41) #[] #[]
set_option maxRecDepth 100000 in
set_option maxHeartbeats 4000000 in
theorem cmpE_c (l : List Fd) (g : Nat) (x y : El) (W : World) (hx : ElR l g W x) (hy : ElR l g W y) :
    Calls Tryd.prog 41 #[.agg #[.string ByteArray.empty, .slice x.a (stB l x.B).length x.c], .agg #[.string ByteArray.empty, .slice y.a (stB l y.B).length y.c]] W fun e w' => e = .returned (.int .i64 (cfE l x y)) ∧ ∃ q os', w' = grow (W.drewN q) os' := by
  obtain ⟨W1, hW1⟩ : ∃ V, (W.alloc (.cells #[.string ByteArray.empty, .slice x.a (stB l x.B).length x.c] 43)).alloc (.cells #[.string ByteArray.empty, .slice y.a (stB l y.B).length y.c] 43) = V := ⟨_, rfl⟩
  have BW : Hid (∃ os, W1 = grow W os) := ⟨#[_] ++ #[_], by rw [← hW1, alloc_eq_grow, alloc_eq_grow, grow_grow]⟩
  have bw : Below W.heap.size W W1 := by rw [← hW1]; exact ((Below.refl _ W).alloc (Nat.le_refl _) _).alloc (by simp) _
  have C1 := Lib.hid (compareF_c x.a x.c (stB l x.B) y.a y.c (stB l y.B) W1 (hx.rd.below bw) (hy.rd.below bw))
  have HC : Hid (cfE l x y = lexC (lexC Lib.compareInt) (stB l x.B) (stB l y.B)) := rfl
  obtain ⟨c1, hc1⟩ : ∃ c, lexC (lexC Lib.compareInt) (stB l x.B) (stB l y.B) = c := ⟨_, rfl⟩
  rw [hc1] at C1 HC
  obtain ⟨xn, hxn⟩ : ∃ c, (stB l x.B).length = c := ⟨_, rfl⟩
  obtain ⟨yn, hyn⟩ : ∃ c, (stB l y.B).length = c := ⟨_, rfl⟩
  obtain ⟨xa, hxa⟩ : ∃ c, x.a = c := ⟨_, rfl⟩
  obtain ⟨ya, hya⟩ : ∃ c, y.a = c := ⟨_, rfl⟩
  obtain ⟨xc, hxc⟩ : ∃ c, x.c = c := ⟨_, rfl⟩
  obtain ⟨yc, hyc⟩ : ∃ c, y.c = c := ⟨_, rfl⟩
  rw [hxn, hyn, hxa, hya, hxc, hyc] at C1 hW1
  rw [hxn, hyn, hxa, hya, hxc, hyc]
  clear hx hy hc1 bw hxn hyn hxa hya hxc hyc
  have v1 : W1.cell? ⟨W.heap.size, 1, none⟩ = some (.slice xa xn xc) := by
    rw [← hW1]
    exact (((Below.refl _ (W.alloc (.cells #[.string ByteArray.empty, .slice xa xn xc] 43))).alloc (Nat.le_refl _) _).cell (p := ⟨W.heap.size, 1, none⟩) (by simp)).trans (by rw [World.cell?_alloc_new]; rfl)
  have v2 : W1.cell? ⟨W.heap.size + 1, 1, none⟩ = some (.slice ya yn yc) := by
    rw [← hW1, show W.heap.size + 1 = (W.alloc (.cells #[.string ByteArray.empty, .slice xa xn xc] 43)).heap.size by simp, World.cell?_alloc_new]; rfl
  go_enter Tryd.func41, Tryd.ntmps41
  go_wp2_with fail
  refine C1.out.mono ?_
  rintro e w' ⟨rfl, rfl⟩
  clear hW1 v1 v2
  go_wp2
  go_ret
  refine ⟨by rw [HC.out]; rfl, 0, ?_⟩
  obtain ⟨os, e⟩ := BW.out
  exact ⟨os, e⟩
end Go.Proofs.YtadfmplafehjlaaDoor
namespace Go.Proofs.YtadfmplafehjlaaDoor
open Go.RowKit Go.WideMaps Go.Maps Go.Lib Go.Sort

theorem cmpE_enters (args : Array Value) (w : World) : (callFunc 41 args).run Tryd.prog w = .ok (.enter 41 args) w := enters_of Tryd.func41 (by kernel_rfl) rfl args w
theorem ed_agg (w : World) : (isAgg 43).run Tryd.prog w = .ok true w := by kernel_rfl
theorem ed_size (w : World) : (Go.sizeOf 43).run Tryd.prog w = .ok 2 w := by kernel_rfl
theorem ecell_len (l : List Fd) (x : El) : (ecell l x).length = 2 := rfl
theorem permG {α : Type} [Inhabited α] {d d' : Array α} (h : PermIn 0 d.size d d') : d'.toList.Perm d.toList := by
  have := h.2.2
  rw [← h.1] at this
  have h2 : d'.toList.take d.size = d'.toList := List.take_of_length_le (by rw [Array.length_toList, h.1]; exact Nat.le_refl _)
  simp [h.1] at this
  rw [h2] at this
  exact this
theorem row_sortedE {α : Type} [Inhabited α] {enc : α → List Value} (h2 : ∀ x, (enc x).length = 2) {w : World} {base : Nat} {T : TypeId} {n : Nat} {xs : List Value} {K' : List α} {g cap m : Nat} {os : Array Obj} (h : w.ownsRow base T 2 (.slice (some ⟨g, 0, none⟩) n cap) n xs) (hl : K'.length = n) :
    (sortWorldK enc 2 w g 0 m K'.toArray os).ownsRow base T 2 (.slice (some ⟨g, 0, none⟩) n cap) n (K'.flatMap enc) ∧ (∀ w0, Below base w0 w → Below base w0 (sortWorldK enc 2 w g 0 m K'.toArray os)) := by
  rcases h.2 with ⟨e, _⟩ | ⟨g', cap', cur, e1, hb, hg, hn, hm, hs, ht⟩
  · cases e
  · injection e1 with e1 _ e3
    injection e1 with e1
    injection e1 with e1
    subst e1; subst e3
    have hlt := (Array.getElem?_eq_some_iff.1 hg).1
    have hF : (flatK enc 2 K'.toArray).toList = K'.flatMap enc := by rw [flat_list h2 (by decide)]
    have hFs : (flatK enc 2 K'.toArray).size = n * 2 := by rw [size_flatK]; simp [hl]
    have hput : (putRow id (Sort.ahead w m) g 0 (flatK enc 2 K'.toArray)).heap[g]? = some (.cells (putCells id 0 (flatK enc 2 K'.toArray) cur) T (0, 0)) := by
      simp [putRow, mapBlock, Sort.ahead, Array.getElem?_modify, hg, onCells]
    refine ⟨⟨by rw [← hF, Array.length_toList, hFs], .inr ⟨g, cap, putCells id 0 (flatK enc 2 K'.toArray) cur, rfl, hb, ?_, hn, hm, by simpa [putCells] using hs, ?_⟩⟩, fun w0 hb0 => ?_⟩
    · show (grow (putRow id (Sort.ahead w m) g 0 (flatK enc 2 K'.toArray)) os).heap[g]? = _
      rw [heap_grow_old _ _ (by simpa [putRow, mapBlock, Sort.ahead] using hlt)]
      exact hput
    · rw [← hF]
      apply List.ext_getElem?
      intro j
      rw [List.getElem?_take, Array.getElem?_toList, Array.getElem?_toList]
      by_cases hj : j < n * 2
      · have hjc : j < cur.size := by
          have := Nat.mul_le_mul_right 2 hn
          omega
        rw [if_pos hj]
        simp only [putCells, Array.getElem?_mapIdx, Array.getElem?_eq_getElem hjc, Option.map_some]
        rw [if_pos (by omega), Array.getElem?_eq_getElem (by omega), Nat.sub_zero, getElem!_pos _ j (by omega)]
        rfl
      · rw [if_neg hj, Array.getElem?_eq_none (by omega)]
    · have h1 := below_putRow (enc := id) (q := m) (d := flatK enc 2 K'.toArray) hb0 hb
      have h2 := Go.Proofs.below_grown (putRow id (Sort.ahead w m) g 0 (flatK enc 2 K'.toArray)) 0 os
      rw [ahead_zero] at h2
      have hz : (putRow id (Sort.ahead w m) g 0 (flatK enc 2 K'.toArray)).heap.size = w.heap.size := by simp [putRow, mapBlock, Sort.ahead]
      exact h1.trans (h2.mono (by rw [hz]; omega))
/-- The outcome of the sort. -/
def SrtP (l : List Fd) (base : Nat) (v : Value) (K : List El) (W : World) (e : Ending) (W' : World) : Prop :=
  e = .returned (.tuple #[]) ∧ ∃ K' : List El, K'.Perm K ∧ W'.ownsRow base 43 2 v K.length (erow l K') ∧ (∀ x, x ∈ K' → ∀ g, v.ownBlock = some g → ElR l g W' x) ∧
    (K'.Pairwise fun x y => 0 ≤ cfE l y x) ∧ ∀ w0, Below base w0 W → Below base w0 W'
theorem gcE (l : List Fd) : GC (cfE l) := ⟨fun _ => gcS.rf _, fun _ _ => gcS.sy _ _, fun _ _ _ => gcS.tr _ _ _⟩
set_option maxRecDepth 100000 in
set_option maxHeartbeats 4000000 in
theorem sortE_c (l : List Fd) (W : World) (base : Nat) (v : Value) (K : List El) (hown : W.ownsRow base 43 2 v K.length (erow l K)) (hn : K.length ≤ 60001) (h00 : K = [] → v = .slice none 0 0) (hK : ∀ x, x ∈ K → ∀ g, v.ownBlock = some g → ElR l g W x) :
    Calls Tryd.prog 40 #[v, srvE] W (SrtP l base v K W) := by
  by_cases hv : v = .slice none 0 0
  · subst hv
    have h0 : K.length = 0 := by
      rcases hown.2 with ⟨_, h⟩ | ⟨g, cap, cur, h, _⟩
      · exact h
      · cases h
    obtain rfl : K = [] := List.eq_nil_of_length_eq_zero h0
    have hcon := AnyF.slices_SortFunc_none (P := Tryd.prog) (ρ := Tryd.sortCf_ren) Tryd.sortCf none 0 srvE W
    change Calls Tryd.prog 40 _ _ _ at hcon
    refine hcon.mono ?_
    rintro e w' ⟨rfl, rfl⟩
    exact ⟨rfl, [], .refl _, hown, fun _ h => by simp at h, List.Pairwise.nil, fun _ h => h⟩
  · rcases hown.2 with ⟨e, _⟩ | ⟨g, cap, cur, rfl, hb, hg, hc, hm, hs, ht⟩
    · exact absurd e hv
    have hlt := (Array.getElem?_eq_some_iff.1 hg).1
    have hKg : ∀ x, x ∈ K → ElR l g W x := fun x hx => hK x hx g rfl
    by_cases hne : K = []
    · exact absurd (h00 hne) hv
    · obtain ⟨x0, hx0⟩ := List.exists_mem_of_ne_nil K hne
      let α := {x : El // ElR l g W x}
      haveI : Inhabited α := ⟨⟨x0, hKg x0 hx0⟩⟩
      let enc : α → List Value := fun x => ecell l x.1
      let A : List α := K.attach.map fun x => ⟨x.1, hKg x.1 x.2⟩
      have hA : A.map Subtype.val = K := by
        show (K.attach.map _).map _ = K
        rw [List.map_map]
        exact List.attach_map_subtype_val K
      have hAl : A.length = K.length := by
        show (K.attach.map _).length = _
        rw [List.length_map, List.length_attach]
      have hAf : A.flatMap enc = erow l K := by
        have h : erow l (A.map Subtype.val) = A.flatMap enc := by unfold erow; rw [List.flatMap_map]
        rw [hA] at h
        exact h.symm
      have h2 : ∀ x : α, (enc x).length = 2 := fun _ => rfl
      have hH : HoldsK enc 2 W g 0 A.toArray := fun j hj => by
        have hF := flat_list h2 (by decide) A.toArray
        have hcell := hown.cells (g := g) rfl j (flatK enc 2 A.toArray)[j]! (by
          have : erow l K = (flatK enc 2 A.toArray).toList := by rw [hF, ← hAf]
          rw [this, Array.getElem?_toList, Array.getElem?_eq_getElem hj, getElem!_pos _ j hj])
        have e : ∀ j, (⟨g, 0, none⟩ : Addr).add j = ⟨g, j, none⟩ := fun j => by
          unfold Addr.add
          by_cases q : j = 0
          · subst q; rfl
          · simp [q]
        rw [e] at hcell
        exact ⟨by rw [Nat.zero_add]; exact hcell, by rw [Nat.zero_add]; exact hown.frozenAt j⟩
      have hsz : A.toArray.size = K.length := by simp [hAl]
      have hsw : SWO (ltOf fun (x y : α) => cfE l x.1 y.1) := by
        have h := (gcE l).swo
        exact ⟨fun x => h.irrefl x.1, fun x y z => h.trans x.1 y.1 z.1, fun x y z => h.ntrans x.1 y.1 z.1⟩
      have hcon := AnyQ.slices_SortFunc (P := Tryd.prog) (ρ := Tryd.sortCf_ren) Tryd.sortCf 2 ed_agg ed_size enc h2 (fun x v hv => by simp [enc, ecell] at hv; rcases hv with rfl | rfl <;> rfl) (fun x y => cfE l x.1 y.1) hsw 41 #[] g 0 cap A.toArray W cmpE_enters (fun m os dk _ x y => cmpE_c l g x.1 y.1 _ (x.2.keep kx_sort fun b h => h) (y.2.keep kx_sort fun b h => h)) hH hlt (by rw [hsz]; omega)
      change Calls Tryd.prog 40 _ _ _ at hcon
      rw [hsz] at hcon
      refine hcon.mono ?_
      rintro e w' ⟨rfl, d', m, os, hp, hso, rfl⟩
      have hperm : d'.toList.Perm A := by
        have := permG (d := A.toArray) (by rw [hsz]; exact hp)
        simpa using this
      have hl : d'.toList.length = K.length := by rw [hperm.length_eq, hAl]
      have hrow := row_sortedE h2 (K' := d'.toList) (m := m) (os := os) hown hl
      rw [show d'.toList.toArray = d' by simp] at hrow
      have hds : d'.size = K.length := by rw [← Array.length_toList]; exact hl
      refine ⟨rfl, d'.toList.map Subtype.val, ?_, ?_, ?_, ?_, hrow.2⟩
      · rw [← hA]; exact hperm.map _
      · unfold erow
        rw [List.flatMap_map]
        exact hrow.1
      · intro x hx g' e
        obtain ⟨y, hy, rfl⟩ := List.mem_map.1 hx
        have e : some g = some g' := e
        injection e with e
        subst e
        exact y.2.keep kx_sort fun b h => h
      · rw [List.pairwise_map, List.pairwise_iff_getElem]
        intro i j hi hj hij
        have h2 := hso i j (Nat.zero_le _) hij (by rw [← hl]; exact hj)
        have hi' : i < d'.size := by simpa using hi
        have hj' : j < d'.size := by simpa using hj
        rw [getElem!_pos d' i hi', getElem!_pos d' j hj'] at h2
        simp only [Array.getElem_toList]
        have h3 : ¬ cfE l d'[j].val d'[i].val < 0 := of_decide_eq_false h2
        exact Int.not_lt.1 h3
end Go.Proofs.YtadfmplafehjlaaDoor
namespace Go.Proofs.YtadfmplafehjlaaDoor
open Go.RowKit Go.WideMaps Go.Maps Go.Shelf

attribute [local go_sem] Oper.semAt_some

theorem infoEd : (Tryd.prog.info? 43).map (fun i => (i.zero, i.size, i.bytes)) = some (some (.agg #[.string ByteArray.empty, .slice none 0 0]), 2, 40) := by kernel_rfl
theorem stB_ne {l : List Fd} {B : Nat → Nat} (h : Vb l B) {j : Nat} (hj : j < (stB l B).length) : 0 < (st (stB l B) j).length := by
  rw [stB_len] at hj
  rw [stB_at hj, List.length_map]
  obtain ⟨k, hk⟩ := bit_of_ne (h.ne j hj)
  have : k ∈ plL l B j := by unfold plL lst; exact List.mem_filter.2 ⟨List.mem_range.2 (bit_lt (h.lt j hj) hk), hk⟩
  exact List.length_pos_of_mem this
theorem RdLP.lt {P : Nat → Prop} {W : World} {a : Option Addr} {l : List (List Int)} (h : RdLP P W a l) (hn : ∀ j, j < l.length → 0 < (st l j).length) : RdLP (fun b => P b ∧ b < W.heap.size) W a l :=
  ⟨h.1, fun h0 => by
    obtain ⟨b, off, e, hl, hp, hc⟩ := h.2 h0
    refine ⟨b, off, e, hl, ⟨hp, hl⟩, fun j hj => ?_⟩
    obtain ⟨a', c', h1, h2, h3⟩ := hc j hj
    refine ⟨a', c', h1, h2, fun b' o' e' => ⟨h3 b' o' e', ?_⟩⟩
    obtain ⟨b2, o2, e2, hl2, _⟩ := h2.2 (hn j hj)
    rw [e'] at e2
    injection e2 with e2
    injection e2 with e2
    rw [e2]; exact hl2⟩
/-- Edits of boxes, in memory. -/
def RdK (l : List Fd) (W : World) (a : Option Addr) (K : List El) : Prop :=
  0 < K.length → ∃ b, a = some ⟨b, 0, none⟩ ∧ b < W.heap.size ∧ ∀ j (x : El), K[j]? = some x → W.cell? ⟨b, j * 2, none⟩ = some (.string ByteArray.empty) ∧ W.cell? ⟨b, j * 2 + 1, none⟩ = some (.slice x.a (stB l x.B).length x.c) ∧ RdL W x.a (stB l x.B)
theorem RdK.below {l : List Fd} {W W' : World} {a : Option Addr} {K : List El} (h : RdK l W a K) (hb : Below W.heap.size W W') : RdK l W' a K := fun h0 => by
  obtain ⟨b, e, hl, hc⟩ := h h0
  refine ⟨b, e, Nat.lt_of_lt_of_le hl hb.size, fun j x hx => ?_⟩
  obtain ⟨h1, h2, h3⟩ := hc j x hx
  exact ⟨(hb.cell (p := ⟨b, j * 2, none⟩) hl).trans h1, (hb.cell (p := ⟨b, j * 2 + 1, none⟩) hl).trans h2, h3.below hb⟩
theorem erow_at {l : List Fd} {i : Nat} (hi : i < 2) : ∀ (K : List El) (j : Nat) (x : El), K[j]? = some x → (erow l K)[j * 2 + i]? = (ecell l x)[i]?
  | [], j, x, h => by simp at h
  | y :: K, 0, x, h => by
    injection h with h
    subst h
    show (ecell l y ++ erow l K)[0 * 2 + i]? = _
    rw [Nat.zero_mul, Nat.zero_add, List.getElem?_append_left (by rw [ecell_len]; exact hi)]
  | y :: K, j + 1, x, h => by
    show (ecell l y ++ erow l K)[(j + 1) * 2 + i]? = _
    rw [List.getElem?_append_right (by rw [ecell_len]; omega), ecell_len, show (j + 1) * 2 + i - 2 = j * 2 + i by omega]
    exact erow_at hi K j x h
theorem rdK_own {l : List Fd} {W : World} {base : Nat} {v : Value} {K : List El} {n : Nat} (h : W.ownsRow base 43 2 v n (erow l K)) (hn : K.length = n) (hK : ∀ x, x ∈ K → RdL W x.a (stB l x.B)) : ∃ a c, v = .slice a n c ∧ RdK l W a K := by
  obtain ⟨a, c, rfl⟩ := own_slE h
  refine ⟨a, c, rfl, fun h0 => ?_⟩
  rcases h.2 with ⟨_, e2⟩ | ⟨g, cap, cur, e1, _⟩
  · omega
  · injection e1 with e1
    subst e1
    refine ⟨g, rfl, (h.lt g rfl).2, fun j x hx => ?_⟩
    have hc : ∀ i u, (erow l K)[i]? = some u → W.cell? ⟨g, i, none⟩ = some u := fun i u e => by
      have := h.cells (g := g) rfl i u e
      have ea : (⟨g, 0, none⟩ : Addr).add i = ⟨g, i, none⟩ := by
        unfold Addr.add
        by_cases q : i = 0
        · subst q; rfl
        · simp [q]
      rw [ea] at this; exact this
    have e0 := erow_at (l := l) (i := 0) (by omega) K j x hx
    have e1 := erow_at (l := l) (i := 1) (by omega) K j x hx
    exact ⟨hc _ _ e0, hc _ _ e1, hK x (List.mem_of_getElem? hx)⟩
/-- What Primes finds. -/
def PrmL (l : List Fd) (E : List Ed) (L : List (Nat → Nat)) : Prop := Good l E L ∧ L.length ≤ 40 ∧ (∀ q, q < E.length → Cov L (ebS l E q)) ∧ ∀ a, a < L.length → ∀ b, b < a → JC l L a b
def PriP (l : List Fd) (E : List Ed) (w : World) (e : Ending) (w' : World) : Prop :=
  Below w.heap.size w w' ∧ ((∃ f : Int, f ≠ 0 ∧ e = .returned (.tuple #[.slice none 0 0, .int .i64 f])) ∨
    (planS l E = 0 ∧ ∃ L K a c, e = .returned (.tuple #[.slice a (K : List El).length c, .int .i64 0]) ∧ RdK l w' a K ∧ (K.map (·.B)).Perm L ∧ PrmL l E L ∧ K.Pairwise fun x y => 0 ≤ cfE l y x))
/-- The edits of the first boxes. -/
structure EsI (l : List Fd) (W3 : World) (L : List (Nat → Nat)) (k : Nat) (K : List El) (v : Value) (W : World) : Prop where
  bel : Below W3.heap.size W3 W
  map : K.map (·.B) = L.take k
  len : K.length = k
  own : W.ownsRow W3.heap.size 43 2 v k (erow l K)
  el : ∀ x, x ∈ K → RdLP (fun b => b < W.heap.size ∧ ∀ g, v.ownBlock = some g → b ≠ g) W x.a (stB l x.B)
  z : k = 0 → v = .slice none 0 0
theorem EsI.keep {l : List Fd} {W3 W W' : World} {L : List (Nat → Nat)} {k : Nat} {K : List El} {v : Value} (h : EsI l W3 L k K v W) (hb : Below W.heap.size W W') : EsI l W3 L k K v W' := by
  have hs := h.bel.size
  have hs2 := hb.size
  exact ⟨h.bel.trans (hb.mono hs), h.map, h.len, keep_own h.own hb, fun x hx => ((h.el x hx).keep (N := fun b => ¬ b < W.heap.size) ⟨hb.os, hb.tape, hb.output, hb.size, fun b h1 _ => hb.block b h1⟩ fun b q => by simpa using q.1).mono fun b q => ⟨by omega, q.2⟩, h.z⟩
theorem EsI.add {l : List Fd} {W3 W W5 w6 : World} {L : List (Nat → Nat)} {k : Nat} {K : List El} {v v' : Value} {B : Nat → Nat} {sa : Option Addr} {sc lo : Nat} (h : EsI l W3 L k K v W) (hlo : lo ≤ W.heap.size) (hvlo : ∀ g, v.ownBlock = some g → g < lo) (hk : k < L.length) (hB : bxAt L k = B) (hV : Vb l B) (hr : RdLP (fun b => lo ≤ b) W sa (stB l B)) (hb : Below W.heap.size W W5) (h5 : W.heap.size < W5.heap.size)
    (hown : w6.ownsRow W3.heap.size 43 2 v' (k + 1) (erow l K ++ [.string ByteArray.empty, .slice sa (stB l B).length sc])) (hg : W5.grownBy w6 v.ownBlock) (hat : v'.ownBlock = v.ownBlock ∨ v'.ownBlock = some W5.heap.size) :
    EsI l W3 L (k + 1) (K ++ [⟨sa, sc, B⟩]) v' w6 := by
  have s1 := h.bel.size
  have s2 := hb.size
  have s3 := hg.size
  have hkx : Kx (fun b => v.ownBlock = some b) W w6 := ⟨hg.os.trans hb.os, hg.tape.trans hb.tape, hg.output.trans hb.output, by omega, fun b h1 h2 => (hg.block b (by omega) fun q => h2 q.symm).trans (hb.block b h1)⟩
  refine ⟨?_, ?_, ?_, ?_, fun x hx => ?_, fun q => by omega⟩
  · exact (h.bel.trans (hb.mono s1)).grown hg (by omega) (fun b e => (h.own.lt b e).1)
  · rw [List.map_append, h.map, List.take_add_one, List.getElem?_eq_getElem hk]
    have : L[k] = B := by rw [← hB]; unfold bxAt; rw [List.getD_eq_getElem?_getD, List.getElem?_eq_getElem hk]; rfl
    rw [this]; rfl
  · rw [List.length_append, h.len]; rfl
  · have : erow l (K ++ [⟨sa, sc, B⟩]) = erow l K ++ [.string ByteArray.empty, .slice sa (stB l B).length sc] := by unfold erow; rw [List.flatMap_append]; rfl
    rw [this]; exact hown
  · have new : ∀ g, v'.ownBlock = some g → v.ownBlock = some g ∨ g = W5.heap.size := fun g e => by
      rcases hat with q | q
      · exact .inl (q ▸ e)
      · rw [q] at e; injection e with e; exact .inr e.symm
    rcases List.mem_append.1 hx with q | q
    · refine ((h.el x q).keep hkx fun b hb2 e => hb2.2 b e rfl).mono fun b hb2 => ⟨by omega, fun g e eb => ?_⟩
      rcases new g e with y | y
      · exact hb2.2 g y eb
      · omega
    · rw [List.mem_singleton.1 q]
      refine ((hr.lt fun j hj => stB_ne hV hj).keep hkx fun b hb2 e => by have := hvlo b e; omega).mono fun b hb2 => ⟨by omega, fun g e eb => ?_⟩
      rcases new g e with y | y
      · have := hvlo g y; omega
      · omega
set_option maxRecDepth 100000 in
set_option maxHeartbeats 16000000 in
theorem Primes_c (a : Option Addr) (c : Nat) (l : List Fd) (a2 : Option Addr) (c2 : Nat) (E : List Ed) (w : World) (hl : RdF w a l) (hE : RdE w a2 E) (hst : ∀ u, u ∈ l → u.nm.size ≤ 9223372036854775807) (hst2 : ∀ u, u ∈ E → u.nm.size ≤ 9223372036854775807)
    (hT : TabAt 0 Lib.deBruijn64tab w) (ht : 0 < w.heap.size) :
    Calls Tryd.prog 15 #[.agg #[.slice a l.length c, .slice a2 E.length c2]] w (PriP l E w) := by
  have mixed : Tryd.prog.follows .mixedOrders = true := by kernel_rfl
  obtain ⟨i0, hi, hz0, hz1, hz2⟩ := info_parts infoEd
  obtain ⟨W1, hW1⟩ : ∃ W, w.alloc (.cells #[.slice a l.length c, .slice a2 E.length c2] 25) = W := ⟨_, rfl⟩
  have b1 : Below w.heap.size w W1 := by rw [← hW1]; exact bel_one _ _
  have B1 := Lib.hid b1
  have C := Lib.hid (planOf_c a c l a2 c2 E W1 (hl.below b1) (hE.below b1) hst hst2 (tab_below hT ht b1) (Nat.lt_of_lt_of_le ht b1.size))
  have x0 : W1.cell? ⟨w.heap.size, 0, none⟩ = some (.slice a l.length c) := by rw [← hW1, World.cell?_alloc_new]; rfl
  have x1 : W1.cell? ⟨w.heap.size, 1, none⟩ = some (.slice a2 E.length c2) := by rw [← hW1, World.cell?_alloc_new]; rfl
  have C3 : Hid (∀ p V, PlR V p l E → Ok l E → Below w.heap.size w V → Calls Tryd.prog 38 #[.pointer (some ⟨p, 0, none⟩)] V (PrmP l E V)) := fun p V h hok b =>
    primes_c p l E V h hok (tab_below hT ht b) (Nat.lt_of_lt_of_le ht b.size)
  have C5 : Hid (∀ p B V, PlR V p l E → Ok l E → Vb l B → Below w.heap.size w V → Calls Tryd.prog 39 #[.pointer (some ⟨p, 0, none⟩), bxV B] V (SoP l B V)) := fun p B V h hok hv b =>
    setsOf_c p l E B V h hok hv (tab_below hT ht b) (Nat.lt_of_lt_of_le ht b.size)
  unfold PoP at C
  unfold PrmP at C3
  obtain ⟨f, hf⟩ : ∃ f, planS l E = f := ⟨_, rfl⟩
  rw [hf] at C
  have HF := Lib.hid hf
  obtain ⟨n, hn⟩ : ∃ n, l.length = n := ⟨_, rfl⟩
  obtain ⟨m, hm⟩ : ∃ n, E.length = n := ⟨_, rfl⟩
  rw [hn] at C x0 hW1 ⊢
  rw [hm] at C x1 hW1 ⊢
  have HN := Lib.hid hn
  clear hl hE hst hst2 hT b1 hf hn hm
  go_enter Tryd.func15, Tryd.ntmps15
  go_wp2_with fail
  refine C.out.mono ?_
  rintro e1 w2 ⟨b2, h2⟩
  have B3 : Hid (Below w.heap.size w w2) := B1.out.trans (b2.mono B1.out.size)
  clear b2 x0 x1 hW1 C
  rcases h2 with ⟨h0, rfl⟩ | ⟨h0, p, rfl, hp⟩
  · have g2 : (f != 0) = true := by simpa using h0
    have PP : Hid (PriP l E w (.returned (.tuple #[.slice none 0 0, .int .i64 f])) w2) := ⟨B3.out, .inl ⟨f, h0, rfl⟩⟩
    clear C3 C5 h0
    go_wp2_with fail
    go_ret2
    exact PP.out
  · have hok := plan_ok (HF.out.trans h0)
    have HOK := Lib.hid hok
    have HP := Lib.hid hp
    have H0 := Lib.hid (HF.out.trans h0)
    have C4 := Lib.hid (C3.out p w2 hp hok B3.out)
    subst h0
    clear hp hok C3
    go_wp2_with fail
    refine C4.out.mono ?_
    rintro e1 W3 ⟨b3, h3⟩
    have B4 : Hid (Below w.heap.size w W3) := B3.out.trans (b3.mono B3.out.size)
    have P3 := Lib.hid (HP.out.below b3)
    clear b3 C4
    rcases h3 with rfl | ⟨L, la, lc, rfl, hrd, hG, h40, hcv, hjc⟩
    · have PP : Hid (PriP l E w (.returned (.tuple #[.slice none 0 0, .int .i64 2])) W3) := ⟨B4.out, .inl ⟨2, by decide, rfl⟩⟩
      clear C5
      go_wp2_with fail
      go_ret2
      exact PP.out
    · have HRD := Lib.hid hrd
      have PLL : Hid (PrmL l E L) := ⟨hG, h40, hcv, hjc⟩
      obtain ⟨N, hN⟩ : ∃ N, L.length = N := ⟨_, rfl⟩
      have HNN := Lib.hid hN
      rw [hN] at h40 ⊢
      clear hrd hG hcv hjc hN
      go_wp2_with fail
      go_loopw [7, 9, 28] (fun v _ iv wr => ∃ (k : Nat) (K : List El), iv = .int .i64 k ∧ Hid (k ≤ N ∧ EsI l W3 L k K v wr)) (fun _ _ iv _ => N - (intOf iv).toNat)
      case atStart => exact ⟨0, [], rfl, Nat.zero_le _, Below.refl _ _, rfl, rfl, World.ownsRow_nil _ _ _ _, fun x h => by simp at h, fun _ => rfl⟩
      case round =>
        obtain ⟨k, K, rfl, hS⟩ := hrel
        obtain ⟨hk, hI⟩ := hS.out
        have HI := Lib.hid hI
        by_cases hlt : k < N
        · have hlt' : (k : Int) < (N : Int) := by omega
          have hk0 : (0 : Int) ≤ (k : Int) := by omega
          obtain ⟨lb, ela, hll, hlc⟩ := (HRD.out.below hI.bel).2 (by rw [HNN.out]; omega)
          subst ela
          have hkL : k < L.length := by rw [HNN.out]; exact hlt
          have LC := hlc k hkL
          obtain ⟨B, hB⟩ : ∃ B, bxAt L k = B := ⟨_, rfl⟩
          rw [hB] at LC
          have HB := Lib.hid hB
          have HV : Hid (Vb l B) := by unfold Hid; rw [← hB]; exact (PLL.out.1 _ (bx_mem hkL)).1
          have x0 := LC 0 (by decide)
          have x1 := LC 1 (by decide)
          have x2 := LC 2 (by decide)
          have x3 := LC 3 (by decide)
          have x4 := LC 4 (by decide)
          have x5 := LC 5 (by decide)
          have x6 := LC 6 (by decide)
          have x7 := LC 7 (by decide)
          have x8 := LC 8 (by decide)
          have x9 := LC 9 (by decide)
          have x10 := LC 10 (by decide)
          have x11 := LC 11 (by decide)
          simp only [Nat.add_zero] at x0 x1 x2 x3 x4 x5 x6 x7 x8 x9 x10 x11
          obtain ⟨W4, hW4⟩ : ∃ V, wr.alloc (.cells #[.int .u64 0, .int .u64 0, .int .u64 0, .int .u64 0, .int .u64 0, .int .u64 0, .int .u64 0, .int .u64 0, .int .u64 0, .int .u64 0, .int .u64 0, .int .u64 0] 57) = V := ⟨_, rfl⟩
          obtain ⟨z, hz⟩ : ∃ q, wr.heap.size = q := ⟨_, rfl⟩
          obtain ⟨W5, hW5⟩ : ∃ V, putB W4 z B 12 = V := ⟨_, rfl⟩
          have ZZ : BxAt W4 z 0 (fun _ => 0) := by rw [← hW4, ← hz]; exact bx_made wr (fun _ => 0)
          have ZF : ∀ o, W4.frozen? ⟨z, o, none⟩ = false := fun o => by rw [← hW4, ← hz]; simp
          have RX := bx_set12 ZZ B
          rw [hW5] at RX
          have B5 : Hid (Below wr.heap.size wr W5) := by
            unfold Hid
            rw [← hW5]
            exact putB_below (by rw [← hW4]; exact bel_one _ _) (by rw [hz]; exact Nat.le_refl _) B 12
          have q0 := ZZ 0 (by decide)
          have q1 := ZZ 1 (by decide)
          have q2 := ZZ 2 (by decide)
          have q3 := ZZ 3 (by decide)
          have q4 := ZZ 4 (by decide)
          have q5 := ZZ 5 (by decide)
          have q6 := ZZ 6 (by decide)
          have q7 := ZZ 7 (by decide)
          have q8 := ZZ 8 (by decide)
          have q9 := ZZ 9 (by decide)
          have q10 := ZZ 10 (by decide)
          have q11 := ZZ 11 (by decide)
          simp only [Nat.zero_add] at q0 q1 q2 q3 q4 q5 q6 q7 q8 q9 q10 q11
          have r0 := RX 0 (by decide)
          have r1 := RX 1 (by decide)
          have r2 := RX 2 (by decide)
          have r3 := RX 3 (by decide)
          have r4 := RX 4 (by decide)
          have r5 := RX 5 (by decide)
          have r6 := RX 6 (by decide)
          have r7 := RX 7 (by decide)
          have r8 := RX 8 (by decide)
          have r9 := RX 9 (by decide)
          have r10 := RX 10 (by decide)
          have r11 := RX 11 (by decide)
          simp only [Nat.zero_add] at r0 r1 r2 r3 r4 r5 r6 r7 r8 r9 r10 r11
          have x4 := x0
          have BW5 : Hid (Below w.heap.size w W5) := (B4.out.trans (HI.out.bel.mono B4.out.size)).trans (B5.out.mono (by have := B4.out.size; have := HI.out.bel.size; omega))
          have P5 := P3.out.below (HI.out.bel.trans (B5.out.mono HI.out.bel.size))
          have C6 := Lib.hid (C5.out p B W5 P5 HOK.out HV.out BW5.out)
          unfold SoP bxV at C6
          obtain ⟨sn, hsn⟩ : ∃ s, (stB l B).length = s := ⟨_, rfl⟩
          have HSN := Lib.hid hsn
          rw [hsn] at C6
          have HLW : Hid (wr.heap.size < W5.heap.size) := by unfold Hid; rw [← hW5, ← hW4]; simp [putB]
          simp only [putB] at hW5
          clear hS hk hI hlc LC ZZ RX hB P5 hsn x4
          go_wp2_with fail
          refine C6.out.mono ?_
          rintro e1 w6 ⟨⟨sa, sc, rfl, hrs⟩, b6⟩
          have I6 := Lib.hid (HI.out.keep (B5.out.trans (b6.mono B5.out.size)))
          have HRS := Lib.hid hrs
          have HSZ : Hid (W5.heap.size ≤ w6.heap.size) := b6.size
          have HOW : Hid (w6.ownsRow W3.heap.size 43 2 u7 k (erow l K)) := I6.out.own
          have hbase : Hid (W3.heap.size ≤ w6.heap.size) := I6.out.bel.size
          clear b6 hrs C6 x0 x1 x2 x3 x4 x5 x6 x7 x8 x9 x10 x11 q0 q1 q2 q3 q4 q5 q6 q7 q8 q9 q10 q11 r0 r1 r2 r3 r4 r5 r6 r7 r8 r9 r10 r11 hW4 hW5 ZF hz
          go_wp2_with (at_builtin; refine wpList_append_own_at _ rfl _ _ 23 rfl W3.heap.size 43 i0 (.agg #[.string ByteArray.empty, .slice none 0 0]) 2 40 Tryd.underlying23 hi hz0 hz1 hz2 rfl (by decide) u7 k (erow l K) rfl (HOW.out.alloc _) ⟨w6.heap.size, 0, none⟩ 1 1 [.string ByteArray.empty, .slice sa sn sc] rfl rfl (World.news_of_block (t := 43) (fr := (0, 0)) (newBlock _ _)) ?c1 ?c3 ?c4 ?c5 ?_)
          case c1 => intro u hu; simp at hu; rcases hu with rfl | rfl <;> rfl
          case c3 => unfold maxLen; omega
          case c4 => omega
          case c5 => have := hbase.out; simp; omega
          intro v' w7 hown7 hgrow7 _ hat7
          have NX : Hid (k + 1 ≤ N ∧ EsI l W3 L (k + 1) (K ++ [⟨sa, sc, B⟩]) v' w7) := by
            refine ⟨hlt, I6.out.add (lo := W5.heap.size) HSZ.out (fun g e => ?_) (by rw [HNN.out]; exact hlt) HB.out HV.out HRS.out (bel_one _ _) (by simp) (by rw [HSN.out]; exact hown7) hgrow7 (by simpa using hat7)⟩
            have := (HI.out.own.lt g e).2
            have := HLW.out
            omega
          clear hown7 hgrow7 hat7 HOW
          go_wp2_with fail
          go_roundw
          case rel => exact ⟨k + 1, K ++ [El.mk sa sc B], by go_num, NX.out⟩
          case measure => simp [intOf]; omega
        · have hlt' : ¬ (k : Int) < (N : Int) := by omega
          have e : k = N := by omega
          subst e
          obtain ⟨va, vc, hv⟩ := own_slE hI.own
          subst hv
          have CS := Lib.hid (sortE_c l wr W3.heap.size (.slice va k vc) K (by rw [hI.len]; exact hI.own) (by rw [hI.len]; omega) (fun q => hI.z (by rw [← hI.len, q]; rfl)) (fun x hx g eg => (hI.el x hx).mono fun b hb2 => hb2.2 g eg))
          unfold SrtP at CS
          have HBW : Hid (Below w.heap.size w wr) := B4.out.trans (hI.bel.mono B4.out.size)
          have HBE := Lib.hid hI.bel
          clear hS hk hI hlt
          go_wp2_with fail
          refine CS.out.mono ?_
          rintro e1 w9 ⟨rfl, K', hperm, hown9, hel9, hso9, hbel9⟩
          have PP : Hid (PriP l E w (.returned (.tuple #[.slice va k vc, .int .i64 0])) w9) := by
            have hl9 : K'.length = k := by rw [hperm.length_eq]; exact HI.out.len
            have hrdl : ∀ x, x ∈ K' → RdL w9 x.a (stB l x.B) := fun x hx => by
              by_cases h0 : 0 < k
              · rcases hown9.2 with ⟨_, e2⟩ | ⟨g, cap, cur, e1, _⟩
                · rw [HI.out.len] at e2; omega
                · injection e1 with e1
                  subst e1
                  exact (hel9 x hx g rfl).rd
              · have : K' = [] := List.eq_nil_of_length_eq_zero (by omega)
                rw [this] at hx; simp at hx
            rw [HI.out.len] at hown9
            obtain ⟨a', c', e', hr⟩ := rdK_own hown9 hl9 hrdl
            injection e' with e1 _ e3
            refine ⟨B4.out.trans ((hbel9 W3 HBE.out).mono B4.out.size), .inr ⟨H0.out, L, K', a', c', ?_, hr, ?_, PLL.out, hso9⟩⟩
            · rw [e1, e3, hl9]
            · have h1 := hperm.map (·.B)
              rw [HI.out.map, List.take_of_length_le (by rw [HNN.out]; exact Nat.le_refl _)] at h1
              exact h1
          clear hperm hown9 hel9 hso9 hbel9 CS
          go_wp2_with fail
          go_ret2
          exact PP.out
end Go.Proofs.YtadfmplafehjlaaDoor
