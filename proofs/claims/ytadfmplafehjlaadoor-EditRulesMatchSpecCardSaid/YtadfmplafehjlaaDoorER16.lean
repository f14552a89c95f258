/-
  The reference's sorted: sets of fields by their costs.
  The reference's sets: all sets of fields, by their costs.
-/
import Derived.Test.YtadfmplafehjlaaDoorER15
import Derived.Laws.AppendOwnNone
namespace Go.Proofs.YtadfmplafehjlaaDoor
open Go.RowKit Go.WideMaps Go.Maps Go.Shelf

/-- A set of fields with the slice that it is. -/
abbrev It := Value × List Nat
def mgS (l : List Fd) : List It → List It → List It
  | [], b => b
  | x :: a, [] => x :: a
  | x :: a, y :: b => if ahB l y.2 x.2 = true then y :: mgS l (x :: a) b else x :: mgS l a (y :: b)
termination_by a b => a.length + b.length
def srS (l : List Fd) : Nat → List It → List It
  | 0, L => L
  | d + 1, L => if L.length < 2 then L else mgS l (srS l d (L.take (L.length / 2))) (srS l d (L.drop (L.length / 2)))
theorem mg_nil (l : List Fd) (a : List It) : mgS l a [] = a := by cases a <;> simp [mgS]
theorem mg_cons (l : List Fd) (x y : It) (a b : List It) : mgS l (x :: a) (y :: b) = if ahB l y.2 x.2 = true then y :: mgS l (x :: a) b else x :: mgS l a (y :: b) := by rw [mgS]
theorem mg_len (l : List Fd) : ∀ (a b : List It), (mgS l a b).length = a.length + b.length
  | [], b => by simp [mgS]
  | x :: a, [] => by simp [mgS]
  | x :: a, y :: b => by
    rw [mg_cons]
    split
    · rw [List.length_cons, mg_len l (x :: a) b]; simp; omega
    · rw [List.length_cons, mg_len l a (y :: b)]; simp; omega
termination_by a b => a.length + b.length
theorem mg_mem (l : List Fd) (z : It) : ∀ (a b : List It), z ∈ mgS l a b ↔ z ∈ a ∨ z ∈ b
  | [], b => by simp [mgS]
  | x :: a, [] => by simp [mgS]
  | x :: a, y :: b => by
    rw [mg_cons]
    split
    · rw [List.mem_cons, mg_mem l z (x :: a) b]; simp only [List.mem_cons]
      constructor
      · rintro (h | (h | h) | h)
        · exact .inr (.inl h)
        · exact .inl (.inl h)
        · exact .inl (.inr h)
        · exact .inr (.inr h)
      · rintro ((h | h) | h | h)
        · exact .inr (.inl (.inl h))
        · exact .inr (.inl (.inr h))
        · exact .inl h
        · exact .inr (.inr h)
    · rw [List.mem_cons, mg_mem l z a (y :: b)]; simp only [List.mem_cons]
      constructor
      · rintro (h | h | h | h)
        · exact .inl (.inl h)
        · exact .inl (.inr h)
        · exact .inr (.inl h)
        · exact .inr (.inr h)
      · rintro ((h | h) | h | h)
        · exact .inl h
        · exact .inr (.inl h)
        · exact .inr (.inr (.inl h))
        · exact .inr (.inr (.inr h))
termination_by a b => a.length + b.length
def Srt (l : List Fd) (L : List It) : Prop := L.Pairwise fun x y => csL l x.2 ≤ csL l y.2
theorem mg_srt (l : List Fd) : ∀ (a b : List It), Srt l a → Srt l b → Srt l (mgS l a b)
  | [], b, _, hb => by rw [mgS]; exact hb
  | x :: a, [], ha, _ => by rw [mg_nil]; exact ha
  | x :: a, y :: b, ha, hb => by
    have hx := List.pairwise_cons.1 ha
    have hy := List.pairwise_cons.1 hb
    rw [mg_cons]
    split
    · rename_i h
      have h := of_decide_eq_true h
      refine List.pairwise_cons.2 ⟨fun z hz => ?_, mg_srt l (x :: a) b ha hy.2⟩
      rcases (mg_mem l z _ _).1 hz with q | q
      · rcases List.mem_cons.1 q with e | e
        · rw [e]; omega
        · have := hx.1 z e; omega
      · exact hy.1 z q
    · rename_i h
      have h : ¬ csL l y.2 < csL l x.2 := fun q => h (decide_eq_true q)
      refine List.pairwise_cons.2 ⟨fun z hz => ?_, mg_srt l a (y :: b) hx.2 hb⟩
      rcases (mg_mem l z _ _).1 hz with q | q
      · exact hx.1 z q
      · rcases List.mem_cons.1 q with e | e
        · rw [e]; omega
        · have := hy.1 z e; omega
termination_by a b => a.length + b.length
theorem sr_len (l : List Fd) : ∀ (d : Nat) (L : List It), (srS l d L).length = L.length
  | 0, _ => rfl
  | d + 1, L => by
    unfold srS
    split
    · rfl
    · rw [mg_len, sr_len l d, sr_len l d, List.length_take, List.length_drop]; omega
theorem sr_mem (l : List Fd) (z : It) : ∀ (d : Nat) (L : List It), z ∈ srS l d L ↔ z ∈ L
  | 0, _ => Iff.rfl
  | d + 1, L => by
    unfold srS
    split
    · exact Iff.rfl
    · rw [mg_mem, sr_mem l z d, sr_mem l z d, ← List.mem_append, List.take_append_drop]
theorem sr_srt (l : List Fd) : ∀ (d : Nat) (L : List It), L.length ≤ 2 ^ d → Srt l (srS l d L)
  | 0, L, h => by
    show Srt l L
    match L, h with
    | [], _ => exact List.Pairwise.nil
    | [x], _ => exact List.pairwise_singleton _ _
    | x :: y :: t, h => simp at h
  | d + 1, L, h => by
    rw [Nat.pow_succ] at h
    unfold srS
    split
    · rename_i h2
      match L, h2 with
      | [], _ => exact List.Pairwise.nil
      | [x], _ => exact List.pairwise_singleton _ _
      | x :: y :: t, h => exact absurd h (by simp)
    · refine mg_srt l _ _ (sr_srt l d _ ?_) (sr_srt l d _ ?_)
      · rw [List.length_take]; omega
      · rw [List.length_drop]; omega
/-- A row of values in memory. -/
def Wn (w : World) (a : Option Addr) (c : Nat) (xs : List Value) : Prop := xs.length ≤ c ∧ c ≤ 9223372036854775807 ∧ (a = none → c = 0) ∧ (0 < xs.length → ∃ b off, a = some ⟨b, off, none⟩ ∧ b < w.heap.size ∧ ∀ j v, xs[j]? = some v → w.cell? ⟨b, off + j, none⟩ = some v)
theorem Wn.below {w w' : World} {a : Option Addr} {c : Nat} {xs : List Value} (h : Wn w a c xs) (hb : Below w.heap.size w w') : Wn w' a c xs :=
  ⟨h.1, h.2.1, h.2.2.1, fun h0 => by
    obtain ⟨b, off, e, hl, hc⟩ := h.2.2.2 h0
    exact ⟨b, off, e, Nat.lt_of_lt_of_le hl hb.size, fun j v hj => (hb.cell (p := ⟨b, off + j, none⟩) hl).trans (hc j v hj)⟩⟩
/-- What the items of a list are. -/
def Its (n : Nat) (w : World) (L : List It) : Prop := ∀ x, x ∈ L → Sb n x.2 ∧ ∃ a c, x.1 = .slice a x.2.length c ∧ Rd w a (toI x.2)
theorem Its.below {n : Nat} {w w' : World} {L : List It} (h : Its n w L) (hb : Below w.heap.size w w') : Its n w' L := fun x hx => by
  obtain ⟨h1, a, c, h2, h3⟩ := h x hx
  exact ⟨h1, a, c, h2, h3.below hb⟩
def vls (L : List It) : List Value := L.map (·.1)
/-- What sorted gives. -/
def SoP (l : List Fd) (d : Nat) (L : List It) (w : World) (e : Ending) (w' : World) : Prop :=
  Below w.heap.size w w' ∧ ∃ a c, e = .returned (.slice a L.length c) ∧ Wn w' a c (vls (srS l d L))
def lenV : Value → Nat
  | .slice _ n _ => n
  | _ => 0
def S4e (a1 a2 a3 a4 : Addr) (v1 v2 v3 v4 : Value) (w : World) : Prop := w.cell? a1 = some v1 ∧ w.cell? a2 = some v2 ∧ w.cell? a3 = some v3 ∧ w.cell? a4 = some v4
theorem vls_snoc (O : List It) (x : It) : vls (O ++ [x]) = vls O ++ [x.1] := by unfold vls; rw [List.map_append]; rfl
theorem one_vls {n : Nat} {w : World} {L : List It} (h : Its n w L) : ∀ u, u ∈ vls L → u.oneCell' = true := fun u hu => by
  unfold vls at hu
  obtain ⟨x, hx, rfl⟩ := List.mem_map.1 hu
  obtain ⟨_, a, c, e, _⟩ := h x hx
  rw [e]; rfl
theorem Wn.tail {w : World} {b o c : Nat} {x : It} {L : List It} (h : Wn w (some ⟨b, o, none⟩) c (vls (x :: L))) : Wn w (if c = 1 then some ⟨b, o, none⟩ else some ⟨b, o + 1, none⟩) (c - 1) (vls L) := by
  obtain ⟨h1, h2, h3, h4⟩ := h
  have e : (vls (x :: L)).length = (vls L).length + 1 := by simp [vls]
  rw [e] at h1
  refine ⟨by omega, by omega, fun q => ?_, fun h0 => ?_⟩
  · split at q
    · cases q
    · cases q
  · rw [if_neg (by omega)]
    obtain ⟨b', o', e1, hl, hc⟩ := h4 (by omega)
    injection e1 with e1
    injection e1 with e1 e2
    subst e1 e2
    refine ⟨b, o + 1, rfl, hl, fun j v hj => ?_⟩
    have := hc (j + 1) v (by unfold vls at hj ⊢; simpa using hj)
    rw [show o + 1 + j = o + (j + 1) by omega]; exact this
theorem wn_own {w : World} {B : Nat} {v : Value} {n : Nat} {xs : List Value} (h : w.ownsRow B 26 1 v n xs) : ∃ a c, v = .slice a n c ∧ Wn w a c xs := by
  have hl := h.1
  rw [Nat.mul_one] at hl
  rcases h.2 with ⟨rfl, h0⟩ | ⟨g, cap, cur, rfl, _, hg, h1, h2, _⟩
  · subst h0
    exact ⟨none, 0, rfl, by omega, by omega, fun _ => rfl, fun q => by omega⟩
  · refine ⟨_, _, rfl, by omega, by unfold maxLen at h2; omega, (fun q => by cases q), fun _ => ⟨g, 0, rfl, (Array.getElem?_eq_some_iff.1 hg).1, fun j u hj => ?_⟩⟩
    have := h.cells (g := g) rfl j u hj
    have e : ∀ j, (⟨g, 0, none⟩ : Addr).add j = ⟨g, j, none⟩ := fun j => by
      unfold Addr.add
      by_cases q : j = 0
      · subst q; rfl
      · simp [q]
    rw [e] at this
    rw [Nat.zero_add]; exact this
/-- append of a window to a row of the call's own. -/
theorem wpList_append_wn {P : Program} {w : World} {ops : Array Oper} {rest : List Oper} {o : Oper} {a : Act} {Q : Exit → Act → World → Prop} (hg : o.guard = none) (s x : Operand) (t : TypeId) (hop : o.op = Op.call { callee := Callee.builtin Builtin.append, args := #[s, x], argTypes := #[t, t] })
    (base : Nat) (e : TypeId) (i : TypeInfo) (z : Value) (bytes : Nat) (h1 : P.underlying t = some (.slice e)) (h2 : P.info? e = some i) (h3 : i.zero = some z) (h4 : i.size = 1) (h5 : i.bytes = bytes) (h6 : z.cells.size = 1)
    (v : Value) (k : Nat) (ys : List Value) (hs : a.eval s = v) (hown : w.ownsRow base e 1 v k ys) (aa : Option Addr) (m c : Nat) (xs : List Value) (hx : a.eval x = .slice aa m c) (hw : Wn w aa c xs) (hm : xs.length = m) (hone : ∀ u, u ∈ xs → u.oneCell' = true)
    (b1 : k + m ≤ maxLen) (b2 : (k + m) * bytes ≤ 140737488355328) (b3 : base ≤ w.heap.size)
    (hK : ∀ v' w', w'.ownsRow base e 1 v' (k + m) (ys ++ xs) → w.grownBy w' v.ownBlock → wpList P ops Q rest (a.put o.dst v') w') : wpList P ops Q (o :: rest) a w := by
  cases aa with
  | none =>
    have hc := hw.2.2.1 rfl
    have hl := hw.1
    have hm0 : m = 0 := by omega
    have e0 : xs = [] := List.eq_nil_of_length_eq_zero (by omega)
    subst hc hm0 e0
    refine wpList_append_own_none hg s x t hop base e i 1 h1 h2 v k ys hs hown hx ?_
    have := hK v w (by rw [List.append_nil]; exact hown) ⟨rfl, rfl, rfl, Nat.le_refl _, fun _ _ _ => rfl⟩
    exact this
  | some ad =>
    refine wpList_append_own _ hg s x t hop base e i z 1 bytes h1 h2 h3 h4 h5 h6 (by decide) v k ys hs hown ad m c xs hx (by omega) (fun j u hj => ?_) hone b1 b2 b3 fun v' w' q1 q2 _ => hK v' w' q1 q2
    obtain ⟨b, off, e1, _, hc⟩ := hw.2.2.2 (by have := (List.getElem?_eq_some_iff.1 hj).1; omega)
    injection e1 with e1
    subst e1
    have e2 : ∀ j, (⟨b, off, none⟩ : Addr).add j = ⟨b, off + j, none⟩ := fun j => by
      unfold Addr.add
      by_cases q : j = 0
      · subst q; rfl
      · simp [q]
    rw [e2]; exact hc j u hj
theorem infoRow : (Tryd.prog.info? 26).map (fun i => (i.zero, i.size, i.bytes)) = some (some (.slice none 0 0), 1, 24) := by kernel_rfl
set_option maxRecDepth 100000 in
set_option maxHeartbeats 8000000 in
theorem sorted_c (a : Option Addr) (c : Nat) (l : List Fd) (E : List Ed) (a2 : Option Addr) (m2 c2 : Nat) (w0 : World) (hl : RdF w0 a l) (hok : Ok l E) :
    ∀ (d : Nat) (L : List It) (la : Option Addr) (lc : Nat) (w : World), L.length ≤ 2 ^ d → L.length ≤ 4096 → Below w0.heap.size w0 w → Wn w la lc (vls L) → Its l.length w L →
    Calls Tryd.prog 98 #[.agg #[.slice a l.length c, .slice a2 m2 c2], .slice la L.length lc] w (SoP l d L w) := by
  have mixed : Tryd.prog.follows .mixedOrders = true := by kernel_rfl
  intro d
  induction d with
  | zero =>
    intro L la lc w hd h4 hb hw hi
    obtain ⟨m, hm⟩ : ∃ m, L.length = m := ⟨_, rfl⟩
    have hm2 : (m : Int) < 2 := by omega
    have B : Hid (Below w.heap.size w (w.alloc (.cells #[.slice a l.length c, .slice a2 m2 c2] 25))) := bel_one _ _
    have PP : Hid (SoP l 0 L w (.returned (.slice la m lc)) (w.alloc (.cells #[.slice a l.length c, .slice a2 m2 c2] 25))) := ⟨B.out, la, lc, by rw [hm], hw.below B.out⟩
    rw [hm]
    clear hw hi hb hd h4 hm
    go_enter Tryd.func98, Tryd.ntmps98
    go_wp2_with fail
    go_ret
    exact PP.out
  | succ d ih =>
    intro L la lc w hd h4 hb hw hi
    obtain ⟨W1, hW1⟩ : ∃ W, w.alloc (.cells #[.slice a l.length c, .slice a2 m2 c2] 25) = W := ⟨_, rfl⟩
    obtain ⟨z, hz⟩ : ∃ z, w.heap.size = z := ⟨_, rfl⟩
    have b1 : Below w.heap.size w W1 := by rw [← hW1]; exact bel_one _ _
    have B1 := Lib.hid b1
    have x0 : W1.cell? ⟨z, 0, none⟩ = some (.slice a l.length c) := by rw [← hW1, ← hz, World.cell?_alloc_new]; rfl
    have x1 : W1.cell? ⟨z, 1, none⟩ = some (.slice a2 m2 c2) := by rw [← hW1, ← hz, World.cell?_alloc_new]; rfl
    obtain ⟨m, hm⟩ : ∃ m, L.length = m := ⟨_, rfl⟩
    by_cases h2 : m < 2
    · have hm2 : (m : Int) < 2 := by omega
      have PP : Hid (SoP l (d + 1) L w (.returned (.slice la m lc)) W1) := ⟨b1, la, lc, by rw [hm], by
        unfold srS
        rw [if_pos (by rw [hm]; exact h2)]
        exact hw.below b1⟩
      rw [hm]
      clear hw hi hb hd h4 hm ih b1 x0 x1 h2
      go_enter Tryd.func98, Tryd.ntmps98
      go_wp2_with fail
      go_ret
      exact PP.out
    · have hm2 : ¬ (m : Int) < 2 := by omega
      have HW := Lib.hid hw
      have HI := Lib.hid hi
      have HB := Lib.hid hb
      have HIH := Lib.hid ih
      have HM := Lib.hid hm
      have hmc : m ≤ lc := by have := hw.1; unfold vls at this; rw [List.length_map, hm] at this; exact this
      have hlc := hw.2.1
      have h4' : m ≤ 4096 := by rw [← hm]; exact h4
      obtain ⟨n, hn⟩ : ∃ n, l.length = n := ⟨_, rfl⟩
      have HN := Lib.hid hn
      rw [hm]
      rw [hn] at x0 hW1 ⊢
      obtain ⟨mh, hmh⟩ : ∃ x, m / 2 = x := ⟨_, rfl⟩
      have hq : (m : Int).tdiv 2 = (mh : Int) := by rw [← hmh]; rfl
      have hq2 : (m : Int) / 2 = (mh : Int) := by rw [← hmh]; rfl
      have hmm : mh < m ∧ 1 ≤ mh := by omega
      obtain ⟨lb, lo, rfl, hll, hlv⟩ := hw.2.2.2 (by unfold vls; rw [List.length_map, hm]; omega)
      obtain ⟨mr, hmr⟩ : ∃ x, m - mh = x := ⟨_, rfl⟩
      obtain ⟨lr, hlr⟩ : ∃ x, lc - mh = x := ⟨_, rfl⟩
      have TL : (L.take mh).length = mh := by rw [List.length_take, hm]; omega
      have DL : (L.drop mh).length = mr := by rw [List.length_drop, hm]; exact hmr
      have hlr0 : ¬ lc = mh := by omega
      have hwm : IntKind.i64.wrap (mh : Int) = (mh : Int) := by rw [IntKind.wrap_i64]; omega
      have hmi0 : (0 : Int) ≤ (mh : Int) := by omega
      have hmi1 : (mh : Int) ≤ (lc : Int) := by omega
      have hmi2 : (mh : Int) ≤ (m : Int) := by omega
      rw [Nat.pow_succ] at hd
      have WT : Wn w (some ⟨lb, lo, none⟩) lc (vls (L.take mh)) := ⟨by unfold vls; rw [List.length_map, TL]; omega, hlc, (fun q => by cases q), fun _ => ⟨lb, lo, rfl, hll, fun j v hj => by
        refine hlv j v ?_
        unfold vls at hj ⊢
        rw [List.map_take] at hj
        rw [List.getElem?_take] at hj
        split at hj
        · exact hj
        · cases hj⟩⟩
      have WD' : Wn w (some ⟨lb, lo + mh, none⟩) lr (vls (L.drop mh)) := ⟨by unfold vls; rw [List.length_map, DL]; omega, by omega, (fun q => by cases q), fun _ => ⟨lb, lo + mh, rfl, hll, fun j v hj => by
        rw [Nat.add_assoc]
        refine hlv (mh + j) v ?_
        unfold vls at hj ⊢
        rw [List.map_drop, List.getElem?_drop] at hj
        exact hj⟩⟩
      have IT : Its l.length w (L.take mh) := fun x hx => hi x (List.mem_of_mem_take hx)
      have ID : Its l.length w (L.drop mh) := fun x hx => hi x (List.mem_of_mem_drop hx)
      have lwd : ∀ V, Below W1.heap.size W1 V → Below w.heap.size w V := fun V hV => b1.trans (hV.mono b1.size)
      have C1 : Hid (∀ V, Below W1.heap.size W1 V → Calls Tryd.prog 98 #[.agg #[.slice a l.length c, .slice a2 m2 c2], .slice (some ⟨lb, lo, none⟩) mh lc] V fun e w' => Below V.heap.size V w' ∧ ∃ a c, e = .returned (.slice a mh c) ∧ Wn w' a c (vls (srS l d (L.take mh)))) := fun V hV => by
        have := ih (L.take mh) (some ⟨lb, lo, none⟩) lc V (by rw [TL]; omega) (by rw [TL]; omega) (hb.trans ((lwd V hV).mono hb.size)) (WT.below (lwd V hV)) (IT.below (lwd V hV))
        rw [TL] at this
        refine this.mono fun e w' h => ?_
        unfold SoP at h
        rw [TL] at h
        exact h
      have C2 : Hid (∀ V, Below W1.heap.size W1 V → Calls Tryd.prog 98 #[.agg #[.slice a l.length c, .slice a2 m2 c2], .slice (some ⟨lb, lo + mh, none⟩) mr lr] V fun e w' => Below V.heap.size V w' ∧ ∃ a c, e = .returned (.slice a mr c) ∧ Wn w' a c (vls (srS l d (L.drop mh)))) := fun V hV => by
        have := ih (L.drop mh) (some ⟨lb, lo + mh, none⟩) lr V (by rw [DL]; omega) (by rw [DL]; omega) (hb.trans ((lwd V hV).mono hb.size)) (WD'.below (lwd V hV)) (ID.below (lwd V hV))
        rw [DL] at this
        refine this.mono fun e w' h => ?_
        unfold SoP at h
        rw [DL] at h
        exact h
      have LW := Lib.hid lwd
      have HTL : Hid ((L.take mh).length = mh ∧ (L.drop mh).length = mr) := ⟨TL, DL⟩
      have XX : Hid (∀ V, Below W1.heap.size W1 V → S2e ⟨z, 0, none⟩ ⟨z, 1, none⟩ (.slice a n c) (.slice a2 m2 c2) V) := fun V hV =>
        ⟨(hV.cell (p := ⟨z, 0, none⟩) (cellLt x0)).trans x0, (hV.cell (p := ⟨z, 1, none⟩) (cellLt x1)).trans x1⟩
      rw [hn] at C1 C2
      have HMH := Lib.hid hmh
      clear hw hi hb hd h4 hm ih b1 h2 hn hmh hll hlv TL DL WT WD' IT ID lwd
      go_enter Tryd.func98, Tryd.ntmps98
      go_wp2_with fail
      clear hW1
      refine wp_region_noPanic ?_
      refine wp_region_held_drew (S := (S2e ⟨z, 0, none⟩ ⟨z, 1, none⟩ (.slice a n c) (.slice a2 m2 c2))) (by kernel_rfl) (by exact XX.out _ (Below.refl _ _).drew) (fun hS => ?_)
      obtain ⟨WD, hWD⟩ : ∃ W, W1.drew = W := ⟨_, rfl⟩
      have D0 : Hid (Below W1.heap.size W1 WD) := by unfold Hid; rw [← hWD]; exact (Below.refl _ _).drew
      rw [hWD] at hS ⊢
      clear hWD
      refine wpAnyH_take (i := 0) (v := ?v0a0) rfl (by kernel_rfl) (by kernel_rfl) (by kernel_rfl) (fun _ _ _ h => h) (Or.inl ⟨by rfl, ?hy0a0⟩) (by assumption) ?rest0a0
      case hy0a0 =>
        intro w hSw
        dsimp only [S2e] at hSw
        go_simp
        try with_reducible rfl
      simp only [Act.put, List.getElem_toArray, List.getElem_cons_succ, List.getElem_cons_zero, List.setIfInBounds_toArray, List.set_cons_zero, List.set_cons_succ]
      refine wpAnyH_take (i := 1) (v := ?v1a1) rfl (by kernel_rfl) (by kernel_rfl) (by kernel_rfl) (fun _ _ _ h => h) (Or.inl ⟨by rfl, ?hy1a1⟩) (by assumption) ?rest1a1
      case hy1a1 =>
        intro w hSw
        dsimp only [S2e] at hSw
        go_simp
        try with_reducible rfl
      simp only [Act.put, List.getElem_toArray, List.getElem_cons_succ, List.getElem_cons_zero, List.setIfInBounds_toArray, List.set_cons_zero, List.set_cons_succ]
      refine wpAnyH_take (i := 2) (v := ?v2a2) rfl (by kernel_rfl) (by kernel_rfl) (by kernel_rfl) (fun _ _ _ h => h) (Or.inl ⟨by rfl, ?hy2a2⟩) (by assumption) ?rest2a2
      case hy2a2 =>
        intro w hSw
        dsimp only [S2e] at hSw
        go_simp
        try with_reducible rfl
      simp only [Act.put, List.getElem_toArray, List.getElem_cons_succ, List.getElem_cons_zero, List.setIfInBounds_toArray, List.set_cons_zero, List.set_cons_succ]
      refine wpAnyH_take (i := 3) (v := ?v3a3) rfl (by kernel_rfl) (by kernel_rfl) (by kernel_rfl) (fun _ _ _ h => h) (Or.inl ⟨by rfl, ?hy3a3⟩) (by assumption) ?rest3a3
      case hy3a3 =>
        intro w hSw
        dsimp only [S2e] at hSw
        go_simp
        try with_reducible rfl
      simp only [Act.put, List.getElem_toArray, List.getElem_cons_succ, List.getElem_cons_zero, List.setIfInBounds_toArray, List.set_cons_zero, List.set_cons_succ]
      refine wpAnyH_take (i := 4) (v := ?v4a4) rfl (by kernel_rfl) (by kernel_rfl) (by kernel_rfl) (fun _ _ _ h => h) (Or.inl ⟨by rfl, ?hy4a4⟩) (by assumption) ?rest4a4
      case hy4a4 =>
        intro w hSw
        dsimp only [S2e] at hSw
        go_simp
        try with_reducible rfl
      simp only [Act.put, List.getElem_toArray, List.getElem_cons_succ, List.getElem_cons_zero, List.setIfInBounds_toArray, List.set_cons_zero, List.set_cons_succ]
      refine wpAnyH_take (i := 5) (v := ?v5a5) rfl (by kernel_rfl) (by kernel_rfl) (by kernel_rfl) (fun _ _ _ h => h) (Or.inl ⟨by rfl, ?hy5a5⟩) (by assumption) ?rest5a5
      case hy5a5 =>
        intro w hSw
        dsimp only [S2e] at hSw
        go_simp
        try with_reducible rfl
      simp only [Act.put, List.getElem_toArray, List.getElem_cons_succ, List.getElem_cons_zero, List.setIfInBounds_toArray, List.set_cons_zero, List.set_cons_succ]
      refine wpAnyH_take (i := 7) (v := ?v7a7) rfl (by kernel_rfl) (by kernel_rfl) (by kernel_rfl) (fun _ _ _ h => h) (Or.inl ⟨by rfl, ?hy7a7⟩) (by assumption) ?rest7a7
      case hy7a7 =>
        intro w hSw
        dsimp only [S2e] at hSw
        go_simp
        try with_reducible rfl
      simp only [Act.put, List.getElem_toArray, List.getElem_cons_succ, List.getElem_cons_zero, List.setIfInBounds_toArray, List.set_cons_zero, List.set_cons_succ]
      refine wpAnyH_take (i := 8) (v := ?v8a8) rfl (by kernel_rfl) (by kernel_rfl) (by kernel_rfl) (fun _ _ _ h => h) (Or.inl ⟨by rfl, ?hy8a8⟩) (by assumption) ?rest8a8
      case hy8a8 =>
        intro w hSw
        dsimp only [S2e] at hSw
        go_simp
        try with_reducible rfl
      simp only [Act.put, List.getElem_toArray, List.getElem_cons_succ, List.getElem_cons_zero, List.setIfInBounds_toArray, List.set_cons_zero, List.set_cons_succ]
      refine wpAnyH_take (i := 9) (v := ?v9a9) rfl (by kernel_rfl) (by kernel_rfl) (by kernel_rfl) (fun _ _ _ h => h) (Or.inl ⟨by rfl, ?hy9a9⟩) (by assumption) ?rest9a9
      case hy9a9 =>
        intro w hSw
        dsimp only [S2e] at hSw
        go_simp
        try with_reducible rfl
      simp only [Act.put, List.getElem_toArray, List.getElem_cons_succ, List.getElem_cons_zero, List.setIfInBounds_toArray, List.set_cons_zero, List.set_cons_succ]
      refine wpAnyH_take (i := 10) (v := ?v10a10) rfl (by kernel_rfl) (by kernel_rfl) (by kernel_rfl) (fun _ _ _ h => h) (Or.inl ⟨by rfl, ?hy10a10⟩) (by assumption) ?rest10a10
      case hy10a10 =>
        intro w hSw
        dsimp only [S2e] at hSw
        go_simp
        try with_reducible rfl
      simp only [Act.put, List.getElem_toArray, List.getElem_cons_succ, List.getElem_cons_zero, List.setIfInBounds_toArray, List.set_cons_zero, List.set_cons_succ]
      refine wpAnyH_take (i := 11) (v := ?v11a11) rfl (by kernel_rfl) (by kernel_rfl) (by kernel_rfl) (fun _ _ _ h => h) (Or.inl ⟨by rfl, ?hy11a11⟩) (by assumption) ?rest11a11
      case hy11a11 =>
        intro w hSw
        dsimp only [S2e] at hSw
        go_simp
        try with_reducible rfl
      simp only [Act.put, List.getElem_toArray, List.getElem_cons_succ, List.getElem_cons_zero, List.setIfInBounds_toArray, List.set_cons_zero, List.set_cons_succ]
      refine wpAnyH_take (i := 12) (v := ?v12a12) rfl (by kernel_rfl) (by kernel_rfl) (by kernel_rfl) (fun _ _ _ h => h) (Or.inl ⟨by rfl, ?hy12a12⟩) (by assumption) ?rest12a12
      case hy12a12 =>
        intro w hSw
        dsimp only [S2e] at hSw
        go_simp
        try with_reducible rfl
      simp only [Act.put, List.getElem_toArray, List.getElem_cons_succ, List.getElem_cons_zero, List.setIfInBounds_toArray, List.set_cons_zero, List.set_cons_succ]
      refine wpAnyH_ready (rs := [6]) (by kernel_rfl) (by simp) ?_
      refine AllReadyH.cons rfl (fun K hK => ?_) AllReadyH.nil
      go_simp
      refine (C1.out WD D0.out).mono ?_
      rintro e1 w2 ⟨b2, sa, sca, rfl, hw2⟩
      try go_simp
      have B2 := Lib.hid (D0.out.trans (b2.mono D0.out.size))
      have W2A := Lib.hid hw2
      clear hw2 b2
      have hT := XX.out w2 B2.out
      refine hK _ _ hT (fun _ => ?_)
      clear hK K hT
      try simp only [Act.put, List.setIfInBounds_toArray, List.set_cons_zero, List.set_cons_succ]
      refine wpAnyH_ready (rs := [13]) (by kernel_rfl) (by simp) ?_
      refine AllReadyH.cons rfl (fun K hK => ?_) AllReadyH.nil
      go_simp
      refine (C2.out w2 B2.out).mono ?_
      rintro e1 w3 ⟨b3, sb, scb, rfl, hw3⟩
      try go_simp
      have B3 := Lib.hid (B2.out.trans (b3.mono B2.out.size))
      have W3A := Lib.hid (W2A.out.below b3)
      have W3B := Lib.hid hw3
      clear hw3 b3
      have hT := XX.out w3 B3.out
      refine hK _ _ hT (fun _ => ?_)
      clear hK K hT
      try simp only [Act.put, List.setIfInBounds_toArray, List.set_cons_zero, List.set_cons_succ]
      refine wpAnyH_take (i := 14) (v := ?v14b14) rfl (by kernel_rfl) (by kernel_rfl) (by kernel_rfl) (fun _ _ _ h => h) (Or.inl ⟨by rfl, ?hy14b14⟩) (by assumption) ?rest14b14
      case hy14b14 =>
        intro w hSw
        dsimp only [S2e] at hSw
        go_simp
        try with_reducible rfl
      simp only [Act.put, List.getElem_toArray, List.getElem_cons_succ, List.getElem_cons_zero, List.setIfInBounds_toArray, List.set_cons_zero, List.set_cons_succ]
      refine wpAnyH_take (i := 15) (v := ?v15b15) rfl (by kernel_rfl) (by kernel_rfl) (by kernel_rfl) (fun _ _ _ h => h) (Or.inl ⟨by rfl, ?hy15b15⟩) (by assumption) ?rest15b15
      case hy15b15 =>
        intro w hSw
        dsimp only [S2e] at hSw
        go_simp
        try with_reducible rfl
      simp only [Act.put, List.getElem_toArray, List.getElem_cons_succ, List.getElem_cons_zero, List.setIfInBounds_toArray, List.set_cons_zero, List.set_cons_succ]
      refine wpAnyH_done (by kernel_rfl) ?_ _
      refine NoPanic.normal ?_
      clear hS C1 C2
      obtain ⟨A0, hA0⟩ : ∃ A0, srS l d (L.take mh) = A0 := ⟨_, rfl⟩
      obtain ⟨B0, hB0⟩ : ∃ A0, srS l d (L.drop mh) = A0 := ⟨_, rfl⟩
      rw [hA0] at W3A
      rw [hB0] at W3B
      have LA : Hid (A0.length = mh ∧ B0.length = mr) := by
        unfold Hid
        rw [← hA0, ← hB0, sr_len, sr_len]; exact HTL.out
      have b3w := LW.out w3 B3.out
      have I3A : Hid (Its l.length w3 A0) := by
        unfold Hid
        intro x hx
        rw [← hA0] at hx
        exact HI.out.below b3w x (List.mem_of_mem_take ((sr_mem l x d _).1 hx))
      have I3B : Hid (Its l.length w3 B0) := by
        unfold Hid
        intro x hx
        rw [← hB0] at hx
        exact HI.out.below b3w x (List.mem_of_mem_drop ((sr_mem l x d _).1 hx))
      have HFIN : Hid (srS l (d + 1) L = mgS l A0 B0) := by
        unfold Hid
        rw [← hA0, ← hB0]
        show (if L.length < 2 then L else mgS l (srS l d (L.take (L.length / 2))) (srS l d (L.drop (L.length / 2)))) = _
        rw [if_neg (by rw [HM.out]; omega), HM.out, HMH.out]
      have B3W := Lib.hid b3w
      have HW0 : Hid (Below w0.heap.size w0 w3) := HB.out.trans (b3w.mono HB.out.size)
      clear b3w hA0 hB0 W2A
      obtain ⟨lA, hlA⟩ : ∃ x, x = A0.length := ⟨_, rfl⟩
      obtain ⟨lB, hlB⟩ : ∃ x, x = B0.length := ⟨_, rfl⟩
      have eA : mh = lA := by rw [hlA]; exact LA.out.1.symm
      have eB : mr = lB := by rw [hlB]; exact LA.out.2.symm
      have HEA : Hid (lA = A0.length ∧ lB = B0.length ∧ lA + lB = m) := ⟨hlA, hlB, by omega⟩
      rw [eA, eB]
      clear hlA hlB eA eB
      obtain ⟨i0, hi, hz0, hz1, hz2⟩ := info_parts infoRow
      go_wp2_with fail
      go_loopw [5, 6, 7] (fun av bv ov wr => ∃ (A B O : List It) (aa ba : Option Addr) (ca cb : Nat), av = .slice aa A.length ca ∧ bv = .slice ba B.length cb ∧ Hid (Wn w3 aa ca (vls A) ∧ Wn w3 ba cb (vls B) ∧ Its l.length w3 A ∧ Its l.length w3 B ∧ wr.ownsRow w3.heap.size 26 1 ov O.length (vls O) ∧ O ++ mgS l A B = mgS l A0 B0 ∧ Below w3.heap.size w3 wr)) (fun av bv _ _ => lenV av + lenV bv)
      case atStart => exact ⟨A0, B0, [], sa, sb, sca, scb, by rw [HEA.out.1], by rw [HEA.out.2.1], W3A.out, W3B.out, I3A.out, I3B.out, World.ownsRow_nil _ _ _ _, rfl, Below.refl _ _⟩
      case round =>
        obtain ⟨A, B, O, aa, ba, ca, cb, rfl, rfl, hS⟩ := hrel
        obtain ⟨hwa, hwb, hia, hib, hown, heq, hbl⟩ := hS.out
        cases A with
        | nil =>
          have HBL := Lib.hid hbl
          have HSZ : Hid (w3.heap.size ≤ wr.heap.size) := hbl.size
          have HLN : Hid (O.length + ([] : List It).length + B.length = m) := by
            have := congrArg List.length heq
            rw [List.length_append, mg_len, mg_len] at this
            have h2 := HEA.out
            unfold Hid
            simp only [List.length_nil] at this ⊢
            omega
          have HEQ : Hid (O ++ ([] : List It) ++ B = mgS l A0 B0) := by unfold Hid; rw [← heq]; simp [mgS, mg_nil]
          have HWA := Lib.hid hwa
          have HWB := Lib.hid hwb
          have HOW := Lib.hid hown
          have hv1 : ∀ u, u ∈ vls ([] : List It) → u.oneCell' = true := fun u hu => one_vls hia u hu
          have hv2 : ∀ u, u ∈ vls B → u.oneCell' = true := fun u hu => one_vls hib u hu
          have hb1 := HLN.out
          have lA1 : (vls ([] : List It)).length = ([] : List It).length := by unfold vls; simp
          have lB1 : (vls B).length = B.length := by unfold vls; simp
          clear hS hwa hwb hia hib hown heq hbl
          go_wp2_with (at_builtin; refine wpList_append_wn rfl _ _ 41 rfl w3.heap.size 26 i0 (.slice none 0 0) 24 Tryd.underlying41 hi hz0 hz1 hz2 rfl _ O.length (vls O) rfl HOW.out _ ([] : List It).length _ (vls ([] : List It)) rfl (HWA.out.below HBL.out) lA1 hv1 ?c1n ?c2n HSZ.out ?_)
          case c1n => unfold maxLen; simp only [List.length_nil, List.length_cons] at *; omega
          case c2n => simp only [List.length_nil, List.length_cons] at *; omega
          intro v4 w4 hown4 hgrow4
          have BL4 : Hid (Below w3.heap.size w3 w4) := HBL.out.grown hgrow4 HSZ.out (fun g hg => (HOW.out.lt g hg).1)
          have HOW4 := Lib.hid hown4
          clear hown4 hgrow4
          go_wp2_with (at_builtin; refine wpList_append_wn rfl _ _ 41 rfl w3.heap.size 26 i0 (.slice none 0 0) 24 Tryd.underlying41 hi hz0 hz1 hz2 rfl _ _ (vls O ++ vls ([] : List It)) rfl HOW4.out _ B.length _ (vls B) rfl (HWB.out.below BL4.out) lB1 hv2 ?d1n ?d2n BL4.out.size ?_)
          case d1n => unfold maxLen; simp only [List.length_nil, List.length_cons] at *; omega
          case d2n => simp only [List.length_nil, List.length_cons] at *; omega
          intro v5 w5 hown5 hgrow5
          have PP : Hid (SoP l (d + 1) L w (.returned v5) w5) := by
            have BL5 := BL4.out.grown hgrow5 BL4.out.size (fun g hg => (HOW4.out.lt g hg).1)
            obtain ⟨ra, rc, e5, hw5⟩ := wn_own hown5
            refine ⟨B3W.out.trans (BL5.mono B3W.out.size), ra, rc, ?_, ?_⟩
            · rw [e5, HM.out]
              exact congrArg (fun q => Ending.returned (Value.slice ra q rc)) (by have := HLN.out; simp only [List.length_nil, List.length_cons] at this ⊢; omega)
            · rw [HFIN.out, ← HEQ.out]
              unfold vls at hw5 ⊢
              rw [List.map_append, List.map_append]
              first | exact hw5 | (rw [List.append_assoc]; exact hw5)
          clear hown5 hgrow5
          go_wp2_with fail
          go_ret
          exact PP.out
        | cons x A =>
          cases B with
          | nil =>
            have HBL := Lib.hid hbl
            have HSZ : Hid (w3.heap.size ≤ wr.heap.size) := hbl.size
            have HLN : Hid (O.length + (x :: A).length + ([] : List It).length = m) := by
              have := congrArg List.length heq
              rw [List.length_append, mg_len, mg_len] at this
              have h2 := HEA.out
              unfold Hid
              simp only [List.length_nil] at this ⊢
              omega
            have HEQ : Hid (O ++ (x :: A) ++ ([] : List It) = mgS l A0 B0) := by unfold Hid; rw [← heq]; simp [mgS, mg_nil]
            have HWA := Lib.hid hwa
            have HWB := Lib.hid hwb
            have HOW := Lib.hid hown
            have hv1 : ∀ u, u ∈ vls (x :: A) → u.oneCell' = true := fun u hu => one_vls hia u hu
            have hv2 : ∀ u, u ∈ vls ([] : List It) → u.oneCell' = true := fun u hu => one_vls hib u hu
            have hb1 := HLN.out
            have lA1 : (vls (x :: A)).length = (x :: A).length := by unfold vls; simp
            have lB1 : (vls ([] : List It)).length = ([] : List It).length := by unfold vls; simp
            clear hS hwa hwb hia hib hown heq hbl
            go_wp2_with (at_builtin; refine wpList_append_wn rfl _ _ 41 rfl w3.heap.size 26 i0 (.slice none 0 0) 24 Tryd.underlying41 hi hz0 hz1 hz2 rfl _ O.length (vls O) rfl HOW.out _ (x :: A).length _ (vls (x :: A)) rfl (HWA.out.below HBL.out) lA1 hv1 ?c1m ?c2m HSZ.out ?_)
            case c1m => unfold maxLen; simp only [List.length_nil, List.length_cons] at *; omega
            case c2m => simp only [List.length_nil, List.length_cons] at *; omega
            intro v4 w4 hown4 hgrow4
            have BL4 : Hid (Below w3.heap.size w3 w4) := HBL.out.grown hgrow4 HSZ.out (fun g hg => (HOW.out.lt g hg).1)
            have HOW4 := Lib.hid hown4
            clear hown4 hgrow4
            go_wp2_with (at_builtin; refine wpList_append_wn rfl _ _ 41 rfl w3.heap.size 26 i0 (.slice none 0 0) 24 Tryd.underlying41 hi hz0 hz1 hz2 rfl _ _ (vls O ++ vls (x :: A)) rfl HOW4.out _ ([] : List It).length _ (vls ([] : List It)) rfl (HWB.out.below BL4.out) lB1 hv2 ?d1m ?d2m BL4.out.size ?_)
            case d1m => unfold maxLen; simp only [List.length_nil, List.length_cons] at *; omega
            case d2m => simp only [List.length_nil, List.length_cons] at *; omega
            intro v5 w5 hown5 hgrow5
            have PP : Hid (SoP l (d + 1) L w (.returned v5) w5) := by
              have BL5 := BL4.out.grown hgrow5 BL4.out.size (fun g hg => (HOW4.out.lt g hg).1)
              obtain ⟨ra, rc, e5, hw5⟩ := wn_own hown5
              refine ⟨B3W.out.trans (BL5.mono B3W.out.size), ra, rc, ?_, ?_⟩
              · rw [e5, HM.out]
                exact congrArg (fun q => Ending.returned (Value.slice ra q rc)) (by have := HLN.out; simp only [List.length_nil, List.length_cons] at this ⊢; omega)
              · rw [HFIN.out, ← HEQ.out]
                unfold vls at hw5 ⊢
                rw [List.map_append, List.map_append]
                first | exact hw5 | (rw [List.append_assoc]; exact hw5)
            clear hown5 hgrow5
            go_wp2_with fail
            go_ret
            exact PP.out
          | cons y B =>
            obtain ⟨ab, ao, rfl, hal, hac⟩ := hwa.2.2.2 (by simp [vls])
            obtain ⟨bb, bo, rfl, hbl2, hbc⟩ := hwb.2.2.2 (by simp [vls])
            obtain ⟨sbx, xa, xc, ex, hrx⟩ := hia x (by simp)
            obtain ⟨sby, ya, yc, ey, hry⟩ := hib y (by simp)
            have ca0 := hac 0 _ rfl
            have cb0 := hbc 0 _ rfl
            obtain ⟨xv, xs⟩ := x
            obtain ⟨yv, ys⟩ := y
            have ex : xv = .slice xa xs.length xc := ex
            have ey : yv = .slice ya ys.length yc := ey
            subst ex ey
            dsimp only at ca0 cb0 hrx hry sbx sby
            rw [Nat.add_zero] at ca0 cb0
            have hca1 := hwa.1
            have hcb1 := hwb.1
            have hca2 := hwa.2.1
            have hcb2 := hwb.2.1
            have hla : (vls ((.slice xa xs.length xc, xs) :: A)).length = A.length + 1 := by simp [vls]
            have hlb : (vls ((.slice ya ys.length yc, ys) :: B)).length = B.length + 1 := by simp [vls]
            rw [hla] at hca1
            rw [hlb] at hcb1
            clear hla hlb
            have HSZ : Hid (w3.heap.size ≤ wr.heap.size) := hbl.size
            have HSW : Hid (Below W1.heap.size W1 wr) := B3.out.trans (hbl.mono B3.out.size)
            have HLN : Hid (O.length + (A.length + 1) + (B.length + 1) = m) := by
              have := congrArg List.length heq
              rw [List.length_append, mg_len, mg_len] at this
              have h2 := HEA.out
              unfold Hid
              simp only [List.length_cons] at this
              omega
            have hO : O.length ≤ 4096 := by have := HLN.out; omega
            have CA : Hid (∀ V, Below wr.heap.size wr V → Calls Tryd.prog 116 #[.agg #[.slice a n c, .slice a2 m2 c2], .slice ya ys.length yc, .slice xa xs.length xc] V fun e w' => e = .returned (.bool (ahB l ys xs)) ∧ Below V.heap.size V w') := fun V hV => by
              have bb3 : Below w3.heap.size w3 V := hbl.trans (hV.mono hbl.size)
              have := ahead_c a c l E a2 m2 c2 ya yc ys xa xc xs V (hl.below (HW0.out.trans (bb3.mono HW0.out.size))) hok (hry.below bb3) (hrx.below bb3) sby sbx
              rw [toI_len, toI_len, HN.out] at this
              exact this
            have HS4 : Hid (∀ V, Below wr.heap.size wr V → S4e ⟨z, 0, none⟩ ⟨z, 1, none⟩ ⟨bb, bo, none⟩ ⟨ab, ao, none⟩ (.slice a n c) (.slice a2 m2 c2) (.slice ya ys.length yc) (.slice xa xs.length xc) V) := fun V hV => by
              obtain ⟨q1, q2⟩ := XX.out V (HSW.out.trans (hV.mono HSW.out.size))
              have bb3 : Below w3.heap.size w3 V := hbl.trans (hV.mono hbl.size)
              exact ⟨q1, q2, (bb3.cell (p := ⟨bb, bo, none⟩) hbl2).trans cb0, (bb3.cell (p := ⟨ab, ao, none⟩) hal).trans ca0⟩
            have HCX : Hid ((ab < w3.heap.size ∧ w3.cell? ⟨ab, ao, none⟩ = some (.slice xa xs.length xc)) ∧ bb < w3.heap.size ∧ w3.cell? ⟨bb, bo, none⟩ = some (.slice ya ys.length yc)) := ⟨⟨hal, ca0⟩, hbl2, cb0⟩
            have HWA := Lib.hid hwa
            have HWB := Lib.hid hwb
            have HIA := Lib.hid hia
            have HIB := Lib.hid hib
            have HOW := Lib.hid hown
            have HEQ := Lib.hid heq
            have HBL := Lib.hid hbl
            have hi1 : (1 : Int) ≤ (ca : Int) := by omega
            have hi2 : (1 : Int) ≤ (cb : Int) := by omega
            have hi3 : (1 : Int) ≤ (A.length : Int) + 1 := by omega
            have hi4 : (1 : Int) ≤ (B.length : Int) + 1 := by omega
            obtain ⟨tt, htt⟩ : ∃ t, ahB l ys xs = t := ⟨_, rfl⟩
            rw [htt] at CA
            have HTT := Lib.hid htt
            clear hS hwa hwb hia hib hown heq hbl hac hbc hal hbl2 ca0 cb0 hrx hry sbx sby htt
            go_wp2_with fail
            refine wp_region_noPanic ?_
            refine wp_region_held_drew (S := (S4e ⟨z, 0, none⟩ ⟨z, 1, none⟩ ⟨bb, bo, none⟩ ⟨ab, ao, none⟩ (.slice a n c) (.slice a2 m2 c2) (.slice ya ys.length yc) (.slice xa xs.length xc))) (by kernel_rfl) (by exact HS4.out _ (Below.refl _ _).drew) (fun hSg => ?_)
            obtain ⟨WG, hWD⟩ : ∃ W, wr.drew = W := ⟨_, rfl⟩
            have D0g : Hid (Below wr.heap.size wr WG) := by unfold Hid; rw [← hWD]; exact (Below.refl _ _).drew
            rw [hWD] at hSg ⊢
            clear hWD
            refine wpAnyH_take (i := 0) (v := ?v0g0) rfl (by kernel_rfl) (by kernel_rfl) (by kernel_rfl) (fun _ _ _ h => h) (Or.inl ⟨by rfl, ?hy0g0⟩) (by assumption) ?rest0g0
            case hy0g0 =>
              intro w hSw
              dsimp only [S4e] at hSw
              go_simp
              try with_reducible rfl
            simp only [Act.put, List.getElem_toArray, List.getElem_cons_succ, List.getElem_cons_zero, List.setIfInBounds_toArray, List.set_cons_zero, List.set_cons_succ]
            refine wpAnyH_take (i := 1) (v := ?v1g1) rfl (by kernel_rfl) (by kernel_rfl) (by kernel_rfl) (fun _ _ _ h => h) (Or.inl ⟨by rfl, ?hy1g1⟩) (by assumption) ?rest1g1
            case hy1g1 =>
              intro w hSw
              dsimp only [S4e] at hSw
              go_simp
              try with_reducible rfl
            simp only [Act.put, List.getElem_toArray, List.getElem_cons_succ, List.getElem_cons_zero, List.setIfInBounds_toArray, List.set_cons_zero, List.set_cons_succ]
            refine wpAnyH_take (i := 2) (v := ?v2g2) rfl (by kernel_rfl) (by kernel_rfl) (by kernel_rfl) (fun _ _ _ h => h) (Or.inl ⟨by rfl, ?hy2g2⟩) (by assumption) ?rest2g2
            case hy2g2 =>
              intro w hSw
              dsimp only [S4e] at hSw
              go_simp
              try with_reducible rfl
            simp only [Act.put, List.getElem_toArray, List.getElem_cons_succ, List.getElem_cons_zero, List.setIfInBounds_toArray, List.set_cons_zero, List.set_cons_succ]
            refine wpAnyH_take (i := 3) (v := ?v3g3) rfl (by kernel_rfl) (by kernel_rfl) (by kernel_rfl) (fun _ _ _ h => h) (Or.inl ⟨by rfl, ?hy3g3⟩) (by assumption) ?rest3g3
            case hy3g3 =>
              intro w hSw
              dsimp only [S4e] at hSw
              go_simp
              try with_reducible rfl
            simp only [Act.put, List.getElem_toArray, List.getElem_cons_succ, List.getElem_cons_zero, List.setIfInBounds_toArray, List.set_cons_zero, List.set_cons_succ]
            refine wpAnyH_take (i := 4) (v := ?v4g4) rfl (by kernel_rfl) (by kernel_rfl) (by kernel_rfl) (fun _ _ _ h => h) (Or.inl ⟨by rfl, ?hy4g4⟩) (by assumption) ?rest4g4
            case hy4g4 =>
              intro w hSw
              dsimp only [S4e] at hSw
              go_simp
              try with_reducible rfl
            simp only [Act.put, List.getElem_toArray, List.getElem_cons_succ, List.getElem_cons_zero, List.setIfInBounds_toArray, List.set_cons_zero, List.set_cons_succ]
            refine wpAnyH_take (i := 5) (v := ?v5g5) rfl (by kernel_rfl) (by kernel_rfl) (by kernel_rfl) (fun _ _ _ h => h) (Or.inl ⟨by rfl, ?hy5g5⟩) (by assumption) ?rest5g5
            case hy5g5 =>
              intro w hSw
              dsimp only [S4e] at hSw
              go_simp
              try with_reducible rfl
            simp only [Act.put, List.getElem_toArray, List.getElem_cons_succ, List.getElem_cons_zero, List.setIfInBounds_toArray, List.set_cons_zero, List.set_cons_succ]
            refine wpAnyH_take (i := 6) (v := ?v6g6) rfl (by kernel_rfl) (by kernel_rfl) (by kernel_rfl) (fun _ _ _ h => h) (Or.inl ⟨by rfl, ?hy6g6⟩) (by assumption) ?rest6g6
            case hy6g6 =>
              intro w hSw
              dsimp only [S4e] at hSw
              go_simp
              try with_reducible rfl
            simp only [Act.put, List.getElem_toArray, List.getElem_cons_succ, List.getElem_cons_zero, List.setIfInBounds_toArray, List.set_cons_zero, List.set_cons_succ]
            refine wpAnyH_ready (rs := [7]) (by kernel_rfl) (by simp) ?_
            refine AllReadyH.cons rfl (fun K hK => ?_) AllReadyH.nil
            go_simp
            refine (CA.out WG D0g.out).mono ?_
            rintro e1 wb ⟨rfl, bb4⟩
            try go_simp
            have BW := Lib.hid (D0g.out.trans (bb4.mono D0g.out.size))
            clear bb4
            have hTg := HS4.out wb BW.out
            refine hK _ _ hTg (fun _ => ?_)
            clear hK K hTg
            try simp only [Act.put, List.setIfInBounds_toArray, List.set_cons_zero, List.set_cons_succ]
            refine wpAnyH_done (by kernel_rfl) ?_ _
            refine NoPanic.normal ?_
            clear hSg CA
            have HBLB : Hid (Below w3.heap.size w3 wb) := HBL.out.trans (BW.out.mono HSZ.out)
            have HSZB : Hid (w3.heap.size ≤ wb.heap.size) := Nat.le_trans HSZ.out BW.out.size
            have HOWB := Lib.hid (keep_own HOW.out BW.out)
            have HS1p : Hid (∀ V, Below wb.heap.size wb V → S1e ⟨bb, bo, none⟩ (.slice ya ys.length yc) V) := fun V hV => (HS4.out V (BW.out.trans (hV.mono BW.out.size))).2.2.1
            have HS1q : Hid (∀ V, Below wb.heap.size wb V → S1e ⟨ab, ao, none⟩ (.slice xa xs.length xc) V) := fun V hV => (HS4.out V (BW.out.trans (hV.mono BW.out.size))).2.2.2
            have hblp : Hid (bb < w3.heap.size ∧ w3.cell? ⟨bb, bo, none⟩ = some (.slice ya ys.length yc)) := HCX.out.2
            have hblq : Hid (ab < w3.heap.size ∧ w3.cell? ⟨ab, ao, none⟩ = some (.slice xa xs.length xc)) := HCX.out.1
            cases tt with
            | true =>
              have NE : Hid ((O ++ [(.slice ya ys.length yc, ys)]) ++ mgS l ((.slice xa xs.length xc, xs) :: A) B = mgS l A0 B0) := by
                unfold Hid
                rw [← HEQ.out, mg_cons, if_pos HTT.out, List.append_assoc]; rfl
              have NW : Hid (Wn w3 (if cb = 1 then some ⟨bb, bo, none⟩ else some ⟨bb, bo + 1, none⟩) (cb - 1) (vls B)) := HWB.out.tail
              clear HTT
              go_wp2_with fail
              refine wp_region_noPanic ?_
              refine wp_region_held_drew (S := (S1e ⟨bb, bo, none⟩ (.slice ya ys.length yc))) (by kernel_rfl) (by exact HS1p.out _ (Below.refl _ _).drew) (fun hSp => ?_)
              obtain ⟨WE, hWD⟩ : ∃ W, wb.drew = W := ⟨_, rfl⟩
              have D0p : Hid (Below wb.heap.size wb WE) := by unfold Hid; rw [← hWD]; exact (Below.refl _ _).drew
              rw [hWD] at hSp ⊢
              clear hWD
              refine wpAnyH_take (i := 0) (v := ?v0p0) rfl (by kernel_rfl) (by kernel_rfl) (by kernel_rfl) (fun _ _ _ h => h) (Or.inl ⟨by rfl, ?hy0p0⟩) (by assumption) ?rest0p0
              case hy0p0 =>
                intro w hSw
                dsimp only [S1e] at hSw
                go_simp
                try with_reducible rfl
              simp only [Act.put, List.getElem_toArray, List.getElem_cons_succ, List.getElem_cons_zero, List.setIfInBounds_toArray, List.set_cons_zero, List.set_cons_succ]
              refine wpAnyH_take (i := 1) (v := ?v1p1) rfl (by kernel_rfl) (by kernel_rfl) (by kernel_rfl) (fun _ _ _ h => h) (Or.inl ⟨by rfl, ?hy1p1⟩) (by assumption) ?rest1p1
              case hy1p1 =>
                intro w hSw
                dsimp only [S1e] at hSw
                go_simp
                try with_reducible rfl
              simp only [Act.put, List.getElem_toArray, List.getElem_cons_succ, List.getElem_cons_zero, List.setIfInBounds_toArray, List.set_cons_zero, List.set_cons_succ]
              refine wpAnyH_take (i := 2) (v := ?v2p2) rfl (by kernel_rfl) (by kernel_rfl) (by kernel_rfl) (fun _ _ _ h => h) (Or.inl ⟨by rfl, ?hy2p2⟩) (by assumption) ?rest2p2
              case hy2p2 =>
                intro w hSw
                dsimp only [S1e] at hSw
                go_simp
                try with_reducible rfl
              simp only [Act.put, List.getElem_toArray, List.getElem_cons_succ, List.getElem_cons_zero, List.setIfInBounds_toArray, List.set_cons_zero, List.set_cons_succ]
              refine wpAnyH_take (i := 3) (v := ?v3p3) rfl (by kernel_rfl) (by kernel_rfl) (by kernel_rfl) (fun _ _ _ h => h) (Or.inl ⟨by rfl, ?hy3p3⟩) (by assumption) ?rest3p3
              case hy3p3 =>
                intro w hSw
                dsimp only [S1e] at hSw
                go_simp
                try with_reducible rfl
              simp only [Act.put, List.getElem_toArray, List.getElem_cons_succ, List.getElem_cons_zero, List.setIfInBounds_toArray, List.set_cons_zero, List.set_cons_succ]
              refine wpAnyH_take (i := 6) (v := ?v6p6) rfl (by kernel_rfl) (by kernel_rfl) (by kernel_rfl) (fun _ _ _ h => h) (Or.inl ⟨by rfl, ?hy6p6⟩) (by assumption) ?rest6p6
              case hy6p6 =>
                intro w hSw
                dsimp only [S1e] at hSw
                go_simp
                try with_reducible rfl
              simp only [Act.put, List.getElem_toArray, List.getElem_cons_succ, List.getElem_cons_zero, List.setIfInBounds_toArray, List.set_cons_zero, List.set_cons_succ]
              refine wpAnyH_take (i := 7) (v := ?v7p7) rfl (by kernel_rfl) (by kernel_rfl) (by kernel_rfl) (fun _ _ _ h => h) (Or.inl ⟨by rfl, ?hy7p7⟩) (by assumption) ?rest7p7
              case hy7p7 =>
                intro w hSw
                dsimp only [S1e] at hSw
                go_simp
                try with_reducible rfl
              simp only [Act.put, List.getElem_toArray, List.getElem_cons_succ, List.getElem_cons_zero, List.setIfInBounds_toArray, List.set_cons_zero, List.set_cons_succ]
              refine wpAnyH_ready (rs := [4]) (by kernel_rfl) (by simp) ?_
              refine AllReadyH.cons rfl (fun K hK => ?_) AllReadyH.nil
              obtain ⟨W5, hW5⟩ : ∃ W, WE.alloc (.cells #[(.slice ya ys.length yc)] 26) = W := ⟨_, rfl⟩
              have b5 : Below WE.heap.size WE W5 := by rw [← hW5]; exact bel_one _ _
              have hS5 := HS1p.out W5 (D0p.out.trans (b5.mono D0p.out.size))
              go_simp
              try rw [hW5]
              refine hK _ _ hS5 (fun _ => ?_)
              clear hK K
              try simp only [Act.put, List.setIfInBounds_toArray, List.set_cons_zero, List.set_cons_succ]
              refine wpAnyH_ready (rs := [5]) (by kernel_rfl) (by simp) ?_
              refine AllReadyH.cons rfl (fun K hK => ?_) AllReadyH.nil
              rw [if_pos (by rfl)]
              refine wp_append_lies _ _ _ 41 rfl w3.heap.size 26 i0 (.slice none 0 0) 1 24 Tryd.underlying41 hi hz0 hz1 hz2 rfl (by decide) u7 O.length (vls O) rfl (keep_own (keep_own HOWB.out D0p.out) b5) ⟨WE.heap.size, 0, none⟩ 1 1 [(.slice ya ys.length yc)] rfl rfl (World.news_of_block (t := 26) (fr := (0, 0)) (by rw [← hW5]; exact newBlock _ _)) ?c1p (by decide) ?c2p ?c3p ?c4p _ rfl ?_
              case c1p => intro u hu; simp at hu; rcases hu with rfl; rfl
              case c2p => unfold maxLen; omega
              case c3p => omega
              case c4p => exact Nat.le_trans HSZB.out (Nat.le_trans D0p.out.size b5.size)
              intro g6 cap6 w6 hown6 hgrow6 hat6 hlt6
              have BL6 : Hid (Below w3.heap.size w3 w6) := ((HBLB.out.trans (D0p.out.mono HSZB.out)).trans (b5.mono (Nat.le_trans HSZB.out D0p.out.size))).grown hgrow6 (Nat.le_trans HSZB.out (Nat.le_trans D0p.out.size b5.size)) (fun g hg => (HOWB.out.lt g hg).1)
              have HOW6 := Lib.hid hown6
              have hS6 : S1e ⟨bb, bo, none⟩ (.slice ya ys.length yc) w6 := by
                have h1 := (hblp.out)
                exact (BL6.out.cell (p := ⟨bb, bo, none⟩) h1.1).trans h1.2
              clear hown6 hgrow6 hat6 hlt6 b5 hW5 hS5
              refine hK _ _ hS6 (fun _ => ?_)
              clear hK K
              try simp only [Act.put, List.setIfInBounds_toArray, List.set_cons_zero, List.set_cons_succ]
              refine wpAnyH_take (i := 8) (v := ?v8p8) rfl (by kernel_rfl) (by kernel_rfl) (by kernel_rfl) (fun _ _ _ h => h) (Or.inl ⟨by rfl, ?hy8p8⟩) (by assumption) ?rest8p8
              case hy8p8 =>
                intro w hSw
                dsimp only [S1e] at hSw
                go_simp
                try with_reducible rfl
              simp only [Act.put, List.getElem_toArray, List.getElem_cons_succ, List.getElem_cons_zero, List.setIfInBounds_toArray, List.set_cons_zero, List.set_cons_succ]
              refine wpAnyH_take (i := 9) (v := ?v9p9) rfl (by kernel_rfl) (by kernel_rfl) (by kernel_rfl) (fun _ _ _ h => h) (Or.inl ⟨by rfl, ?hy9p9⟩) (by assumption) ?rest9p9
              case hy9p9 =>
                intro w hSw
                dsimp only [S1e] at hSw
                go_simp
                try with_reducible rfl
              simp only [Act.put, List.getElem_toArray, List.getElem_cons_succ, List.getElem_cons_zero, List.setIfInBounds_toArray, List.set_cons_zero, List.set_cons_succ]
              refine wpAnyH_done (by kernel_rfl) ?_ _
              refine NoPanic.normal ?_
              clear hSp hS6
              go_wp2_with fail
              go_roundw
              case rel => exact ⟨(.slice xa xs.length xc, xs) :: A, B, O ++ [(.slice ya ys.length yc, ys)], some ⟨ab, ao, none⟩, _, ca, cb - 1, rfl, rfl, HWA.out, NW.out, HIA.out, fun x hx => HIB.out x (by simp [hx]), by rw [List.length_append, vls_snoc]; exact HOW6.out, NE.out, BL6.out⟩
              case measure => simp [lenV]; try omega
            | false =>
              have NE : Hid ((O ++ [(.slice xa xs.length xc, xs)]) ++ mgS l A ((.slice ya ys.length yc, ys) :: B) = mgS l A0 B0) := by
                unfold Hid
                rw [← HEQ.out, mg_cons, if_neg (by rw [HTT.out]; simp), List.append_assoc]; rfl
              have NW : Hid (Wn w3 (if ca = 1 then some ⟨ab, ao, none⟩ else some ⟨ab, ao + 1, none⟩) (ca - 1) (vls A)) := HWA.out.tail
              clear HTT
              go_wp2_with fail
              refine wp_region_noPanic ?_
              refine wp_region_held_drew (S := (S1e ⟨ab, ao, none⟩ (.slice xa xs.length xc))) (by kernel_rfl) (by exact HS1q.out _ (Below.refl _ _).drew) (fun hSq => ?_)
              obtain ⟨WE, hWD⟩ : ∃ W, wb.drew = W := ⟨_, rfl⟩
              have D0q : Hid (Below wb.heap.size wb WE) := by unfold Hid; rw [← hWD]; exact (Below.refl _ _).drew
              rw [hWD] at hSq ⊢
              clear hWD
              refine wpAnyH_take (i := 0) (v := ?v0q0) rfl (by kernel_rfl) (by kernel_rfl) (by kernel_rfl) (fun _ _ _ h => h) (Or.inl ⟨by rfl, ?hy0q0⟩) (by assumption) ?rest0q0
              case hy0q0 =>
                intro w hSw
                dsimp only [S1e] at hSw
                go_simp
                try with_reducible rfl
              simp only [Act.put, List.getElem_toArray, List.getElem_cons_succ, List.getElem_cons_zero, List.setIfInBounds_toArray, List.set_cons_zero, List.set_cons_succ]
              refine wpAnyH_take (i := 1) (v := ?v1q1) rfl (by kernel_rfl) (by kernel_rfl) (by kernel_rfl) (fun _ _ _ h => h) (Or.inl ⟨by rfl, ?hy1q1⟩) (by assumption) ?rest1q1
              case hy1q1 =>
                intro w hSw
                dsimp only [S1e] at hSw
                go_simp
                try with_reducible rfl
              simp only [Act.put, List.getElem_toArray, List.getElem_cons_succ, List.getElem_cons_zero, List.setIfInBounds_toArray, List.set_cons_zero, List.set_cons_succ]
              refine wpAnyH_take (i := 2) (v := ?v2q2) rfl (by kernel_rfl) (by kernel_rfl) (by kernel_rfl) (fun _ _ _ h => h) (Or.inl ⟨by rfl, ?hy2q2⟩) (by assumption) ?rest2q2
              case hy2q2 =>
                intro w hSw
                dsimp only [S1e] at hSw
                go_simp
                try with_reducible rfl
              simp only [Act.put, List.getElem_toArray, List.getElem_cons_succ, List.getElem_cons_zero, List.setIfInBounds_toArray, List.set_cons_zero, List.set_cons_succ]
              refine wpAnyH_take (i := 3) (v := ?v3q3) rfl (by kernel_rfl) (by kernel_rfl) (by kernel_rfl) (fun _ _ _ h => h) (Or.inl ⟨by rfl, ?hy3q3⟩) (by assumption) ?rest3q3
              case hy3q3 =>
                intro w hSw
                dsimp only [S1e] at hSw
                go_simp
                try with_reducible rfl
              simp only [Act.put, List.getElem_toArray, List.getElem_cons_succ, List.getElem_cons_zero, List.setIfInBounds_toArray, List.set_cons_zero, List.set_cons_succ]
              refine wpAnyH_take (i := 6) (v := ?v6q6) rfl (by kernel_rfl) (by kernel_rfl) (by kernel_rfl) (fun _ _ _ h => h) (Or.inl ⟨by rfl, ?hy6q6⟩) (by assumption) ?rest6q6
              case hy6q6 =>
                intro w hSw
                dsimp only [S1e] at hSw
                go_simp
                try with_reducible rfl
              simp only [Act.put, List.getElem_toArray, List.getElem_cons_succ, List.getElem_cons_zero, List.setIfInBounds_toArray, List.set_cons_zero, List.set_cons_succ]
              refine wpAnyH_take (i := 7) (v := ?v7q7) rfl (by kernel_rfl) (by kernel_rfl) (by kernel_rfl) (fun _ _ _ h => h) (Or.inl ⟨by rfl, ?hy7q7⟩) (by assumption) ?rest7q7
              case hy7q7 =>
                intro w hSw
                dsimp only [S1e] at hSw
                go_simp
                try with_reducible rfl
              simp only [Act.put, List.getElem_toArray, List.getElem_cons_succ, List.getElem_cons_zero, List.setIfInBounds_toArray, List.set_cons_zero, List.set_cons_succ]
              refine wpAnyH_ready (rs := [4]) (by kernel_rfl) (by simp) ?_
              refine AllReadyH.cons rfl (fun K hK => ?_) AllReadyH.nil
              obtain ⟨W5, hW5⟩ : ∃ W, WE.alloc (.cells #[(.slice xa xs.length xc)] 26) = W := ⟨_, rfl⟩
              have b5 : Below WE.heap.size WE W5 := by rw [← hW5]; exact bel_one _ _
              have hS5 := HS1q.out W5 (D0q.out.trans (b5.mono D0q.out.size))
              go_simp
              try rw [hW5]
              refine hK _ _ hS5 (fun _ => ?_)
              clear hK K
              try simp only [Act.put, List.setIfInBounds_toArray, List.set_cons_zero, List.set_cons_succ]
              refine wpAnyH_ready (rs := [5]) (by kernel_rfl) (by simp) ?_
              refine AllReadyH.cons rfl (fun K hK => ?_) AllReadyH.nil
              rw [if_pos (by rfl)]
              refine wp_append_lies _ _ _ 41 rfl w3.heap.size 26 i0 (.slice none 0 0) 1 24 Tryd.underlying41 hi hz0 hz1 hz2 rfl (by decide) u7 O.length (vls O) rfl (keep_own (keep_own HOWB.out D0q.out) b5) ⟨WE.heap.size, 0, none⟩ 1 1 [(.slice xa xs.length xc)] rfl rfl (World.news_of_block (t := 26) (fr := (0, 0)) (by rw [← hW5]; exact newBlock _ _)) ?c1q (by decide) ?c2q ?c3q ?c4q _ rfl ?_
              case c1q => intro u hu; simp at hu; rcases hu with rfl; rfl
              case c2q => unfold maxLen; omega
              case c3q => omega
              case c4q => exact Nat.le_trans HSZB.out (Nat.le_trans D0q.out.size b5.size)
              intro g6 cap6 w6 hown6 hgrow6 hat6 hlt6
              have BL6 : Hid (Below w3.heap.size w3 w6) := ((HBLB.out.trans (D0q.out.mono HSZB.out)).trans (b5.mono (Nat.le_trans HSZB.out D0q.out.size))).grown hgrow6 (Nat.le_trans HSZB.out (Nat.le_trans D0q.out.size b5.size)) (fun g hg => (HOWB.out.lt g hg).1)
              have HOW6 := Lib.hid hown6
              have hS6 : S1e ⟨ab, ao, none⟩ (.slice xa xs.length xc) w6 := by
                have h1 := (hblq.out)
                exact (BL6.out.cell (p := ⟨ab, ao, none⟩) h1.1).trans h1.2
              clear hown6 hgrow6 hat6 hlt6 b5 hW5 hS5
              refine hK _ _ hS6 (fun _ => ?_)
              clear hK K
              try simp only [Act.put, List.setIfInBounds_toArray, List.set_cons_zero, List.set_cons_succ]
              refine wpAnyH_take (i := 8) (v := ?v8q8) rfl (by kernel_rfl) (by kernel_rfl) (by kernel_rfl) (fun _ _ _ h => h) (Or.inl ⟨by rfl, ?hy8q8⟩) (by assumption) ?rest8q8
              case hy8q8 =>
                intro w hSw
                dsimp only [S1e] at hSw
                go_simp
                try with_reducible rfl
              simp only [Act.put, List.getElem_toArray, List.getElem_cons_succ, List.getElem_cons_zero, List.setIfInBounds_toArray, List.set_cons_zero, List.set_cons_succ]
              refine wpAnyH_take (i := 9) (v := ?v9q9) rfl (by kernel_rfl) (by kernel_rfl) (by kernel_rfl) (fun _ _ _ h => h) (Or.inl ⟨by rfl, ?hy9q9⟩) (by assumption) ?rest9q9
              case hy9q9 =>
                intro w hSw
                dsimp only [S1e] at hSw
                go_simp
                try with_reducible rfl
              simp only [Act.put, List.getElem_toArray, List.getElem_cons_succ, List.getElem_cons_zero, List.setIfInBounds_toArray, List.set_cons_zero, List.set_cons_succ]
              refine wpAnyH_done (by kernel_rfl) ?_ _
              refine NoPanic.normal ?_
              clear hSq hS6
              go_wp2_with fail
              go_roundw
              case rel => exact ⟨A, (.slice ya ys.length yc, ys) :: B, O ++ [(.slice xa xs.length xc, xs)], _, some ⟨bb, bo, none⟩, ca - 1, cb, rfl, rfl, NW.out, HWB.out, fun x hx => HIA.out x (by simp [hx]), HIB.out, by rw [List.length_append, vls_snoc]; exact HOW6.out, NE.out, BL6.out⟩
              case measure => simp [lenV]; try omega
end Go.Proofs.YtadfmplafehjlaaDoor
namespace Go.Proofs.YtadfmplafehjlaaDoor
open Go.RowKit Go.WideMaps Go.Maps Go.Shelf

theorem small3 {x : Nat} (h : x ≤ 4096) : x + 1 ≤ maxLen ∧ (x + 1) * 24 ≤ 140737488355328 := by
  unfold maxLen
  omega
theorem i64_and1 (n : Int) : bits .and .i64 n 1 = n % 2 := by
  have h1 : (BitVec.ofInt 64 1).toNat = 2 ^ 1 - 1 := by decide
  have key : (BitVec.ofInt 64 n &&& BitVec.ofInt 64 1).toNat = (n % ((2 ^ 64 : Nat) : Int)).toNat % 2 ^ 1 := by
    rw [BitVec.toNat_and, BitVec.toNat_ofInt, h1, Nat.and_two_pow_sub_one_eq_mod]
  show IntKind.i64.wrap ((BitVec.ofInt 64 n &&& BitVec.ofInt 64 1).toNat : Nat) = n % 2
  rw [key, IntKind.wrap_i64]
  omega
/-- Items that lie in no block q. -/
def ItsQ (n : Nat) (w : World) (q : Option Nat) (L : List It) : Prop := ∀ x, x ∈ L → Sb n x.2 ∧ ∃ a c, x.1 = .slice a x.2.length c ∧ Rd w a (toI x.2) ∧ ∀ d, a = some d → d.block < w.heap.size ∧ some d.block ≠ q
theorem ItsQ.its {n : Nat} {w : World} {q : Option Nat} {L : List It} (h : ItsQ n w q L) : Its n w L := fun x hx => by
  obtain ⟨h1, a, c, h2, h3, _⟩ := h x hx
  exact ⟨h1, a, c, h2, h3⟩
theorem ItsQ.below {n : Nat} {w w' : World} {q : Option Nat} {L : List It} (h : ItsQ n w q L) (hb : Below w.heap.size w w') : ItsQ n w' q L := fun x hx => by
  obtain ⟨h1, a, c, h2, h3, h4⟩ := h x hx
  exact ⟨h1, a, c, h2, h3.below hb, fun d e => ⟨Nat.lt_of_lt_of_le (h4 d e).1 hb.size, (h4 d e).2⟩⟩
theorem ItsQ.grown {n : Nat} {w w' : World} {q q' : Option Nat} {L : List It} (h : ItsQ n w q L) (hg : w.grownBy w' q) (hq : q' = q ∨ q' = some w.heap.size) : ItsQ n w' q' L := fun x hx => by
  obtain ⟨h1, a, c, h2, h3, h4⟩ := h x hx
  refine ⟨h1, a, c, h2, ⟨h3.1, fun h0 => ?_⟩, fun d e => ⟨Nat.lt_of_lt_of_le (h4 d e).1 hg.size, fun e2 => ?_⟩⟩
  · obtain ⟨b, off, e, hl, hc⟩ := h3.2 h0
    have h5 := (h4 _ e).2
    exact ⟨b, off, e, Nat.lt_of_lt_of_le hl hg.size, fun j hj => (World.cell?_of_block (hg.block b hl h5)).trans (hc j hj)⟩
  · rcases hq with e3 | e3
    · exact (h4 d e).2 (e2.trans e3)
    · rw [e3] at e2
      injection e2 with e2
      have := (h4 d e).1
      omega
/-- The sets of the first m numbers. -/
def sbN (n m : Nat) : List (List Nat) := (List.range m).map fun k => lst (fun j => k.testBit j) n
theorem sbN_next (n m : Nat) : sbN n (m + 1) = sbN n m ++ [lst (fun j => m.testBit j) n] := by unfold sbN; rw [List.range_succ, List.map_append]; rfl
/-- What sets gives. -/
def SetP (l : List Fd) (n : Nat) (w : World) (e : Ending) (w' : World) : Prop :=
  Below w.heap.size w w' ∧ ∃ a c I, e = .returned (.slice a (2 ^ n) c) ∧ I.length = 2 ^ n ∧ Wn w' a c (vls I) ∧ Its n w' I ∧ Srt l I ∧ ∀ g, g ∈ sbN n (2 ^ n) → ∃ v, (v, g) ∈ I
set_option maxRecDepth 100000 in
set_option maxHeartbeats 8000000 in
theorem sets_c (a : Option Addr) (c : Nat) (l : List Fd) (E : List Ed) (a2 : Option Addr) (m2 c2 : Nat) (w : World) (hl : RdF w a l) (hok : Ok l E) :
    Calls Tryd.prog 73 #[.agg #[.slice a l.length c, .slice a2 m2 c2]] w (SetP l l.length w) := by
  obtain ⟨W1, hW1⟩ : ∃ W, w.alloc (.cells #[.slice a l.length c, .slice a2 m2 c2] 25) = W := ⟨_, rfl⟩
  obtain ⟨z, hz⟩ : ∃ z, w.heap.size = z := ⟨_, rfl⟩
  have b1 : Below w.heap.size w W1 := by rw [← hW1]; exact bel_one _ _
  have x0 : W1.cell? ⟨z, 0, none⟩ = some (.slice a l.length c) := by rw [← hW1, ← hz, World.cell?_alloc_new]; rfl
  have x1 : W1.cell? ⟨z, 1, none⟩ = some (.slice a2 m2 c2) := by rw [← hW1, ← hz, World.cell?_alloc_new]; rfl
  have CS : Hid (∀ V (I : List It) ia ic, Below w.heap.size w V → I.length = 2 ^ l.length → Wn V ia ic (vls I) → Its l.length V I → Calls Tryd.prog 98 #[.agg #[.slice a l.length c, .slice a2 m2 c2], .slice ia I.length ic] V (SoP l l.length I V)) := fun V I ia ic hV hI hw hi =>
    sorted_c a c l E a2 m2 c2 w hl hok l.length I ia ic V (Nat.le_of_eq hI) (by rw [hI]; exact Nat.le_trans (Nat.pow_le_pow_right (n := 2) (by omega) hok.n12) (by decide)) hV hw hi
  have n12 := hok.n12
  have B1 := Lib.hid b1
  obtain ⟨n, hn⟩ : ∃ n, l.length = n := ⟨_, rfl⟩
  rw [hn] at x0 hW1 CS n12 ⊢
  have hP : 2 ^ n ≤ 4096 := Nat.le_trans (Nat.pow_le_pow_right (n := 2) (by omega) n12) (by decide)
  obtain ⟨P, hPP⟩ : ∃ P, 2 ^ n = P := ⟨_, rfl⟩
  have HPP := Lib.hid hPP
  have hPi : wrap64 ((2 : Int) ^ n) = (P : Int) := by
    have e : ((2 : Int) ^ n) = ((2 ^ n : Nat) : Int) := by rw [Int.natCast_pow]; rfl
    rw [e, hPP]
    unfold wrap64
    omega
  rw [hPP] at hP
  clear hPP
  obtain ⟨i0, hi, hz0, hz1, hz2⟩ := info_parts infoRow
  obtain ⟨i1, hj, hy0, hy1, hy2⟩ := info_parts infoIn
  clear hl hok b1 hn
  go_enter Tryd.func73, Tryd.ntmps73
  go_wp2_with fail
  rw [hPi]
  clear hW1 hPi
  go_loopw [3, 4, 5, 6, 11] (fun ov _ _ _ iv wr => ∃ (j : Nat) (I : List It), iv = .int .i64 j ∧ Hid (j ≤ P ∧ wr.ownsRow W1.heap.size 26 1 ov I.length (vls I) ∧ ItsQ n wr ov.ownBlock I ∧ I.map (·.2) = sbN n j ∧ Below W1.heap.size W1 wr)) (fun _ _ _ _ iv _ => P - (intOf iv).toNat)
  case atStart => exact ⟨0, [], rfl, Nat.zero_le _, World.ownsRow_nil _ _ _ _, (fun x hx => by cases hx), rfl, Below.refl _ _⟩
  case round =>
    obtain ⟨j, I, rfl, hS⟩ := hrel
    obtain ⟨hjP, hown, hits, hmap, hbl⟩ := hS.out
    have HOW := Lib.hid hown
    have HIT := Lib.hid hits
    have HMP := Lib.hid hmap
    have HBL := Lib.hid hbl
    by_cases hlt : j < P
    · have hlt' : (j : Int) < (P : Int) := by omega
      obtain ⟨wo, hwo⟩ : ∃ V : World, V = wr := ⟨_, rfl⟩
      subst hwo
      have y0 := (hbl.cell (p := ⟨z, 0, none⟩) (cellLt x0)).trans x0
      clear hS hown hits hmap hbl
      go_wp2_with fail
      go_loopw [5, 6, 17] (fun lv _ iv wr => ∃ (k : Nat), iv = .int .i64 k ∧ Hid (k ≤ n ∧ wr.ownsRow wo.heap.size 3 1 lv (toI (lst (fun q => j.testBit q) k)).length ((toI (lst (fun q => j.testBit q) k)).map (Value.int .i64)) ∧ Below wo.heap.size wo wr)) (fun _ _ iv _ => n - (intOf iv).toNat)
      case atStart => exact ⟨0, rfl, Nat.zero_le _, World.ownsRow_nil _ _ _ _, Below.refl _ _⟩
      case round =>
        obtain ⟨k, rfl, hS⟩ := hrel
        obtain ⟨hk, hown, hbl⟩ := hS.out
        by_cases hlt2 : k < n
        · have hlt2' : (k : Int) < (n : Int) := by omega
          have hdv : ((j : Int) / 2 ^ k) = ((j / 2 ^ k : Nat) : Int) := by
            rw [Int.natCast_ediv, Int.natCast_pow]; rfl
          have hjk : j / 2 ^ k ≤ j := Nat.div_le_self _ _
          have htb : j.testBit k = decide (j / 2 ^ k % 2 = 1) := Nat.testBit_eq_decide_div_mod_eq
          obtain ⟨q, hq⟩ : ∃ q, j / 2 ^ k = q := ⟨_, rfl⟩
          rw [hq] at hdv htb hjk
          have hand := i64_and1 (q : Int)
          have HB := Lib.hid hbl
          have HS := lst_succ' (fun q => j.testBit q) k
          cases ht : j.testBit k with
          | true =>
            rw [ht] at htb HS
            have hm1 : q % 2 = 1 := of_decide_eq_true htb.symm
            rw [if_pos rfl] at HS
            have HL := Lib.hid HS
            have HON := Lib.hid hown
            have hlen : (toI (lst (fun q => j.testBit q) k)).length ≤ 12 := by rw [toI_len]; exact Nat.le_trans (lst_le _ _) (by omega)
            have hnd1 : (toI (lst (fun q => j.testBit q) k)).length + 1 ≤ maxLen := by unfold maxLen; omega
            have hnd2 : ((toI (lst (fun q => j.testBit q) k)).length + 1) * 8 ≤ 140737488355328 := by omega
            have hand' : bits .and .i64 (q : Int) 1 = 1 := by rw [hand]; omega
            clear hS hown hbl hq hjk htb hm1 HS ht hand
            go_wp2_with (at_builtin; refine wpList_append_own _ rfl _ _ 26 rfl wo.heap.size 3 i1 (.int .i64 0) 1 8 Tryd.underlying26 hj hy0 hy1 hy2 rfl (by decide) _ _ _ rfl (HON.out.alloc _) ⟨wr.heap.size, 0, none⟩ 1 1 [.int .i64 k] rfl rfl (cell_one_new _ _ _) (by simp [Value.oneCell']) hnd1 hnd2 ?c5 ?_)
            case c5 => have := HB.out.size; simp; omega
            intro v4 w4 hown4 hgrow4 _
            have BL4 : Hid (Below wo.heap.size wo w4) := (HB.out.alloc HB.out.size _).grown hgrow4 (by have := HB.out.size; simp; omega) (fun g hg => (HON.out.lt g hg).1)
            have NX : Hid (k + 1 ≤ n ∧ w4.ownsRow wo.heap.size 3 1 v4 (toI (lst (fun q => j.testBit q) (k + 1))).length ((toI (lst (fun q => j.testBit q) (k + 1))).map (Value.int .i64)) ∧ Below wo.heap.size wo w4) := by
              refine ⟨hlt2, ?_, BL4.out⟩
              rw [HL.out]
              have e : toI (lst (fun q => j.testBit q) k ++ [k]) = toI (lst (fun q => j.testBit q) k) ++ [(k : Int)] := by unfold toI; rw [List.map_append]; rfl
              rw [e, List.length_append, List.map_append]
              exact hown4
            clear hown4 hgrow4
            go_wp2
            go_roundw
            case rel => exact ⟨k + 1, by go_num, NX.out⟩
            case measure => simp [intOf]; omega
          | false =>
            rw [ht] at htb HS
            have hm1 : q % 2 = 0 := by have := of_decide_eq_false htb.symm; omega
            rw [if_neg (by simp), List.append_nil] at HS
            have NX : Hid (k + 1 ≤ n ∧ wr.ownsRow wo.heap.size 3 1 u5 (toI (lst (fun q => j.testBit q) (k + 1))).length ((toI (lst (fun q => j.testBit q) (k + 1))).map (Value.int .i64)) ∧ Below wo.heap.size wo wr) := by
              refine ⟨hlt2, ?_, hbl⟩
              rw [HS]; exact hown
            have hand' : bits .and .i64 (q : Int) 1 = 0 := by rw [hand]; omega
            clear hS hown hbl hq hjk htb hm1 HS ht hand
            go_wp2_with fail
            go_roundw
            case rel => exact ⟨k + 1, by go_num, NX.out⟩
            case measure => simp [intOf]; omega
        · have hlt2' : ¬ (k : Int) < (n : Int) := by omega
          have e : k = n := by omega
          subst e
          obtain ⟨ia, ic, rfl, hrd⟩ := rdI_own hown (by rw [toI_len]; have := lst_le (fun q => j.testBit q) k; omega)
          have hlt5 := hown.lt
          have hIl : I.length = j := by
            have := congrArg List.length HMP.out
            unfold sbN at this
            simpa using this
          have hsm := small3 (x := I.length) (by rw [hIl]; exact Nat.le_trans (Nat.le_of_lt hlt) hP)
          clear hIl
          have HOW2 := Lib.hid (own_same (w' := wr) HOW.out fun b hb => hbl.block b (HOW.out.lt b hb).2)
          have HIT2 : Hid (ItsQ k wr u3.ownBlock (I ++ [(.slice ia (toI (lst (fun q => j.testBit q) k)).length ic, lst (fun q => j.testBit q) k)])) := by
            unfold Hid
            intro x hx
            rcases List.mem_append.1 hx with q | q
            · exact (HIT.out.below hbl) x q
            · have q : x = (.slice ia (toI (lst (fun q => j.testBit q) k)).length ic, lst (fun q => j.testBit q) k) := by simpa using q
              subst q
              refine ⟨sb_lst _ _, ia, ic, by rw [toI_len], hrd, fun d e => ?_⟩
              subst e
              have h5 := hlt5 d.block rfl
              refine ⟨h5.2, fun e => ?_⟩
              have := (HOW.out.lt d.block e.symm).2
              omega
          have HBB : Hid (Below W1.heap.size W1 wr) := HBL.out.trans (hbl.mono HBL.out.size)
          obtain ⟨m, hm⟩ : ∃ m, (toI (lst (fun q => j.testBit q) k)).length = m := ⟨_, rfl⟩
          rw [hm] at HIT2 ⊢
          clear hS hown hbl hrd hlt5 hlt2 hm
          go_wp2_with (at_builtin; refine wpList_append_own_at _ rfl _ _ 41 rfl W1.heap.size 26 i0 (.slice none 0 0) 1 24 Tryd.underlying41 hi hz0 hz1 hz2 rfl (by decide) u3 I.length (vls I) rfl (HOW2.out.alloc _) ⟨wr.heap.size, 0, none⟩ 1 1 [.slice ia m ic] rfl rfl (cell_one_new _ _ _) (by simp [Value.oneCell']) ?c3 ?c4 ?c5 ?_)
          try (case c3 => exact hsm.1)
          try (case c4 => exact hsm.2)
          case c5 => have := HBB.out.size; simp; omega
          intro v4 w4 hown4 hgrow4 _ hat4
          have NX : Hid (j + 1 ≤ P ∧ w4.ownsRow W1.heap.size 26 1 v4 (I ++ [((.slice ia m ic, lst (fun q => j.testBit q) k) : It)]).length (vls (I ++ [((.slice ia m ic, lst (fun q => j.testBit q) k) : It)])) ∧ ItsQ k w4 v4.ownBlock (I ++ [((.slice ia m ic, lst (fun q => j.testBit q) k) : It)]) ∧ (I ++ [((.slice ia m ic, lst (fun q => j.testBit q) k) : It)]).map (·.2) = sbN k (j + 1) ∧ Below W1.heap.size W1 w4) := by
            refine ⟨hlt, ?_, ?_, ?_, ?_⟩
            · rw [List.length_append, vls_snoc]; exact hown4
            · exact (HIT2.out.below (bel_one wr _)).grown hgrow4 (by simpa using hat4)
            · rw [List.map_append, HMP.out, sbN_next]; rfl
            · exact (HBB.out.alloc HBB.out.size _).grown hgrow4 (by have := HBB.out.size; simp; omega) (fun g hg => (HOW2.out.lt g hg).1)
          clear hown4 hgrow4 hat4
          go_wp2
          go_roundw
          case rel => exact ⟨j + 1, _, by go_num, NX.out⟩
          case measure => simp [intOf]; omega
    · have hlt' : ¬ (j : Int) < (P : Int) := by omega
      have e : j = P := by omega
      subst e
      obtain ⟨oa, oc, rfl, hw⟩ := wn_own hown
      have hIl : I.length = 2 ^ n := by
        have := congrArg List.length hmap
        unfold sbN at this
        rw [HPP.out]
        simpa using this
      have C2 := Lib.hid (CS.out wr I oa oc (B1.out.trans (hbl.mono B1.out.size)) hIl hw hits.its)
      have HSO : Hid (Srt l (srS l n I)) := sr_srt l n I (Nat.le_of_eq hIl)
      have HLN : Hid ((srS l n I).length = 2 ^ n) := by unfold Hid; rw [sr_len]; exact hIl
      have HWR : Hid (Below w.heap.size w wr) := B1.out.trans (hbl.mono B1.out.size)
      have y0 := (hbl.cell (p := ⟨z, 0, none⟩) (cellLt x0)).trans x0
      have y1 := (hbl.cell (p := ⟨z, 1, none⟩) (cellLt x1)).trans x1
      have HIL := Lib.hid hIl
      clear hS hown hits hmap hbl hw hIl CS x0 x1 hlt
      go_wp2_with fail
      refine C2.out.mono ?_
      rintro e1 w5 ⟨b5, ra, rc, rfl, hw5⟩
      have PP : Hid (SetP l n w (.returned (.slice ra I.length rc)) w5) := by
        refine ⟨HWR.out.trans (b5.mono HWR.out.size), ra, rc, srS l n I, by rw [HIL.out], HLN.out, hw5, ?_, HSO.out, fun g hg => ?_⟩
        · intro x hx
          exact (HIT.out.its.below b5) x ((sr_mem l x n I).1 hx)
        · have h1 : g ∈ I.map (·.2) := by rw [HMP.out, ← HPP.out]; exact hg
          obtain ⟨x, hx, rfl⟩ := List.mem_map.1 h1
          exact ⟨x.1, (sr_mem l x n I).2 hx⟩
      clear b5 hw5 C2
      go_wp2_with fail
      go_ret
      exact PP.out
end Go.Proofs.YtadfmplafehjlaaDoor
