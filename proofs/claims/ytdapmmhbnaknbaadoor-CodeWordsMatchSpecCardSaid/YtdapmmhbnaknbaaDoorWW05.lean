/-
  Package code: rows of codings of the call's own; Clone.
  Package code: Lift.
  Package code: checkMoves.
  Package code: successors.
-/
import Derived.Test.YtdapmmhbnaknbaaDoorWW04
import Derived.Laws.Cover3
namespace Go.Proofs.YtdapmmhbnaknbaaDoor
open Go.RowKit Go.WideMaps Go.Maps

def ccells (u : Cg) : List Value := [.int .i64 u.ca, .int .i64 u.co, .int .i64 u.cd]
def crow (C : List Cg) : List Value := C.flatMap ccells
theorem crow_snoc (C : List Cg) (u : Cg) : crow (C ++ [u]) = crow C ++ ccells u := by unfold crow; rw [List.flatMap_append]; simp
theorem crow_len : ∀ C : List Cg, (crow C).length = C.length * 3
  | [] => rfl
  | u :: C => by
    show (ccells u ++ crow C).length = _
    rw [List.length_append, crow_len C]
    simp only [ccells, List.length_cons, List.length_nil]; omega
theorem crow_at : ∀ (C : List Cg) (j : Nat), j < C.length → ∀ i, i < 3 → (crow C)[j * 3 + i]? = (ccells (cg C j))[i]?
  | [], _, h, _, _ => by simp at h
  | u :: C, 0, _, i, hi => by
    show (ccells u ++ crow C)[0 * 3 + i]? = _
    rw [Nat.zero_mul, Nat.zero_add, List.getElem?_append_left (by simpa [ccells] using hi)]
    rfl
  | u :: C, j + 1, h, i, hi => by
    show (ccells u ++ crow C)[(j + 1) * 3 + i]? = _
    rw [List.getElem?_append_right (by simp only [ccells, List.length_cons, List.length_nil]; omega)]
    rw [show (j + 1) * 3 + i - (ccells u).length = j * 3 + i by simp only [ccells, List.length_cons, List.length_nil]; omega]
    rw [crow_at C j (by simpa using h) i hi]
    rfl
theorem crow_one (C : List Cg) : ∀ u ∈ crow C, u.oneCell' = true := by
  intro u hu
  unfold crow at hu
  obtain ⟨x, _, hx⟩ := List.mem_flatMap.1 hu
  simp only [ccells, List.mem_cons, List.not_mem_nil, or_false] at hx
  rcases hx with rfl | rfl | rfl <;> rfl
theorem add_at (b off j : Nat) : (⟨b, off, none⟩ : Addr).add j = ⟨b, off + j, none⟩ := by
  unfold Addr.add
  split
  · rename_i h; subst h; simp
  · rfl
/-- What came in, as the cells that an append takes. -/
theorem crow_src {w : World} {b off : Nat} {C : List Cg} (h : ∀ j, j < C.length → CgAt w b (off + j * 3) (cg C j)) : ∀ j u, (crow C)[j]? = some u → w.cell? ((⟨b, off, none⟩ : Addr).add j) = some u := by
  intro j u hu
  have hj : j < C.length * 3 := by
    have := (List.getElem?_eq_some_iff.1 hu).1
    rw [crow_len] at this; exact this
  have e := crow_at C (j / 3) (by omega) (j % 3) (by omega)
  rw [show j / 3 * 3 + j % 3 = j by omega, hu] at e
  obtain ⟨h0, h1, h2⟩ := h (j / 3) (by omega)
  rw [add_at]
  have hd : off + j = off + j / 3 * 3 + j % 3 := by omega
  rw [hd]
  have hm : j % 3 = 0 ∨ j % 3 = 1 ∨ j % 3 = 2 := by omega
  rcases hm with hm | hm | hm
  · rw [hm] at e ⊢; simp only [ccells, List.getElem?_cons_zero, Option.some.injEq] at e; rw [e]; exact h0
  · rw [hm] at e ⊢; simp only [ccells, List.getElem?_cons_zero, List.getElem?_cons_succ, Option.some.injEq] at e; rw [e]; exact h1
  · rw [hm] at e ⊢; simp only [ccells, List.getElem?_cons_zero, List.getElem?_cons_succ, Option.some.injEq] at e; rw [e]; exact h2
/-- Codings in a block of the call's own. -/
structure OwnC (w : World) (B g : Nat) (C : List Cg) : Prop where
  at_ : ∀ j, j < C.length → CgAt w g (j * 3) (cg C j)
  fr : ∀ o, w.frozen? ⟨g, o, none⟩ = false
  lo : B ≤ g
  lt : g < w.heap.size
theorem OwnC.keep {w W : World} {B g : Nat} {C : List Cg} (h : OwnC w B g C) (hb : Below w.heap.size w W) : OwnC W B g C :=
  ⟨fun j hj => (h.at_ j hj).below hb h.lt, fun o => (hb.frozen (p := ⟨g, o, none⟩) h.lt).trans (h.fr o), h.lo, Nat.lt_of_lt_of_le h.lt hb.size⟩
theorem OwnC.rd {w : World} {B g : Nat} {C : List Cg} (h : OwnC w B g C) (hn : C.length ≤ 9223372036854775807) : RdC w (some ⟨g, 0, none⟩) C :=
  ⟨hn, fun _ => ⟨g, 0, rfl, h.lt, fun j hj => by rw [Nat.zero_add]; exact h.at_ j hj⟩⟩
theorem lt_of_block {w : World} {g : Nat} {o : Obj} (h : w.heap[g]? = some o) : g < w.heap.size := (Array.getElem?_eq_some_iff.1 h).1
theorem own_keep {W W' : World} {base : Nat} {e : TypeId} {size : Nat} {v : Value} {n : Nat} {xs : List Value} (h : W.ownsRow base e size v n xs) (hb : Below W.heap.size W W') : W'.ownsRow base e size v n xs := by
  refine h.kept (below_grow hb) ?_
  cases v.ownBlock with
  | none => exact .inl rfl
  | some _ => exact .inr (by simp)
end Go.Proofs.YtdapmmhbnaknbaaDoor
namespace Go.Proofs.YtdapmmhbnaknbaaDoor
open Go.RowKit Go.WideMaps Go.Maps

/-- A coding with a code of at most a level. -/
def lif (l : List Nd) (n : Nat) (u : Cg) : Cg := ⟨u.ca, u.co, (it (par l) (lev l u.cd.toNat - n) u.cd.toNat : Nat)⟩
def lifC (l : List Nd) (n : Nat) (C : List Cg) : List Cg := C.map (lif l n)
/-- Lift's error. -/
def liE (l : List Nd) (C : List Cg) (n : Int) : Int := if forS l C ≠ 0 then forS l C else if n < 1 ∨ 8 < n then 1 else 0
/-- Codings in a block of the call's own, by their places. -/
structure OwnF (w : World) (B g n : Nat) (f : Nat → Cg) : Prop where
  at_ : ∀ j, j < n → CgAt w g (j * 3) (f j)
  fr : ∀ o, w.frozen? ⟨g, o, none⟩ = false
  lo : B ≤ g
  lt : g < w.heap.size
theorem OwnF.keep {w W : World} {B g n : Nat} {f : Nat → Cg} (h : OwnF w B g n f) (hb : Below w.heap.size w W) : OwnF W B g n f :=
  ⟨fun j hj => (h.at_ j hj).below hb h.lt, fun o => (hb.frozen (p := ⟨g, o, none⟩) h.lt).trans (h.fr o), h.lo, Nat.lt_of_lt_of_le h.lt hb.size⟩
theorem OwnF.set {w : World} {B g n : Nat} {f : Nat → Cg} (h : OwnF w B g n f) {k : Nat} (hk : k < n) (x : Int) : OwnF (w.setCell ⟨g, k * 3 + 2, none⟩ (.int .i64 x)) B g n (fun j => if j = k then ⟨(f k).ca, (f k).co, x⟩ else f j) := by
  have ne : ∀ {i j : Nat}, i ≠ j → (⟨g, i, none⟩ : Addr) ≠ ⟨g, j, none⟩ := fun h e => by injection e with _ e2; exact h e2
  refine ⟨fun j hj => ?_, fun o => by rw [World.frozen?_setCell]; exact h.fr o, h.lo, by simpa using h.lt⟩
  obtain ⟨h0, h1, h2⟩ := h.at_ j hj
  by_cases e : j = k
  · subst e
    refine ⟨?_, ?_, ?_⟩
    · rw [World.cell?_setCell_other _ _ _ _ (ne (by omega))]; simpa using h0
    · rw [World.cell?_setCell_other _ _ _ _ (ne (by omega))]; simpa using h1
    · rw [World.cell?_setCell_same _ _ _ h2]; simp
  · simp only [if_neg e]
    refine ⟨?_, ?_, ?_⟩
    · rw [World.cell?_setCell_other _ _ _ _ (ne (by omega))]; exact h0
    · rw [World.cell?_setCell_other _ _ _ _ (ne (by omega))]; exact h1
    · rw [World.cell?_setCell_other _ _ _ _ (ne (by omega))]; exact h2
theorem lifC_at {l : List Nd} {n : Nat} {C : List Cg} {j : Nat} (hj : j < C.length) : cg (lifC l n C) j = lif l n (cg C j) := by
  rw [cg_is (by unfold lifC; simpa using hj), cg_is hj]; unfold lifC; simp
theorem lifC_len (l : List Nd) (n : Nat) (C : List Cg) : (lifC l n C).length = C.length := by unfold lifC; simp
theorem cgs_ok {h : Int → Bool} {C : List Cg} (e : cgsS h C = 0) : C.length ≤ 20000 ∧ ∀ k, k < C.length → 1 ≤ (cg C k).ca ∧ h (cg C k).cd = true := by
  unfold cgsS at e
  by_cases h1 : 20000 < C.length
  · rw [if_pos h1] at e; simp at e
  rw [if_neg h1] at e
  refine ⟨by omega, fun k hk => ?_⟩
  have := fe_zero e k hk
  unfold cgE at this
  by_cases g : (cg C k).ca < 1 ∨ (cg C k).co < 1 ∨ 50 < (cg C k).co
  · rw [if_pos g] at this; simp at this
  rw [if_neg g] at this
  by_cases g2 : h (cg C k).cd = false
  · rw [if_pos g2] at this; simp at this
  exact ⟨by omega, by simpa using g2⟩
theorem for_ok {l : List Nd} {C : List Cg} (e : forS l C = 0) : Fr l ∧ cgsS (hasB (lev l)) C = 0 ∧ C.length ≤ 20000 ∧ ∀ k, k < C.length → ∃ c : Nat, (cg C k).cd = c ∧ Has l c := by
  unfold forS at e
  by_cases h1 : frS l ≠ 0
  · rw [if_pos h1] at e; exact absurd e h1
  rw [if_neg h1] at e
  have F := fr_of (show frS l = 0 by omega)
  refine ⟨F, e, (cgs_ok e).1, fun k hk => (hasS_iff F).1 ((cgs_ok e).2 k hk).2⟩
def SB (z x y : Nat) (W : World) : Prop := W.cell? ⟨z, 0, none⟩ = some (row x) ∧ W.cell? ⟨z, 1, none⟩ = some (row y)
/-- What lies there in the loop of Lift. -/
structure InL (w wr : World) (x y z g : Nat) (l : List Nd) (n : Nat) (C : List Cg) (k : Nat) : Prop where
  box : B2 wr z (row x) (row y)
  ax : Arr wr x (par l)
  ay : Arr wr y (lev l)
  own : OwnF wr (z + 1) g C.length (fun j => if j < k then lif l n (cg C j) else cg C j)
  bel : Below w.heap.size w wr
  wz : w.heap.size ≤ z
  xz : x < z
  yz : y < z
theorem InL.keep {w wr W : World} {x y z g : Nat} {l : List Nd} {n : Nat} {C : List Cg} {k : Nat} (h : InL w wr x y z g l n C k) (hb : Below wr.heap.size wr W) : InL w W x y z g l n C k :=
  ⟨h.box.keep hb, h.ax.below hb, h.ay.below hb, h.own.keep hb, h.bel.trans (hb.mono h.bel.size), h.wz, h.xz, h.yz⟩
theorem Arr.other {w : World} {b g i : Nat} {f : Nat → Nat} (h : Arr w b f) (hne : g ≠ b) (x : Value) : Arr (w.setCell ⟨g, i, none⟩ x) b f :=
  ⟨by simpa using h.1, fun j hj => (set_cell hne x).trans (h.2 j hj)⟩
theorem InL.next {w wr : World} {x y z g : Nat} {l : List Nd} {n : Nat} {C : List Cg} {k : Nat} (h : InL w wr x y z g l n C k) (hk : k < C.length) :
    InL w (wr.setCell ⟨g, k * 3 + 2, none⟩ (.int .i64 (it (par l) (lev l (cg C k).cd.toNat - n) (cg C k).cd.toNat : Nat))) x y z g l n C (k + 1) := by
  have lo := h.own.lo
  have xz := h.xz
  have yz := h.yz
  have s := h.own.set hk (it (par l) (lev l (cg C k).cd.toNat - n) (cg C k).cd.toNat : Nat)
  refine ⟨h.box.otherCell (by omega) _, h.ax.other (by omega) _, h.ay.other (by omega) _, ?_, h.bel.setCell (p := ⟨g, k * 3 + 2, none⟩) (by have := h.wz; show _ ≤ g; omega) _, h.wz, xz, yz⟩
  refine ⟨fun j hj => ?_, s.fr, s.lo, s.lt⟩
  have := s.at_ j hj
  by_cases e : j = k
  · subst e
    simp only [if_pos rfl, Nat.lt_irrefl, if_false] at this
    rw [if_pos (Nat.lt_succ_self _)]
    exact this
  · simp only [if_neg e] at this
    by_cases e2 : j < k
    · rw [if_pos e2] at this; rw [if_pos (by omega)]; exact this
    · rw [if_neg e2] at this; rw [if_neg (by omega)]; exact this
def LiP (l : List Nd) (C : List Cg) (n : Int) (w : World) (e : Ending) (w' : World) : Prop :=
  (liE l C n = 0 ∧ ∃ a c, e = .returned (.tuple #[.slice a C.length c, .int .i64 0]) ∧ RdC w' a (lifC l n.toNat C) ∧ Below w.heap.size w w') ∨
  (liE l C n ≠ 0 ∧ e = .returned (.tuple #[.slice none 0 0, .int .i64 (liE l C n)]) ∧ Below w.heap.size w w')
end Go.Proofs.YtdapmmhbnaknbaaDoor
namespace Go.Proofs.YtdapmmhbnaknbaaDoor
open Go.RowKit Go.WideMaps Go.Maps

/-- The error of move k; h and h' say which codes there are. -/
def mvE (h h' : Int → Bool) (M : List Mv) (k : Nat) : Int :=
  if h (mv M k).fr = false ∨ ((mv M k).tg ≠ 0 ∧ h' (mv M k).tg = false) then 5 else if k ≠ 0 ∧ (mv M k).fr ≤ (mv M (k - 1)).fr then 7 else 0
def mvS (h h' : Int → Bool) (M : List Mv) : Int := fe (mvE h h' M) M.length
section
variable {h h' : Int → Bool} {M : List Mv} {k : Nat}
theorem mvE_5 (a : h (mv M k).fr = false ∨ ((mv M k).tg ≠ 0 ∧ h' (mv M k).tg = false)) : mvE h h' M k = 5 := by unfold mvE; rw [if_pos a]
theorem mvE_r (a : ¬ (h (mv M k).fr = false ∨ ((mv M k).tg ≠ 0 ∧ h' (mv M k).tg = false))) : mvE h h' M k = if k ≠ 0 ∧ (mv M k).fr ≤ (mv M (k - 1)).fr then 7 else 0 := by unfold mvE; rw [if_neg a]
end
/-- Sound moves go up; so there are at most 999. -/
theorem mv_len {h h' : Int → Bool} {M : List Mv} (e : mvS h h' M = 0) (hh : ∀ c, h c = true → 1 ≤ c ∧ c ≤ 999) : M.length ≤ 999 ∧ ∀ k, k < M.length → h (mv M k).fr = true ∧ ((mv M k).tg = 0 ∨ h' (mv M k).tg = true) := by
  have z := fe_zero e
  have key : ∀ k, k < M.length → (h (mv M k).fr = true ∧ ((mv M k).tg = 0 ∨ h' (mv M k).tg = true)) ∧ (k ≠ 0 → (mv M (k - 1)).fr < (mv M k).fr) := fun k hk => by
    have := z k hk
    by_cases a : h (mv M k).fr = false ∨ ((mv M k).tg ≠ 0 ∧ h' (mv M k).tg = false)
    · rw [mvE_5 a] at this; simp at this
    rw [mvE_r a] at this
    by_cases b : k ≠ 0 ∧ (mv M k).fr ≤ (mv M (k - 1)).fr
    · rw [if_pos b] at this; simp at this
    refine ⟨⟨?_, ?_⟩, fun hk0 => ?_⟩
    · by_cases q : h (mv M k).fr = true
      · exact q
      · exact absurd (Or.inl (by simpa using q)) a
    · by_cases q : (mv M k).tg = 0
      · exact Or.inl q
      · right
        by_cases r : h' (mv M k).tg = true
        · exact r
        · exact absurd (Or.inr ⟨q, by simpa using r⟩) a
    · by_cases q : (mv M k).fr ≤ (mv M (k - 1)).fr
      · exact absurd ⟨hk0, q⟩ b
      · omega
  refine ⟨?_, fun k hk => (key k hk).1⟩
  have up : ∀ k, k < M.length → (k : Int) + 1 ≤ (mv M k).fr := fun k => by
    induction k with
    | zero => intro hk; have := (hh _ (key 0 hk).1.1).1; omega
    | succ k ih => intro hk; have a := ih (by omega); have b := (key (k + 1) hk).2 (by omega); simp only [Nat.add_sub_cancel] at b; omega
  by_cases e : M.length ≤ 999
  · exact e
  · have a := up 999 (by omega)
    have b := (hh _ (key 999 (by omega)).1.1).2
    omega
theorem hasB_rng {lv : Nat → Nat} {c : Int} (h : hasB lv c = true) : 1 ≤ c ∧ c ≤ 999 := by
  unfold hasB at h
  rw [Bool.and_eq_true, Bool.and_eq_true, decide_eq_true_iff, decide_eq_true_iff] at h
  exact ⟨h.1, h.2.1⟩
/-- What lies there in the loop of checkMoves. -/
structure InM (w wr : World) (x y x2 y2 : Nat) : Prop where
  box : B2 wr w.heap.size (row x) (row y)
  box2 : B2 wr (w.heap.size + 1) (row x2) (row y2)
  bel : Below w.heap.size w wr
theorem InM.keep {w wr W : World} {x y x2 y2 : Nat} (h : InM w wr x y x2 y2) (hb : Below wr.heap.size wr W) : InM w W x y x2 y2 :=
  ⟨h.box.keep hb, h.box2.keep hb, h.bel.trans (hb.mono h.bel.size)⟩
def MovB (wr W1 : World) (u : Mv) : Prop := Below wr.heap.size wr W1 ∧ B2 W1 wr.heap.size (.int .i64 u.fr) (.int .i64 u.tg)
end Go.Proofs.YtdapmmhbnaknbaaDoor
namespace Go.Proofs.YtdapmmhbnaknbaaDoor
open Go.RowKit Go.WideMaps Go.Maps

/-- The title of a code, of the first k nodes. -/
def tK (l : List Nd) (s : Int) : Nat → Option ByteArray
  | 0 => none
  | k + 1 => if s = (nd l k).cd then some (nd l k).ti else tK l s k
/-- Node k has the title that f knows. -/
def same (f : Int → Option ByteArray) (l : List Nd) (k : Nat) : Bool := (((f (nd l k).cd).getD ⟨#[]⟩).toList == (nd l k).ti.toList)
/-- The codes of the first k nodes that keep their title. -/
def oK (f : Int → Option ByteArray) (l : List Nd) (s : Int) : Nat → Option Int
  | 0 => none
  | k + 1 => if same f l k = true ∧ s = (nd l k).cd then some (nd l k).cd else oK f l s k
/-- .. and what the first k moves say. -/
def mK (o : Int → Option Int) (M : List Mv) (s : Int) : Nat → Option Int
  | 0 => o s
  | k + 1 => if s = (mv M k).fr then some (mv M k).tg else mK o M s k
/-- What a code becomes. -/
def suO (l1 l2 : List Nd) (M : List Mv) (s : Int) : Option Int := mK (fun s => oK (fun s => tK l2 s l2.length) l1 s l1.length) M s M.length
def suS (l1 l2 : List Nd) (M : List Mv) (s : Int) : Int := (suO l1 l2 M s).getD 0
theorem zeroText (w : World) : (zeroValue 9).run Tryd.prog w = .ok (.string ⟨#[]⟩) w := by kernel_rfl
theorem zeroInt (w : World) : (zeroValue 3).run Tryd.prog w = .ok (.int .i64 0) w := by kernel_rfl
/-- Block b has texts, numbers. -/
def TxIs (w : World) (b n : Nat) (f : Int → Option ByteArray) : Prop := MapIs w b n fun s => (f s).map Value.string
def NuIs (w : World) (b n : Nat) (f : Int → Option Int) : Prop := MapIs w b n fun s => (f s).map (Value.int .i64)
theorem NuIs.more {w : World} {b n m : Nat} {f : Int → Option Int} (h : NuIs w b n f) (hm : n ≤ m) : NuIs w b m f := by
  obtain ⟨D, ⟨es, clock, h1, h2, h3, h4⟩, hD⟩ := h
  exact ⟨D, ⟨es, clock, h1, h2, Nat.le_trans h3 hm, h4⟩, hD⟩
/-- What lies there in the second loop, and in the third. -/
structure InS (w wr : World) (b1 n1 b2 n2 : Nat) (f : Int → Option ByteArray) (g : Int → Option Int) : Prop where
  tx : TxIs wr b1 n1 f
  nu : NuIs wr b2 n2 g
  bel : Below w.heap.size w wr
  lo : w.heap.size ≤ b1
  lt : b1 < b2
theorem InS.keep {w wr W : World} {b1 n1 b2 n2 : Nat} {f : Int → Option ByteArray} {g : Int → Option Int} (h : InS w wr b1 n1 b2 n2 f g) (hb : Below wr.heap.size wr W) : InS w W b1 n1 b2 n2 f g :=
  ⟨MapIs.below h.tx hb (MapIs.lt h.tx), MapIs.below h.nu hb (MapIs.lt h.nu), h.bel.trans (hb.mono h.bel.size), h.lo, h.lt⟩
theorem InS.nextN {w wr : World} {b1 n1 b2 n2 : Nat} {f : Int → Option ByteArray} {g : Int → Option Int} (h : InS w wr b1 n1 b2 n2 f g) : InS w wr b1 n1 b2 (n2 + 1) f g := { h with nu := h.nu.more (Nat.le_succ _) }
theorem InS.congr {w wr : World} {b1 n1 b2 n2 : Nat} {f : Int → Option ByteArray} {g g' : Int → Option Int} (h : InS w wr b1 n1 b2 n2 f g) (e : ∀ s, g s = g' s) : InS w wr b1 n1 b2 n2 f g' := by
  have : g = g' := funext e
  rw [← this]; exact h
def SuP (f : Int → Option Int) (n : Nat) (w : World) (e : Ending) (w' : World) : Prop := ∃ b, e = .returned (.map (some b)) ∧ NuIs w' b n f ∧ Below w.heap.size w w'
end Go.Proofs.YtdapmmhbnaknbaaDoor
