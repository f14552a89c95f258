/-
  Total orders that are told by -1, 0 and 1: of whole numbers, of texts, of lists, and by one part behind the other. Nothing of the program stands here.
-/
import Derived.Lib.Bytealg
namespace Go.Proofs.YtngijlmokhkdjaaDoor.Ord
open Go

/-- What a function says that compares by a total order. -/
structure TOrd {A : Type} (f : A → A → Int) : Prop where
  three : ∀ a b, f a b = -1 ∨ f a b = 0 ∨ f a b = 1
  anti : ∀ a b, f a b = - f b a
  zero : ∀ a b, f a b = 0 → a = b
  trans : ∀ a b c, f a b ≤ 0 → f b c ≤ 0 → f a c ≤ 0

theorem TOrd.self {A : Type} {f : A → A → Int} (h : TOrd f) (a : A) : f a a = 0 := by
  have := h.anti a a; omega
/-- Not behind, and not the same: then ahead of what is not ahead of the second one. -/
theorem TOrd.less {A : Type} {f : A → A → Int} (h : TOrd f) (a b c : A) (h1 : f a b ≤ 0) (h2 : f b c ≤ 0) (h3 : f a b < 0 ∨ f b c < 0) : f a c < 0 := by
  rcases h.three a c with e | e | e
  · omega
  · obtain rfl := h.zero _ _ e
    have := h.anti a b; omega
  · have := h.trans a b c h1 h2; omega

def icmp (a b : Int) : Int := if a < b then -1 else if b < a then 1 else 0
theorem icmp_ord : TOrd icmp where
  three a b := by unfold icmp; repeat' split
                  all_goals omega
  anti a b := by unfold icmp; repeat' split
                 all_goals omega
  zero a b := by unfold icmp; repeat' split
                 all_goals omega
  trans a b c := by unfold icmp; repeat' split
                    all_goals omega

/-- By the first parts, and if these are the same by the second ones. -/
def lex {A B : Type} (f : A → A → Int) (g : B → B → Int) (x y : A × B) : Int := if f x.1 y.1 = 0 then g x.2 y.2 else f x.1 y.1
theorem lex_ord {A B : Type} {f : A → A → Int} {g : B → B → Int} (hf : TOrd f) (hg : TOrd g) : TOrd (lex f g) where
  three x y := by
    unfold lex; split
    · exact hg.three _ _
    · exact hf.three _ _
  anti x y := by
    have := hf.anti x.1 y.1
    unfold lex; split <;> split
    · exact hg.anti _ _
    · omega
    · omega
    · exact this
  zero x y h := by
    unfold lex at h; split at h
    · rename_i e
      exact Prod.ext (hf.zero _ _ e) (hg.zero _ _ h)
    · contradiction
  trans x y z h1 h2 := by
    unfold lex at h1 h2 ⊢
    by_cases e1 : f x.1 y.1 = 0
    · have e1' := hf.zero _ _ e1
      rw [if_pos e1] at h1
      rw [e1']
      by_cases e2 : f y.1 z.1 = 0
      · rw [if_pos e2] at h2 ⊢
        exact hg.trans _ _ _ h1 h2
      · rw [if_neg e2] at h2 ⊢
        exact h2
    · rw [if_neg e1] at h1
      have l : f x.1 z.1 < 0 := by
        by_cases e2 : f y.1 z.1 = 0
        · have e2' := hf.zero _ _ e2
          rw [← e2']; omega
        · rw [if_neg e2] at h2
          exact hf.less _ y.1 _ h1 h2 (by omega)
      rw [if_neg (by omega)]
      omega

/-- By the first elements that are not the same; a beginning of a longer list comes first. -/
def lcmp {A : Type} (f : A → A → Int) : List A → List A → Int
  | [], [] => 0
  | [], _ :: _ => -1
  | _ :: _, [] => 1
  | a :: as, b :: bs => if f a b = 0 then lcmp f as bs else f a b
theorem lcmp_ord {A : Type} {f : A → A → Int} (hf : TOrd f) : TOrd (lcmp f) where
  three := by
    intro a
    induction a with
    | nil => intro b; cases b <;> simp [lcmp]
    | cons x xs ih =>
      intro b
      cases b with
      | nil => simp [lcmp]
      | cons y ys =>
        simp only [lcmp]; split
        · exact ih ys
        · exact hf.three _ _
  anti := by
    intro a
    induction a with
    | nil => intro b; cases b <;> simp [lcmp]
    | cons x xs ih =>
      intro b
      cases b with
      | nil => simp [lcmp]
      | cons y ys =>
        have := hf.anti x y
        simp only [lcmp]; split <;> split
        · exact ih ys
        · omega
        · omega
        · exact this
  zero := by
    intro a
    induction a with
    | nil => intro b h; cases b with
      | nil => rfl
      | cons y ys => simp [lcmp] at h
    | cons x xs ih =>
      intro b h
      cases b with
      | nil => simp [lcmp] at h
      | cons y ys =>
        simp only [lcmp] at h; split at h
        · rename_i e
          rw [hf.zero _ _ e, ih ys h]
        · contradiction
  trans := by
    intro a
    induction a with
    | nil => intro b c _ _; cases c <;> simp [lcmp]
    | cons x xs ih =>
      intro b c h1 h2
      cases b with
      | nil => simp [lcmp] at h1
      | cons y ys =>
        cases c with
        | nil => simp [lcmp] at h2
        | cons z zs =>
          simp only [lcmp] at h1 h2 ⊢
          by_cases e1 : f x y = 0
          · obtain rfl := hf.zero _ _ e1
            rw [if_pos e1] at h1
            by_cases e2 : f x z = 0
            · rw [if_pos e2] at h2 ⊢
              exact ih _ _ h1 h2
            · rw [if_neg e2] at h2 ⊢
              exact h2
          · rw [if_neg e1] at h1
            have l : f x z < 0 := by
              by_cases e2 : f y z = 0
              · obtain rfl := hf.zero _ _ e2
                omega
              · rw [if_neg e2] at h2
                exact hf.less _ y _ h1 h2 (by omega)
            rw [if_neg (by omega)]
            omega

def bcmp (a b : UInt8) : Int := if a < b then -1 else if b < a then 1 else 0
theorem bcmp_ord : TOrd bcmp where
  three a b := by unfold bcmp; repeat' split
                  all_goals omega
  anti a b := by unfold bcmp; simp only [UInt8.lt_iff_toNat_lt]; repeat' split
                 all_goals omega
  zero a b := by unfold bcmp; simp only [UInt8.lt_iff_toNat_lt]; repeat' split
                 all_goals first | omega | (intro _; exact UInt8.toNat_inj.1 (by omega))
  trans a b c := by unfold bcmp; simp only [UInt8.lt_iff_toNat_lt]; repeat' split
                    all_goals omega
theorem compareBytes_eq : ∀ a b : List UInt8, Lib.compareBytes a b = lcmp bcmp a b
  | [], [] => rfl
  | [], _ :: _ => rfl
  | _ :: _, [] => rfl
  | a :: as, b :: bs => by
    simp only [Lib.compareBytes, lcmp, compareBytes_eq as bs, bcmp, UInt8.lt_iff_toNat_lt]
    repeat' split
    all_goals first | rfl | omega | contradiction
theorem bytes_ord : TOrd Lib.compareBytes := by
  rw [show Lib.compareBytes = lcmp bcmp from funext fun a => funext fun b => compareBytes_eq a b]
  exact lcmp_ord bcmp_ord

/-- A value: kind, number, text, set. -/
abbrev Val := Int × Int × List UInt8 × List Int
def vcmp : Val → Val → Int := lex icmp (lex icmp (lex Lib.compareBytes (lcmp icmp)))
theorem vcmp_ord : TOrd vcmp := lex_ord icmp_ord (lex_ord icmp_ord (lex_ord bytes_ord (lcmp_ord icmp_ord)))
/-- The first one that is not 0. -/
def or4 (x y z u : Int) : Int := if x = 0 then if y = 0 then if z = 0 then u else z else y else x
theorem vcmp_or (k n : Int) (s : List UInt8) (l : List Int) (k' n' : Int) (s' : List UInt8) (l' : List Int) :
    vcmp (k, n, s, l) (k', n', s', l') = or4 (icmp k k') (icmp n n') (Lib.compareBytes s s') (lcmp icmp l l') := by
  simp only [vcmp, lex, or4]
theorem icmp_three (a b : Int) : icmp a b = -1 ∨ icmp a b = 0 ∨ icmp a b = 1 := icmp_ord.three a b
theorem vcmp_bd (a b : Val) : -1 ≤ vcmp a b ∧ vcmp a b ≤ 1 := by have := vcmp_ord.three a b; omega

/-! ### Lists, place by place. -/
theorem drop_at (l : List Int) (k : Nat) (h : k < l.length) : l.drop k = l.getD k 0 :: l.drop (k + 1) := by
  rw [List.drop_eq_getElem_cons h]; simp [h]
theorem drop_end (l : List Int) (k : Nat) (h : l.length ≤ k) : l.drop k = [] := List.drop_eq_nil_of_le h
/-- The first one that is not 0. -/
def orL : List Int → Int
  | [] => 0
  | a :: r => if a = 0 then orL r else a
theorem lcmp_step (a b : List Int) (k : Nat) (h1 : k < a.length) (h2 : k < b.length) :
    lcmp icmp (a.drop k) (b.drop k) = if icmp (a.getD k 0) (b.getD k 0) = 0 then lcmp icmp (a.drop (k + 1)) (b.drop (k + 1)) else icmp (a.getD k 0) (b.getD k 0) := by
  rw [drop_at a k h1, drop_at b k h2]; rfl
theorem lcmp_long (a b : List Int) (k : Nat) (h1 : k < a.length) (h2 : b.length ≤ k) : lcmp icmp (a.drop k) (b.drop k) = 1 := by
  rw [drop_at a k h1, drop_end b k h2]; rfl
theorem lcmp_short (a b : List Int) (k : Nat) (h1 : a.length ≤ k) (h2 : k < b.length) : lcmp icmp (a.drop k) (b.drop k) = -1 := by
  rw [drop_end a k h1, drop_at b k h2]; rfl
theorem lcmp_over (a b : List Int) (k : Nat) (h1 : a.length ≤ k) (h2 : b.length ≤ k) : lcmp icmp (a.drop k) (b.drop k) = 0 := by
  rw [drop_end a k h1, drop_end b k h2]; rfl
theorem icmp_self (a : Int) : icmp a a = 0 := icmp_ord.self a
/-- Equal lists, place by place. -/
theorem eq_of_places (a b : List Int) (h : a.length = b.length) (hp : ∀ j, j < a.length → a.getD j 0 = b.getD j 0) : a = b := by
  apply List.ext_getElem h
  intro i h1 h2
  have := hp i h1
  simpa [h1, h2] using this

theorem orL_step (l : List Int) (k : Nat) (h : k < l.length) : orL (l.drop k) = if l.getD k 0 = 0 then orL (l.drop (k + 1)) else l.getD k 0 := by
  rw [drop_at l k h]; rfl
theorem orL_end (l : List Int) (k : Nat) (h : l.length ≤ k) : orL (l.drop k) = 0 := by rw [drop_end l k h]; rfl
theorem orL_four (x y z u : Int) : orL [x, y, z, u] = or4 x y z u := by
  unfold orL orL orL orL orL or4; repeat' split
  all_goals first | rfl | omega
end Go.Proofs.YtngijlmokhkdjaaDoor.Ord
