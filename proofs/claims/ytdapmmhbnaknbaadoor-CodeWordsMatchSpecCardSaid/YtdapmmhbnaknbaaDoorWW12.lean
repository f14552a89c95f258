/-
  Package code: a coder and a text are checked.
  Package code: Words of the reference.
  Package code: Words, out of what its words are.
  The law CodeWordsMatchSpec, out of what the words of package code are.
-/
import Derived.Test.YtdapmmhbnaknbaaDoorWW08
import Derived.Test.YtdapmmhbnaknbaaDoorWW03
import Derived.Test.YtdapmmhbnaknbaaDoorWW10
import Derived.Test.YtdapmmhbnaknbaaDoorWW09
import Derived.Deep.RegionHeld3
namespace Go.Proofs.YtdapmmhbnaknbaaDoor
open Go.RowKit Go.WideMaps Go.Maps

set_option maxRecDepth 100000 in
set_option maxHeartbeats 4000000 in
theorem rCheckCoder_c (an sa ae ar ax : Option Addr) (k0 k1 k2 k3 k4 : Nat) (C : Cod) (w : World) (hC : CoR w an sa ae ar ax C) :
    Calls Tryd.prog 7 #[.agg #[.slice an C.nd.length k0, .slice sa C.st.length k1, .slice ae C.en.length k2, .slice ar C.ru.length k3, .slice ax C.ex.length k4]] w (IntP (cdF C) w) := by
  by_cases h0 : frS C.nd = 0
  · have e : cdF C = ccF (hasS C.nd) C := by unfold cdF; rw [if_neg (by rw [h0]; simp)]
    rw [e]; exact rCheckCoder_ok an sa ae ar ax k0 k1 k2 k3 k4 C w hC h0
  · have e : cdF C = frS C.nd := by unfold cdF; rw [if_pos h0]
    rw [e]
    obtain ⟨f, hf⟩ : ∃ f, frS C.nd = f := ⟨_, rfl⟩
    obtain ⟨W1, hW1⟩ : ∃ W1, w.alloc (.cells #[.slice an C.nd.length k0, .slice sa C.st.length k1, .slice ae C.en.length k2, .slice ar C.ru.length k3, .slice ax C.ex.length k4] 28) = W1 := ⟨_, rfl⟩
    obtain ⟨z, hz⟩ : ∃ z, w.heap.size = z := ⟨_, rfl⟩
    have X1 : Hid (KB W1 z (.slice an C.nd.length k0) (.slice sa C.st.length k1) (.slice ae C.en.length k2) (.slice ar C.ru.length k3) (.slice ax C.ex.length k4)) := by
      unfold Hid; rw [← hW1, ← hz]; exact KB.made _ _ _ _ _ _ _
    have B1 : Hid (Below w.heap.size w W1) := by unfold Hid; rw [← hW1]; exact bel_one _ _
    have FC := Lib.hid (rCheckFrame_c an k0 C.nd W1 (hC.below B1.out).nd hC.fit)
    rw [hf] at h0 FC ⊢
    have g' : (f == 0) = false := by rw [beq_eq_false_iff_ne]; exact h0
    have gb : (f != 0) = true := by rw [bne, g']; rfl
    obtain ⟨x0, x1, x2, x3, x4, _⟩ := X1.out
    clear hC h0 e hf
    go_enter Tryd.func7, Tryd.ntmps7
    go_wp2_with fail
    refine FC.out.mono ?_
    rintro e0 w0 ⟨rfl, b0⟩
    have B0 : Hid (Below w.heap.size w w0) := B1.out.trans (b0.mono B1.out.size)
    clear b0 x0 x1 x2 x3 x4
    go_wp2
    go_ret
    exact ⟨rfl, B0.out⟩
set_option maxRecDepth 100000 in
set_option maxHeartbeats 4000000 in
theorem CheckCoder_c (an sa ae ar ax : Option Addr) (k0 k1 k2 k3 k4 : Nat) (C : Cod) (w : World) (hC : CoR w an sa ae ar ax C) :
    Calls Tryd.prog 6 #[.agg #[.slice an C.nd.length k0, .slice sa C.st.length k1, .slice ae C.en.length k2, .slice ar C.ru.length k3, .slice ax C.ex.length k4]] w (IntP (cdF C) w) := by
  obtain ⟨W1, hW1⟩ : ∃ W1, w.alloc (.cells #[.slice an C.nd.length k0, .slice sa C.st.length k1, .slice ae C.en.length k2, .slice ar C.ru.length k3, .slice ax C.ex.length k4] 28) = W1 := ⟨_, rfl⟩
  obtain ⟨z, hz⟩ : ∃ z, w.heap.size = z := ⟨_, rfl⟩
  have X1 : Hid (KB W1 z (.slice an C.nd.length k0) (.slice sa C.st.length k1) (.slice ae C.en.length k2) (.slice ar C.ru.length k3) (.slice ax C.ex.length k4)) := by
    unfold Hid; rw [← hW1, ← hz]; exact KB.made _ _ _ _ _ _ _
  have B1 : Hid (Below w.heap.size w W1) := by unfold Hid; rw [← hW1]; exact bel_one _ _
  have PC := Lib.hid (hC.below B1.out)
  have FC := Lib.hid (frameOf_c an k0 C.nd W1 PC.out.nd hC.fit)
  obtain ⟨x0, x1, x2, x3, x4, _⟩ := X1.out
  clear hC
  by_cases h0 : frS C.nd = 0
  · have e : Hid (cdF C = ccF (hasS C.nd) C) := by unfold Hid cdF; rw [if_neg (by rw [h0]; simp)]
    rw [e.out]
    have H0 := Lib.hid h0
    clear h0
    go_enter Tryd.func6, Tryd.ntmps6
    go_wp2_with fail
    refine FC.out.mono ?_
    rintro e0 w2 (⟨_, x, y, rfl, hx, hy, b2, _, _⟩ | ⟨hne, _⟩)
    · have B2 : Hid (Below w.heap.size w w2) := B1.out.trans (b2.mono B1.out.size)
      obtain ⟨y0, y1, y2, y3, y4, _⟩ := X1.out.keep b2
      have HY := Lib.hid hy
      have P2 := Lib.hid (PC.out.below b2)
      clear hx hy b2 x0 x1 x2 x3 x4
      obtain ⟨W3, hW3⟩ : ∃ W3, w2.alloc (.cells #[row x, row y] 44) = W3 := ⟨_, rfl⟩
      have B3 : Hid (Below w2.heap.size w2 W3) := by unfold Hid; rw [← hW3]; exact bel_one _ _
      have KC := Lib.hid (fun (V : World) (hb : Below w2.heap.size w2 V) => checkCoder_c x y an sa ae ar ax k0 k1 k2 k3 k4 C V (HY.out.below hb) (P2.out.below hb))
      have D := Lib.hid (KC.out W3 B3.out)
      have Q3 : Hid (B2x W3 w2.heap.size (row x) (row y)) := by unfold Hid; rw [← hW3]; exact B2x.made _ _ _ _
      obtain ⟨q0, q1, _⟩ := Q3.out
      have X2 : Hid (KB w2 z (.slice an C.nd.length k0) (.slice sa C.st.length k1) (.slice ae C.en.length k2) (.slice ar C.ru.length k3) (.slice ax C.ex.length k4)) := ⟨y0, y1, y2, y3, y4, by assumption⟩
      obtain ⟨z0, z1, z2, z3, z4, _⟩ := X2.out.keep B3.out
      go_wp2_with fail
      refine D.out.mono ?_
      rintro e1 w4 ⟨rfl, b4⟩
      have B4 : Hid (Below w.heap.size w w4) := B2.out.trans ((B3.out.trans (b4.mono B3.out.size)).mono B2.out.size)
      clear b4 y0 y1 y2 y3 y4 z0 z1 z2 z3 z4 q0 q1
      go_wp2
      go_ret
      exact ⟨rfl, B4.out⟩
    · exact absurd H0.out hne
  · have e : Hid (cdF C = frS C.nd) := by unfold Hid cdF; rw [if_pos h0]
    rw [e.out]
    obtain ⟨f, hf⟩ : ∃ f, frS C.nd = f := ⟨_, rfl⟩
    have HF := Lib.hid hf
    have g' : (f == 0) = false := by rw [beq_eq_false_iff_ne, ← hf]; exact h0
    have gb : (f != 0) = true := by rw [bne, g']; rfl
    have H0 := Lib.hid h0
    rw [hf]
    clear h0 hf
    go_enter Tryd.func6, Tryd.ntmps6
    go_wp2_with fail
    refine FC.out.mono ?_
    rintro e0 w2 (⟨h1, _⟩ | ⟨_, rfl, b2⟩)
    · exact absurd h1 H0.out
    · have B2 : Hid (Below w.heap.size w w2) := B1.out.trans (b2.mono B1.out.size)
      rw [HF.out]
      clear b2 x0 x1 x2 x3 x4
      go_wp2
      go_ret
      exact ⟨rfl, B2.out.trans ((bel_one _ _).mono B2.out.size)⟩
def askF (C : Cod) (T : ByteArray) : Int := if cdF C ≠ 0 then cdF C else if 1000 < T.size then 2 else 0
set_option maxRecDepth 100000 in
set_option maxHeartbeats 4000000 in
theorem checkAsked_c (an sa ae ar ax : Option Addr) (k0 k1 k2 k3 k4 : Nat) (C : Cod) (T : ByteArray) (w : World) (hC : CoR w an sa ae ar ax C) :
    Calls Tryd.prog 9 #[.agg #[.slice an C.nd.length k0, .slice sa C.st.length k1, .slice ae C.en.length k2, .slice ar C.ru.length k3, .slice ax C.ex.length k4], .string T] w (IntP (askF C T) w) := by
  obtain ⟨W1, hW1⟩ : ∃ W1, w.alloc (.cells #[.slice an C.nd.length k0, .slice sa C.st.length k1, .slice ae C.en.length k2, .slice ar C.ru.length k3, .slice ax C.ex.length k4] 28) = W1 := ⟨_, rfl⟩
  obtain ⟨z, hz⟩ : ∃ z, w.heap.size = z := ⟨_, rfl⟩
  have X1 : Hid (KB W1 z (.slice an C.nd.length k0) (.slice sa C.st.length k1) (.slice ae C.en.length k2) (.slice ar C.ru.length k3) (.slice ax C.ex.length k4)) := by
    unfold Hid; rw [← hW1, ← hz]; exact KB.made _ _ _ _ _ _ _
  have B1 : Hid (Below w.heap.size w W1) := by unfold Hid; rw [← hW1]; exact bel_one _ _
  have D := Lib.hid (CheckCoder_c an sa ae ar ax k0 k1 k2 k3 k4 C W1 (hC.below B1.out))
  obtain ⟨x0, x1, x2, x3, x4, _⟩ := X1.out
  have E : Hid (askF C T = if cdF C ≠ 0 then cdF C else if 1000 < T.size then 2 else 0) := rfl
  obtain ⟨f, hf⟩ : ∃ f, cdF C = f := ⟨_, rfl⟩
  obtain ⟨R, hR⟩ : ∃ R, askF C T = R := ⟨_, rfl⟩
  rw [hf, hR] at E
  rw [hR]
  rw [hf] at D
  clear hC hf hR
  by_cases g : f = 0
  · subst g
    by_cases h : 1000 < T.size
    · have h' : (1000 : Int) < (T.size : Int) := by omega
      have e : Hid (R = 2) := by unfold Hid; rw [E.out, if_neg (by simp), if_pos h]
      clear E h
      go_enter Tryd.func9, Tryd.ntmps9
      go_wp2_with fail
      refine D.out.mono ?_
      rintro e1 w2 ⟨rfl, b2⟩
      have B2 := Lib.hid (B1.out.trans (b2.mono B1.out.size))
      clear b2 x0 x1 x2 x3 x4
      go_wp2
      go_ret
      exact ⟨by rw [e.out]; rfl, B2.out⟩
    · have h' : ¬ (1000 : Int) < (T.size : Int) := by omega
      have e : Hid (R = 0) := by unfold Hid; rw [E.out, if_neg (by simp), if_neg h]
      clear E h
      go_enter Tryd.func9, Tryd.ntmps9
      go_wp2_with fail
      refine D.out.mono ?_
      rintro e1 w2 ⟨rfl, b2⟩
      have B2 := Lib.hid (B1.out.trans (b2.mono B1.out.size))
      clear b2 x0 x1 x2 x3 x4
      go_wp2
      go_ret
      exact ⟨by rw [e.out]; rfl, B2.out⟩
  · have g' : (f == 0) = false := by rw [beq_eq_false_iff_ne]; exact g
    have gb : (f != 0) = true := by rw [bne, g']; rfl
    have e : Hid (R = f) := by unfold Hid; rw [E.out, if_pos g]
    clear E g
    go_enter Tryd.func9, Tryd.ntmps9
    go_wp2_with fail
    refine D.out.mono ?_
    rintro e1 w2 ⟨rfl, b2⟩
    have B2 := Lib.hid (B1.out.trans (b2.mono B1.out.size))
    clear b2 x0 x1 x2 x3 x4
    go_wp2
    go_ret
    exact ⟨by rw [e.out]; rfl, B2.out⟩
set_option maxRecDepth 100000 in
set_option maxHeartbeats 4000000 in
theorem rCheckText_c (an sa ae ar ax : Option Addr) (k0 k1 k2 k3 k4 : Nat) (C : Cod) (T : ByteArray) (w : World) (hC : CoR w an sa ae ar ax C) :
    Calls Tryd.prog 12 #[.agg #[.slice an C.nd.length k0, .slice sa C.st.length k1, .slice ae C.en.length k2, .slice ar C.ru.length k3, .slice ax C.ex.length k4], .string T] w (IntP (askF C T) w) := by
  obtain ⟨W1, hW1⟩ : ∃ W1, w.alloc (.cells #[.slice an C.nd.length k0, .slice sa C.st.length k1, .slice ae C.en.length k2, .slice ar C.ru.length k3, .slice ax C.ex.length k4] 28) = W1 := ⟨_, rfl⟩
  obtain ⟨z, hz⟩ : ∃ z, w.heap.size = z := ⟨_, rfl⟩
  have X1 : Hid (KB W1 z (.slice an C.nd.length k0) (.slice sa C.st.length k1) (.slice ae C.en.length k2) (.slice ar C.ru.length k3) (.slice ax C.ex.length k4)) := by
    unfold Hid; rw [← hW1, ← hz]; exact KB.made _ _ _ _ _ _ _
  have B1 : Hid (Below w.heap.size w W1) := by unfold Hid; rw [← hW1]; exact bel_one _ _
  have D := Lib.hid (rCheckCoder_c an sa ae ar ax k0 k1 k2 k3 k4 C W1 (hC.below B1.out))
  obtain ⟨x0, x1, x2, x3, x4, _⟩ := X1.out
  have E : Hid (askF C T = if cdF C ≠ 0 then cdF C else if 1000 < T.size then 2 else 0) := rfl
  obtain ⟨f, hf⟩ : ∃ f, cdF C = f := ⟨_, rfl⟩
  obtain ⟨R, hR⟩ : ∃ R, askF C T = R := ⟨_, rfl⟩
  rw [hf, hR] at E
  rw [hR]
  rw [hf] at D
  clear hC hf hR
  by_cases g : f = 0
  · subst g
    by_cases h : 1000 < T.size
    · have h' : (1000 : Int) < (T.size : Int) := by omega
      have e : Hid (R = 2) := by unfold Hid; rw [E.out, if_neg (by simp), if_pos h]
      clear E h
      go_enter Tryd.func12, Tryd.ntmps12
      go_wp2_with fail
      refine D.out.mono ?_
      rintro e1 w2 ⟨rfl, b2⟩
      have B2 := Lib.hid (B1.out.trans (b2.mono B1.out.size))
      clear b2 x0 x1 x2 x3 x4
      go_wp2
      go_ret
      exact ⟨by rw [e.out]; rfl, B2.out⟩
    · have h' : ¬ (1000 : Int) < (T.size : Int) := by omega
      have e : Hid (R = 0) := by unfold Hid; rw [E.out, if_neg (by simp), if_neg h]
      clear E h
      go_enter Tryd.func12, Tryd.ntmps12
      go_wp2_with fail
      refine D.out.mono ?_
      rintro e1 w2 ⟨rfl, b2⟩
      have B2 := Lib.hid (B1.out.trans (b2.mono B1.out.size))
      clear b2 x0 x1 x2 x3 x4
      go_wp2
      go_ret
      exact ⟨by rw [e.out]; rfl, B2.out⟩
  · have g' : (f == 0) = false := by rw [beq_eq_false_iff_ne]; exact g
    have gb : (f != 0) = true := by rw [bne, g']; rfl
    have e : Hid (R = f) := by unfold Hid; rw [E.out, if_pos g]
    clear E g
    go_enter Tryd.func12, Tryd.ntmps12
    go_wp2_with fail
    refine D.out.mono ?_
    rintro e1 w2 ⟨rfl, b2⟩
    have B2 := Lib.hid (B1.out.trans (b2.mono B1.out.size))
    clear b2 x0 x1 x2 x3 x4
    go_wp2
    go_ret
    exact ⟨by rw [e.out]; rfl, B2.out⟩
end Go.Proofs.YtdapmmhbnaknbaaDoor
namespace Go.Proofs.YtdapmmhbnaknbaaDoor
open Go.RowKit Go.WideMaps Go.Maps

def WoP (C : Cod) (s : ByteArray) (w : World) (e : Ending) (w' : World) : Prop :=
  Below w.heap.size w w' ∧ ((askF C s ≠ 0 ∧ e = .returned (.tuple #[.slice none 0 0, .int .i64 (askF C s)])) ∨
    (askF C s = 0 ∧ ∃ a c, e = .returned (.tuple #[.slice a ((wrF C.st C.en (rowsF s.data.toList [])).take 60).length c, .int .i64 0]) ∧ RdW w' a ((wrF C.st C.en (rowsF s.data.toList [])).take 60)))
theorem ask_zero {C : Cod} {s : ByteArray} (h : askF C s = 0) : (∀ j, j < C.en.length → (ea C.en j).fr.size ≤ 30 ∧ (ea C.en j).to.size ≤ 30) ∧ s.size ≤ 1000 ∧ cdF C = 0 := by
  unfold askF at h
  by_cases h1 : cdF C = 0
  · rw [if_neg (by rw [h1]; simp)] at h
    have h2 : s.size ≤ 1000 := by
      by_cases q : 1000 < s.size
      · rw [if_pos q] at h; omega
      · omega
    refine ⟨fun j hj => ?_, h2, h1⟩
    unfold cdF at h1
    by_cases h3 : frS C.nd = 0
    · rw [if_neg (by rw [h3]; simp)] at h1
      unfold ccF at h1
      split at h1
      · omega
      · split at h1
        · rename_i h5; exact absurd h1 h5
        · split at h1
          · rename_i h5; exact absurd h1 h5
          · rename_i h5
            have h6 : enF C.en = 0 := by simpa using h5
            have h7 := fe_zero h6 j hj
            have h8 : enE (ea C.en j) = 0 := h7
            unfold enE at h8
            have wsz : ∀ b : ByteArray, isW b.data.toList = true → b.size ≤ 30 := fun b hb => by
              unfold isW at hb
              simp only [Bool.and_eq_true, decide_eq_true_eq] at hb
              rw [Lib.size_eq]; exact hb.2.1
            split at h8
            · omega
            · rename_i h9
              have h9 : isW (ea C.en j).fr.data.toList = true := by simpa using h9
              refine ⟨wsz _ h9, ?_⟩
              split at h8
              · rename_i h10; rw [Lib.size_eq, h10]; simp
              · split at h8
                · omega
                · rename_i h11; exact wsz _ (by simpa using h11)
    · rw [if_pos h3] at h1; exact absurd h1 h3
  · rw [if_pos h1] at h; exact absurd h h1
set_option maxRecDepth 100000 in
set_option maxHeartbeats 4000000 in
theorem rWords_c (an sa ae ar ax : Option Addr) (k0 k1 k2 k3 k4 : Nat) (C : Cod) (s : ByteArray) (w : World) (hC : CoR w an sa ae ar ax C) :
    Calls Tryd.prog 5 #[.agg #[.slice an C.nd.length k0, .slice sa C.st.length k1, .slice ae C.en.length k2, .slice ar C.ru.length k3, .slice ax C.ex.length k4], .string s] w (WoP C s w) := by
  obtain ⟨W1, hW1⟩ : ∃ W1, w.alloc (.cells #[.slice an C.nd.length k0, .slice sa C.st.length k1, .slice ae C.en.length k2, .slice ar C.ru.length k3, .slice ax C.ex.length k4] 28) = W1 := ⟨_, rfl⟩
  obtain ⟨z, hz⟩ : ∃ z, w.heap.size = z := ⟨_, rfl⟩
  have X1 : Hid (KB W1 z (.slice an C.nd.length k0) (.slice sa C.st.length k1) (.slice ae C.en.length k2) (.slice ar C.ru.length k3) (.slice ax C.ex.length k4)) := by
    unfold Hid; rw [← hW1, ← hz]; exact KB.made _ _ _ _ _ _ _
  have B1 : Hid (Below w.heap.size w W1) := by unfold Hid; rw [← hW1]; exact bel_one _ _
  have PC := Lib.hid (hC.below B1.out)
  have D := Lib.hid (rCheckText_c an sa ae ar ax k0 k1 k2 k3 k4 C s W1 PC.out)
  obtain ⟨x0, x1, x2, x3, x4, _⟩ := X1.out
  clear hC
  by_cases g : askF C s = 0
  · have G := Lib.hid g
    have hz0 := ask_zero g
    have HZ := Lib.hid hz0
    rw [g] at D
    clear g hz0
    go_enter Tryd.func5, Tryd.ntmps5
    go_wp2_with fail
    refine D.out.mono ?_
    rintro e1 w2 ⟨rfl, b2⟩
    have B2 : Hid (Below w.heap.size w w2) := B1.out.trans (b2.mono B1.out.size)
    have DW := Lib.hid (rwords_c an sa ae ar ax k0 k1 k2 k3 k4 C s w2 (PC.out.below b2) HZ.out.1 HZ.out.2.1)
    obtain ⟨y0, y1, y2, y3, y4, _⟩ := X1.out.keep b2
    clear b2 x0 x1 x2 x3 x4
    obtain ⟨L, hL⟩ : ∃ L, (wrF C.st C.en (rowsF s.data.toList [])).take 60 = L := ⟨_, rfl⟩
    have HL := Lib.hid hL
    clear hL
    go_wp2_with fail
    refine DW.out.mono ?_
    rintro e1 w3 ⟨b3, a, c, rfl, hr⟩
    have RR : Hid (WoP C s w (.returned (.tuple #[.slice a L.length c, .int .i64 0])) w3) := ⟨B2.out.trans (b3.mono B2.out.size), .inr ⟨G.out, a, c, by rw [HL.out], hr⟩⟩
    rw [HL.out]
    clear b3 hr y0 y1 y2 y3 y4
    go_wp2
    go_ret2
    exact RR.out
  · obtain ⟨f, hf⟩ : ∃ f, askF C s = f := ⟨_, rfl⟩
    have HF := Lib.hid hf
    have g' : (f == 0) = false := by rw [beq_eq_false_iff_ne, ← hf]; exact g
    have gb : (f != 0) = true := by rw [bne, g']; rfl
    have G := Lib.hid g
    rw [hf] at D
    clear g hf
    go_enter Tryd.func5, Tryd.ntmps5
    go_wp2_with fail
    refine D.out.mono ?_
    rintro e1 w2 ⟨rfl, b2⟩
    have RR : Hid (WoP C s w (.returned (.tuple #[.slice none 0 0, .int .i64 f])) w2) := ⟨B1.out.trans (b2.mono B1.out.size), .inl ⟨G.out, by rw [HF.out]⟩⟩
    clear b2 x0 x1 x2 x3 x4
    go_wp2
    go_ret2
    exact RR.out
end Go.Proofs.YtdapmmhbnaknbaaDoor
namespace Go.Proofs.YtdapmmhbnaknbaaDoor
open Go.RowKit Go.WideMaps Go.Maps

theorem ask_st {C : Cod} {s : ByteArray} (h : askF C s = 0) : C.st.length ≤ 60 := by
  have h1 := (ask_zero h).2.2
  unfold cdF at h1
  by_cases h3 : frS C.nd = 0
  · rw [if_neg (by rw [h3]; simp)] at h1
    unfold ccF at h1
    split at h1
    · omega
    · rename_i q; omega
  · rw [if_pos h3] at h1; exact absurd h1 h3
set_option maxRecDepth 100000 in
set_option maxHeartbeats 4000000 in
theorem Words_of (an sa ae ar ax : Option Addr) (k0 k1 k2 k3 k4 : Nat) (C : Cod) (s : ByteArray) (w : World) (hC : CoR w an sa ae ar ax C)
    (hW : ∀ (m : Nat) (V : World), Below w.heap.size w V → StS V m C.st C.st.length → w.heap.size ≤ m → (∀ j, j < C.en.length → (ea C.en j).fr.size ≤ 30 ∧ (ea C.en j).to.size ≤ 30) → s.size ≤ 1000 →
      Calls Tryd.prog 11 #[.agg #[.map (some m), .slice ae C.en.length k2], .string s] V (WqP s.data.toList C.st C.en V)) :
    Calls Tryd.prog 4 #[.agg #[.slice an C.nd.length k0, .slice sa C.st.length k1, .slice ae C.en.length k2, .slice ar C.ru.length k3, .slice ax C.ex.length k4], .string s] w (WoP C s w) := by
  obtain ⟨W1, hW1⟩ : ∃ W1, w.alloc (.cells #[.slice an C.nd.length k0, .slice sa C.st.length k1, .slice ae C.en.length k2, .slice ar C.ru.length k3, .slice ax C.ex.length k4] 28) = W1 := ⟨_, rfl⟩
  obtain ⟨z, hz⟩ : ∃ z, w.heap.size = z := ⟨_, rfl⟩
  have X1 : Hid (KB W1 z (.slice an C.nd.length k0) (.slice sa C.st.length k1) (.slice ae C.en.length k2) (.slice ar C.ru.length k3) (.slice ax C.ex.length k4)) := by
    unfold Hid; rw [← hW1, ← hz]; exact KB.made _ _ _ _ _ _ _
  have B1 : Hid (Below w.heap.size w W1) := by unfold Hid; rw [← hW1]; exact bel_one _ _
  have PC := Lib.hid (hC.below B1.out)
  have HWW := Lib.hid hW
  have D := Lib.hid (checkAsked_c an sa ae ar ax k0 k1 k2 k3 k4 C s W1 PC.out)
  obtain ⟨x0, x1, x2, x3, x4, _⟩ := X1.out
  clear hC hW
  by_cases g : askF C s = 0
  · have G := Lib.hid g
    have HZ := Lib.hid (ask_zero g)
    have HST := Lib.hid (ask_st g)
    rw [g] at D
    clear g
    go_enter Tryd.func4, Tryd.ntmps4
    go_wp2_with fail
    refine D.out.mono ?_
    rintro e1 w2 ⟨rfl, b2⟩
    have B2 : Hid (Below w.heap.size w w2) := B1.out.trans (b2.mono B1.out.size)
    have DS := Lib.hid (stemmerOf_c an sa ae ar ax k0 k1 k2 k3 k4 C w2 (PC.out.below b2) HST.out)
    obtain ⟨y0, y1, y2, y3, y4, _⟩ := X1.out.keep b2
    clear b2 x0 x1 x2 x3 x4
    go_wp2_with fail
    refine DS.out.mono ?_
    rintro e1 w3 ⟨m, rfl, hst, b3, hm⟩
    have B3 : Hid (Below w.heap.size w w3) := B2.out.trans (b3.mono B2.out.size)
    have DW := Lib.hid (HWW.out m w3 B3.out hst (Nat.le_trans B2.out.size hm) HZ.out.1 HZ.out.2.1)
    obtain ⟨L, hL⟩ : ∃ L, (wrF C.st C.en (rowsF s.data.toList [])).take 60 = L := ⟨_, rfl⟩
    have HL := Lib.hid hL
    clear hL hst b3 hm y0 y1 y2 y3 y4
    go_wp2_with fail
    refine DW.out.mono ?_
    rintro e1 w4 ⟨b4, a, c, rfl, hr⟩
    have RR : Hid (WoP C s w (.returned (.tuple #[.slice a L.length c, .int .i64 0])) w4) := ⟨B3.out.trans (b4.mono B3.out.size), .inr ⟨G.out, a, c, by rw [HL.out], hr⟩⟩
    rw [HL.out]
    clear b4 hr
    go_wp2
    go_ret2
    exact RR.out
  · obtain ⟨f, hf⟩ : ∃ f, askF C s = f := ⟨_, rfl⟩
    have HF := Lib.hid hf
    have g' : (f == 0) = false := by rw [beq_eq_false_iff_ne, ← hf]; exact g
    have gb : (f != 0) = true := by rw [bne, g']; rfl
    have G := Lib.hid g
    rw [hf] at D
    clear g hf
    go_enter Tryd.func4, Tryd.ntmps4
    go_wp2_with fail
    refine D.out.mono ?_
    rintro e1 w2 ⟨rfl, b2⟩
    have RR : Hid (WoP C s w (.returned (.tuple #[.slice none 0 0, .int .i64 f])) w2) := ⟨B1.out.trans (b2.mono B1.out.size), .inl ⟨G.out, by rw [HF.out]⟩⟩
    clear b2 x0 x1 x2 x3 x4
    go_wp2
    go_ret2
    exact RR.out
end Go.Proofs.YtdapmmhbnaknbaaDoor
namespace Go.Proofs.YtdapmmhbnaknbaaDoor
open Go.RowKit Go.WideMaps Go.Maps

def S5 (z : Nat) (v0 v1 v2 v3 v4 : Value) (w : World) : Prop := w.cell? ⟨z, 0, none⟩ = some v0 ∧ w.cell? ⟨z, 1, none⟩ = some v1 ∧ w.cell? ⟨z, 2, none⟩ = some v2 ∧ w.cell? ⟨z, 3, none⟩ = some v3 ∧ w.cell? ⟨z, 4, none⟩ = some v4
theorem KB.s5 {W : World} {z : Nat} {v0 v1 v2 v3 v4 : Value} (h : KB W z v0 v1 v2 v3 v4) : S5 z v0 v1 v2 v3 v4 W := ⟨h.c0, h.c1, h.c2, h.c3, h.c4⟩
theorem eqW_c (a1 a2 : Option Addr) (c1 c2 : Nat) (l : List ByteArray) (w : World) (h1 : RdW w a1 l) (h2 : RdW w a2 l) : Calls Tryd.prog 8 #[.slice a1 l.length c1, .slice a2 l.length c2] w fun e w' => e = .returned (.bool true) ∧ Below w.heap.size w w' := by
  by_cases h0 : l.length = 0
  · obtain rfl : l = [] := List.eq_nil_of_length_eq_zero h0
    refine (Tryd.slices_Equal_string_empty a1 a2 c1 0 c2 w (by omega)).mono ?_
    rintro e w' ⟨rfl, rfl⟩
    exact ⟨rfl, Below.refl _ _⟩
  · obtain ⟨b1, o1, rfl, _, g1⟩ := h1.2.2 (by omega)
    obtain ⟨b2, o2, rfl, _, g2⟩ := h2.2.2 (by omega)
    refine (Tryd.slices_Equal_string b1 o1 l.length c1 b2 o2 l.length c2 l l w (Nat.le_refl _) (Nat.le_refl _) h1.1 h1.1 (fun j hj => by rw [g1 j hj]; rfl) (fun j hj => by rw [g2 j hj]; rfl)).mono ?_
    rintro e w' ⟨rfl, q, rfl⟩
    exact ⟨by simp, below_drewN (Below.refl _ _) q⟩
theorem wo_res {C : Cod} {s : ByteArray} {w w' : World} {e : Ending} (h : WoP C s w e w') : Below w.heap.size w w' ∧ ∃ a c, e = .returned (.tuple #[.slice a (if askF C s = 0 then (wrF C.st C.en (rowsF s.data.toList [])).take 60 else []).length c, .int .i64 (askF C s)]) ∧ RdW w' a (if askF C s = 0 then (wrF C.st C.en (rowsF s.data.toList [])).take 60 else []) := by
  obtain ⟨hb, ⟨h1, rfl⟩ | ⟨h1, a, c, rfl, hr⟩⟩ := h
  · rw [if_neg h1]
    exact ⟨hb, none, 0, rfl, by simp, fun s h => by simp at h, fun h => absurd h (Nat.lt_irrefl 0)⟩
  · rw [if_pos h1, h1]
    exact ⟨hb, a, c, rfl, hr⟩
set_option maxRecDepth 100000 in
set_option maxHeartbeats 4000000 in
theorem law_of (an sa ae ar ax : Option Addr) (k0 k1 k2 k3 k4 : Nat) (C : Cod) (s : ByteArray) (w : World) (hC : CoR w an sa ae ar ax C)
    (hW : ∀ (m : Nat) (V : World), Below w.heap.size w V → StS V m C.st C.st.length → w.heap.size ≤ m → (∀ j, j < C.en.length → (ea C.en j).fr.size ≤ 30 ∧ (ea C.en j).to.size ≤ 30) → s.size ≤ 1000 →
      Calls Tryd.prog 11 #[.agg #[.map (some m), .slice ae C.en.length k2], .string s] V (WqP s.data.toList C.st C.en V)) :
    Calls Tryd.prog 3 #[.agg #[.slice an C.nd.length k0, .slice sa C.st.length k1, .slice ae C.en.length k2, .slice ar C.ru.length k3, .slice ax C.ex.length k4], .string s] w fun e w' => e = .returned (.bool true) ∧ Below w.heap.size w w' := by
  obtain ⟨W1, hW1⟩ : ∃ W1, w.alloc (.cells #[.slice an C.nd.length k0, .slice sa C.st.length k1, .slice ae C.en.length k2, .slice ar C.ru.length k3, .slice ax C.ex.length k4] 28) = W1 := ⟨_, rfl⟩
  obtain ⟨z, hz⟩ : ∃ z, w.heap.size = z := ⟨_, rfl⟩
  have X1 : Hid (KB W1 z (.slice an C.nd.length k0) (.slice sa C.st.length k1) (.slice ae C.en.length k2) (.slice ar C.ru.length k3) (.slice ax C.ex.length k4)) := by
    unfold Hid; rw [← hW1, ← hz]; exact KB.made _ _ _ _ _ _ _
  have B1 : Hid (Below w.heap.size w W1) := by unfold Hid; rw [← hW1]; exact bel_one _ _
  have PC := Lib.hid (hC.below B1.out)
  have D := Lib.hid (Words_of an sa ae ar ax k0 k1 k2 k3 k4 C s W1 PC.out (fun m V hb h1 h2 h3 h4 => hW m V (B1.out.trans (hb.mono B1.out.size)) h1 (Nat.le_trans B1.out.size h2) h3 h4))
  obtain ⟨x0, x1, x2, x3, x4, _⟩ := X1.out
  obtain ⟨L, hL⟩ : ∃ L, (if askF C s = 0 then (wrF C.st C.en (rowsF s.data.toList [])).take 60 else []) = L := ⟨_, rfl⟩
  have HL := Lib.hid hL
  obtain ⟨f, hf⟩ : ∃ f, askF C s = f := ⟨_, rfl⟩
  have HF := Lib.hid hf
  have mixed : Tryd.prog.follows .mixedOrders = true := by kernel_rfl
  clear hC hW hL hf
  go_enter Tryd.func3, Tryd.ntmps3
  go_wp2_with fail
  refine D.out.mono ?_
  intro e1 w2 h
  obtain ⟨b2, a1, c1, rfl, r1⟩ := wo_res h
  rw [HL.out, HF.out]
  rw [HL.out] at r1
  have B2 : Hid (Below w.heap.size w w2) := B1.out.trans (b2.mono B1.out.size)
  have R1 := Lib.hid r1
  have P2 := Lib.hid (PC.out.below b2)
  have DR := Lib.hid (rWords_c an sa ae ar ax k0 k1 k2 k3 k4 C s w2 P2.out)
  have X2 := Lib.hid (X1.out.keep b2)
  obtain ⟨y0, y1, y2, y3, y4, _⟩ := X2.out
  clear h b2 r1 x0 x1 x2 x3 x4
  go_wp2_with fail
  refine DR.out.mono ?_
  intro e1 w3 h
  obtain ⟨b3, a2, c2, rfl, r2⟩ := wo_res h
  rw [HL.out, HF.out]
  rw [HL.out] at r2
  have B3 : Hid (Below w.heap.size w w3) := B2.out.trans (b3.mono B2.out.size)
  have R2 := Lib.hid r2
  have R3 := Lib.hid (R1.out.below b3)
  have P3 := Lib.hid (P2.out.below b3)
  have X3 := Lib.hid (X2.out.keep b3)
  obtain ⟨z0, z1, z2, z3, z4, _⟩ := X3.out
  clear h b3 r2 y0 y1 y2 y3 y4
  go_wp2_with fail
  have XA := X3
  clear z0 z1 z2 z3 z4 hW1
  refine wp_region_noPanic ?_
  refine wp_region_held_drew (S := (S5 z (.slice an C.nd.length k0) (.slice sa C.st.length k1) (.slice ae C.en.length k2) (.slice ar C.ru.length k3) (.slice ax C.ex.length k4))) (by kernel_rfl) (by exact XA.out.s5) (fun hS => ?_)
  obtain ⟨WD, hWD⟩ : ∃ W, w3.drew = W := ⟨_, rfl⟩
  have D0 : Hid (Below w3.heap.size w3 WD) := by unfold Hid; rw [← hWD]; exact (Below.refl _ _).drew
  rw [hWD] at hS ⊢
  clear hWD
  have XD := Lib.hid (XA.out.keep D0.out)
  have PD := Lib.hid (P3.out.below D0.out)
  refine wpAnyH_take (i := 0) (v := ?v0z1) rfl (by kernel_rfl) (by kernel_rfl) (by kernel_rfl) (fun _ _ _ h => h) (Or.inl ⟨by rfl, ?hy0z1⟩) (by assumption) ?rest0z1
  case hy0z1 =>
    intro w hSw
    dsimp only [S5] at hSw
    go_simp
    try with_reducible rfl
  simp only [Act.put, List.getElem_toArray, List.getElem_cons_succ, List.getElem_cons_zero, List.setIfInBounds_toArray, List.set_cons_zero, List.set_cons_succ]
  refine wpAnyH_take (i := 2) (v := ?v2z2) rfl (by kernel_rfl) (by kernel_rfl) (by kernel_rfl) (fun _ _ _ h => h) (Or.inl ⟨by rfl, ?hy2z2⟩) (by assumption) ?rest2z2
  case hy2z2 =>
    intro w hSw
    dsimp only [S5] at hSw
    go_simp
    try with_reducible rfl
  simp only [Act.put, List.getElem_toArray, List.getElem_cons_succ, List.getElem_cons_zero, List.setIfInBounds_toArray, List.set_cons_zero, List.set_cons_succ]
  refine wpAnyH_ready (rs := [1]) (by kernel_rfl) (by simp) ?_
  refine AllReadyH.cons rfl (fun K hK => ?_) AllReadyH.nil
  go_simp
  refine (CheckCoder_c an sa ae ar ax k0 k1 k2 k3 k4 C WD PD.out).mono ?_
  rintro e1 w4 ⟨rfl, b4⟩
  try go_simp
  have X4 := Lib.hid (XD.out.keep b4)
  have P4 := Lib.hid (PD.out.below b4)
  have B4 := Lib.hid (D0.out.trans (b4.mono D0.out.size))
  have hT := X4.out.s5
  refine hK _ _ hT (fun _ => ?_)
  clear hK K hT b4 hS
  try simp only [Act.put, List.setIfInBounds_toArray, List.set_cons_zero, List.set_cons_succ]
  refine wpAnyH_ready (rs := [3]) (by kernel_rfl) (by simp) ?_
  refine AllReadyH.cons rfl (fun K hK => ?_) AllReadyH.nil
  go_simp
  refine (rCheckCoder_c an sa ae ar ax k0 k1 k2 k3 k4 C w4 P4.out).mono ?_
  rintro e1 w5 ⟨rfl, b5⟩
  try go_simp
  have X5 := Lib.hid (X4.out.keep b5)
  have B5 := Lib.hid (B4.out.trans (b5.mono B4.out.size))
  have hT := X5.out.s5
  refine hK _ _ hT (fun _ => ?_)
  clear hK K hT b5
  try simp only [Act.put, List.setIfInBounds_toArray, List.set_cons_zero, List.set_cons_succ]
  refine wpAnyH_take (i := 4) (v := ?v4z3) rfl (by kernel_rfl) (by kernel_rfl) (by kernel_rfl) (fun _ _ _ h => h) (Or.inl ⟨by rfl, ?hy4z3⟩) (by assumption) ?rest4z3
  case hy4z3 =>
    intro w hSw
    dsimp only [S5] at hSw
    go_simp
    try with_reducible rfl
  simp only [Act.put, List.getElem_toArray, List.getElem_cons_succ, List.getElem_cons_zero, List.setIfInBounds_toArray, List.set_cons_zero, List.set_cons_succ]
  refine wpAnyH_take (i := 5) (v := ?v5z4) rfl (by kernel_rfl) (by kernel_rfl) (by kernel_rfl) (fun _ _ _ h => h) (Or.inl ⟨by rfl, ?hy5z4⟩) (by assumption) ?rest5z4
  case hy5z4 =>
    intro w hSw
    dsimp only [S5] at hSw
    go_simp
    try with_reducible rfl
  simp only [Act.put, List.getElem_toArray, List.getElem_cons_succ, List.getElem_cons_zero, List.setIfInBounds_toArray, List.set_cons_zero, List.set_cons_succ]
  refine wpAnyH_take (i := 6) (v := ?v6z5) rfl (by kernel_rfl) (by kernel_rfl) (by kernel_rfl) (fun _ _ _ h => h) (Or.inl ⟨by rfl, ?hy6z5⟩) (by assumption) ?rest6z5
  case hy6z5 =>
    intro w hSw
    dsimp only [S5] at hSw
    go_simp
    try with_reducible rfl
  simp only [Act.put, List.getElem_toArray, List.getElem_cons_succ, List.getElem_cons_zero, List.setIfInBounds_toArray, List.set_cons_zero, List.set_cons_succ]
  refine wpAnyH_take (i := 7) (v := ?v7z6) rfl (by kernel_rfl) (by kernel_rfl) (by kernel_rfl) (fun _ _ _ h => h) (Or.inl ⟨by rfl, ?hy7z6⟩) (by assumption) ?rest7z6
  case hy7z6 =>
    intro w hSw
    dsimp only [S5] at hSw
    go_simp
    try with_reducible rfl
  simp only [Act.put, List.getElem_toArray, List.getElem_cons_succ, List.getElem_cons_zero, List.setIfInBounds_toArray, List.set_cons_zero, List.set_cons_succ]
  refine wpAnyH_ready (rs := [8]) (by kernel_rfl) (by simp) ?_
  refine AllReadyH.cons rfl (fun K hK => ?_) AllReadyH.nil
  go_simp
  refine (eqW_c a1 a2 c1 c2 L w5 (R3.out.below B5.out) (R2.out.below B5.out)).mono ?_
  rintro e1 w6 ⟨rfl, b6⟩
  try go_simp
  have X6 := Lib.hid (X5.out.keep b6)
  have B6 := Lib.hid (B3.out.trans ((B5.out.trans (b6.mono B5.out.size)).mono B3.out.size))
  have hT := X6.out.s5
  refine hK _ _ hT (fun _ => ?_)
  clear hK K hT b6
  try simp only [Act.put, List.setIfInBounds_toArray, List.set_cons_zero, List.set_cons_succ]
  refine wpAnyH_take (i := 9) (v := ?v9z7) rfl (by kernel_rfl) (by kernel_rfl) (by kernel_rfl) (fun _ _ _ h => h) (Or.inl ⟨by rfl, ?hy9z7⟩) (by assumption) ?rest9z7
  case hy9z7 =>
    intro w hSw
    dsimp only [S5] at hSw
    go_simp
    try with_reducible rfl
  simp only [Act.put, List.getElem_toArray, List.getElem_cons_succ, List.getElem_cons_zero, List.setIfInBounds_toArray, List.set_cons_zero, List.set_cons_succ]
  refine wpAnyH_take (i := 10) (v := ?v10z8) rfl (by kernel_rfl) (by kernel_rfl) (by kernel_rfl) (fun _ _ _ h => h) (Or.inl ⟨by rfl, ?hy10z8⟩) (by assumption) ?rest10z8
  case hy10z8 =>
    intro w hSw
    dsimp only [S5] at hSw
    go_simp
    try with_reducible rfl
  simp only [Act.put, List.getElem_toArray, List.getElem_cons_succ, List.getElem_cons_zero, List.setIfInBounds_toArray, List.set_cons_zero, List.set_cons_succ]
  refine wpAnyH_take (i := 11) (v := ?v11z9) rfl (by kernel_rfl) (by kernel_rfl) (by kernel_rfl) (fun _ _ _ h => h) (Or.inl ⟨by rfl, ?hy11z9⟩) (by assumption) ?rest11z9
  case hy11z9 =>
    intro w hSw
    dsimp only [S5] at hSw
    go_simp
    try with_reducible rfl
  simp only [Act.put, List.getElem_toArray, List.getElem_cons_succ, List.getElem_cons_zero, List.setIfInBounds_toArray, List.set_cons_zero, List.set_cons_succ]
  refine wpAnyH_take (i := 12) (v := ?v12z10) rfl (by kernel_rfl) (by kernel_rfl) (by kernel_rfl) (fun _ _ _ h => h) (Or.inl ⟨by rfl, ?hy12z10⟩) (by assumption) ?rest12z10
  case hy12z10 =>
    intro w hSw
    dsimp only [S5] at hSw
    go_simp
    try with_reducible rfl
  simp only [Act.put, List.getElem_toArray, List.getElem_cons_succ, List.getElem_cons_zero, List.setIfInBounds_toArray, List.set_cons_zero, List.set_cons_succ]
  refine wpAnyH_take (i := 13) (v := ?v13z11) rfl (by kernel_rfl) (by kernel_rfl) (by kernel_rfl) (fun _ _ _ h => h) (Or.inl ⟨by rfl, ?hy13z11⟩) (by assumption) ?rest13z11
  case hy13z11 =>
    intro w hSw
    dsimp only [S5] at hSw
    go_simp
    try with_reducible rfl
  simp only [Act.put, List.getElem_toArray, List.getElem_cons_succ, List.getElem_cons_zero, List.setIfInBounds_toArray, List.set_cons_zero, List.set_cons_succ]
  refine wpAnyH_take (i := 14) (v := ?v14z12) rfl (by kernel_rfl) (by kernel_rfl) (by kernel_rfl) (fun _ _ _ h => h) (Or.inl ⟨by rfl, ?hy14z12⟩) (by assumption) ?rest14z12
  case hy14z12 =>
    intro w hSw
    dsimp only [S5] at hSw
    go_simp
    try with_reducible rfl
  simp only [Act.put, List.getElem_toArray, List.getElem_cons_succ, List.getElem_cons_zero, List.setIfInBounds_toArray, List.set_cons_zero, List.set_cons_succ]
  refine wpAnyH_take (i := 15) (v := ?v15z13) rfl (by kernel_rfl) (by kernel_rfl) (by kernel_rfl) (fun _ _ _ h => h) (Or.inl ⟨by rfl, ?hy15z13⟩) (by assumption) ?rest15z13
  case hy15z13 =>
    intro w hSw
    dsimp only [S5] at hSw
    go_simp
    try with_reducible rfl
  simp only [Act.put, List.getElem_toArray, List.getElem_cons_succ, List.getElem_cons_zero, List.setIfInBounds_toArray, List.set_cons_zero, List.set_cons_succ]
  refine wpAnyH_done (by kernel_rfl) ?_ _
  refine NoPanic.normal ?_
  go_wp2
  go_ret
  exact ⟨rfl, B6.out⟩
end Go.Proofs.YtdapmmhbnaknbaaDoor
