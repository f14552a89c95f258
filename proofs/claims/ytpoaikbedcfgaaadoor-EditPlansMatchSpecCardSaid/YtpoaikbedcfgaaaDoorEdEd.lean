/-
  EditPlansMatchSpec: an edit of a plan, package edit.
-/
import Derived.Test.YtpoaikbedcfgaaaDoorEdFds
namespace Go.Proofs.YtpoaikbedcfgaaaDoor
open Go.RowKit Go.WideMaps Go.Maps

theorem edit1_c (p q : Addr) (a : Option Addr) (c : Nat) (l : List Fd) (k : Nat) (x : Int) (w : World) (hp : w.cell? p = some (.slice a l.length c)) (hq : w.cell? q = some (.int .i64 k)) (hl : RdF w a l) (hk : k < l.length) :
    Calls Tryd.prog 26 #[.int .i64 x, .pointer (some p), .pointer (some q)] w fun e w' => e = .returned (.bool (inC (fd l k).cs x)) ∧ w' = w := by
  have h9 := hl.1
  obtain ⟨b, off, rfl, u0, ⟨a', c', u1, hcs⟩, u2⟩ := hl.at_ hk
  have hk' : (k : Int) < (l.length : Int) := by omega
  have HC := Lib.hid (contains_c a' c' (fd l k).cs x w hcs)
  clear hl hcs
  go_enter Tryd.func26, Tryd.ntmps26
  go_wp2_with fail
  refine HC.out.mono ?_
  rintro e w' ⟨rfl, rfl⟩
  go_wp2
  go_ret
  exact ⟨rfl, rfl⟩
def edS (l : List Fd) (ns : Nat → ByteArray) (k : Nat) (L : List (List Int)) : Int := if nmE ns (ns k) k ≠ 0 then nmE ns (ns k) k else if L.length ≠ l.length then 3 else fe (setE l L) L.length
def EditP (l : List Fd) (ns : Nat → ByteArray) (k b : Nat) (L : List (List Int)) (w : World) (e : Ending) (w' : World) : Prop :=
  e = .returned (.int .i64 (edS l ns k L)) ∧ (edS l ns k L = 0 → NmIs w' b ns (k + 1)) ∧ w.grownBy w' (some b)
set_option maxHeartbeats 2000000 in
theorem checkEdit_c (a : Option Addr) (c : Nat) (l : List Fd) (ns : Nat → ByteArray) (k b : Nat) (a2 : Option Addr) (c2 : Nat) (L : List (List Int)) (w0 w : World) (hl : RdF w0 a l) (hL : RdL w0 a2 L) (hb : Below w0.heap.size w0 w) (hbb : w0.heap.size ≤ b)
    (hN : NmIs w b ns k) (hk : k < maxLen) (hs : (ns k).size ≤ 9223372036854775807) :
    Calls Tryd.prog 17 #[.slice a l.length c, .agg #[.string (ns k), .slice a2 L.length c2], .map (some b)] w (EditP l ns k b L w) := by
  have h9 := hl.1
  have h9' := hL.1
  obtain ⟨W0, hW0⟩ : ∃ W0, w.alloc (.cells #[.slice a l.length c] 22) = W0 := ⟨_, rfl⟩
  obtain ⟨W1, hW1⟩ : ∃ W1, W0.alloc (.cells #[.string (ns k), .slice a2 L.length c2] 46) = W1 := ⟨_, rfl⟩
  have hs0 : W0.heap.size = w.heap.size + 1 := by rw [← hW0]; simp
  have B1 : Hid (Below w.heap.size w W1 ∧ W1.heap.size = w.heap.size + 2 ∧ W1.cell? ⟨w.heap.size, 0, none⟩ = some (.slice a l.length c) ∧ W1.cell? ⟨w.heap.size + 1, 0, none⟩ = some (.string (ns k)) ∧ W1.cell? ⟨w.heap.size + 1, 1, none⟩ = some (.slice a2 L.length c2)) := by
    have e0 : W0.cell? ⟨w.heap.size, 0, none⟩ = some (.slice a l.length c) := by rw [← hW0, World.cell?_alloc_at _ _ _ _ rfl]; rfl
    have hb1 : Below W0.heap.size W0 W1 := by rw [← hW1]; exact bel_one _ _
    have hb0 : Below w.heap.size w W0 := by rw [← hW0]; exact bel_one _ _
    refine ⟨hb0.trans (hb1.mono (by omega)), by rw [← hW1]; simp; omega, (hb1.cell (p := ⟨w.heap.size, 0, none⟩) (by show w.heap.size < _; omega)).trans e0, ?_, ?_⟩
    · rw [← hW1, ← hs0, World.cell?_alloc_at _ _ _ _ rfl]; rfl
    · rw [← hW1, ← hs0, World.cell?_alloc_at _ _ _ _ rfl]; rfl
  have hbw := hN.lt
  have HNm := Lib.hid (checkName_c ns k b W1 (hN.below B1.out.1 hbw) hk hs)
  have HL := Lib.hid hl
  have HLL := Lib.hid hL
  have HB : Hid (Below w0.heap.size w0 W1) := hb.trans (B1.out.1.mono hb.size)
  have v0 := B1.out.2.2.2.1
  clear hl hL hN hs
  go_enter Tryd.func17, Tryd.ntmps17
  go_wp2_with fail
  clear v0
  refine HNm.out.mono ?_
  rintro e W2 ⟨rfl, hnx, hg⟩
  have BW2 : Hid (Below w0.heap.size w0 W2) := HB.out.grown hg HB.out.size (fun j hj => by cases hj; exact hbb)
  have GW2 : Hid (w.grownBy W2 (some b)) := ((below_grow B1.out.1).but _).trans hg
  have x0 : W2.cell? ⟨w.heap.size, 0, none⟩ = some (.slice a l.length c) := (grown_cell (p := ⟨w.heap.size, 0, none⟩) hg (by have := B1.out.2.1; show w.heap.size < _; omega) (by show w.heap.size ≠ b; omega)).trans B1.out.2.2.1
  have x1 : W2.cell? ⟨w.heap.size + 1, 1, none⟩ = some (.slice a2 L.length c2) := (grown_cell (p := ⟨w.heap.size + 1, 1, none⟩) hg (by have := B1.out.2.1; show w.heap.size + 1 < _; omega) (by show w.heap.size + 1 ≠ b; omega)).trans B1.out.2.2.2.2
  have hsz : Hid (w.heap.size + 2 ≤ W2.heap.size) := by have := hg.size; have := B1.out.2.1; unfold Hid; omega
  clear hg hW0 hW1 hs0
  by_cases hc1 : nmE ns (ns k) k = 0
  · have hNM := Lib.hid (hnx hc1)
    rw [hc1]
    clear hnx
    by_cases hc2 : L.length = l.length
    · have hE : Hid (edS l ns k L = fe (setE l L) L.length) := by unfold Hid edS; rw [if_neg (by simpa using hc1), if_neg (by simpa using hc2)]
      have hc2' : (L.length : Int) = (l.length : Int) := by omega
      have X0 := Lib.hid x0
      clear hc1
      go_wp2
      go_loopw [27] (fun i wr => ∃ m : Nat, m ≤ L.length ∧ i = .int .i64 m ∧ Hid (Below W2.heap.size W2 wr ∧ fe (setE l L) m = 0)) (fun i _ => L.length - (intOf i).toNat)
      case atStart => exact ⟨0, Nat.zero_le _, rfl, Below.refl _ _, rfl⟩
      case round =>
        obtain ⟨m, hm, rfl, hS⟩ := hrel
        have G3 : Hid (w.grownBy wr (some b)) := GW2.out.trans ((below_grow hS.out.1).but _)
        by_cases hlt : m < L.length
        · obtain ⟨b2, off2, a', c', rfl, u1, hcs⟩ := ((HLL.out.below BW2.out).below hS.out.1).at_ hlt
          have hlt' : (m : Int) < (L.length : Int) := by omega
          have hml : m < l.length := by omega
          have hF : Hid (setE l L m ≠ 0 → edS l ns k L = setE l L m) := fun h => by rw [hE.out]; exact fe_at hlt hS.out.2 h
          have hN : Hid (fe (setE l L) (m + 1) = setE l L m) := fe_next hS.out.2
          obtain ⟨W3, hW3⟩ : ∃ W3, wr.alloc (.cells #[.int .i64 m] 3) = W3 := ⟨_, rfl⟩
          have B3 : Hid (Below wr.heap.size wr W3 ∧ W3.heap.size = wr.heap.size + 1 ∧ W3.cell? ⟨wr.heap.size, 0, none⟩ = some (.int .i64 m)) := by
            unfold Hid
            rw [← hW3]
            exact ⟨bel_one _ _, by simp, by rw [World.cell?_alloc_at _ _ _ _ rfl]; rfl⟩
          have G4 : Hid (w.grownBy W3 (some b)) := G3.out.trans ((below_grow B3.out.1).but _)
          have BWr : Hid (Below w0.heap.size w0 wr) := BW2.out.trans (hS.out.1.mono BW2.out.size)
          have BW3 : Hid (Below w0.heap.size w0 W3) := BWr.out.trans (B3.out.1.mono BWr.out.size)
          have S3 : Hid (Below W2.heap.size W2 W3) := hS.out.1.trans (B3.out.1.mono hS.out.1.size)
          have hcell : Hid (W3.cell? ⟨w.heap.size, 0, none⟩ = some (.slice a l.length c)) := (S3.out.cell (p := ⟨w.heap.size, 0, none⟩) (by have := hsz.out; show w.heap.size < _; omega)).trans X0.out
          have HI : Hid (Calls Tryd.prog 25 #[.slice a' (st L m).length c', .func (.func 26) #[] #[.pointer (some ⟨w.heap.size, 0, none⟩), .pointer (some ⟨wr.heap.size, 0, none⟩)]] W3 fun e w' => e = .returned (.int .i64 (incS (inC (fd l m).cs) (st L m))) ∧ w' = W3) :=
            inc2_c a' c' (st L m) ⟨w.heap.size, 0, none⟩ ⟨wr.heap.size, 0, none⟩ W3 (hcs.below B3.out.1) (inC (fd l m).cs) (fun x => edit1_c _ _ a c l m x W3 hcell.out B3.out.2.2 (HL.out.below BW3.out) hml)
          have h8 := hcs.1
          clear hcs
          by_cases h1 : (st L m).length = 0
          · have e : setE l L m = 9 := by unfold setE; rw [if_pos h1]
            have hR : Hid (edS l ns k L = 9) := by unfold Hid; rw [hF.out (by rw [e]; decide), e]
            have h1' : ((st L m).length : Int) = 0 := by omega
            clear e h1 x0 x1
            go_wp2
            go_ret
            exact ⟨by rw [hR.out]; rfl, by rw [hR.out]; simp, G4.out⟩
          have h1' : (((st L m).length : Int) == 0) = false := by rw [beq_eq_false_iff_ne]; omega
          have hSE : Hid (setE l L m = incS (inC (fd l m).cs) (st L m)) := by unfold Hid setE; rw [if_neg h1]
          generalize incS (inC (fd l m).cs) (st L m) = ch at *
          clear h1 x0 x1
          by_cases hc : ch = 0
          · subst hc
            have NX : Hid (Below W2.heap.size W2 W3 ∧ fe (setE l L) (m + 1) = 0) := ⟨S3.out, by rw [hN.out, hSE.out]⟩
            go_wp2_with fail
            refine HI.out.mono ?_
            rintro e W4 ⟨rfl, rfl⟩
            go_wp2
            go_roundw
            case rel => exact ⟨m + 1, by omega, by go_num, NX.out⟩
            case measure => simp [intOf]; omega
          · have hR : Hid (edS l ns k L = ch) := by unfold Hid; rw [hF.out (by rw [hSE.out]; exact hc), hSE.out]
            have hc' : (ch == 0) = false := by rw [beq_eq_false_iff_ne]; exact hc
            have hz := Lib.hid hc
            clear hc
            go_wp2_with fail
            refine HI.out.mono ?_
            rintro e W4 ⟨rfl, rfl⟩
            go_wp2
            go_ret
            exact ⟨by rw [hR.out]; rfl, by rw [hR.out]; exact fun h => absurd h hz.out, G4.out⟩
        · obtain rfl : m = L.length := by omega
          clear hlt
          have hR : Hid (edS l ns k L = 0) := by unfold Hid; rw [hE.out]; exact hS.out.2
          have NE : Hid (NmIs wr b ns (k + 1)) := hNM.out.below hS.out.1 (by have := hsz.out; omega)
          go_wp2
          go_ret
          exact ⟨by rw [hR.out]; rfl, fun _ => NE.out, G3.out⟩
    · have hE : Hid (edS l ns k L = 3) := by unfold Hid edS; rw [if_neg (by simpa using hc1), if_pos hc2]
      have hc2' : ((L.length : Int) == (l.length : Int)) = false := by rw [beq_eq_false_iff_ne]; omega
      clear hc1 hc2
      go_wp2
      go_ret
      exact ⟨by rw [hE.out]; rfl, by rw [hE.out]; simp, GW2.out⟩
  · have hE : Hid (edS l ns k L = nmE ns (ns k) k) := by unfold Hid edS; rw [if_pos hc1]
    have hc' : (nmE ns (ns k) k == 0) = false := by rw [beq_eq_false_iff_ne]; exact hc1
    have hz := Lib.hid hc1
    clear hnx hc1
    generalize nmE ns (ns k) k = ch at *
    go_wp2
    go_ret
    exact ⟨by rw [hE.out]; rfl, by rw [hE.out]; exact fun h => absurd h hz.out, GW2.out⟩
end Go.Proofs.YtpoaikbedcfgaaaDoor
