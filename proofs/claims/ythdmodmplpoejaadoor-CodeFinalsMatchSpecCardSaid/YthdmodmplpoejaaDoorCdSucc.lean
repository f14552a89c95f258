/-
  Package code: successors.
-/
import Derived.Test.YthdmodmplpoejaaDoorCdChkM
namespace Go.Proofs.YthdmodmplpoejaaDoor
open Go.RowKit Go.WideMaps Go.Maps

/-- The title of a code, of the first k nodes. -/
def tK (l : List Nd) (s : Int) : Nat → Option ByteArray
  | 0 => none
  | k + 1 => if s = (nd l k).cd then some (nd l k).ti else tK l s k
/-- Node k has the title that f knows. -/
def same (f : Int → Option ByteArray) (l : List Nd) (k : Nat) : Bool := (((f (nd l k).cd).getD ⟨#[]⟩).toList == (nd l k).ti.toList)
/-- The codes of the first k nodes that keep their title. -/
def oK (f : Int → Option ByteArray) (l : List Nd) (s : Int) : Nat → Option Int
  | 0 => none
  | k + 1 => if same f l k = true ∧ s = (nd l k).cd then some (nd l k).cd else oK f l s k
/-- .. and what the first k moves say. -/
def mK (o : Int → Option Int) (M : List Mv) (s : Int) : Nat → Option Int
  | 0 => o s
  | k + 1 => if s = (mv M k).fr then some (mv M k).tg else mK o M s k
/-- What a code becomes. -/
def suO (l1 l2 : List Nd) (M : List Mv) (s : Int) : Option Int := mK (fun s => oK (fun s => tK l2 s l2.length) l1 s l1.length) M s M.length
def suS (l1 l2 : List Nd) (M : List Mv) (s : Int) : Int := (suO l1 l2 M s).getD 0
theorem zeroText (w : World) : (zeroValue 9).run Tryd.prog w = .ok (.string ⟨#[]⟩) w := by kernel_rfl
theorem zeroInt (w : World) : (zeroValue 3).run Tryd.prog w = .ok (.int .i64 0) w := by kernel_rfl
/-- Block b has texts, numbers. -/
def TxIs (w : World) (b n : Nat) (f : Int → Option ByteArray) : Prop := MapIs w b n fun s => (f s).map Value.string
def NuIs (w : World) (b n : Nat) (f : Int → Option Int) : Prop := MapIs w b n fun s => (f s).map (Value.int .i64)
theorem TxIs.look {w : World} {b n : Nat} {f : Int → Option ByteArray} (h : TxIs w b n f) {s : Int} (hs : in64 s) :
    (Instr.lookup 108 (.map (some b)) (.int .i64 s) false).run Tryd.prog w = .ok (.string ((f s).getD ⟨#[]⟩)) w := by
  rw [MapIs.look1 h Tryd.underlying108 (zeroText w) hs]
  cases f s <;> rfl
theorem NuIs.look {w : World} {b n : Nat} {f : Int → Option Int} (h : NuIs w b n f) {s : Int} (hs : in64 s) :
    (Instr.lookup 98 (.map (some b)) (.int .i64 s) false).run Tryd.prog w = .ok (.int .i64 ((f s).getD 0)) w := by
  rw [MapIs.look1 h Tryd.underlying98 (zeroInt w) hs]
  cases f s <;> rfl
theorem TxIs.store {w : World} {b n : Nat} {f : Int → Option ByteArray} (h : TxIs w b n f) (hn : n < maxLen) {s : Int} (hs : in64 s) (v : ByteArray) :
    ∃ w', (Instr.mapUpdate 108 (.map (some b)) (.int .i64 s) (.string v)).run Tryd.prog w = .ok () w' ∧ TxIs w' b (n + 1) (fun x => if x = s then some v else f x) ∧ w.grownBy w' (some b) := by
  obtain ⟨w', h1, h2, h3⟩ := MapIs.store h Tryd.underlying108 hn hs (.string v)
  exact ⟨w', h1, h2.congr fun x => by by_cases e : x = s <;> simp [e], h3⟩
theorem NuIs.store {w : World} {b n : Nat} {f : Int → Option Int} (h : NuIs w b n f) (hn : n < maxLen) {s : Int} (hs : in64 s) (v : Int) :
    ∃ w', (Instr.mapUpdate 98 (.map (some b)) (.int .i64 s) (.int .i64 v)).run Tryd.prog w = .ok () w' ∧ NuIs w' b (n + 1) (fun x => if x = s then some v else f x) ∧ w.grownBy w' (some b) := by
  obtain ⟨w', h1, h2, h3⟩ := MapIs.store h Tryd.underlying98 hn hs (.int .i64 v)
  exact ⟨w', h1, h2.congr fun x => by by_cases e : x = s <;> simp [e], h3⟩
theorem NuIs.more {w : World} {b n m : Nat} {f : Int → Option Int} (h : NuIs w b n f) (hm : n ≤ m) : NuIs w b m f := by
  obtain ⟨D, ⟨es, clock, h1, h2, h3, h4⟩, hD⟩ := h
  exact ⟨D, ⟨es, clock, h1, h2, Nat.le_trans h3 hm, h4⟩, hD⟩
/-- What lies there in the second loop, and in the third. -/
structure InS (w wr : World) (b1 n1 b2 n2 : Nat) (f : Int → Option ByteArray) (g : Int → Option Int) : Prop where
  tx : TxIs wr b1 n1 f
  nu : NuIs wr b2 n2 g
  bel : Below w.heap.size w wr
  lo : w.heap.size ≤ b1
  lt : b1 < b2
theorem InS.keep {w wr W : World} {b1 n1 b2 n2 : Nat} {f : Int → Option ByteArray} {g : Int → Option Int} (h : InS w wr b1 n1 b2 n2 f g) (hb : Below wr.heap.size wr W) : InS w W b1 n1 b2 n2 f g :=
  ⟨MapIs.below h.tx hb (MapIs.lt h.tx), MapIs.below h.nu hb (MapIs.lt h.nu), h.bel.trans (hb.mono h.bel.size), h.lo, h.lt⟩
theorem InS.store {w wr : World} {b1 n1 b2 n2 : Nat} {f : Int → Option ByteArray} {g : Int → Option Int} (h : InS w wr b1 n1 b2 n2 f g) (hn : n2 < maxLen) {s : Int} (hs : in64 s) (v : Int) :
    ∃ W, (Instr.mapUpdate 98 (.map (some b2)) (.int .i64 s) (.int .i64 v)).run Tryd.prog wr = .ok () W ∧ InS w W b1 n1 b2 (n2 + 1) f (fun x => if x = s then some v else g x) := by
  obtain ⟨W, h1, h2, h3⟩ := h.nu.store hn hs v
  have lo := h.lo
  have lt := h.lt
  exact ⟨W, h1, MapIs.kept h.tx h3 (by intro e; injection e with e; omega), h2, h.bel.grown h3 h.bel.size (fun j hj => by cases hj; omega), lo, lt⟩
theorem InS.nextN {w wr : World} {b1 n1 b2 n2 : Nat} {f : Int → Option ByteArray} {g : Int → Option Int} (h : InS w wr b1 n1 b2 n2 f g) : InS w wr b1 n1 b2 (n2 + 1) f g := { h with nu := h.nu.more (Nat.le_succ _) }
theorem InS.congr {w wr : World} {b1 n1 b2 n2 : Nat} {f : Int → Option ByteArray} {g g' : Int → Option Int} (h : InS w wr b1 n1 b2 n2 f g) (e : ∀ s, g s = g' s) : InS w wr b1 n1 b2 n2 f g' := by
  have : g = g' := funext e
  rw [← this]; exact h
def SuP (f : Int → Option Int) (n : Nat) (w : World) (e : Ending) (w' : World) : Prop := ∃ b, e = .returned (.map (some b)) ∧ NuIs w' b n f ∧ Below w.heap.size w w'
set_option maxRecDepth 100000 in
set_option maxHeartbeats 4000000 in
theorem successors_c (a1 : Option Addr) (c1 : Nat) (l1 : List Nd) (a2 : Option Addr) (c2 : Nat) (l2 : List Nd) (a3 : Option Addr) (c3 : Nat) (M : List Mv) (w : World)
    (h1 : RdN w a1 l1) (f1 : Fits l1) (h2 : RdN w a2 l2) (f2 : Fits l2) (h3 : RdM w a3 M) (f3 : FitsM M) (n1 : l1.length ≤ 600) (n2 : l2.length ≤ 600) (n3 : M.length ≤ 999) :
    Calls Tryd.prog 57 #[.slice a1 l1.length c1, .slice a2 l2.length c2, .slice a3 M.length c3] w (SuP (suO l1 l2 M) (l1.length + M.length) w) := by
  have hmm := @run_makeMap Tryd.prog
  have H1 := Lib.hid h1
  have H2 := Lib.hid h2
  have H3 := Lib.hid h3
  have F1 := Lib.hid f1
  have F2 := Lib.hid f2
  have F3 := Lib.hid f3
  have NN : Hid (l1.length ≤ 600 ∧ l2.length ≤ 600 ∧ M.length ≤ 999) := ⟨n1, n2, n3⟩
  have m1 := h1.1
  have m2 := h2.1
  have m3 := h3.1
  have S0 : Hid (TxIs (w.alloc (.map #[] 0)) w.heap.size 0 (fun s => tK l2 s 0)) := (MapIs.made w).congr fun s => rfl
  clear h1 h2 h3 f1 f2 f3 n1 n2 n3
  go_enter Tryd.func57, Tryd.ntmps57
  go_wp2
  go_loopw [18] (fun i wr => ∃ k : Nat, k ≤ l2.length ∧ i = .int .i64 k ∧ Hid (TxIs wr w.heap.size k (fun s => tK l2 s k) ∧ Below w.heap.size w wr ∧ w.heap.size < wr.heap.size)) (fun i _ => l2.length - (intOf i).toNat)
  case atStart => exact ⟨0, Nat.zero_le _, rfl, S0.out, bel_one _ _, by simp⟩
  case round =>
    clear S0
    obtain ⟨k, hk, rfl, hS⟩ := hrel
    by_cases hlt : k < l2.length
    · obtain ⟨b', off, rfl, u0, u1, u2⟩ := (H2.out.below hS.out.2.1).at_ hlt
      have hlt' : (k : Int) < (l2.length : Int) := by omega
      obtain ⟨W1, hW1⟩ : ∃ W1, wr.alloc (.cells #[.int .i64 (nd l2 k).cd, .int .i64 (nd l2 k).pr, .string (nd l2 k).ti] 56) = W1 := ⟨_, rfl⟩
      have N1 : Hid (NodeB wr W1 (nd l2 k)) := by unfold Hid; rw [← hW1]; exact node_b _ _
      have v0 := N1.out.2.2.1
      have v2 := N1.out.2.2.2.2
      have fk := F2.out _ (nd_mem hlt)
      have T1 : TxIs W1 w.heap.size k (fun s => tK l2 s k) := MapIs.below hS.out.1 N1.out.1 hS.out.2.2
      obtain ⟨W2, hup, T2, g2⟩ := T1.store (by unfold maxLen; omega) fk.1 (nd l2 k).ti
      have NX : Hid (TxIs W2 w.heap.size (k + 1) (fun s => tK l2 s (k + 1)) ∧ Below w.heap.size w W2 ∧ w.heap.size < W2.heap.size) :=
        ⟨T2, (hS.out.2.1.trans (N1.out.1.mono hS.out.2.1.size)).grown g2 (Nat.le_trans hS.out.2.1.size N1.out.1.size) (fun j hj => by cases hj; exact Nat.le_refl _), by have := g2.size; have := N1.out.2.1; have := hS.out.2.2; omega⟩
      clear T1 T2 g2 fk hS N1
      go_wp2
      go_roundw
      case rel => exact ⟨k + 1, by omega, by go_num, NX.out⟩
      case measure => simp [intOf]; omega
    · obtain rfl : k = l2.length := by omega
      obtain ⟨wA, hwA⟩ : ∃ x : World, x = wr := ⟨wr, rfl⟩
      subst hwA
      have S1 : Hid (InS w (wA.alloc (.map #[] 0)) w.heap.size l2.length wA.heap.size 0 (fun s => tK l2 s l2.length) (fun s => oK (fun s => tK l2 s l2.length) l1 s 0)) :=
        ⟨MapIs.below hS.out.1 (bel_one _ _) hS.out.2.2, (MapIs.made wA).congr fun s => rfl, hS.out.2.1.trans ((bel_one _ _).mono hS.out.2.1.size), Nat.le_refl _, hS.out.2.2⟩
      obtain ⟨b2, hb2⟩ : ∃ b, wA.heap.size = b := ⟨_, rfl⟩
      obtain ⟨FF, hFF⟩ : ∃ f : Int → Option ByteArray, (fun s => tK l2 s l2.length) = f := ⟨_, rfl⟩
      have HFF := Lib.hid hFF
      clear hlt
      go_wp2
      rw [hFF] at S1
      clear hFF hS
      go_loopw [31] (fun i wr => ∃ k : Nat, k ≤ l1.length ∧ i = .int .i64 k ∧ Hid (InS w wr w.heap.size l2.length b2 k FF (fun s => oK FF l1 s k))) (fun i _ => l1.length - (intOf i).toNat)
      case atStart => exact ⟨0, Nat.zero_le _, rfl, by rw [← hb2]; exact S1.out⟩
      case round =>
        clear S1
        obtain ⟨k, hk, rfl, hS⟩ := hrel
        by_cases hlt : k < l1.length
        · obtain ⟨b', off, rfl, u0, u1, u2⟩ := (H1.out.below hS.out.bel).at_ hlt
          have hlt' : (k : Int) < (l1.length : Int) := by omega
          obtain ⟨W1, hW1⟩ : ∃ W1, wr.alloc (.cells #[.int .i64 (nd l1 k).cd, .int .i64 (nd l1 k).pr, .string (nd l1 k).ti] 56) = W1 := ⟨_, rfl⟩
          have N1 : Hid (NodeB wr W1 (nd l1 k)) := by unfold Hid; rw [← hW1]; exact node_b _ _
          have v0 := N1.out.2.2.1
          have v2 := N1.out.2.2.2.2
          have fk := F1.out _ (nd_mem hlt)
          have T1 := hS.out.keep N1.out.1
          have hlook := T1.tx.look fk.1
          by_cases he : same FF l1 k = true
          · obtain ⟨W2, hup, T2⟩ := T1.store (by unfold maxLen; omega) fk.1 (nd l1 k).cd
            have NX : Hid (InS w W2 w.heap.size l2.length b2 (k + 1) FF (fun s => oK FF l1 s (k + 1))) := T2.congr fun s => by
              show _ = if same FF l1 k = true ∧ s = (nd l1 k).cd then _ else _
              by_cases e : s = (nd l1 k).cd
              · rw [if_pos e, if_pos ⟨he, e⟩]
              · rw [if_neg e, if_neg (fun h => e h.2)]
            have he' : (((FF (nd l1 k).cd).getD ⟨#[]⟩).toList == (nd l1 k).ti.toList) = true := he
            rw [hb2] at *
            clear T1 T2 fk hS N1 he
            go_wp2
            go_roundw
            case rel => exact ⟨k + 1, by omega, by go_num, NX.out⟩
            case measure => simp [intOf]; omega
          · have NX : Hid (InS w W1 w.heap.size l2.length b2 (k + 1) FF (fun s => oK FF l1 s (k + 1))) := T1.nextN.congr fun s => by
              show _ = if same FF l1 k = true ∧ s = (nd l1 k).cd then _ else _
              rw [if_neg (fun h => he h.1)]
            have he' : (((FF (nd l1 k).cd).getD ⟨#[]⟩).toList == (nd l1 k).ti.toList) = false := by simpa [same] using he
            clear T1 fk hS N1 he
            go_wp2
            go_roundw
            case rel => exact ⟨k + 1, by omega, by go_num, NX.out⟩
            case measure => simp [intOf]; omega
        · obtain rfl : k = l1.length := by omega
          obtain ⟨wB, hwB⟩ : ∃ x : World, x = wr := ⟨wr, rfl⟩
          subst hwB
          have S2 : Hid (InS w wB w.heap.size l2.length b2 (l1.length + 0) FF (fun s => mK (fun s => oK FF l1 s l1.length) M s 0)) := hS.out
          obtain ⟨GG, hGG⟩ : ∃ f : Int → Option Int, (fun s => oK FF l1 s l1.length) = f := ⟨_, rfl⟩
          have HGG := Lib.hid hGG
          rw [hGG] at S2
          clear hlt hS hGG
          go_wp2
          go_loopw [50] (fun i wr => ∃ k : Nat, k ≤ M.length ∧ i = .int .i64 k ∧ Hid (InS w wr w.heap.size l2.length b2 (l1.length + k) FF (fun s => mK GG M s k))) (fun i _ => M.length - (intOf i).toNat)
          case atStart => exact ⟨0, Nat.zero_le _, rfl, S2.out⟩
          case round =>
            clear S2
            obtain ⟨k, hk, rfl, hS⟩ := hrel
            by_cases hlt : k < M.length
            · obtain ⟨b', off, rfl, u0, u1⟩ := (H3.out.below hS.out.bel).at_ hlt
              have hlt' : (k : Int) < (M.length : Int) := by omega
              obtain ⟨W1, hW1⟩ : ∃ W1, wr.alloc (.cells #[.int .i64 (mv M k).fr, .int .i64 (mv M k).tg] 101) = W1 := ⟨_, rfl⟩
              have N1 : Hid (MovB wr W1 (mv M k)) := by unfold Hid; rw [← hW1]; exact mov_b _ _
              have v0 := N1.out.2.c0
              have v1 := N1.out.2.c1
              have fk := F3.out _ (mv_mem hlt)
              have T1 := hS.out.keep N1.out.1
              obtain ⟨W2, hup, T2⟩ := T1.store (by have := NN.out; unfold maxLen; omega) fk.1 (mv M k).tg
              have NX : Hid (InS w W2 w.heap.size l2.length b2 (l1.length + (k + 1)) FF (fun s => mK GG M s (k + 1))) := T2
              rw [hb2] at *
              clear T1 T2 fk hS N1
              go_wp2
              go_roundw
              case rel => exact ⟨k + 1, by omega, by go_num, NX.out⟩
              case measure => simp [intOf]; omega
            · obtain rfl : k = M.length := by omega
              have R : Hid (SuP (suO l1 l2 M) (l1.length + M.length) w (.returned (.map (some b2))) wr) := ⟨b2, rfl, by
                have := hS.out.nu
                rw [← HGG.out, ← HFF.out] at this
                exact this, hS.out.bel⟩
              clear hlt
              go_wp2
              go_ret
              exact R.out
end Go.Proofs.YthdmodmplpoejaaDoor
