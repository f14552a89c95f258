/-
  Package code: successors.
  Package code: recoded.
  Package code: Recode.
-/
import Derived.Test.YtgfjbilhgblbeaaDoorMf05
namespace Go.Proofs.YtgfjbilhgblbeaaDoor
open Go.RowKit Go.WideMaps Go.Maps

/-- The title of a code, of the first k nodes. -/
def tK (l : List Nd) (s : Int) : Nat → Option ByteArray
  | 0 => none
  | k + 1 => if s = (nd l k).cd then some (nd l k).ti else tK l s k
/-- Node k has the title that f knows. -/
def same (f : Int → Option ByteArray) (l : List Nd) (k : Nat) : Bool := (((f (nd l k).cd).getD ⟨#[]⟩).toList == (nd l k).ti.toList)
/-- The codes of the first k nodes that keep their title. -/
def oK (f : Int → Option ByteArray) (l : List Nd) (s : Int) : Nat → Option Int
  | 0 => none
  | k + 1 => if same f l k = true ∧ s = (nd l k).cd then some (nd l k).cd else oK f l s k
/-- .. and what the first k moves say. -/
def mK (o : Int → Option Int) (M : List Mv) (s : Int) : Nat → Option Int
  | 0 => o s
  | k + 1 => if s = (mv M k).fr then some (mv M k).tg else mK o M s k
/-- What a code becomes. -/
def suO (l1 l2 : List Nd) (M : List Mv) (s : Int) : Option Int := mK (fun s => oK (fun s => tK l2 s l2.length) l1 s l1.length) M s M.length
def suS (l1 l2 : List Nd) (M : List Mv) (s : Int) : Int := (suO l1 l2 M s).getD 0
theorem zeroText (w : World) : (zeroValue 9).run Tryd.prog w = .ok (.string ⟨#[]⟩) w := by kernel_rfl
theorem zeroInt (w : World) : (zeroValue 3).run Tryd.prog w = .ok (.int .i64 0) w := by kernel_rfl
/-- Block b has texts, numbers. -/
def TxIs (w : World) (b n : Nat) (f : Int → Option ByteArray) : Prop := MapIs w b n fun s => (f s).map Value.string
def NuIs (w : World) (b n : Nat) (f : Int → Option Int) : Prop := MapIs w b n fun s => (f s).map (Value.int .i64)
theorem TxIs.look {w : World} {b n : Nat} {f : Int → Option ByteArray} (h : TxIs w b n f) {s : Int} (hs : in64 s) :
    (Instr.lookup 108 (.map (some b)) (.int .i64 s) false).run Tryd.prog w = .ok (.string ((f s).getD ⟨#[]⟩)) w := by
  rw [MapIs.look1 h Tryd.underlying108 (zeroText w) hs]
  cases f s <;> rfl
theorem NuIs.look {w : World} {b n : Nat} {f : Int → Option Int} (h : NuIs w b n f) {s : Int} (hs : in64 s) :
    (Instr.lookup 98 (.map (some b)) (.int .i64 s) false).run Tryd.prog w = .ok (.int .i64 ((f s).getD 0)) w := by
  rw [MapIs.look1 h Tryd.underlying98 (zeroInt w) hs]
  cases f s <;> rfl
theorem TxIs.store {w : World} {b n : Nat} {f : Int → Option ByteArray} (h : TxIs w b n f) (hn : n < maxLen) {s : Int} (hs : in64 s) (v : ByteArray) :
    ∃ w', (Instr.mapUpdate 108 (.map (some b)) (.int .i64 s) (.string v)).run Tryd.prog w = .ok () w' ∧ TxIs w' b (n + 1) (fun x => if x = s then some v else f x) ∧ w.grownBy w' (some b) := by
  obtain ⟨w', h1, h2, h3⟩ := MapIs.store h Tryd.underlying108 hn hs (.string v)
  exact ⟨w', h1, h2.congr fun x => by by_cases e : x = s <;> simp [e], h3⟩
theorem NuIs.store {w : World} {b n : Nat} {f : Int → Option Int} (h : NuIs w b n f) (hn : n < maxLen) {s : Int} (hs : in64 s) (v : Int) :
    ∃ w', (Instr.mapUpdate 98 (.map (some b)) (.int .i64 s) (.int .i64 v)).run Tryd.prog w = .ok () w' ∧ NuIs w' b (n + 1) (fun x => if x = s then some v else f x) ∧ w.grownBy w' (some b) := by
  obtain ⟨w', h1, h2, h3⟩ := MapIs.store h Tryd.underlying98 hn hs (.int .i64 v)
  exact ⟨w', h1, h2.congr fun x => by by_cases e : x = s <;> simp [e], h3⟩
theorem NuIs.more {w : World} {b n m : Nat} {f : Int → Option Int} (h : NuIs w b n f) (hm : n ≤ m) : NuIs w b m f := by
  obtain ⟨D, ⟨es, clock, h1, h2, h3, h4⟩, hD⟩ := h
  exact ⟨D, ⟨es, clock, h1, h2, Nat.le_trans h3 hm, h4⟩, hD⟩
/-- What lies there in the second loop, and in the third. -/
structure InS (w wr : World) (b1 n1 b2 n2 : Nat) (f : Int → Option ByteArray) (g : Int → Option Int) : Prop where
  tx : TxIs wr b1 n1 f
  nu : NuIs wr b2 n2 g
  bel : Below w.heap.size w wr
  lo : w.heap.size ≤ b1
  lt : b1 < b2
theorem InS.keep {w wr W : World} {b1 n1 b2 n2 : Nat} {f : Int → Option ByteArray} {g : Int → Option Int} (h : InS w wr b1 n1 b2 n2 f g) (hb : Below wr.heap.size wr W) : InS w W b1 n1 b2 n2 f g :=
  ⟨MapIs.below h.tx hb (MapIs.lt h.tx), MapIs.below h.nu hb (MapIs.lt h.nu), h.bel.trans (hb.mono h.bel.size), h.lo, h.lt⟩
theorem InS.store {w wr : World} {b1 n1 b2 n2 : Nat} {f : Int → Option ByteArray} {g : Int → Option Int} (h : InS w wr b1 n1 b2 n2 f g) (hn : n2 < maxLen) {s : Int} (hs : in64 s) (v : Int) :
    ∃ W, (Instr.mapUpdate 98 (.map (some b2)) (.int .i64 s) (.int .i64 v)).run Tryd.prog wr = .ok () W ∧ InS w W b1 n1 b2 (n2 + 1) f (fun x => if x = s then some v else g x) := by
  obtain ⟨W, h1, h2, h3⟩ := h.nu.store hn hs v
  have lo := h.lo
  have lt := h.lt
  exact ⟨W, h1, MapIs.kept h.tx h3 (by intro e; injection e with e; omega), h2, h.bel.grown h3 h.bel.size (fun j hj => by cases hj; omega), lo, lt⟩
theorem InS.nextN {w wr : World} {b1 n1 b2 n2 : Nat} {f : Int → Option ByteArray} {g : Int → Option Int} (h : InS w wr b1 n1 b2 n2 f g) : InS w wr b1 n1 b2 (n2 + 1) f g := { h with nu := h.nu.more (Nat.le_succ _) }
theorem InS.congr {w wr : World} {b1 n1 b2 n2 : Nat} {f : Int → Option ByteArray} {g g' : Int → Option Int} (h : InS w wr b1 n1 b2 n2 f g) (e : ∀ s, g s = g' s) : InS w wr b1 n1 b2 n2 f g' := by
  have : g = g' := funext e
  rw [← this]; exact h
def SuP (f : Int → Option Int) (n : Nat) (w : World) (e : Ending) (w' : World) : Prop := ∃ b, e = .returned (.map (some b)) ∧ NuIs w' b n f ∧ Below w.heap.size w w'
set_option maxRecDepth 100000 in
set_option maxHeartbeats 4000000 in
theorem successors_c (a1 : Option Addr) (c1 : Nat) (l1 : List Nd) (a2 : Option Addr) (c2 : Nat) (l2 : List Nd) (a3 : Option Addr) (c3 : Nat) (M : List Mv) (w : World)
    (h1 : RdN w a1 l1) (f1 : Fits l1) (h2 : RdN w a2 l2) (f2 : Fits l2) (h3 : RdM w a3 M) (f3 : FitsM M) (n1 : l1.length ≤ 600) (n2 : l2.length ≤ 600) (n3 : M.length ≤ 999) :
    Calls Tryd.prog 57 #[.slice a1 l1.length c1, .slice a2 l2.length c2, .slice a3 M.length c3] w (SuP (suO l1 l2 M) (l1.length + M.length) w) := by
  have hmm := @run_makeMap Tryd.prog
  have H1 := Lib.hid h1
  have H2 := Lib.hid h2
  have H3 := Lib.hid h3
  have F1 := Lib.hid f1
  have F2 := Lib.hid f2
  have F3 := Lib.hid f3
  have NN : Hid (l1.length ≤ 600 ∧ l2.length ≤ 600 ∧ M.length ≤ 999) := ⟨n1, n2, n3⟩
  have m1 := h1.1
  have m2 := h2.1
  have m3 := h3.1
  have S0 : Hid (TxIs (w.alloc (.map #[] 0)) w.heap.size 0 (fun s => tK l2 s 0)) := (MapIs.made w).congr fun s => rfl
  clear h1 h2 h3 f1 f2 f3 n1 n2 n3
  go_enter Tryd.func57, Tryd.ntmps57
  go_wp2
  go_loopw [18] (fun i wr => ∃ k : Nat, k ≤ l2.length ∧ i = .int .i64 k ∧ Hid (TxIs wr w.heap.size k (fun s => tK l2 s k) ∧ Below w.heap.size w wr ∧ w.heap.size < wr.heap.size)) (fun i _ => l2.length - (intOf i).toNat)
  case atStart => exact ⟨0, Nat.zero_le _, rfl, S0.out, bel_one _ _, by simp⟩
  case round =>
    clear S0
    obtain ⟨k, hk, rfl, hS⟩ := hrel
    by_cases hlt : k < l2.length
    · obtain ⟨b', off, rfl, u0, u1, u2⟩ := (H2.out.below hS.out.2.1).at_ hlt
      have hlt' : (k : Int) < (l2.length : Int) := by omega
      obtain ⟨W1, hW1⟩ : ∃ W1, wr.alloc (.cells #[.int .i64 (nd l2 k).cd, .int .i64 (nd l2 k).pr, .string (nd l2 k).ti] 56) = W1 := ⟨_, rfl⟩
      have N1 : Hid (NodeB wr W1 (nd l2 k)) := by unfold Hid; rw [← hW1]; exact node_b _ _
      have v0 := N1.out.2.2.1
      have v2 := N1.out.2.2.2.2
      have fk := F2.out _ (nd_mem hlt)
      have T1 : TxIs W1 w.heap.size k (fun s => tK l2 s k) := MapIs.below hS.out.1 N1.out.1 hS.out.2.2
      obtain ⟨W2, hup, T2, g2⟩ := T1.store (by unfold maxLen; omega) fk.1 (nd l2 k).ti
      have NX : Hid (TxIs W2 w.heap.size (k + 1) (fun s => tK l2 s (k + 1)) ∧ Below w.heap.size w W2 ∧ w.heap.size < W2.heap.size) :=
        ⟨T2, (hS.out.2.1.trans (N1.out.1.mono hS.out.2.1.size)).grown g2 (Nat.le_trans hS.out.2.1.size N1.out.1.size) (fun j hj => by cases hj; exact Nat.le_refl _), by have := g2.size; have := N1.out.2.1; have := hS.out.2.2; omega⟩
      clear T1 T2 g2 fk hS N1
      go_wp2
      go_roundw
      case rel => exact ⟨k + 1, by omega, by go_num, NX.out⟩
      case measure => simp [intOf]; omega
    · obtain rfl : k = l2.length := by omega
      obtain ⟨wA, hwA⟩ : ∃ x : World, x = wr := ⟨wr, rfl⟩
      subst hwA
      have S1 : Hid (InS w (wA.alloc (.map #[] 0)) w.heap.size l2.length wA.heap.size 0 (fun s => tK l2 s l2.length) (fun s => oK (fun s => tK l2 s l2.length) l1 s 0)) :=
        ⟨MapIs.below hS.out.1 (bel_one _ _) hS.out.2.2, (MapIs.made wA).congr fun s => rfl, hS.out.2.1.trans ((bel_one _ _).mono hS.out.2.1.size), Nat.le_refl _, hS.out.2.2⟩
      obtain ⟨b2, hb2⟩ : ∃ b, wA.heap.size = b := ⟨_, rfl⟩
      obtain ⟨FF, hFF⟩ : ∃ f : Int → Option ByteArray, (fun s => tK l2 s l2.length) = f := ⟨_, rfl⟩
      have HFF := Lib.hid hFF
      clear hlt
      go_wp2
      rw [hFF] at S1
      clear hFF hS
      go_loopw [31] (fun i wr => ∃ k : Nat, k ≤ l1.length ∧ i = .int .i64 k ∧ Hid (InS w wr w.heap.size l2.length b2 k FF (fun s => oK FF l1 s k))) (fun i _ => l1.length - (intOf i).toNat)
      case atStart => exact ⟨0, Nat.zero_le _, rfl, by rw [← hb2]; exact S1.out⟩
      case round =>
        clear S1
        obtain ⟨k, hk, rfl, hS⟩ := hrel
        by_cases hlt : k < l1.length
        · obtain ⟨b', off, rfl, u0, u1, u2⟩ := (H1.out.below hS.out.bel).at_ hlt
          have hlt' : (k : Int) < (l1.length : Int) := by omega
          obtain ⟨W1, hW1⟩ : ∃ W1, wr.alloc (.cells #[.int .i64 (nd l1 k).cd, .int .i64 (nd l1 k).pr, .string (nd l1 k).ti] 56) = W1 := ⟨_, rfl⟩
          have N1 : Hid (NodeB wr W1 (nd l1 k)) := by unfold Hid; rw [← hW1]; exact node_b _ _
          have v0 := N1.out.2.2.1
          have v2 := N1.out.2.2.2.2
          have fk := F1.out _ (nd_mem hlt)
          have T1 := hS.out.keep N1.out.1
          have hlook := T1.tx.look fk.1
          by_cases he : same FF l1 k = true
          · obtain ⟨W2, hup, T2⟩ := T1.store (by unfold maxLen; omega) fk.1 (nd l1 k).cd
            have NX : Hid (InS w W2 w.heap.size l2.length b2 (k + 1) FF (fun s => oK FF l1 s (k + 1))) := T2.congr fun s => by
              show _ = if same FF l1 k = true ∧ s = (nd l1 k).cd then _ else _
              by_cases e : s = (nd l1 k).cd
              · rw [if_pos e, if_pos ⟨he, e⟩]
              · rw [if_neg e, if_neg (fun h => e h.2)]
            have he' : (((FF (nd l1 k).cd).getD ⟨#[]⟩).toList == (nd l1 k).ti.toList) = true := he
            rw [hb2] at *
            clear T1 T2 fk hS N1 he
            go_wp2
            go_roundw
            case rel => exact ⟨k + 1, by omega, by go_num, NX.out⟩
            case measure => simp [intOf]; omega
          · have NX : Hid (InS w W1 w.heap.size l2.length b2 (k + 1) FF (fun s => oK FF l1 s (k + 1))) := T1.nextN.congr fun s => by
              show _ = if same FF l1 k = true ∧ s = (nd l1 k).cd then _ else _
              rw [if_neg (fun h => he h.1)]
            have he' : (((FF (nd l1 k).cd).getD ⟨#[]⟩).toList == (nd l1 k).ti.toList) = false := by simpa [same] using he
            clear T1 fk hS N1 he
            go_wp2
            go_roundw
            case rel => exact ⟨k + 1, by omega, by go_num, NX.out⟩
            case measure => simp [intOf]; omega
        · obtain rfl : k = l1.length := by omega
          obtain ⟨wB, hwB⟩ : ∃ x : World, x = wr := ⟨wr, rfl⟩
          subst hwB
          have S2 : Hid (InS w wB w.heap.size l2.length b2 (l1.length + 0) FF (fun s => mK (fun s => oK FF l1 s l1.length) M s 0)) := hS.out
          obtain ⟨GG, hGG⟩ : ∃ f : Int → Option Int, (fun s => oK FF l1 s l1.length) = f := ⟨_, rfl⟩
          have HGG := Lib.hid hGG
          rw [hGG] at S2
          clear hlt hS hGG
          go_wp2
          go_loopw [50] (fun i wr => ∃ k : Nat, k ≤ M.length ∧ i = .int .i64 k ∧ Hid (InS w wr w.heap.size l2.length b2 (l1.length + k) FF (fun s => mK GG M s k))) (fun i _ => M.length - (intOf i).toNat)
          case atStart => exact ⟨0, Nat.zero_le _, rfl, S2.out⟩
          case round =>
            clear S2
            obtain ⟨k, hk, rfl, hS⟩ := hrel
            by_cases hlt : k < M.length
            · obtain ⟨b', off, rfl, u0, u1⟩ := (H3.out.below hS.out.bel).at_ hlt
              have hlt' : (k : Int) < (M.length : Int) := by omega
              obtain ⟨W1, hW1⟩ : ∃ W1, wr.alloc (.cells #[.int .i64 (mv M k).fr, .int .i64 (mv M k).tg] 101) = W1 := ⟨_, rfl⟩
              have N1 : Hid (MovB wr W1 (mv M k)) := by unfold Hid; rw [← hW1]; exact mov_b _ _
              have v0 := N1.out.2.c0
              have v1 := N1.out.2.c1
              have fk := F3.out _ (mv_mem hlt)
              have T1 := hS.out.keep N1.out.1
              obtain ⟨W2, hup, T2⟩ := T1.store (by have := NN.out; unfold maxLen; omega) fk.1 (mv M k).tg
              have NX : Hid (InS w W2 w.heap.size l2.length b2 (l1.length + (k + 1)) FF (fun s => mK GG M s (k + 1))) := T2
              rw [hb2] at *
              clear T1 T2 fk hS N1
              go_wp2
              go_roundw
              case rel => exact ⟨k + 1, by omega, by go_num, NX.out⟩
              case measure => simp [intOf]; omega
            · obtain rfl : k = M.length := by omega
              have R : Hid (SuP (suO l1 l2 M) (l1.length + M.length) w (.returned (.map (some b2))) wr) := ⟨b2, rfl, by
                have := hS.out.nu
                rw [← HGG.out, ← HFF.out] at this
                exact this, hS.out.bel⟩
              clear hlt
              go_wp2
              go_ret
              exact R.out
end Go.Proofs.YtgfjbilhgblbeaaDoor
namespace Go.Proofs.YtgfjbilhgblbeaaDoor
open Go.RowKit Go.WideMaps Go.Maps

/-- The codings that are carried, and those that are left. -/
def carL (f : Int → Int) (C : List Cg) : List Cg := (C.filter fun u => decide (f u.cd ≠ 0)).map fun u => ⟨u.ca, u.co, f u.cd⟩
def lefL (f : Int → Int) (C : List Cg) : List Cg := C.filter fun u => decide (f u.cd = 0)
theorem take_cg {C : List Cg} {k : Nat} (h : k < C.length) : C.take (k + 1) = C.take k ++ [cg C k] := by
  rw [List.take_succ_eq_append_getElem h, cg_is h]
section
variable {f : Int → Int} {C : List Cg} {k : Nat}
theorem carL_hit (h : k < C.length) (e : f (cg C k).cd ≠ 0) : carL f (C.take (k + 1)) = carL f (C.take k) ++ [⟨(cg C k).ca, (cg C k).co, f (cg C k).cd⟩] ∧ lefL f (C.take (k + 1)) = lefL f (C.take k) := by
  unfold carL lefL
  rw [take_cg h, List.filter_append, List.filter_append]
  simp [e]
theorem carL_miss (h : k < C.length) (e : f (cg C k).cd = 0) : carL f (C.take (k + 1)) = carL f (C.take k) ∧ lefL f (C.take (k + 1)) = lefL f (C.take k) ++ [cg C k] := by
  unfold carL lefL
  rw [take_cg h, List.filter_append, List.filter_append]
  simp [e]
end
theorem carL_len (f : Int → Int) (C : List Cg) : (carL f C).length ≤ C.length ∧ (lefL f C).length ≤ C.length := by
  unfold carL lefL
  rw [List.length_map]
  exact ⟨List.length_filter_le _ _, List.length_filter_le _ _⟩
/-- Two rows of the call's own. -/
structure InR (w wr : World) (v4 v5 : Value) (A B : List Cg) : Prop where
  o4 : wr.ownsRow w.heap.size 49 3 v4 A.length (crow A)
  o5 : wr.ownsRow w.heap.size 49 3 v5 B.length (crow B)
  ne : ∀ g, v4.ownBlock = some g → v5.ownBlock ≠ some g
  bel : Below w.heap.size w wr
theorem InR.keep {w wr W : World} {v4 v5 : Value} {A B : List Cg} (h : InR w wr v4 v5 A B) (hb : Below wr.heap.size wr W) : InR w W v4 v5 A B :=
  ⟨own_keep h.o4 hb, own_keep h.o5 hb, h.ne, h.bel.trans (hb.mono h.bel.size)⟩
theorem InR.swap {w wr : World} {v4 v5 : Value} {A B : List Cg} (h : InR w wr v4 v5 A B) : InR w wr v5 v4 B A :=
  ⟨h.o5, h.o4, fun g e e2 => h.ne g e2 e, h.bel⟩
/-- An append to the first row. -/
theorem InR.more {w wr w4 : World} {v4 v5 v' : Value} {A B : List Cg} {o : Obj} {u : Cg} (h : InR w wr v4 v5 A B)
    (hown : w4.ownsRow w.heap.size 49 3 v' (A.length + 1) (crow A ++ ccells u)) (hg : (wr.alloc o).grownBy w4 v4.ownBlock) (hloc : v'.ownBlock = v4.ownBlock ∨ v'.ownBlock = some (wr.heap.size + 1)) : InR w w4 v' v5 (A ++ [u]) B := by
  have a5 : (wr.alloc o).ownsRow w.heap.size 49 3 v5 B.length (crow B) := h.o5.alloc o
  refine ⟨?_, ?_, ?_, ?_⟩
  · rw [List.length_append, crow_snoc]; exact hown
  · refine a5.kept hg ?_
    cases e5 : v5.ownBlock with
    | none => exact .inl rfl
    | some g => exact .inr fun e => h.ne g e.symm e5
  · intro g e1 e2
    rcases hloc with e | e
    · exact h.ne g (e.symm.trans e1) e2
    · have := (h.o5.lt g e2).2
      rw [e] at e1
      injection e1 with e1
      omega
  · have hs := h.bel.size
    exact (h.bel.alloc hs o).grown hg (by simp; omega) (fun g hg => (h.o4.lt g hg).1)
theorem cell_three_new (w : World) (x y z : Value) (e : TypeId) : ∀ j v, [x, y, z][j]? = some v → (w.alloc (.cells #[x, y, z] e)).cell? ((⟨w.heap.size, 0, none⟩ : Addr).add j) = some v := fun j v h => by
  rw [add_at, Nat.zero_add, World.cell?_alloc_at _ _ _ _ rfl]
  simpa using h
def ReP (A B : List Cg) (w : World) (e : Ending) (w' : World) : Prop := ∃ v4 v5, e = .returned (.tuple #[v4, v5]) ∧ InR w w' v4 v5 A B
set_option maxRecDepth 100000 in
set_option maxHeartbeats 4000000 in
theorem recoded_c (a : Option Addr) (c : Nat) (C : List Cg) (mp n : Nat) (f : Int → Option Int) (w : World) (hC : RdC w a C) (fC : FitsC C) (hn : C.length ≤ 20000) (hm : NuIs w mp n f) :
    Calls Tryd.prog 56 #[.slice a C.length c, .map (some mp)] w (ReP (carL (fun s => (f s).getD 0) C) (lefL (fun s => (f s).getD 0) C) w) := by
  obtain ⟨i0, hi, hz0, hz1, hz2⟩ := info_parts infoC
  have h9 := hC.1
  have HC := Lib.hid hC
  have HF := Lib.hid fC
  have HM := Lib.hid hm
  have ML := Lib.hid (MapIs.lt hm)
  obtain ⟨F, hFF⟩ : ∃ F : Int → Int, (fun s => (f s).getD 0) = F := ⟨_, rfl⟩
  have HFF : Hid (∀ s, (f s).getD 0 = F s) := fun s => by rw [← hFF]
  rw [hFF]
  clear hC fC hm hFF
  go_enter Tryd.func56, Tryd.ntmps56
  go_wp2
  go_loopw [4, 5, 8, 11] (fun v4 v5 _ i wr => ∃ k : Nat, k ≤ C.length ∧ i = .int .i64 k ∧ Hid (InR w wr v4 v5 (carL F (C.take k)) (lefL F (C.take k)))) (fun _ _ _ i _ => C.length - (intOf i).toNat)
  case atStart => exact ⟨0, Nat.zero_le _, rfl, World.ownsRow_nil _ _ _ _, World.ownsRow_nil _ _ _ _, fun g e => by simp [Value.ownBlock] at e, Below.refl _ _⟩
  case round =>
    obtain ⟨k, hk, rfl, hS⟩ := hrel
    by_cases hlt : k < C.length
    · obtain ⟨b', off, rfl, u0, u1, u2⟩ := (HC.out.below hS.out.bel).at_ hlt
      have hlt' : (k : Int) < (C.length : Int) := by omega
      have fk := HF.out _ (cg_mem hlt)
      have lens := carL_len F (C.take k)
      have hln : (C.take k).length ≤ 20000 := by rw [List.length_take]; omega
      obtain ⟨W1, hW1⟩ : ∃ W1, wr.alloc (.cells #[.int .i64 (cg C k).ca, .int .i64 (cg C k).co, .int .i64 (cg C k).cd] 49) = W1 := ⟨_, rfl⟩
      have N1 : Hid (CodB wr W1 (cg C k)) := by unfold Hid; rw [← hW1]; exact cod_b _ _
      have S1 := Lib.hid (hS.out.keep N1.out.1)
      have S0 := Lib.hid hS.out
      have hlook : (Instr.lookup 98 (.map (some mp)) (.int .i64 (cg C k).cd) false).run Tryd.prog W1 = .ok (.int .i64 (F (cg C k).cd)) W1 := by
        have := NuIs.look (MapIs.below HM.out S1.out.bel ML.out) fk.2.2
        rw [HFF.out] at this
        exact this
      have v0 := N1.out.2.c0
      have v1 := N1.out.2.c1
      have v2 := N1.out.2.c2
      have fr2 := N1.out.2.fr 2
      clear fk hS
      by_cases he : F (cg C k).cd = 0
      · have HM2 := Lib.hid (carL_miss (f := F) hlt he)
        have he' : (F (cg C k).cd == 0) = true := by rw [beq_iff_eq]; exact he
        have hen : (F (cg C k).cd != 0) = false := by rw [bne, he']; rfl
        clear he
        have SW := Lib.hid S1.out.swap
        go_wp2_with (at_builtin; refine wpList_append_own_at _ rfl _ _ 35 rfl w.heap.size 49 i0 (.agg #[.int .i64 0, .int .i64 0, .int .i64 0]) 3 24 Tryd.underlying35 hi hz0 hz1 hz2 rfl (by decide) _ _ _ rfl (SW.out.o4.alloc _) ⟨W1.heap.size, 0, none⟩ 1 1 [.int .i64 (cg C k).ca, .int .i64 (cg C k).co, .int .i64 (cg C k).cd] rfl rfl (cell_three_new _ _ _ _ _) (by simp [Value.oneCell']) ?c3 ?c4 ?c5 ?_)
        case c3 => unfold maxLen; omega
        case c4 => omega
        case c5 => have := SW.out.bel.size; simp; omega
        intro v' w4 hown hgrow _ hloc
        have NX : Hid (InR w w4 u4 v' (carL F (C.take (k + 1))) (lefL F (C.take (k + 1)))) := by
          rw [HM2.out.1, HM2.out.2]
          exact (SW.out.more (u := cg C k) hown hgrow hloc).swap
        clear hown hgrow hloc SW S1 N1 v0 v1 v2 fr2 hlook hW1
        go_wp2
        go_roundw
        case rel => exact ⟨k + 1, by omega, by go_num, NX.out⟩
        case measure => simp [intOf]; omega
      · have HM2 := Lib.hid (carL_hit (f := F) hlt he)
        have he' : (F (cg C k).cd == 0) = false := by rw [beq_eq_false_iff_ne]; exact he
        have hen : (F (cg C k).cd != 0) = true := by rw [bne, he']; rfl
        clear he
        obtain ⟨W2, hW2⟩ : ∃ W2, W1.setCell ⟨wr.heap.size, 2, none⟩ (.int .i64 (F (cg C k).cd)) = W2 := ⟨_, rfl⟩
        have S2 : Hid (InR w W2 u4 u5 (carL F (C.take k)) (lefL F (C.take k))) := by
          rw [← hW2]
          exact S0.out.keep (N1.out.1.setCell (p := ⟨wr.heap.size, 2, none⟩) (Nat.le_refl _) _)
        have ne : ∀ {i j : Nat}, i ≠ j → (⟨wr.heap.size, i, none⟩ : Addr) ≠ ⟨wr.heap.size, j, none⟩ := fun h e => by injection e with _ e2; exact h e2
        have x0 : W2.cell? ⟨wr.heap.size, 0, none⟩ = some (.int .i64 (cg C k).ca) := by rw [← hW2, World.cell?_setCell_other _ _ _ _ (ne (by decide))]; exact v0
        have x1 : W2.cell? ⟨wr.heap.size, 1, none⟩ = some (.int .i64 (cg C k).co) := by rw [← hW2, World.cell?_setCell_other _ _ _ _ (ne (by decide))]; exact v1
        have x2 : W2.cell? ⟨wr.heap.size, 2, none⟩ = some (.int .i64 (F (cg C k).cd)) := by rw [← hW2, World.cell?_setCell_same _ _ _ v2]
        clear ne
        go_wp2_with (at_builtin; refine wpList_append_own_at _ rfl _ _ 35 rfl w.heap.size 49 i0 (.agg #[.int .i64 0, .int .i64 0, .int .i64 0]) 3 24 Tryd.underlying35 hi hz0 hz1 hz2 rfl (by decide) _ _ _ rfl (S2.out.o4.alloc _) ⟨W2.heap.size, 0, none⟩ 1 1 [.int .i64 (cg C k).ca, .int .i64 (cg C k).co, .int .i64 (F (cg C k).cd)] rfl rfl (cell_three_new _ _ _ _ _) (by simp [Value.oneCell']) ?c3 ?c4 ?c5 ?_)
        case c3 => unfold maxLen; omega
        case c4 => omega
        case c5 => have := S2.out.bel.size; simp; omega
        intro v' w4 hown hgrow _ hloc
        have NX : Hid (InR w w4 v' u5 (carL F (C.take (k + 1))) (lefL F (C.take (k + 1)))) := by
          rw [HM2.out.1, HM2.out.2]
          exact S2.out.more (u := ⟨(cg C k).ca, (cg C k).co, F (cg C k).cd⟩) hown hgrow hloc
        clear hown hgrow hloc S2 S1 S0 N1 v0 v1 v2 x0 x1 x2 fr2 hlook hW1 hW2
        go_wp2
        go_roundw
        case rel => exact ⟨k + 1, by omega, by go_num, NX.out⟩
        case measure => simp [intOf]; omega
    · obtain rfl : k = C.length := by omega
      have R : Hid (InR w wr u4 u5 (carL F C) (lefL F C)) := by
        have := hS.out
        rw [List.take_length] at this
        exact this
      clear hlt
      go_wp2
      go_ret2
      exact ⟨_, _, rfl, R.out⟩
end Go.Proofs.YtgfjbilhgblbeaaDoor
namespace Go.Proofs.YtgfjbilhgblbeaaDoor
open Go.RowKit Go.WideMaps Go.Maps

/-- Recode's error. -/
def reE (l1 l2 : List Nd) (M : List Mv) (C : List Cg) : Int :=
  if frS l1 ≠ 0 then frS l1 else if frS l2 ≠ 0 then frS l2 else if mvS (hasB (lev l1)) (hasB (lev l2)) M ≠ 0 then mvS (hasB (lev l1)) (hasB (lev l2)) M else cgsS (hasB (lev l1)) C
def RcP (l1 l2 : List Nd) (M : List Mv) (C : List Cg) (w : World) (e : Ending) (w' : World) : Prop :=
  (reE l1 l2 M C = 0 ∧ ∃ v4 v5, e = .returned (.tuple #[v4, v5, .int .i64 0]) ∧ (∃ a c, v4 = .slice a (carL (suS l1 l2 M) C).length c ∧ RdC w' a (carL (suS l1 l2 M) C)) ∧ (∃ a c, v5 = .slice a (lefL (suS l1 l2 M) C).length c ∧ RdC w' a (lefL (suS l1 l2 M) C)) ∧ Below w.heap.size w w') ∨
  (reE l1 l2 M C ≠ 0 ∧ e = .returned (.tuple #[.slice none 0 0, .slice none 0 0, .int .i64 (reE l1 l2 M C)]) ∧ Below w.heap.size w w')
theorem len_of {l : List Nd} (h : frS l = 0) : l.length ≤ 600 := (fr_of h).le
set_option maxRecDepth 100000 in
set_option maxHeartbeats 4000000 in
theorem Recode_c (a1 : Option Addr) (c1 : Nat) (l1 : List Nd) (a2 : Option Addr) (c2 : Nat) (l2 : List Nd) (a3 : Option Addr) (c3 : Nat) (M : List Mv) (a4 : Option Addr) (c4 : Nat) (C : List Cg) (w : World)
    (h1 : RdN w a1 l1) (f1 : Fits l1) (h2 : RdN w a2 l2) (f2 : Fits l2) (h3 : RdM w a3 M) (f3 : FitsM M) (h4 : RdC w a4 C) (f4 : FitsC C) :
    Calls Tryd.prog 27 #[.slice a1 l1.length c1, .slice a2 l2.length c2, .slice a3 M.length c3, .slice a4 C.length c4] w (RcP l1 l2 M C w) := by
  have H1 := Lib.hid h1
  have H2 := Lib.hid h2
  have H3 := Lib.hid h3
  have H4 := Lib.hid h4
  have F1 := Lib.hid f1
  have F2 := Lib.hid f2
  have F3 := Lib.hid f3
  have F4 := Lib.hid f4
  have K1 := Lib.hid (frameOf_c a1 c1 l1 w h1 f1)
  have K2 := Lib.hid (fun W (hb : Below w.heap.size w W) => frameOf_c a2 c2 l2 W (h2.below hb) f2)
  clear h1 h2 h3 h4 f1 f2 f3 f4
  by_cases z1 : frS l1 ≠ 0
  · have HP : reE l1 l2 M C = frS l1 := by unfold reE; rw [if_pos z1]
    obtain ⟨f, hfl⟩ : ∃ f, frS l1 = f := ⟨_, rfl⟩
    have HZ := Lib.hid z1
    have f1 : (f == 0) = false := by rw [beq_eq_false_iff_ne, ← hfl]; exact z1
    have f2 : (f != 0) = true := by rw [bne, f1]; rfl
    have HP : Hid (reE l1 l2 M C = f ∧ reE l1 l2 M C ≠ 0) := ⟨HP.trans hfl, by rw [HP]; exact z1⟩
    have HFL := Lib.hid hfl
    clear hfl z1
    go_enter Tryd.func27, Tryd.ntmps27
    go_wp2_with fail
    (with_reducible refine K1.out.mono ?_)
    intro e W2 he
    obtain ⟨rfl, b2⟩ := frame_no he HZ.out
    rw [HFL.out]
    have BB := Lib.hid (b2.trans ((bel_one W2 (.cells #[.slice none 0 0, .slice none 0 0] 71)).mono b2.size))
    clear b2
    go_wp2_with fail
    exact bodyPost_ret (v := .tuple #[.slice none 0 0, .slice none 0 0, .int .i64 f]) (by simp [results, Tryd.results27, go_sem]) rfl (Or.inr ⟨HP.out.2, by rw [HP.out.1], BB.out⟩)
  have z1 : frS l1 = 0 := by omega
  have HP1 : reE l1 l2 M C = if frS l2 ≠ 0 then frS l2 else if mvS (hasB (lev l1)) (hasB (lev l2)) M ≠ 0 then mvS (hasB (lev l1)) (hasB (lev l2)) M else cgsS (hasB (lev l1)) C := by unfold reE; rw [if_neg (by simpa using z1)]
  have HP1 := Lib.hid HP1
  have Z1 := Lib.hid z1
  clear z1
  go_enter Tryd.func27, Tryd.ntmps27
  go_wp2_with fail
  (with_reducible refine K1.out.mono ?_)
  intro e W2 he
  obtain ⟨x, y, rfl, hx, hy, b2, _, _⟩ := frame_ok he Z1.out
  obtain ⟨W3, hWn⟩ : ∃ W, W2.alloc (.cells #[row x, row y] 71) = W := ⟨_, rfl⟩
  have b3 : Below W2.heap.size W2 W3 := by rw [← hWn]; exact bel_one _ _
  have D3 : Hid (B2 W3 W2.heap.size (row x) (row y)) := by rw [← hWn]; exact B2.made _ _ _ _
  have X3 := Lib.hid (hx.below b3)
  have Y3 := Lib.hid (hy.below b3)
  have B3 := Lib.hid (b2.trans (b3.mono b2.size))
  clear b2 b3 hx hy
  by_cases z2 : frS l2 ≠ 0
  · have HP : reE l1 l2 M C = frS l2 := by rw [HP1.out, if_pos z2]
    obtain ⟨f, hfl⟩ : ∃ f, frS l2 = f := ⟨_, rfl⟩
    have HZ := Lib.hid z2
    have f1 : (f == 0) = false := by rw [beq_eq_false_iff_ne, ← hfl]; exact z2
    have f2 : (f != 0) = true := by rw [bne, f1]; rfl
    have HP : Hid (reE l1 l2 M C = f ∧ reE l1 l2 M C ≠ 0) := ⟨HP.trans hfl, by rw [HP]; exact z2⟩
    have HFL := Lib.hid hfl
    clear hfl z2
    go_wp2_with fail
    clear hWn
    (with_reducible refine (K2.out W3 B3.out).mono ?_)
    intro e W4 he
    obtain ⟨rfl, b2⟩ := frame_no he HZ.out
    rw [HFL.out]
    have B4 := B3.out.trans (b2.mono B3.out.size)
    have BB := Lib.hid (B4.trans ((bel_one W4 (.cells #[.slice none 0 0, .slice none 0 0] 71)).mono B4.size))
    clear b2 B4
    go_wp2_with fail
    exact bodyPost_ret (v := .tuple #[.slice none 0 0, .slice none 0 0, .int .i64 f]) (by simp [results, Tryd.results27, go_sem]) rfl (Or.inr ⟨HP.out.2, by rw [HP.out.1], BB.out⟩)
  have z2 : frS l2 = 0 := by omega
  have HP2 : reE l1 l2 M C = if mvS (hasB (lev l1)) (hasB (lev l2)) M ≠ 0 then mvS (hasB (lev l1)) (hasB (lev l2)) M else cgsS (hasB (lev l1)) C := by rw [HP1.out, if_neg (by simpa using z2)]
  have HP2 := Lib.hid HP2
  have Z2 := Lib.hid z2
  clear z2 HP1
  go_wp2_with fail
  clear hWn
  (with_reducible refine (K2.out W3 B3.out).mono ?_)
  intro e W4 he
  obtain ⟨x2, y2, rfl, hx, hy, b2, _, _⟩ := frame_ok he Z2.out
  obtain ⟨W5, hWn⟩ : ∃ W, W4.alloc (.cells #[row x2, row y2] 71) = W := ⟨_, rfl⟩
  have b3 : Below W4.heap.size W4 W5 := by rw [← hWn]; exact bel_one _ _
  have b5 : Below W3.heap.size W3 W5 := b2.trans (b3.mono b2.size)
  have D5 := Lib.hid (D3.out.keep b5)
  have X5 := Lib.hid (X3.out.below b5)
  have Y5 := Lib.hid (Y3.out.below b5)
  have B5 := Lib.hid (B3.out.trans (b5.mono B3.out.size))
  have E5 : Hid (B2 W5 W4.heap.size (row x2) (row y2)) := by rw [← hWn]; exact B2.made _ _ _ _
  have P5 := Lib.hid (hx.below b3)
  have Q5 := Lib.hid (hy.below b3)
  clear b2 b3 b5 hx hy D3 X3 Y3 B3
  have d0 := D5.out.c0
  have d1 := D5.out.c1
  have e0 := E5.out.c0
  have e1 := E5.out.c1
  have KM := Lib.hid (checkMoves_c x y x2 y2 (lev l1) (lev l2) a3 c3 M W5 Y5.out Q5.out (H3.out.below B5.out))
  obtain ⟨f, hfl⟩ : ∃ f, mvS (hasB (lev l1)) (hasB (lev l2)) M = f := ⟨_, rfl⟩
  rw [hfl] at KM
  have HP2 : Hid (reE l1 l2 M C = if f ≠ 0 then f else cgsS (hasB (lev l1)) C) := by unfold Hid; rw [HP2.out, hfl]
  have HFL := Lib.hid hfl
  clear hfl
  go_wp2_with fail
  clear hWn d0 d1 e0 e1
  (with_reducible refine KM.out.mono ?_)
  rintro e W6 ⟨rfl, b6⟩
  have D6 := Lib.hid (D5.out.keep b6)
  have X6 := Lib.hid (X5.out.below b6)
  have Y6 := Lib.hid (Y5.out.below b6)
  have B6 := Lib.hid (B5.out.trans (b6.mono B5.out.size))
  clear b6 D5 X5 Y5 B5 E5 P5 Q5
  by_cases z3 : f ≠ 0
  · have HP : Hid (reE l1 l2 M C = f ∧ reE l1 l2 M C ≠ 0) := by
      have e : reE l1 l2 M C = f := by rw [HP2.out, if_pos z3]
      exact ⟨e, by rw [e]; exact z3⟩
    have f1 : (f == 0) = false := by rw [beq_eq_false_iff_ne]; exact z3
    have f2 : (f != 0) = true := by rw [bne, f1]; rfl
    clear z3
    go_wp2_with fail
    exact bodyPost_ret (v := .tuple #[.slice none 0 0, .slice none 0 0, .int .i64 f]) (by simp [results, Tryd.results27, go_sem]) rfl (Or.inr ⟨HP.out.2, by rw [HP.out.1], B6.out⟩)
  have z3 : f = 0 := by omega
  subst z3
  have HP3 : Hid (reE l1 l2 M C = cgsS (hasB (lev l1)) C) := by unfold Hid; rw [HP2.out, if_neg (by simp)]
  have d0 := D6.out.c0
  have d1 := D6.out.c1
  have KC := Lib.hid (checkCodings_c x y (lev l1) a4 c4 C W6 Y6.out (H4.out.below B6.out))
  obtain ⟨f, hfl⟩ : ∃ f, cgsS (hasB (lev l1)) C = f := ⟨_, rfl⟩
  rw [hfl] at KC HP3
  have HGL := Lib.hid hfl
  clear hfl HP2
  go_wp2_with fail
  clear d0 d1
  (with_reducible refine KC.out.mono ?_)
  rintro e W7 ⟨rfl, b7⟩
  have B7 := Lib.hid (B6.out.trans (b7.mono B6.out.size))
  clear b7 D6 X6 Y6 B6
  by_cases z4 : f ≠ 0
  · have HP : Hid (reE l1 l2 M C = f ∧ reE l1 l2 M C ≠ 0) := ⟨HP3.out, by rw [HP3.out]; exact z4⟩
    have f1 : (f == 0) = false := by rw [beq_eq_false_iff_ne]; exact z4
    have f2 : (f != 0) = true := by rw [bne, f1]; rfl
    clear z4
    go_wp2_with fail
    exact bodyPost_ret (v := .tuple #[.slice none 0 0, .slice none 0 0, .int .i64 f]) (by simp [results, Tryd.results27, go_sem]) rfl (Or.inr ⟨HP.out.2, by rw [HP.out.1], B7.out⟩)
  have z4 : f = 0 := by omega
  subst z4
  have LM := mv_len (M := M) HFL.out (fun c h => hasB_rng h)
  have LC := cgs_ok HGL.out
  have hmn := LM.1
  have hcn := LC.1
  have KS := Lib.hid (successors_c a1 c1 l1 a2 c2 l2 a3 c3 M W7 (H1.out.below B7.out) F1.out (H2.out.below B7.out) F2.out (H3.out.below B7.out) F3.out (len_of Z1.out) (len_of Z2.out) hmn)
  clear LM LC hmn
  go_wp2_with fail
  (with_reducible refine KS.out.mono ?_)
  rintro e W8 ⟨mb, rfl, hnu, b8⟩
  have B8 := Lib.hid (B7.out.trans (b8.mono B7.out.size))
  have KR := Lib.hid (recoded_c a4 c4 C mb _ (suO l1 l2 M) W8 (H4.out.below B8.out) F4.out hcn hnu)
  clear hnu b8
  go_wp2_with fail
  (with_reducible refine KR.out.mono ?_)
  rintro e W9 ⟨v4, v5, rfl, hR⟩
  have L9 := carL_len (suS l1 l2 M) C
  have R4 : Hid (∃ a c, v4 = .slice a (carL (suS l1 l2 M) C).length c ∧ RdC W9 a (carL (suS l1 l2 M) C)) := rdC_own hR.o4 (by have := L9.1; unfold suS at this; omega)
  have R5 : Hid (∃ a c, v5 = .slice a (lefL (suS l1 l2 M) C).length c ∧ RdC W9 a (lefL (suS l1 l2 M) C)) := rdC_own hR.o5 (by have := L9.2; unfold suS at this; omega)
  have B9 := Lib.hid (B8.out.trans (hR.bel.mono B8.out.size))
  clear hR L9 hcn
  go_wp2_with fail
  exact bodyPost_ret (v := .tuple #[v4, v5, .int .i64 0]) (by simp [results, Tryd.results27, go_sem]) rfl (Or.inl ⟨HP3.out, v4, v5, rfl, R4.out, R5.out, B9.out⟩)
end Go.Proofs.YtgfjbilhgblbeaaDoor
