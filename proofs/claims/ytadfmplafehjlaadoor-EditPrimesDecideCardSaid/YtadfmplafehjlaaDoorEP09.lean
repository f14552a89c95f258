/-
  Package edit: 'for part, fails := range p.parts(box)': the law of the loop.
  A region that draws and calls, inside a round.
  Package edit: the first record of a box that passes.
  EditPlansMatchSpec: a field of a plan, the reference.
-/
import Derived.Test.YtadfmplafehjlaaDoorEP08
import Derived.Maps.OwnIn
import Derived.Maps.AppendAt
import Derived.Test.YtadfmplafehjlaaDoorEP04
import Derived.RangeFuncNested
import Derived.LoopNIn
import Derived.LoopIn
import Derived.Laws.OwnMore
import Derived.Test.YtadfmplafehjlaaDoorEP06
import Derived.Lib.SmallJoins
namespace Go.Proofs.YtadfmplafehjlaaDoor
open Go.RowKit Go.WideMaps Go.Maps Go.Shelf

attribute [local go_sem] Oper.semAt_some

def PaP (p : Nat) (B : Nat → Nat) (w : World) (e : Ending) (w' : World) : Prop :=
  e = .returned (.func (.func 78) #[] #[.pointer (some ⟨w.heap.size, 0, none⟩), .pointer (some ⟨w.heap.size + 1, 0, none⟩)]) ∧
  w' = (w.alloc (.cells #[.pointer (some ⟨p, 0, none⟩)] 50)).alloc (.cells #[.int .u64 (B 0), .int .u64 (B 1), .int .u64 (B 2), .int .u64 (B 3), .int .u64 (B 4), .int .u64 (B 5), .int .u64 (B 6), .int .u64 (B 7), .int .u64 (B 8), .int .u64 (B 9), .int .u64 (B 10), .int .u64 (B 11)] 57)
theorem parts_c (p : Nat) (B : Nat → Nat) (w : World) : Calls Tryd.prog 58 #[.pointer (some ⟨p, 0, none⟩), bxV B] w (PaP p B w) := by
  have hmf : ∀ (fn : Fn) (first cap : Array Value) (w : World), (Instr.makeFunc fn first cap).run Tryd.prog w = .ok (.func fn first cap) w := fun _ _ _ _ => rfl
  unfold bxV
  go_enter Tryd.func58, Tryd.ntmps58
  go_wp2
  go_ret
  exact ⟨rfl, rfl⟩
/-- How a round's body is left. -/
def rpPost (I : Nat → World → Prop) (Ix : Nat → World → Prop) (N : Nat → Prop) (k : Nat) (W : World) : Exit → Act → World → Prop
  | .normal, _, W' => Below W.heap.size W W' ∧ I (k + 1) W'
  | .ret, _, W' => Kx N W W' ∧ Ix k W'
  | _, _, _ => False
theorem putObj_back {W W' : World} {b : Nat} {o o' : Obj} (h : W.heap[b]? = some o) (hb : Below W.heap.size (W.putObj b o') W') : Below W.heap.size W (W'.putObj b o) := by
  have hs : (W.putObj b o').heap.size = W.heap.size := by simp [World.putObj]
  have hlt : b < W.heap.size := (Array.getElem?_eq_some_iff.1 h).1
  refine ⟨hb.os, hb.tape, hb.output, ?_, fun i hi => ?_⟩
  · have := hb.size; rw [hs] at this; simpa [World.putObj] using this
  · by_cases e : i = b
    · subst e
      rw [World.putObj_heap_same (by have := hb.size; rw [hs] at this; omega), h]
    · rw [World.putObj_heap_other e, hb.block i hi, World.putObj_heap_other e]
theorem range_parts {n : Nat} {g : Operand} {ps : Array Tmp} {assign body : Code} {Q : Exit → Act → World → Prop} {a : Act} {w : World} (w0 : World) (N : Nat → Prop) (p : Nat) (l0 : List Fd) (E : List Ed) (B : Nat → Nat) (b1 b2 : Nat) (hps : ps.size = 2)
    (hg : a.eval g = .func (.func 78) #[] #[.pointer (some ⟨b1, 0, none⟩), .pointer (some ⟨b2, 0, none⟩)])
    (hn : 3 ≤ n) (hpl : PlR w0 p l0 E) (hok : Ok l0 E) (hB : ∀ j, j < l0.length → B j < 2 ^ (fd l0 j).cs.length) (hT : TabAt 0 Lib.deBruijn64tab w0) (ht : 0 < w0.heap.size)
    (hN : ∀ b, N b → w0.heap.size ≤ b ∧ b < w.heap.size) (n1 : ¬ N b1 ∧ b1 < w.heap.size) (n2 : ¬ N b2 ∧ b2 < w.heap.size) (hw0 : w0.heap.size ≤ w.heap.size)
    (I Ix : Nat → World → Prop) (hIb : ∀ k W W', I k W → Below w.heap.size W W' → I k W') (hIw : ∀ k W, I k W → Below w0.heap.size w0 W ∧ W.cell? ⟨b1, 0, none⟩ = some (.pointer (some ⟨p, 0, none⟩)) ∧ BxAt W b2 0 B) (hIx : OwnFrom w.heap.size Ix) (h0 : I 0 w) (a₁ : (Nat → Nat) × Nat → Nat → Act)
    (hassign : ∀ (l m : Nat) (x : (Nat → Nat) × Nat) (W : World) (K : Act → World → Prop), K (a₁ x W.heap.size) (W.alloc (.cells #[.int .u64 (x.1 0), .int .u64 (x.1 1), .int .u64 (x.1 2), .int .u64 (x.1 3), .int .u64 (x.1 4), .int .u64 (x.1 5), .int .u64 (x.1 6), .int .u64 (x.1 7), .int .u64 (x.1 8), .int .u64 (x.1 9), .int .u64 (x.1 10), .int .u64 (x.1 11)] 57)) →
      assign.wpIn (Fence.wide.inRound l) m Tryd.prog (Exit.then K (fun _ _ _ => False)) { tmps := (ps.zip #[bxV x.1, .int .u64 x.2]).foldl (fun t (p, v) => t.setIfInBounds p v) a.tmps, defers := [] } W)
    (hbody : ∀ (l m k : Nat) (x : (Nat → Nat) × Nat) (pb : Nat) (V : World), (prs l0 E B)[k]? = some x → I k V → BxAt V pb 0 x.1 → pb < V.heap.size → w.heap.size + 2 ≤ pb → body.wpIn (Fence.wide.inRound l) m Tryd.prog (rpPost I Ix N k V) (a₁ x pb) V)
    (hdone : ∀ (W : World), I (prs l0 E B).length W → W.heap[w.heap.size]? = some (.deferred (some [])) → Q .normal { a with defers := { target := .collected w.heap.size, args := #[] } :: a.defers } W)
    (hstop : ∀ (k : Nat) (W : World), k < (prs l0 E B).length → Ix k W → W.heap[w.heap.size]? = some (.deferred (some [])) → Code.ret.wpIn Fence.wide n Tryd.prog Q { a with defers := { target := .collected w.heap.size, args := #[] } :: a.defers } W) :
    (Code.rangeFunc g ps assign body).wpIn Fence.wide n Tryd.prog Q a w := by
  refine wpIn_rangeFunc fun fn hfn => ?_
  obtain ⟨rows, hrows⟩ : ∃ r, prs l0 E B = r := ⟨_, rfl⟩
  rw [hrows] at hbody hdone hstop
  obtain ⟨rec, hrec⟩ : ∃ rec : LoopState → Option Code → Loop, rec = fun st pe => { state := st, pending := pe, fn, tmps := a.tmps, params := ps, assign, body, defers := w.heap.size } := ⟨_, rfl⟩
  obtain ⟨W1, hW1⟩ : ∃ W1, (w.alloc (.deferred (some []))).alloc (.loop (rec .ready none)) = W1 := ⟨_, rfl⟩
  have L1 : W1.heap[w.heap.size + 1]? = some (.loop (rec .ready none)) := by
    rw [← hW1]; have := World.alloc_heap_new (w.alloc (.deferred (some []))) (.loop (rec .ready none)); rwa [World.size_alloc] at this
  have D1 : W1.heap[w.heap.size]? = some (.deferred (some [])) := by
    rw [← hW1]; exact (Below.heap_alloc _ _ _ (by simp)).trans (World.alloc_heap_new w _)
  have S1 : w.heap.size + 2 ≤ W1.heap.size := by rw [← hW1]; simp
  have bW : Below w.heap.size w W1 := by rw [← hW1]; exact ((Below.refl _ w).alloc (Nat.le_refl _) _).alloc (by simp) _
  have I1 : I 0 W1 := hIb 0 w W1 h0 bW
  let RD (st : LoopState) (pe : Option Code) (W : World) : Prop := W.heap[w.heap.size + 1]? = some (.loop (rec st pe)) ∧ W.heap[w.heap.size]? = some (.deferred (some []))
  refine ⟨w.heap.size + 1, [{ target := .collected w.heap.size, args := #[] }], W1, { target := .fn (.func 78) #[.pointer (some ⟨b1, 0, none⟩), .pointer (some ⟨b2, 0, none⟩)], args := #[.func (.yield (w.heap.size + 1)) #[] #[]] }, W1, 78,
    #[.func (.yield (w.heap.size + 1)) #[] #[]] ++ #[.pointer (some ⟨b1, 0, none⟩), .pointer (some ⟨b2, 0, none⟩)], W1, ?_, ?_, fun _ _ => trivial, ?_, fun _ => by omega, ?_⟩
  · rw [← hW1, hrec]; exact run_enterLoop_outer _ _ _ _ _
  · simp only [resolve, hg]
    simp [go_sem]
  · simp [invoke, go_sem, enters_of Tryd.func78 (by kernel_rfl) rfl]
  · have hv : Dv w0 (fun b => N b ∨ b = w.heap.size + 1) p (w.heap.size + 2) l0 E (w.heap.size + 1) rows (fun k W => I k W ∧ RD .ready none W ∧ k ≤ rows.length ∧ w.heap.size + 2 ≤ W.heap.size) (fun k W => Ix k W ∧ RD .done (some .ret) W) := by
      refine ⟨hpl, hT, ht, fun b hb => ?_, fun k W h => ⟨(hIw k W h.1).1, h.2.2.2⟩, fun k W W' h hb => ?_, fun m k x W hk h => ?_⟩
      · rcases hb with e | e
        · have := hN b e; omega
        · omega
      · exact ⟨hIb k W W' h.1 (hb.mono (by omega)), ⟨(hb.block _ (by omega)).trans h.2.1.1, (hb.block _ (by omega)).trans h.2.1.2⟩, h.2.2.1, Nat.le_trans h.2.2.2 hb.size⟩
      · obtain ⟨hi, ⟨hl, hd⟩, hkl, hsz⟩ := h
        have hy := run_yield (P := Tryd.prog) (args := #[bxV x.1, Value.int .u64 x.2]) hl (by rw [hrec]; exact hps.symm)
        rw [hrec] at hy
        obtain ⟨WA, hWA⟩ : ∃ V, W.alloc (.cells #[.int .u64 (x.1 0), .int .u64 (x.1 1), .int .u64 (x.1 2), .int .u64 (x.1 3), .int .u64 (x.1 4), .int .u64 (x.1 5), .int .u64 (x.1 6), .int .u64 (x.1 7), .int .u64 (x.1 8), .int .u64 (x.1 9), .int .u64 (x.1 10), .int .u64 (x.1 11)] 57) = V := ⟨_, rfl⟩
        have bA : Below W.heap.size W WA := by rw [← hWA]; exact bel_one _ _
        have xA : BxAt WA W.heap.size 0 x.1 ∧ W.heap.size < WA.heap.size := by rw [← hWA]; exact ⟨bx_made W x.1, by simp⟩
        have hlt0 : w.heap.size + 1 < W.heap.size := by omega
        have hlA : WA.heap[w.heap.size + 1]? = some (.loop (rec .ready none)) := (bA.block _ hlt0).trans hl
        have hdA : WA.heap[w.heap.size]? = some (.deferred (some [])) := (bA.block _ (by omega)).trans hd
        have hltA : w.heap.size + 1 < WA.heap.size := by omega
        refine ⟨fn, _, assign, body, hy, roundIn_of_wpIn hfn (hassign _ _ x W _ ?_)⟩
        rw [hWA]
        refine ⟨_, run_beginRound hlA (by rw [hrec]), ?_⟩
        obtain ⟨V, hV⟩ : ∃ V, WA.putObj (w.heap.size + 1) (.loop { rec .ready none with state := .busy }) = V := ⟨_, rfl⟩
        have hVs : V.heap.size = WA.heap.size := by rw [← hV]; simp [World.putObj]
        have hl2 : V.heap[w.heap.size + 1]? = some (.loop { rec .ready none with state := .busy }) := by rw [← hV]; exact World.putObj_heap_same hltA
        have hd2 : V.heap[w.heap.size]? = some (.deferred (some [])) := by rw [← hV]; exact (World.putObj_heap_other (by omega)).trans hdA
        have bV : Below w.heap.size WA V := by
          rw [← hV]
          exact ⟨rfl, rfl, rfl, by simp [World.putObj], fun i hi => World.putObj_heap_other (by omega)⟩
        have xV : BxAt V W.heap.size 0 x.1 := fun i hi => by
          rw [← xA.1 i hi]
          refine World.cell?_of_block ?_
          rw [← hV]; exact World.putObj_heap_other (by show W.heap.size ≠ _; omega)
        rw [hV]
        refine wpIn_mono (hbody _ _ k x W.heap.size V hk (hIb k WA V (hIb k W WA hi (bA.mono (by omega))) bV) xV (by omega) hsz) ?_
        have fin : ∀ (jump : Option Code) (W3 : World), W3.heap[w.heap.size + 1]? = V.heap[w.heap.size + 1]? →
            (Instr.endRound (w.heap.size + 1) jump).run Tryd.prog W3 = .ok (.bool jump.isNone) (W3.putObj (w.heap.size + 1) (.loop (rec (if jump.isNone then .ready else .done) jump))) := fun jump W3 hk3 => by
          have hr := run_endRound (P := Tryd.prog) jump (hk3.trans hl2)
          rw [hrec] at hr ⊢; exact hr
        rintro e a3 W3 hp
        cases e with
        | normal =>
          obtain ⟨hb3, hi3⟩ := hp
          have hr := fin none W3 (hb3.block _ (by omega))
          have hs3 := hb3.size
          have hB9 : Below WA.heap.size WA (W3.putObj (w.heap.size + 1) (.loop (rec .ready none))) := putObj_back hlA (by rw [hV]; rw [← hVs]; exact hb3)
          refine ⟨_, _, hr, .inl ⟨rfl, ⟨hIb _ W3 _ hi3 ⟨rfl, rfl, rfl, by simp [World.putObj], fun i hi => World.putObj_heap_other (by omega)⟩, ⟨?_, ?_⟩, ?_, ?_⟩, bA.trans (hB9.mono bA.size)⟩⟩
          · exact World.putObj_heap_same (by omega)
          · exact (World.putObj_heap_other (by omega)).trans ((hb3.block _ (by omega)).trans hd2)
          · exact (List.getElem?_eq_some_iff.1 hk).1
          · show _ ≤ (World.putObj _ _ _).heap.size
            simp [World.putObj]; omega
        | ret =>
          obtain ⟨hb3, hi3⟩ := hp
          have nr : ¬ N (w.heap.size + 1) := fun e => by have := (hN _ e).2; omega
          have nd : ¬ N w.heap.size := fun e => by have := (hN _ e).2; omega
          have hs3 := hb3.size
          have h3 : W3.heap[w.heap.size + 1]? = V.heap[w.heap.size + 1]? := hb3.block _ (by omega) nr
          have hr := fin (some .ret) W3 h3
          refine ⟨_, _, hr, .inr ⟨rfl, ⟨hIx.putObj _ hi3 (by omega) (h3.trans hl2) rfl, ?_, ?_⟩, ?_⟩⟩
          · exact World.putObj_heap_same (by omega)
          · exact (World.putObj_heap_other (by omega)).trans ((hb3.block _ (by omega) nd).trans hd2)
          · refine ⟨hb3.os.trans ?_, hb3.tape.trans ?_, hb3.output.trans ?_, ?_, fun i hi hni => ?_⟩
            · rw [← hV, ← hWA]; rfl
            · rw [← hV, ← hWA]; rfl
            · rw [← hV, ← hWA]; rfl
            · show _ ≤ (World.putObj _ _ _).heap.size
              simp [World.putObj]; omega
            · have ne : i ≠ w.heap.size + 1 := fun e => hni (.inr e)
              rw [World.putObj_heap_other ne, hb3.block i (by omega) (fun e => hni (.inl e)), ← hV, World.putObj_heap_other ne, bA.block i hi]
        | exit id => exact hp.elim
        | goto t => exact hp.elim
        | panic ch => exact hp.elim
        | outgrown => exact hp.elim
    have hw1 := hIw 0 W1 I1
    subst hrows
    have q1 : ¬ (N b1 ∨ b1 = w.heap.size + 1) := fun e => e.elim n1.1 (fun e => by have := n1.2; omega)
    have q2 : ¬ (N b2 ∨ b2 = w.heap.size + 1) := fun e => e.elim n2.1 (fun e => by have := n2.2; omega)
    have HP := parts1_c w0 _ p (w.heap.size + 2) l0 E (w.heap.size + 1) B _ _ hv hok hB (fun k W h => h.2.2.1) b1 b2 q1 q2 W1 ⟨I1, ⟨L1, D1⟩, Nat.zero_le _, S1⟩ hw1.2.1 hw1.2.2
    refine ((callsIn_wide (n := n - 1)).2 HP).mono ?_
    rintro e W2 ⟨⟨v, rfl⟩, (⟨hi, ⟨hl, hd⟩, _, hs⟩ | ⟨k, hk, hi, hl, hd⟩)⟩
    · have hr := run_endLoop (P := Tryd.prog) hl (by rw [hrec]; simp)
      rw [hrec] at hr
      refine ⟨none, _, hr, hdone _ (hIb _ W2 _ hi ⟨rfl, rfl, rfl, by simp [World.putObj], fun i hi => World.putObj_heap_other (by omega)⟩) ((World.putObj_heap_other (by omega)).trans hd)⟩
    · have hr := run_endLoop (P := Tryd.prog) hl (by rw [hrec]; simp)
      rw [hrec] at hr
      exact ⟨some .ret, _, hr, hstop k _ hk (hIx.putObj _ hi (by omega) hl rfl) ((World.putObj_heap_other (by omega)).trans hd)⟩
end Go.Proofs.YtadfmplafehjlaaDoor
namespace Go.Proofs.YtadfmplafehjlaaDoor
open Go.RowKit Go.WideMaps Go.Maps Go.Shelf

theorem op_lift {P : Program} {o : Oper} {a : Act} {w : World} {K K' : Act → World → Prop} {Q Q' : Exit → Act → World → Prop} {l m : Nat} (hnd : ∀ c, o.op ≠ .defer c) (hK : ∀ a w, K a w → K' a w) (hQ : ∀ c a w, ¬ Q (.panic c) a w) (hL : ¬ LetsOut Q) (h : o.wp P a w K Q) : o.wpIn (Fence.wide.inRound l) m P a w K' Q' := by
  refine ⟨fun _ _ => trivial, ?_⟩
  rw [Oper.semAt_eq _ _ _ hnd]
  unfold Oper.wp at h
  generalize (execOp a.eval o).run P w = r at h
  cases r with
  | ok x w' =>
    cases x with
    | value v => exact hK _ _ h
    | skip => exact hK _ _ h
    | defer d => exact hK _ _ h
    | enter f args =>
      refine ⟨fun h => (by cases h), CallsIn.inRound l (callsIn_wide.2 (Calls.mono h ?_))⟩
      intro e w2 he
      cases e with
      | returned v => exact hK _ _ he
      | panicked c => exact absurd he (hQ _ _ _)
      | outgrown => exact absurd he hL
    | row row args =>
      refine ⟨fun h => (by cases h), fun c cs _ => ?_⟩
      obtain ⟨v, w2, hr, s⟩ := h c cs
      exact ⟨v, w2, hK _ _ hr, stepsIn_wide.2 s⟩
    | _ => exact (h : False).elim
  | halt x w' =>
    cases x <;> first | exact h.elim | exact absurd h (hQ _ _ _)
def OnlyN (Q : Exit → Act → World → Prop) : Exit → Act → World → Prop
  | .normal, a, w => Q .normal a w
  | _, _, _ => False
theorem OnlyN.normal {Q : Exit → Act → World → Prop} {a : Act} {w : World} (h : Q .normal a w) : OnlyN Q .normal a w := h
def noDefer (ops : Array Oper) : Bool := ops.all fun o => match o.op with | .defer _ => false | _ => true
theorem noDefer_at {ops : Array Oper} (h : noDefer ops = true) {i : Nat} {o : Oper} (ho : ops[i]? = some o) : ∀ c, o.op ≠ .defer c := fun c e => by
  unfold noDefer at h
  rw [Array.all_eq_true] at h
  obtain ⟨hi, rfl⟩ := Array.getElem?_eq_some_iff.1 ho
  have := h i hi
  rw [e] at this
  cases this
theorem any_lift {P : Program} {ops : Array Oper} {Q Q' : Exit → Act → World → Prop} {l m : Nat} {md : Region.Mode} (hnd : noDefer ops = true) (hN : ∀ a w, Q .normal a w → Q' .normal a w) (hQ : ∀ c a w, ¬ Q (.panic c) a w) (hL : ¬ LetsOut Q) :
    ∀ (fuel : Nat) (listed : Array Bool) (a : Act) (w : World), wpAny P md ops Q fuel listed a w → wpAnyIn (Fence.wide.inRound l) m P md ops Q' fuel listed a w
  | 0, _, _, _, h => ⟨h.1, hN _ _ h.2⟩
  | fuel + 1, listed, a, w, h => by
    refine ⟨fun e => hN _ _ (h.1 e), fun i hi => ?_⟩
    have h1 := h.2 i hi
    unfold wpOp at h1
    unfold wpOpIn
    split at h1
    · rename_i e
      rw [e]
      exact any_lift hnd hN hQ hL fuel _ _ _ h1
    · rename_i o e
      rw [e]
      dsimp only
      split at h1
      · rename_i hw
        rw [if_pos hw]
        rcases h1 with h1 | h1
        · exact op_lift (noDefer_at hnd e) (fun a w h => any_lift hnd hN hQ hL fuel _ _ _ h) hQ hL h1
        · exact absurd h1.2 hL
      · rename_i hw
        rw [if_neg hw]
        exact ⟨fun _ _ => trivial, any_lift hnd hN hQ hL fuel _ _ _ h1⟩
theorem round_region_held_drew {P : Program} {id : Nat} {ops : Array Oper} {Q : Exit → Act → World → Prop} {S : World → Prop} {l m : Nat} {a : Act} {w : World} (hm : P.follows .mixedOrders = true) (hnd : noDefer ops = true) (hS : S w.drew)
    (h : S w.drew → wpAnyH P .any ops (OnlyN Q) S ops.size (Array.replicate ops.size false) a w.drew) : (Code.region id ops true).wpIn (Fence.wide.inRound l) m P Q a w :=
  wpIn_region_any hm (any_lift (Q := OnlyN Q) (Q' := Q) hnd (fun _ _ h => h) (fun _ _ _ h => h) (fun h => by obtain ⟨_, _, h⟩ := h; exact h) _ _ _ _ (wpAny_of_held _ _ _ _ (h hS)))
end Go.Proofs.YtadfmplafehjlaaDoor
namespace Go.Proofs.YtadfmplafehjlaaDoor
open Go.RowKit Go.WideMaps Go.Maps Go.Shelf

attribute [local go_sem] Oper.semAt_some

/-- The outcome of a search. -/
def FstP (o : Option (List Int)) (w : World) (e : Ending) (w' : World) : Prop :=
  Below w.heap.size w w' ∧ ((∃ r' a c, o = some r' ∧ e = .returned (.tuple #[.slice a r'.length c, .bool true]) ∧ Rd w' a r') ∨ (o = none ∧ e = .returned (.tuple #[.slice none 0 0, .bool false])))
def fsrch (l : List Fd) (E : List Ed) (B : Nat → Nat) : Option (List Int) := ((prs l E B).find? fun x => decide (x.2 = 0)).map fun x => recB l x.1
theorem find_none {rows : Prts} (h : ∀ j x, j < rows.length → rows[j]? = some x → x.2 ≠ 0) : (rows.find? fun x => decide (x.2 = 0)) = none := by
  rw [List.find?_eq_none]
  intro x hx
  obtain ⟨k, hk, rfl⟩ := List.getElem_of_mem hx
  have := h k rows[k] hk (List.getElem?_eq_getElem hk)
  simpa using this
theorem find_some {rows : Prts} {k : Nat} {x : (Nat → Nat) × Nat} (hk : rows[k]? = some x) (h0 : x.2 = 0) (h : ∀ j y, j < k → rows[j]? = some y → y.2 ≠ 0) : (rows.find? fun x => decide (x.2 = 0)) = some x := by
  obtain ⟨hl, hx⟩ := List.getElem?_eq_some_iff.1 hk
  rw [List.find?_eq_some_iff_getElem]
  refine ⟨by simpa using h0, k, hl, hx, fun j hj => ?_⟩
  have := h j rows[j] hj (List.getElem?_eq_getElem (by omega))
  simpa using this
section
variable (h g4 g5 : Nat) (l : List Fd) (rows : Prts) (w W0 : World)
def FsI (k : Nat) (W : World) : Prop := Below W0.heap.size W0 W ∧ ∀ j x, j < k → rows[j]? = some x → x.2 ≠ 0
def FsX (k : Nat) (W : World) : Prop := ∃ x a c, rows[k]? = some x ∧ x.2 = 0 ∧ (∀ j y, j < k → rows[j]? = some y → y.2 ≠ 0) ∧ Boxed W g4 26 (.slice a l.length c) ∧ Boxed W g5 4 (.bool true) ∧ Rd W a (recB l x.1) ∧ Below h w W
end
theorem Rd.own {W W' : World} {row : Option Nat} {a : Option Addr} {r : List Int} (h : Rd W a r) (hg : W.grownBy W' row) (hr : ∀ q, row = some q → ∃ o : Obj, W.heap[q]? = some o ∧ o.isCells = false) : Rd W' a r :=
  ⟨h.1, fun h0 => by
    obtain ⟨b, off, e, hl, hc⟩ := h.2 h0
    exact ⟨b, off, e, Nat.lt_of_lt_of_le hl hg.size, fun j hj => cell_kept (hc j hj) hg hr⟩⟩
theorem FsX.own (h g4 g5 : Nat) (l : List Fd) (rows : Prts) (w : World) (B : Nat) (hw : h ≤ w.heap.size) (hB : h ≤ B) : OwnFrom B (FsX h g4 g5 l rows w) := by
  rintro k X Y row ⟨x, a, c, hx, h0, hb, b1, b2, hr, hbl⟩ hg hrow
  have hrow' := fun r e => (hrow r e).2
  have ne : ∀ {b t v}, Boxed X b t v → some b ≠ row := fun {b t v} hb e => by
    obtain ⟨o, ho, hc⟩ := hrow' b e.symm
    rw [show X.heap[b]? = _ from hb] at ho; cases ho; cases hc
  exact ⟨x, a, c, hx, h0, hb, b1.kept hg (ne b1), b2.kept hg (ne b2), hr.own hg hrow', hbl.grown hg (Nat.le_trans hw hbl.size) (fun r e => Nat.le_trans hB (hrow r e).1)⟩
theorem prt_ok {l : List Fd} {E : List Ed} : ∀ (d i : Nat) (B : Nat → Nat) (F : Nat), i + d ≤ l.length → (∀ j, j < l.length → B j ≠ 0 ∧ B j < 2 ^ (fd l j).cs.length) → ∀ x, x ∈ prt l E d i B F → ∀ j, j < l.length → x.1 j ≠ 0 ∧ x.1 j < 2 ^ (fd l j).cs.length
  | 0, i, B, F, _, hB, x, hx => by
    have e : x = (B, F) := by simpa [prt] using hx
    rw [e]; exact hB
  | d + 1, i, B, F, hd, hB, x, hx => by
    unfold prt at hx
    split at hx
    · have e : x = (B, F) := by simpa using hx
      rw [e]; exact hB
    · obtain ⟨k, hk, hx⟩ := List.mem_flatMap.1 hx
      have hkb : (B i).testBit k = true := by unfold lst at hk; exact (List.mem_filter.1 hk).2
      have hkl := bits_lt (hB i (by omega)).2 hkb
      refine prt_ok d (i + 1) _ _ (by omega) (fun j hj => ?_) x hx
      unfold upd
      by_cases e : j = i
      · rw [if_pos e, e]
        exact ⟨by have := Nat.two_pow_pos k; omega, Nat.pow_lt_pow_right (by omega) hkl⟩
      · rw [if_neg e]; exact hB j hj
theorem prs_ok {l : List Fd} {E : List Ed} {B : Nat → Nat} (hB : ∀ j, j < l.length → B j < 2 ^ (fd l j).cs.length) : ∀ x, x ∈ prs l E B → ∀ j, j < l.length → x.1 j ≠ 0 ∧ x.1 j < 2 ^ (fd l j).cs.length := fun x hx => by
  unfold prs at hx
  split at hx
  · cases hx
  · rename_i h
    have h := em_iff.1 (by simpa using h)
    exact prt_ok l.length 0 B _ (by omega) (fun j hj => ⟨h j hj, hB j hj⟩) x hx
theorem rec_at {l : List Fd} {C : Nat → Nat} {j : Nat} (hj : j < l.length) : fn (recB l C) j = fn (fd l j).cs (ch C j) := by
  unfold recB
  conv => lhs; unfold fn
  rw [List.getD_eq_getElem?_getD, List.getElem?_map, List.getElem?_range hj]
  rfl
theorem zerosI_ex (n : Nat) : ∃ Z, madeCells #[Value.int .i64 0] n = Z ∧ ∀ j, j < n → Z[j]? = some (Value.int .i64 0) := ⟨_, rfl, fun j h => by
  rw [← Array.getElem?_toList, toList_madeCells_one, List.getElem?_replicate]
  exact if_pos h⟩
structure FsW (w W0 : World) (p : Nat) (B : Nat → Nat) : Prop where
  sz : W0.heap.size = w.heap.size + 6
  bel : Below w.heap.size w W0
  c2 : W0.cell? ⟨w.heap.size, 0, none⟩ = some (.pointer (some ⟨p, 0, none⟩))
  b4 : Boxed W0 (w.heap.size + 1 + 1) 26 (.slice none 0 0)
  b5 : Boxed W0 (w.heap.size + 1 + 1 + 1) 4 (.bool false)
  e1 : W0.cell? ⟨w.heap.size + 1 + 1 + 1 + 1, 0, none⟩ = some (.pointer (some ⟨p, 0, none⟩))
  e2 : BxAt W0 (w.heap.size + 1 + 1 + 1 + 1 + 1) 0 B
theorem FsW.made (w : World) (p : Nat) (B : Nat → Nat) : FsW w ((((((w.alloc (.cells #[.pointer (some ⟨p, 0, none⟩)] 50)).alloc (.cells #[.int .u64 (B 0), .int .u64 (B 1), .int .u64 (B 2), .int .u64 (B 3), .int .u64 (B 4), .int .u64 (B 5), .int .u64 (B 6), .int .u64 (B 7), .int .u64 (B 8), .int .u64 (B 9), .int .u64 (B 10), .int .u64 (B 11)] 57)).alloc (.cells #[.slice none 0 0] 26)).alloc (.cells #[.bool false] 4)).alloc (.cells #[.pointer (some ⟨p, 0, none⟩)] 50)).alloc (.cells #[.int .u64 (B 0), .int .u64 (B 1), .int .u64 (B 2), .int .u64 (B 3), .int .u64 (B 4), .int .u64 (B 5), .int .u64 (B 6), .int .u64 (B 7), .int .u64 (B 8), .int .u64 (B 9), .int .u64 (B 10), .int .u64 (B 11)] 57)) p B := by
  refine ⟨by simp, ((((((Below.refl _ w).alloc (Nat.le_refl _) _).alloc (by simp) _).alloc (by simp; omega) _).alloc (by simp; omega) _).alloc (by simp; omega) _).alloc (by simp; omega) _, ?_, ?_, ?_, ?_, ?_⟩
  · exact Boxed.cell (t := 50) (by simpa using (((((Boxed.new w _ _).alloc _).alloc _).alloc _).alloc _).alloc _)
  · simpa using (((Boxed.new ((w.alloc _).alloc _) _ _).alloc _).alloc _).alloc _
  · simpa using ((Boxed.new (((w.alloc _).alloc _).alloc _) _ _).alloc _).alloc _
  · exact Boxed.cell (t := 50) (by simpa using (Boxed.new ((((w.alloc _).alloc _).alloc _).alloc _) _ _).alloc _)
  · simpa using bx_made (((((w.alloc (.cells #[.pointer (some ⟨p, 0, none⟩)] 50)).alloc (.cells #[.int .u64 (B 0), .int .u64 (B 1), .int .u64 (B 2), .int .u64 (B 3), .int .u64 (B 4), .int .u64 (B 5), .int .u64 (B 6), .int .u64 (B 7), .int .u64 (B 8), .int .u64 (B 9), .int .u64 (B 10), .int .u64 (B 11)] 57)).alloc (.cells #[.slice none 0 0] 26)).alloc (.cells #[.bool false] 4)).alloc (.cells #[.pointer (some ⟨p, 0, none⟩)] 50)) B
set_option maxRecDepth 100000 in
set_option maxHeartbeats 8000000 in
theorem pfirst_c (p : Nat) (l : List Fd) (E : List Ed) (B : Nat → Nat) (w : World) (hP : PlR w p l E) (hok : Ok l E) (hB : ∀ j, j < l.length → B j < 2 ^ (fd l j).cs.length)
    (hT : TabAt 0 Lib.deBruijn64tab w) (ht : 0 < w.heap.size) :
    Calls Tryd.prog 34 #[.pointer (some ⟨p, 0, none⟩), bxV B] w (FstP (fsrch l E B) w) := by
  have mixed : Tryd.prog.follows .mixedOrders = true := by kernel_rfl
  have HC := Lib.hid (fun V => parts_c p B V)
  unfold bxV PaP at HC
  unfold bxV
  refine (callsIn_wide (n := 8)).1 ?_
  refine callsIn_of_wp_marks Tryd.func34 rfl trivial ?_ rfl
  simp only [Tryd.ntmps34, List.size_toArray, List.length_cons, List.length_nil, Nat.reduceAdd, Nat.reduceSub, Array.replicate_succ, Array.replicate_zero, List.push_toArray, List.append_toArray, List.nil_append, List.cons_append]
  have HP := Lib.hid hP
  have HT := Lib.hid hT
  have HOK := Lib.hid hok
  have HB := Lib.hid hB
  clear hP hT hok hB
  gi_wp2_with (refine ⟨trivial, ?_⟩; gi_at_call 58; refine (callsIn_wide.2 (HC.out _)).mono ?_; rintro e w' ⟨rfl, rfl⟩)
  have M := FsW.made w p B
  obtain ⟨W0, hW0⟩ : ∃ V, ((((((w.alloc (.cells #[.pointer (some ⟨p, 0, none⟩)] 50)).alloc (.cells #[.int .u64 (B 0), .int .u64 (B 1), .int .u64 (B 2), .int .u64 (B 3), .int .u64 (B 4), .int .u64 (B 5), .int .u64 (B 6), .int .u64 (B 7), .int .u64 (B 8), .int .u64 (B 9), .int .u64 (B 10), .int .u64 (B 11)] 57)).alloc (.cells #[.slice none 0 0] 26)).alloc (.cells #[.bool false] 4)).alloc (.cells #[.pointer (some ⟨p, 0, none⟩)] 50)).alloc (.cells #[.int .u64 (B 0), .int .u64 (B 1), .int .u64 (B 2), .int .u64 (B 3), .int .u64 (B 4), .int .u64 (B 5), .int .u64 (B 6), .int .u64 (B 7), .int .u64 (B 8), .int .u64 (B 9), .int .u64 (B 10), .int .u64 (B 11)] 57)) = V := ⟨_, rfl⟩
  rw [hW0] at M ⊢
  clear hW0 HC
  obtain ⟨h, hh⟩ : ∃ b, w.heap.size = b := ⟨_, rfl⟩
  obtain ⟨e2, he2⟩ : ∃ b, w.heap.size + 1 + 1 + 1 + 1 + 1 = b := ⟨_, rfl⟩
  obtain ⟨e1, he1⟩ : ∃ b, w.heap.size + 1 + 1 + 1 + 1 = b := ⟨_, rfl⟩
  obtain ⟨g5, hg5⟩ : ∃ b, w.heap.size + 1 + 1 + 1 = b := ⟨_, rfl⟩
  obtain ⟨g4, hg4⟩ : ∃ b, w.heap.size + 1 + 1 = b := ⟨_, rfl⟩
  obtain ⟨g3, hg3⟩ : ∃ b, w.heap.size + 1 = b := ⟨_, rfl⟩
  have O : Hid (g3 = h + 1 ∧ g4 = h + 2 ∧ g5 = h + 3 ∧ e1 = h + 4 ∧ e2 = h + 5 ∧ W0.heap.size = h + 6) := by have := M.sz; unfold Hid; omega
  have MM := Lib.hid M
  rw [he2, he1, hg5, hg4, hg3, hh]
  have HH := Lib.hid hh
  have m4 : Boxed W0 g4 26 (.slice none 0 0) := by have := M.b4; rw [hg4] at this; exact this
  have m5 : Boxed W0 g5 4 (.bool false) := by have := M.b5; rw [hg5] at this; exact this
  have mc : W0.cell? ⟨h, 0, none⟩ = some (.pointer (some ⟨p, 0, none⟩)) := by have := M.c2; rw [hh] at this; exact this
  have me1 : W0.cell? ⟨e1, 0, none⟩ = some (.pointer (some ⟨p, 0, none⟩)) := by have := M.e1; rw [he1] at this; exact this
  have me2 : BxAt W0 e2 0 B := by have := M.e2; rw [he2] at this; exact this
  have M4 := Lib.hid m4
  have M5 := Lib.hid m5
  have MC := Lib.hid mc
  obtain ⟨rows, hrows⟩ : ∃ r, prs l E B = r := ⟨_, rfl⟩
  have HR := Lib.hid hrows
  have hFR : Hid (fsrch l E B = (rows.find? fun x => decide (x.2 = 0)).map fun x => recB l x.1) := by unfold Hid fsrch; rw [hrows]
  clear he2 he1 hg5 hg4 hg3 hh M m4 m5 mc hrows
  refine range_parts (n := 8) w (fun b => b = g4 ∨ b = g5) p l E B e1 e2 rfl rfl (by decide) HP.out HOK.out HB.out HT.out ht ?hN ?n1 ?n2 ?hw0 (FsI rows W0) (FsX h g4 g5 l rows w) ?hIb ?hIw (FsX.own h g4 g5 l rows w _ ?ho1 ?ho2) ?h0
    (fun x pb => { tmps := #[.pointer (some ⟨p, 0, none⟩), .agg #[.int .u64 (B 0), .int .u64 (B 1), .int .u64 (B 2), .int .u64 (B 3), .int .u64 (B 4), .int .u64 (B 5), .int .u64 (B 6), .int .u64 (B 7), .int .u64 (B 8), .int .u64 (B 9), .int .u64 (B 10), .int .u64 (B 11)], .pointer (some ⟨h, 0, none⟩), .pointer (some ⟨g3, 0, none⟩), .pointer (some ⟨g4, 0, none⟩), .pointer (some ⟨g5, 0, none⟩), .pointer (some ⟨pb, 0, none⟩), .int .u64 x.2, undef, undef, undef, .pointer (some ⟨p, 0, none⟩), .agg #[.int .u64 (B 0), .int .u64 (B 1), .int .u64 (B 2), .int .u64 (B 3), .int .u64 (B 4), .int .u64 (B 5), .int .u64 (B 6), .int .u64 (B 7), .int .u64 (B 8), .int .u64 (B 9), .int .u64 (B 10), .int .u64 (B 11)], .func (.func 78) #[] #[.pointer (some ⟨e1, 0, none⟩), .pointer (some ⟨e2, 0, none⟩)], bxV x.1, .int .u64 x.2, undef, undef, undef, undef, undef, undef, undef, undef, undef, undef, undef, undef, undef, undef, undef, undef, undef, undef, undef, undef, undef, undef, undef, undef, undef, undef, undef, undef, undef, undef, undef, undef], defers := [] }) ?assign ?body ?done ?stop
  case hN => intro b hb; have := O.out; have := HH.out; rcases hb with e | e <;> omega
  case n1 => have := O.out; exact ⟨fun e => by rcases e with e | e <;> omega, by omega⟩
  case n2 => have := O.out; exact ⟨fun e => by rcases e with e | e <;> omega, by omega⟩
  case hw0 => have := O.out; have := HH.out; omega
  case hIb => exact fun k W W' hI hb => ⟨hI.1.trans hb, hI.2⟩
  case hIw =>
    intro k W hI
    refine ⟨MM.out.bel.trans (hI.1.mono MM.out.bel.size), (hI.1.cell (p := ⟨e1, 0, none⟩) (cellLt me1)).trans me1, me2.below hI.1 (cellLt (me2 0 (by omega)))⟩
  case ho1 => exact Nat.le_of_eq HH.out.symm
  case ho2 => have := O.out; omega
  case h0 => exact ⟨Below.refl _ _, fun j x hj => absurd hj (by omega)⟩
  case assign =>
    intro l m x W K hK
    unfold bxV
    gi_wp2
    exact hK
  case body =>
    rintro l' m k x pb V hx hI hbx hpl hpb
    rw [HR.out] at hx
    obtain ⟨C, F⟩ := x
    by_cases h0 : F = 0
    · subst h0
      have hcx := prs_ok (E := E) HB.out (C, 0) (by rw [HR.out]; exact List.mem_of_getElem? hx)
      have HCX := Lib.hid hcx
      have HX0 := Lib.hid hx
      have HI := Lib.hid hI
      have HBX := Lib.hid hbx
      have bV : Below w.heap.size w V := MM.out.bel.trans (hI.1.mono MM.out.bel.size)
      have BV := Lib.hid bV
      obtain ⟨fb, fc, f0, fl, hfl⟩ := (HP.out.below bV).fs
      have HFL := Lib.hid hfl
      obtain ⟨n, hn⟩ : ∃ n, l.length = n := ⟨_, rfl⟩
      have HN := Lib.hid hn
      have n12 : n ≤ 12 := by rw [← hn]; exact HOK.out.n12
      rw [hn] at f0
      have mc : V.cell? ⟨h, 0, none⟩ = some (.pointer (some ⟨p, 0, none⟩)) := (hI.1.cell (p := ⟨h, 0, none⟩) (cellLt MC.out)).trans MC.out
      have hm0 := run_make_row' (P := Tryd.prog) 26 3 (.int .i64 0) 8 Tryd.underlying26 infoIn rfl .i64 .i64 n (by omega) (by omega)
      obtain ⟨Z, hZ, hZ2⟩ := zerosI_ex n
      rw [hZ] at hm0
      obtain ⟨rb, hrb⟩ : ∃ r, V.heap.size = r := ⟨_, rfl⟩
      obtain ⟨W5, hW5⟩ : ∃ W, V.alloc (.cells Z 3) = W := ⟨_, rfl⟩
      have b5 : Below V.heap.size V W5 := by rw [← hW5]; exact bel_one _ _
      have B5 := Lib.hid b5
      have d0 : W5.cell? ⟨h, 0, none⟩ = some (.pointer (some ⟨p, 0, none⟩)) := (b5.cell (p := ⟨h, 0, none⟩) (cellLt mc)).trans mc
      have d1 : W5.cell? ⟨p, 0, none⟩ = some (.slice (some ⟨fb, 0, none⟩) n fc) := (b5.cell (p := ⟨p, 0, none⟩) (cellLt f0)).trans f0
      have R5 : Hid ((∀ q, q < n → W5.cell? ⟨rb, q, none⟩ = some (.int .i64 0)) ∧ (∀ o, W5.frozen? ⟨rb, o, none⟩ = false) ∧ rb < W5.heap.size ∧ V.heap.size = rb) := by
        unfold Hid
        refine ⟨fun q hq => ?_, fun o => ?_, ?_, hrb⟩
        · rw [← hW5, ← hrb, World.cell?_alloc_new]; exact hZ2 q hq
        · rw [← hW5, ← hrb]; simp
        · rw [← hW5, ← hrb]; simp
      have g1 : ((0 : Int) != 0) = false := rfl
      have PB : Hid (pb < rb) := by unfold Hid; omega
      have FB : Hid (fb < V.heap.size) := fl
      clear hcx hx hI hbx bV hfl hn hZ hZ2 b5 hpl fl
      gi_wp2_with fail
      clear hm0 hW5 f0 mc
      have d9 := Lib.hid d0
      clear d0 d1
      gi_loopw [9, 10, 29] (fun _ _ iv wr => ∃ j : Nat, iv = .int .i64 j ∧ Hid (j ≤ n ∧ Kx (fun b => b = rb) W5 wr ∧ (∀ q, q < n → wr.cell? ⟨rb, q, none⟩ = some (.int .i64 (if q < j then fn (recB l C) q else 0))) ∧ (∀ o, wr.frozen? ⟨rb, o, none⟩ = false) ∧ rb < wr.heap.size)) (fun _ _ iv _ => n - (intOf iv).toNat)
      case atStart => exact ⟨0, rfl, Nat.zero_le _, Kx.refl _ _, R5.out.1, R5.out.2.1, R5.out.2.2.1⟩
      case round =>
        obtain ⟨j, rfl, hS⟩ := hrel
        obtain ⟨hj, hkx, hcs, hfr, hrl⟩ := hS.out
        have BVr : Hid (Below V.heap.size V wr) := B5.out.trans (hkx.below B5.out.size (fun b e => by rw [e, R5.out.2.2.2]; exact Nat.le_refl _))
        by_cases hlt : j < n
        · have hlt' : (j : Int) < (n : Int) := by omega
          have hjl : j < l.length := by rw [HN.out]; exact hlt
          have hj0 : (0 : Int) ≤ (j : Int) := by omega
          have hj12 : (j : Int) < 12 := by omega
          obtain ⟨⟨c0, ⟨ga, gc, c1, hrd⟩, c2⟩, ⟨mm, c3, _, _⟩, hh', c4', c4, _, _⟩ := (HFL.out j hjl).below BVr.out FB.out
          obtain ⟨t, htt⟩ : ∃ t, ch C j = t := ⟨_, rfl⟩
          have hcj := HCX.out j hjl
          have h20 := HOK.out.c20 j hjl
          have htl : t < (fd l j).cs.length := by rw [← htt]; exact ch_lt (by omega) hcj.1 hcj.2
          obtain ⟨gb, go, rfl, gl, hgc⟩ := hrd.2 (by omega)
          have c5 := hgc t htl
          obtain ⟨x, hx⟩ : ∃ x, fn (fd l j).cs t = x := ⟨_, rfl⟩
          have HXR : Hid (fn (recB l C) j = x) := by unfold Hid; rw [rec_at hjl, htt]; exact hx
          rw [hx] at c5
          have c6 := HBX.out.below BVr.out (by have := PB.out; have := R5.out.2.2.2; omega) j (by omega)
          rw [Nat.zero_add] at c6
          obtain ⟨cj, hcje⟩ : ∃ v, C j = v := ⟨_, rfl⟩
          have hcj64 : cj < 18446744073709551616 := by
            rw [← hcje]; exact Nat.lt_of_lt_of_le hcj.2 (Nat.pow_le_pow_right (by omega) (show (fd l j).cs.length ≤ 64 by omega))
          have hcj0 : cj ≠ 0 := by rw [← hcje]; exact hcj.1
          have hctz : Lib.ctz 64 cj = t := by rw [← hcje, ← htt]; rfl
          rw [hcje] at c6
          obtain ⟨u, hu⟩ : ∃ u, fd l j = u := ⟨_, rfl⟩
          rw [hu] at c0 c1 c2 c4 htl
          obtain ⟨m', hm'⟩ : ∃ m, u.cs.length = m := ⟨_, rfl⟩
          rw [hm'] at c1 c4 htl
          have ht0 : (0 : Int) ≤ (t : Int) := by omega
          have htm : (t : Int) < (m' : Int) := by omega
          obtain ⟨z, hzz⟩ : ∃ z, wr.heap.size = z := ⟨_, rfl⟩
          obtain ⟨w3, hw3⟩ : ∃ W, wr.alloc (.cells #[.string u.nm, .slice (some ⟨gb, go, none⟩) m' gc, .int .i64 u.wt, .map (some mm), .slice (some ⟨hh', 0, none⟩) m' c4'] 94) = W := ⟨_, rfl⟩
          have b3 : Below wr.heap.size wr w3 := by rw [← hw3]; exact bel_one _ _
          have B3 := Lib.hid b3
          have HS3 : Hid (∀ X, Below w3.heap.size w3 X → S3c ⟨z, 1, none⟩ ⟨pb, j, none⟩ ⟨gb, go + t, none⟩ (.slice (some ⟨gb, go, none⟩) m' gc) (.int .u64 cj) (.int .i64 x) X) := by
            have e0 : w3.cell? ⟨z, 1, none⟩ = some (.slice (some ⟨gb, go, none⟩) m' gc) := by rw [← hw3, ← hzz, World.cell?_alloc_new]; rfl
            have e1 := (b3.cell (p := ⟨pb, j, none⟩) (cellLt c6)).trans c6
            have e2 := (b3.cell (p := ⟨gb, go + t, none⟩) (cellLt c5)).trans c5
            exact fun X hX => ⟨(hX.cell (p := ⟨z, 1, none⟩) (cellLt e0)).trans e0, (hX.cell (p := ⟨pb, j, none⟩) (cellLt e1)).trans e1, (hX.cell (p := ⟨gb, go + t, none⟩) (cellLt e2)).trans e2⟩
          have NR : Hid (rb ≠ z ∧ rb ≠ pb ∧ gb < rb) := by
            have h1 := PB.out
            refine ⟨by omega, by omega, ?_⟩
            have h2 := (HFL.out j hjl).1.2.1
            obtain ⟨ga', gc', e1', hrd'⟩ := h2
            have e1'' := (BVr.out.cell (p := ⟨fb, j * 5 + 1, none⟩) FB.out).trans e1'
            rw [hu, hm', c1] at e1''
            injection e1'' with e1''
            injection e1'' with e1''
            rw [← e1''] at hrd'
            obtain ⟨gb', go', e3, gl', _⟩ := hrd'.2 (by rw [hu, hm']; omega)
            injection e3 with e3
            injection e3 with e3
            rw [← e3, R5.out.2.2.2] at gl'
            exact gl'
          have C1 : Hid (∀ X, Below w3.heap.size w3 X → Calls Tryd.prog 54 #[.int .u64 cj] X fun e w' => e = .returned (.int .i64 t) ∧ w' = X) := fun X hX => by
            have := first_c cj X hcj64 hcj0 (tab_below HT.out ht (BV.out.trans ((BVr.out.trans ((b3.trans (hX.mono b3.size)).mono BVr.out.size)).mono BV.out.size)))
            rw [hctz] at this; exact this
          have HQ : Hid (∀ X, Below w3.heap.size w3 X → (∃ v, X.cell? ⟨rb, j, none⟩ = some v) ∧ X.frozen? ⟨rb, j, none⟩ = false ∧ S3c ⟨z, 1, none⟩ ⟨pb, j, none⟩ ⟨gb, go + t, none⟩ (.slice (some ⟨gb, go, none⟩) m' gc) (.int .u64 cj) (.int .i64 x) (X.setCell ⟨rb, j, none⟩ (.int .i64 x)) ∧
              (j + 1 ≤ n ∧ Kx (fun b => b = rb) W5 (X.setCell ⟨rb, j, none⟩ (.int .i64 x)) ∧ (∀ q, q < n → (X.setCell ⟨rb, j, none⟩ (.int .i64 x)).cell? ⟨rb, q, none⟩ = some (.int .i64 (if q < j + 1 then fn (recB l C) q else 0))) ∧ (∀ o, (X.setCell ⟨rb, j, none⟩ (.int .i64 x)).frozen? ⟨rb, o, none⟩ = false) ∧ rb < (X.setCell ⟨rb, j, none⟩ (.int .i64 x)).heap.size)) := fun X hX => by
            have bX : Below wr.heap.size wr X := b3.trans (hX.mono b3.size)
            have cX : ∀ q, q < n → X.cell? ⟨rb, q, none⟩ = some (.int .i64 (if q < j then fn (recB l C) q else 0)) := fun q hq => (bX.cell (p := ⟨rb, q, none⟩) hrl).trans (hcs q hq)
            have fX : ∀ o, X.frozen? ⟨rb, o, none⟩ = false := fun o => (bX.frozen (p := ⟨rb, o, none⟩) hrl).trans (hfr o)
            have nq : ∀ {b' o' v'}, b' ≠ rb → X.cell? ⟨b', o', none⟩ = some v' → (X.setCell ⟨rb, j, none⟩ (.int .i64 x)).cell? ⟨b', o', none⟩ = some v' := fun {b' o' v'} hb e => by
              rw [World.cell?_setCell_other _ _ _ _ (fun q => by injection q with q; exact hb q.symm)]; exact e
            obtain ⟨s0, s1, s2⟩ := HS3.out X hX
            refine ⟨⟨_, cX j hlt⟩, fX j, ⟨nq (by have := NR.out.1; omega) s0, nq (by have := NR.out.2.1; omega) s1, nq (by have := NR.out.2.2; omega) s2⟩, hlt, ?_, fun q hq => ?_, fun o => by rw [World.frozen?_setCell]; exact fX o, ?_⟩
            · exact (hkx.trans (Kx.of_below bX)).trans (Kx.of_grown (r := rb) (grown_set X _ _ _) (.inl rfl))
            · by_cases e : q = j
              · rw [e, World.cell?_setCell_same _ _ _ (cX j hlt), if_pos (by omega), HXR.out]
              · rw [World.cell?_setCell_other _ _ _ _ (fun y => by injection y with _ y; exact e y.symm), cX q hq]
                by_cases e2 : q < j
                · rw [if_pos e2, if_pos (by omega)]
                · rw [if_neg e2, if_neg (by omega)]
            · have := bX.size; simp; omega
          clear hS hj hkx hcs hfr hrl hrd htt hcj h20 htl gl hgc c5 hx c6 hcje hcj64 hcj0 hctz hu hm' b3
          gi_wp2_with fail
          clear hw3
          refine round_region_held_drew (S := (S3c ⟨z, 1, none⟩ ⟨pb, j, none⟩ ⟨gb, go + t, none⟩ (.slice (some ⟨gb, go, none⟩) m' gc) (.int .u64 cj) (.int .i64 x))) (by assumption) (by kernel_rfl) (by exact HS3.out _ (Below.refl _ _).drew) (fun hS => ?_)
          obtain ⟨WD, hWD⟩ : ∃ W, w3.drew = W := ⟨_, rfl⟩
          have D0 : Hid (Below w3.heap.size w3 WD) := by unfold Hid; rw [← hWD]; exact (Below.refl _ _).drew
          rw [hWD] at hS ⊢
          clear hWD
          refine wpAnyH_take (i := 0) (v := ?v0a0) rfl (by kernel_rfl) (by kernel_rfl) (by kernel_rfl) (fun _ _ _ h => h) (Or.inl ⟨by rfl, ?hy0a0⟩) (by assumption) ?rest0a0
          case hy0a0 =>
            intro w hSw
            dsimp only [S3c] at hSw
            go_simp
            try with_reducible rfl
          simp only [Act.put, List.getElem_toArray, List.getElem_cons_succ, List.getElem_cons_zero, List.setIfInBounds_toArray, List.set_cons_zero, List.set_cons_succ]
          refine wpAnyH_take (i := 1) (v := ?v1a1) rfl (by kernel_rfl) (by kernel_rfl) (by kernel_rfl) (fun _ _ _ h => h) (Or.inl ⟨by rfl, ?hy1a1⟩) (by assumption) ?rest1a1
          case hy1a1 =>
            intro w hSw
            dsimp only [S3c] at hSw
            go_simp
            try with_reducible rfl
          simp only [Act.put, List.getElem_toArray, List.getElem_cons_succ, List.getElem_cons_zero, List.setIfInBounds_toArray, List.set_cons_zero, List.set_cons_succ]
          refine wpAnyH_take (i := 2) (v := ?v2a2) rfl (by kernel_rfl) (by kernel_rfl) (by kernel_rfl) (fun _ _ _ h => h) (Or.inl ⟨by rfl, ?hy2a2⟩) (by assumption) ?rest2a2
          case hy2a2 =>
            intro w hSw
            dsimp only [S3c] at hSw
            go_simp
            try with_reducible rfl
          simp only [Act.put, List.getElem_toArray, List.getElem_cons_succ, List.getElem_cons_zero, List.setIfInBounds_toArray, List.set_cons_zero, List.set_cons_succ]
          refine wpAnyH_take (i := 3) (v := ?v3a3) rfl (by kernel_rfl) (by kernel_rfl) (by kernel_rfl) (fun _ _ _ h => h) (Or.inl ⟨by rfl, ?hy3a3⟩) (by assumption) ?rest3a3
          case hy3a3 =>
            intro w hSw
            dsimp only [S3c] at hSw
            go_simp
            try with_reducible rfl
          simp only [Act.put, List.getElem_toArray, List.getElem_cons_succ, List.getElem_cons_zero, List.setIfInBounds_toArray, List.set_cons_zero, List.set_cons_succ]
          refine wpAnyH_take (i := 4) (v := ?v4a4) rfl (by kernel_rfl) (by kernel_rfl) (by kernel_rfl) (fun _ _ _ h => h) (Or.inl ⟨by rfl, ?hy4a4⟩) (by assumption) ?rest4a4
          case hy4a4 =>
            intro w hSw
            dsimp only [S3c] at hSw
            go_simp
            try with_reducible rfl
          simp only [Act.put, List.getElem_toArray, List.getElem_cons_succ, List.getElem_cons_zero, List.setIfInBounds_toArray, List.set_cons_zero, List.set_cons_succ]
          refine wpAnyH_take (i := 5) (v := ?v5a5) rfl (by kernel_rfl) (by kernel_rfl) (by kernel_rfl) (fun _ _ _ h => h) (Or.inl ⟨by rfl, ?hy5a5⟩) (by assumption) ?rest5a5
          case hy5a5 =>
            intro w hSw
            dsimp only [S3c] at hSw
            go_simp
            try with_reducible rfl
          simp only [Act.put, List.getElem_toArray, List.getElem_cons_succ, List.getElem_cons_zero, List.setIfInBounds_toArray, List.set_cons_zero, List.set_cons_succ]
          refine wpAnyH_take (i := 6) (v := ?v6a6) rfl (by kernel_rfl) (by kernel_rfl) (by kernel_rfl) (fun _ _ _ h => h) (Or.inl ⟨by rfl, ?hy6a6⟩) (by assumption) ?rest6a6
          case hy6a6 =>
            intro w hSw
            dsimp only [S3c] at hSw
            go_simp
            try with_reducible rfl
          simp only [Act.put, List.getElem_toArray, List.getElem_cons_succ, List.getElem_cons_zero, List.setIfInBounds_toArray, List.set_cons_zero, List.set_cons_succ]
          refine wpAnyH_take (i := 7) (v := ?v7a7) rfl (by kernel_rfl) (by kernel_rfl) (by kernel_rfl) (fun _ _ _ h => h) (Or.inl ⟨by rfl, ?hy7a7⟩) (by assumption) ?rest7a7
          case hy7a7 =>
            intro w hSw
            dsimp only [S3c] at hSw
            go_simp
            try with_reducible rfl
          simp only [Act.put, List.getElem_toArray, List.getElem_cons_succ, List.getElem_cons_zero, List.setIfInBounds_toArray, List.set_cons_zero, List.set_cons_succ]
          refine wpAnyH_ready (rs := [8]) (by kernel_rfl) (by simp) ?_
          refine AllReadyH.cons rfl (fun K hK => ?_) AllReadyH.nil
          go_simp
          refine (C1.out WD D0.out).mono ?_
          rintro e1 w4 ⟨rfl, rfl⟩
          try go_simp
          have hT := hS
          refine hK _ _ hT (fun _ => ?_)
          clear hK K hT
          try simp only [Act.put, List.setIfInBounds_toArray, List.set_cons_zero, List.set_cons_succ]
          refine wpAnyH_take (i := 9) (v := ?v9b9) rfl (by kernel_rfl) (by kernel_rfl) (by kernel_rfl) (fun _ _ _ h => h) (Or.inl ⟨by rfl, ?hy9b9⟩) (by assumption) ?rest9b9
          case hy9b9 =>
            intro w hSw
            dsimp only [S3c] at hSw
            go_simp
            try with_reducible rfl
          simp only [Act.put, List.getElem_toArray, List.getElem_cons_succ, List.getElem_cons_zero, List.setIfInBounds_toArray, List.set_cons_zero, List.set_cons_succ]
          refine wpAnyH_take (i := 10) (v := ?v10b10) rfl (by kernel_rfl) (by kernel_rfl) (by kernel_rfl) (fun _ _ _ h => h) (Or.inl ⟨by rfl, ?hy10b10⟩) (by assumption) ?rest10b10
          case hy10b10 =>
            intro w hSw
            dsimp only [S3c] at hSw
            go_simp
            try with_reducible rfl
          simp only [Act.put, List.getElem_toArray, List.getElem_cons_succ, List.getElem_cons_zero, List.setIfInBounds_toArray, List.set_cons_zero, List.set_cons_succ]
          refine wpAnyH_take (i := 11) (v := ?v11a11) rfl (by kernel_rfl) (by kernel_rfl) (by kernel_rfl) (fun _ _ _ h => h) (Or.inl ⟨by rfl, ?hy11a11⟩) (by assumption) ?rest11a11
          case hy11a11 =>
            intro w hSw
            dsimp only [S3c] at hSw
            go_simp
            try with_reducible rfl
          simp only [Act.put, List.getElem_toArray, List.getElem_cons_succ, List.getElem_cons_zero, List.setIfInBounds_toArray, List.set_cons_zero, List.set_cons_succ]
          refine wpAnyH_ready (rs := [12]) (by kernel_rfl) (by simp) ?_
          refine AllReadyH.cons rfl (fun K hK => ?_) AllReadyH.nil
          obtain ⟨⟨v0, q0⟩, q1, q2, NX⟩ := HQ.out w4 D0.out
          have NX := Lib.hid NX
          go_simp
          refine hK _ _ q2 (fun _ => ?_)
          clear hK K
          try simp only [Act.put, List.setIfInBounds_toArray, List.set_cons_zero, List.set_cons_succ]
          refine wpAnyH_done (by kernel_rfl) ?_ _
          refine OnlyN.normal ?_
          obtain ⟨W9, hW9⟩ : ∃ W, w4.setCell ⟨rb, j, none⟩ (.int .i64 x) = W := ⟨_, rfl⟩
          rw [hW9] at NX ⊢
          clear hS q0 q1 q2 hW9 c0 c1 c2 c3 c4 C1
          gi_wp2
          go_roundw
          case rel => exact ⟨j + 1, by go_num, NX.out⟩
          case measure => simp [intOf]; omega
        · have hlt' : ¬ (j : Int) < (n : Int) := by omega
          have hjn : j = n := by omega
          have bV2 := BVr.out
          have b04 := (HI.out.1.trans (bV2.mono HI.out.1.size))
          have m4 : Boxed wr g4 26 (.slice none 0 0) := (b04.block _ M4.out.lt).trans M4.out
          have m5 : Boxed wr g5 4 (.bool false) := (b04.block _ M5.out.lt).trans M5.out
          have oO := O.out
          have hHH := HH.out
          have sz0 := HI.out.1.size
          have hVr := R5.out.2.2.2
          obtain ⟨V1, hV1⟩ : ∃ X, wr.setCell ⟨g4, 0, none⟩ (.slice (some ⟨rb, 0, none⟩) n n) = X := ⟨_, rfl⟩
          obtain ⟨V2, hV2⟩ : ∃ X, V1.setCell ⟨g5, 0, none⟩ (.bool true) = X := ⟨_, rfl⟩
          have S0 : Boxed V1 g4 26 (.slice (some ⟨rb, 0, none⟩) n n) := by rw [← hV1]; exact m4.set _
          have S1 : Boxed V1 g5 4 (.bool false) := by rw [← hV1]; exact m5.other (by omega) _
          have S2 : Boxed V2 g5 4 (.bool true) := by rw [← hV2]; exact S1.set _
          have S3 : Boxed V2 g4 26 (.slice (some ⟨rb, 0, none⟩) n n) := by rw [← hV2]; exact S0.other (by omega) _
          have PP : Hid (Kx (fun b => b = g4 ∨ b = g5) V V2 ∧ FsX h g4 g5 l rows w k V2) := by
            refine ⟨?_, (C, 0), some ⟨rb, 0, none⟩, n, HX0.out, rfl, HI.out.2, ?_, S2, ?_, ?_⟩
            · rw [← hV2, ← hV1]
              exact ((Kx.of_below bV2).trans (Kx.of_grown (r := g4) (grown_set _ _ _ _) (.inl (.inl rfl)))).trans (Kx.of_grown (r := g5) (grown_set _ _ _ _) (.inl (.inr rfl)))
            · rw [HN.out]; exact S3
            · refine ⟨by simp [recB]; rw [HN.out]; omega, fun _ => ⟨rb, 0, rfl, ?_, fun q hq => ?_⟩⟩
              · rw [← hV2, ← hV1]; simpa using hrl
              · have hq : q < n := by rw [← HN.out]; simpa [recB] using hq
                have := hcs q hq
                rw [if_pos (by omega)] at this
                rw [Nat.zero_add, ← hV2, ← hV1, World.cell?_setCell_other _ _ _ _ (fun y => by injection y with y; omega), World.cell?_setCell_other _ _ _ _ (fun y => by injection y with y; omega)]
                exact this
            · rw [← hV2, ← hV1, ← hHH]
              exact ((BV.out.trans (bV2.mono BV.out.size)).setCell (p := ⟨g4, 0, none⟩) (by show w.heap.size ≤ g4; omega) _).setCell (p := ⟨g5, 0, none⟩) (by show w.heap.size ≤ g5; omega) _
          have c4 := m4.cell
          have c5 := S1.cell
          have f4 := m4.frozen
          have f5 := S1.frozen
          clear hlt hS hj hkx hcs hfr hrl hjn bV2 b04 m4 m5 oO hHH sz0 hVr S0 S1 S2 S3
          gi_wp2
          exact PP.out
    · have g1 : ((F : Int) != 0) = true := by simp; omega
      have PP : Hid (Below V.heap.size V V ∧ FsI rows W0 (k + 1) V) := by
        refine ⟨Below.refl _ _, hI.1, fun j y hj hy => ?_⟩
        by_cases e : j = k
        · subst e
          rw [hx] at hy
          injection hy with hy
          rw [← hy]; exact h0
        · exact hI.2 j y (by omega) hy
      clear hI hbx hx h0
      gi_wp2
      exact PP.out
  case done =>
    intro W hI hK
    rw [HR.out] at hI
    have b4 := hI.1
    have B4 : Boxed W g4 26 (.slice none 0 0) := (b4.block _ M4.out.lt).trans M4.out
    have B5 : Boxed W g5 4 (.bool false) := (b4.block _ M5.out.lt).trans M5.out
    obtain ⟨V1, hV1⟩ : ∃ V, W.setCell ⟨g4, 0, none⟩ (.slice none 0 0) = V := ⟨_, rfl⟩
    obtain ⟨V2, hV2⟩ : ∃ V, V1.setCell ⟨g5, 0, none⟩ (.bool false) = V := ⟨_, rfl⟩
    have oO := O.out
    have S0 : Boxed V1 g4 26 (.slice none 0 0) := by rw [← hV1]; exact B4.set _
    have S1 : Boxed V1 g5 4 (.bool false) := by rw [← hV1]; exact B5.other (by omega) _
    have S2 : Boxed V2 g5 4 (.bool false) := by rw [← hV2]; exact S1.set _
    have S3 : Boxed V2 g4 26 (.slice none 0 0) := by rw [← hV2]; exact S0.other (by omega) _
    have K2 : V2.heap[W0.heap.size]? = some (.deferred (some [])) := by
      rw [← hV2, ← hV1]
      exact (Below.heap_setCell _ _ _ _ (by show W0.heap.size ≠ g5; omega)).trans ((Below.heap_setCell _ _ _ _ (by show W0.heap.size ≠ g4; omega)).trans hK)
    have BL : Below w.heap.size w V2 := by
      rw [← hV2, ← hV1]
      have hh := HH.out
      exact ((MM.out.bel.trans (b4.mono MM.out.bel.size)).setCell (p := ⟨g4, 0, none⟩) (by show w.heap.size ≤ g4; omega) _).setCell (p := ⟨g5, 0, none⟩) (by show w.heap.size ≤ g5; omega) _
    have r0 := cell_kept S3.cell (grownBy_putObj' V2 W0.heap.size (.deferred none)) (fun r e => by cases e; exact ⟨_, K2, rfl⟩)
    have r1 := cell_kept S2.cell (grownBy_putObj' V2 W0.heap.size (.deferred none)) (fun r e => by cases e; exact ⟨_, K2, rfl⟩)
    have RR : Hid (FstP (fsrch l E B) w (.returned (.tuple #[.slice none 0 0, .bool false])) (V2.putObj W0.heap.size (.deferred none))) := by
      refine ⟨?_, .inr ⟨?_, rfl⟩⟩
      · exact BL.grown (grownBy_putObj' _ _ _) BL.size (fun k e => by cases e; have := HH.out; omega)
      · rw [hFR.out, find_none fun j x hj => hI.2 j x hj]; rfl
    have HK2 := Lib.hid K2
    have c4 := B4.cell
    have c5 := S1.cell
    have f4 := B4.frozen
    have f5 := S1.frozen
    clear hI hK b4 B4 B5 S0 S1 S2 S3 K2 BL oO
    gi_wp2
    refine ⟨by simp, .inl ⟨_, _, rfl, run_takeDeferred HK2.out, ?_⟩⟩
    exact ⟨_, by simp [results, Tryd.results34, go_sem, r0, r1], RR.out⟩
  case stop =>
    intro k W hk hX hK
    obtain ⟨x, a, c, hx, h0, hbf, b4, b5, hrd, hbl⟩ := hX
    have r0 := cell_kept b4.cell (grownBy_putObj' W W0.heap.size (.deferred none)) (fun r e => by cases e; exact ⟨_, hK, rfl⟩)
    have r1 := cell_kept b5.cell (grownBy_putObj' W W0.heap.size (.deferred none)) (fun r e => by cases e; exact ⟨_, hK, rfl⟩)
    have RR : Hid (FstP (fsrch l E B) w (.returned (.tuple #[.slice a l.length c, .bool true])) (W.putObj W0.heap.size (.deferred none))) := by
      refine ⟨?_, .inl ⟨recB l x.1, a, c, ?_, ?_, ?_⟩⟩
      · rw [HH.out]; exact hbl.grown (grownBy_putObj' _ _ _) (by have := HH.out; have := hbl.size; omega) (fun k e => by cases e; have := O.out; omega)
      · rw [hFR.out, find_some hx h0 hbf]; rfl
      · rw [show (recB l x.1).length = l.length by simp [recB]]
      · exact hrd.own (grownBy_putObj' W W0.heap.size (.deferred none)) (fun r e => by cases e; exact ⟨_, hK, rfl⟩)
    have HK2 := Lib.hid hK
    clear hx h0 hbf b4 b5 hrd hbl hK
    gi_wp2
    refine ⟨by simp, .inl ⟨_, _, rfl, run_takeDeferred HK2.out, ?_⟩⟩
    exact ⟨_, by simp [results, Tryd.results34, go_sem, r0, r1], RR.out⟩
end Go.Proofs.YtadfmplafehjlaaDoor
namespace Go.Proofs.YtadfmplafehjlaaDoor
open Go.RowKit Go.WideMaps Go.Maps

theorem Env.below {w w' : World} (h : Env w) (hb : Below w.heap.size w w') : Env w' := ⟨Go.Joins.tab_stays gSpace h.asp hb (Nat.le_refl _)⟩
theorem neqB {a b : ByteArray} (h : a ≠ b) : (a.toList == b.toList) = false := by
  rw [beq_eq_false_iff_ne]
  intro e
  rw [Lib.toList_data, Lib.toList_data] at e
  apply h
  cases a; cases b
  simpa using e
theorem within_c (n lo hi : Int) (w : World) : Calls Tryd.prog 35 #[.int .i64 n, .int .i64 lo, .int .i64 hi] w fun e w' => e = .returned (.bool (decide (lo ≤ n ∧ n ≤ hi))) ∧ w' = w := by
  by_cases h1 : lo ≤ n
  · by_cases h2 : n ≤ hi
    · have e : Hid (decide (lo ≤ n ∧ n ≤ hi) = true) := by unfold Hid; simp; omega
      go_enter Tryd.func35, Tryd.ntmps35
      go_wp2
      go_ret
      exact ⟨by rw [e.out]; rfl, rfl⟩
    · have e : Hid (decide (lo ≤ n ∧ n ≤ hi) = false) := by unfold Hid; simp; omega
      have h2' : decide (n ≤ hi) = false := by simp; omega
      clear h2
      go_enter Tryd.func35, Tryd.ntmps35
      go_wp2
      go_ret
      exact ⟨by rw [e.out]; rfl, rfl⟩
  · have e : Hid (decide (lo ≤ n ∧ n ≤ hi) = false) := by unfold Hid; simp; omega
    have h1' : decide (lo ≤ n) = false := by simp; omega
    clear h1
    go_enter Tryd.func35, Tryd.ntmps35
    go_wp2
    go_ret
    exact ⟨by rw [e.out]; rfl, rfl⟩
def fdG (ns : Nat → ByteArray) (k : Nat) (nm : ByteArray) (cs : List Int) (wt : Int) : Int :=
  if nmE ns nm k ≠ 0 then nmE ns nm k else if codesS cs ≠ 0 then codesS cs else wtE wt
theorem fdE_is (l : List Fd) (k : Nat) : fdE l k = fdG (fun i => (fd l i).nm) k (fd l k).nm (fd l k).cs (fd l k).wt := rfl
set_option maxHeartbeats 4000000 in
theorem rcheckField_c (a : Option Addr) (ce : Nat) (l : List Fd) (k : Nat) (nm : ByteArray) (cs : List Int) (wt : Int) (a' : Option Addr) (c' : Nat) (w0 w : World) (hl : RdF w0 a l) (hk : k ≤ l.length) (hcs : Rd w0 a' cs) (hb : Below w0.heap.size w0 w) (hE : Env w0) :
    Calls Tryd.prog 55 #[.agg #[.string nm, .slice a' cs.length c', .int .i64 wt], .slice a k ce] w (IntP (fdG (fun i => (fd l i).nm) k nm cs wt) w) := by
  have h9 := hl.1
  have h8 := hcs.1
  obtain ⟨W1, hW1⟩ : ∃ W1, w.alloc (.cells #[.string nm, .slice a' cs.length c', .int .i64 wt] 39) = W1 := ⟨_, rfl⟩
  have B1 : Hid (Below w.heap.size w W1 ∧ W1.heap.size = w.heap.size + 1 ∧ W1.cell? ⟨w.heap.size, 0, none⟩ = some (.string nm) ∧ W1.cell? ⟨w.heap.size, 1, none⟩ = some (.slice a' cs.length c') ∧ W1.cell? ⟨w.heap.size, 2, none⟩ = some (.int .i64 wt)) := by
    unfold Hid
    rw [← hW1]
    exact ⟨bel_one _ _, by simp, by rw [World.cell?_alloc_at _ _ _ _ rfl]; rfl, by rw [World.cell?_alloc_at _ _ _ _ rfl]; rfl, by rw [World.cell?_alloc_at _ _ _ _ rfl]; rfl⟩
  have BW1 : Hid (Below w0.heap.size w0 W1) := hb.trans (B1.out.1.mono hb.size)
  have HB := Lib.hid hb
  have HNm := Lib.hid (rIsName_c nm W1 (hE.below BW1.out))
  have HL := Lib.hid hl
  have HCS := Lib.hid hcs
  have v0 := B1.out.2.2.1
  clear hl hcs hE hb
  by_cases h1 : nameS nm = false
  · have e : Hid (fdG (fun i => (fd l i).nm) k nm cs wt = 5) := by unfold Hid fdG nmE; simp [h1]
    rw [h1] at HNm
    clear h1
    go_enter Tryd.func55, Tryd.ntmps55
    go_wp2_with fail
    refine HNm.out.mono ?_
    rintro e W2 ⟨rfl, b2⟩
    have R := Lib.hid (B1.out.1.trans (b2.mono (by have := B1.out.2.1; omega)))
    clear b2 v0 hW1
    go_wp2
    go_ret
    exact ⟨by rw [e.out]; rfl, R.out⟩
  have h1' : nameS nm = true := by simpa using h1
  have HG : Hid (fdG (fun i => (fd l i).nm) k nm cs wt = if old (fun i => (fd l i).nm) nm k = true then 6 else if codesS cs ≠ 0 then codesS cs else wtE wt) := by
    unfold Hid fdG nmE
    rw [if_neg h1]
    by_cases ho : old (fun i => (fd l i).nm) nm k = true
    · simp [ho]
    · simp [ho]
  rw [h1'] at HNm
  clear h1 h1'
  go_enter Tryd.func55, Tryd.ntmps55
  go_wp2_with fail
  refine HNm.out.mono ?_
  rintro e W2 ⟨rfl, b2⟩
  have R : Hid (Below w.heap.size w W2) := B1.out.1.trans (b2.mono (by have := B1.out.2.1; omega))
  have X : Hid (W2.cell? ⟨w.heap.size, 0, none⟩ = some (.string nm) ∧ W2.cell? ⟨w.heap.size, 1, none⟩ = some (.slice a' cs.length c') ∧ W2.cell? ⟨w.heap.size, 2, none⟩ = some (.int .i64 wt) ∧ w.heap.size < W2.heap.size) :=
    ⟨(b2.cell (p := ⟨w.heap.size, 0, none⟩) (by have := B1.out.2.1; show w.heap.size < _; omega)).trans B1.out.2.2.1, (b2.cell (p := ⟨w.heap.size, 1, none⟩) (by have := B1.out.2.1; show w.heap.size < _; omega)).trans B1.out.2.2.2.1, (b2.cell (p := ⟨w.heap.size, 2, none⟩) (by have := B1.out.2.1; show w.heap.size < _; omega)).trans B1.out.2.2.2.2, by have := b2.size; have := B1.out.2.1; omega⟩
  clear b2 v0 hW1
  go_wp2
  go_loopw [15] (fun i wr => ∃ j : Nat, j ≤ k ∧ i = .int .i64 j ∧ Hid (Below W2.heap.size W2 wr ∧ old (fun i => (fd l i).nm) nm j = false)) (fun i _ => k - (intOf i).toNat)
  case atStart => exact ⟨0, Nat.zero_le _, rfl, Below.refl _ _, rfl⟩
  case round =>
    obtain ⟨j, hj, rfl, hS⟩ := hrel
    have BWr : Hid (Below w0.heap.size w0 wr) := (HB.out.trans (R.out.mono HB.out.size)).trans (hS.out.1.mono (Nat.le_trans HB.out.size R.out.size))
    have RW : Hid (Below w.heap.size w wr) := R.out.trans (hS.out.1.mono R.out.size)
    by_cases hlt : j < k
    · obtain ⟨b, off, rfl, u0, ⟨a3, c3, u1, _⟩, u2⟩ := (HL.out.below BWr.out).at_ (k := j) (by omega)
      have hlt' : (j : Int) < (k : Int) := by omega
      obtain ⟨W3, hW3⟩ : ∃ W3, wr.alloc (.cells #[.string (fd l j).nm, .slice a3 (fd l j).cs.length c3, .int .i64 (fd l j).wt] 39) = W3 := ⟨_, rfl⟩
      have B3 : Hid (Below wr.heap.size wr W3) := by
        unfold Hid
        rw [← hW3]
        exact bel_one _ _
      have z0 : W3.cell? ⟨wr.heap.size, 0, none⟩ = some (.string (fd l j).nm) := by rw [← hW3, World.cell?_alloc_at _ _ _ _ rfl]; rfl
      have z1 : W3.cell? ⟨w.heap.size, 0, none⟩ = some (.string nm) := (B3.out.cell (p := ⟨w.heap.size, 0, none⟩) (by have := X.out.2.2.2; have := hS.out.1.size; show w.heap.size < _; omega)).trans ((hS.out.1.cell (p := ⟨w.heap.size, 0, none⟩) X.out.2.2.2).trans X.out.1)
      have RW3 : Hid (Below w.heap.size w W3) := RW.out.trans (B3.out.mono RW.out.size)
      by_cases he : (fd l j).nm = nm
      · have hR : Hid (fdG (fun i => (fd l i).nm) k nm cs wt = 6) := by unfold Hid; rw [HG.out, if_pos (old_mem.2 ⟨j, hlt, he⟩)]
        rw [he] at z0 u0 hW3
        clear he
        go_wp2
        go_ret
        exact ⟨by rw [hR.out]; rfl, RW3.out⟩
      · have NX : Hid (Below W2.heap.size W2 W3 ∧ old (fun i => (fd l i).nm) nm (j + 1) = false) := ⟨hS.out.1.trans (B3.out.mono hS.out.1.size), by unfold old; rw [hS.out.2]; simpa using he⟩
        have he' := neqB he
        go_wp2
        go_roundw
        case rel => exact ⟨j + 1, by omega, by go_num, NX.out⟩
        case measure => simp [intOf]; omega
    · obtain rfl : j = k := by omega
      clear hlt
      have hG2 : Hid (fdG (fun i => (fd l i).nm) j nm cs wt = if codesS cs ≠ 0 then codesS cs else wtE wt) := by unfold Hid; rw [HG.out, if_neg (by rw [hS.out.2]; simp)]
      obtain ⟨wA, hwA⟩ : ∃ x : World, x = wr := ⟨wr, rfl⟩
      subst hwA
      have y1 : wA.cell? ⟨w.heap.size, 1, none⟩ = some (.slice a' cs.length c') := (hS.out.1.cell (p := ⟨w.heap.size, 1, none⟩) X.out.2.2.2).trans X.out.2.1
      have y2 : wA.cell? ⟨w.heap.size, 2, none⟩ = some (.int .i64 wt) := (hS.out.1.cell (p := ⟨w.heap.size, 2, none⟩) X.out.2.2.2).trans X.out.2.2.1
      have HA := Lib.hid (HCS.out.below BWr.out)
      obtain ⟨G, HGG⟩ : ∃ G, Hid (fdG (fun i => (fd l i).nm) j nm cs wt = G) := ⟨_, rfl⟩
      have hG2 : Hid (G = if codesS cs ≠ 0 then codesS cs else wtE wt) := by unfold Hid; rw [← HGG.out]; exact hG2.out
      by_cases c1 : cs.length = 0
      · have hR : Hid (G = 9) := by unfold Hid; rw [hG2.out]; unfold codesS; simp [c1]
        have c1' : (cs.length : Int) = 0 := by omega
        clear c1
        go_wp2
        go_ret
        exact ⟨by rw [HGG.out, hR.out]; rfl, RW.out⟩
      have c1' : ((cs.length : Int) == 0) = false := by rw [beq_eq_false_iff_ne]; omega
      by_cases c2 : 20 < cs.length
      · have hR : Hid (G = 2) := by unfold Hid; rw [hG2.out]; unfold codesS; rw [if_neg c1, if_pos c2]; rfl
        have c2' : (20 : Int) < (cs.length : Int) := by omega
        clear c1 c2
        go_wp2
        go_ret
        exact ⟨by rw [HGG.out, hR.out]; rfl, RW.out⟩
      have c2' : ¬ (20 : Int) < (cs.length : Int) := by omega
      have hG3 : Hid (G = if incS okC cs ≠ 0 then incS okC cs else wtE wt) := by unfold Hid; rw [hG2.out]; unfold codesS; rw [if_neg c1, if_neg c2]
      clear c1 c2
      have HW := Lib.hid (fun n lo hi => within_c n lo hi wA)
      go_wp2
      go_loop [7, 8, 38] (fun _ _ i => ∃ q : Nat, q ≤ cs.length ∧ i = .int .i64 q ∧ Hid (fe (stepE okC cs) q = 0)) (fun _ _ i => cs.length - (intOf i).toNat)
      case atStart => exact ⟨0, Nat.zero_le _, rfl, rfl⟩
      case round =>
        obtain ⟨q, hq, rfl, hE⟩ := hrel
        by_cases hlt : q < cs.length
        · obtain ⟨b, off, rfl, hc⟩ := HA.out.at_ hlt
          have hlt' : (q : Int) < (cs.length : Int) := by omega
          have HC : Hid (Calls Tryd.prog 35 #[.int .i64 (fn cs q), .int .i64 1, .int .i64 999] wA fun e w' => e = .returned (.bool (okC (fn cs q))) ∧ w' = wA) := within_c _ _ _ _
          have hF : Hid (stepE okC cs q ≠ 0 → G = stepE okC cs q) := fun h => by
            have e : incS okC cs = stepE okC cs q := fe_at hlt hE.out h
            rw [hG3.out, e, if_pos h]
          have hN : Hid (fe (stepE okC cs) (q + 1) = stepE okC cs q) := fe_next hE.out
          by_cases h1 : okC (fn cs q) = false
          · have hSt : stepE okC cs q = 1 := by unfold stepE; rw [if_pos h1]
            have hR : Hid (G = 1) := by unfold Hid; rw [hF.out (by rw [hSt]; decide), hSt]
            rw [h1] at HC
            clear h1 hSt hF hN
            go_wp2_with fail
            refine HC.out.mono ?_
            rintro e w' ⟨rfl, rfl⟩
            go_wp2
            go_ret
            exact ⟨by rw [HGG.out, hR.out]; rfl, RW.out⟩
          · have h1' : okC (fn cs q) = true := by simpa using h1
            rw [h1'] at HC
            by_cases h2 : q = 0
            · have hSt : stepE okC cs q = 0 := by unfold stepE; rw [if_neg h1, if_neg (by omega)]
              have hZ : Hid (fe (stepE okC cs) (q + 1) = 0) := by unfold Hid; rw [hN.out, hSt]
              clear h1 h1' hSt hF hN
              subst h2
              rw [Nat.add_zero] at hc
              go_wp2_with fail
              refine HC.out.mono ?_
              rintro e w' ⟨rfl, rfl⟩
              go_wp2
              go_roundw
              case rel => exact ⟨1, by omega, by go_num, hZ.out⟩
              case measure => simp [intOf]; omega
            · obtain ⟨m, rfl⟩ : ∃ m, q = m + 1 := ⟨q - 1, by omega⟩
              have hc0 : wA.cell? ⟨b, off + m, none⟩ = some (.int .i64 (fn cs m)) := by
                obtain ⟨b', off', e, hc'⟩ := HA.out.at_ (k := m) (by omega)
                injection e with e; injection e with e1 e2; subst e1; subst e2; exact hc'
              have hpos : (0 : Int) < ((m + 1 : Nat) : Int) := by omega
              have hm1 : ((m + 1 : Nat) : Int) - 1 = (m : Int) := by omega
              have hm2 : (m : Int) < (cs.length : Int) := by omega
              by_cases h3 : fn cs (m + 1) ≤ fn cs m
              · have hSt : stepE okC cs (m + 1) = 7 := by unfold stepE; rw [if_neg h1, if_pos ⟨by omega, h3⟩]
                have hR : Hid (G = 7) := by unfold Hid; rw [hF.out (by rw [hSt]; decide), hSt]
                clear h1 h1' hSt hF hN h2
                go_wp2_with fail
                refine HC.out.mono ?_
                rintro e w' ⟨rfl, rfl⟩
                go_wp2
                go_ret
                exact ⟨by rw [HGG.out, hR.out]; rfl, RW.out⟩
              · have hSt : stepE okC cs (m + 1) = 0 := by unfold stepE; rw [if_neg h1, if_neg (fun h => h3 h.2)]
                have hZ : Hid (fe (stepE okC cs) (m + 1 + 1) = 0) := by unfold Hid; rw [hN.out, hSt]
                clear h1 h1' hSt hF hN h2
                go_wp2_with fail
                refine HC.out.mono ?_
                rintro e w' ⟨rfl, rfl⟩
                go_wp2
                go_roundw
                case rel => exact ⟨m + 1 + 1, by omega, by go_num, hZ.out⟩
                case measure => simp [intOf]; omega
        · obtain rfl : q = cs.length := by omega
          clear hlt
          have hG4 : Hid (G = wtE wt) := by
            have e : incS okC cs = 0 := hE.out
            unfold Hid; rw [hG3.out, e]; simp
          have HC : Hid (Calls Tryd.prog 35 #[.int .i64 wt, .int .i64 1, .int .i64 1000] wA fun e w' => e = .returned (.bool (decide (1 ≤ wt ∧ wt ≤ 1000))) ∧ w' = wA) := within_c _ _ _ _
          by_cases hw : 1 ≤ wt ∧ wt ≤ 1000
          · have hR : Hid (G = 0) := by unfold Hid; rw [hG4.out]; unfold wtE; rw [if_neg (by omega), if_neg (by omega)]
            rw [decide_eq_true hw] at HC
            clear hw
            go_wp2_with fail
            refine HC.out.mono ?_
            rintro e w' ⟨rfl, rfl⟩
            go_wp2
            go_ret
            exact ⟨by rw [HGG.out, hR.out]; rfl, RW.out⟩
          · have hR : Hid (G = 1) := by
              unfold Hid; rw [hG4.out]; unfold wtE
              by_cases h1 : wt < 1
              · rw [if_pos h1]
              · rw [if_neg h1, if_pos (by omega)]
            rw [decide_eq_false hw] at HC
            clear hw
            go_wp2_with fail
            refine HC.out.mono ?_
            rintro e w' ⟨rfl, rfl⟩
            go_wp2
            go_ret
            exact ⟨by rw [HGG.out, hR.out]; rfl, RW.out⟩
end Go.Proofs.YtadfmplafehjlaaDoor
