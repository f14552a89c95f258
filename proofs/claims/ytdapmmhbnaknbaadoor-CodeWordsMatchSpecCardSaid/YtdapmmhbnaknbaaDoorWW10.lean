/-
  Package code: 'for row := range strings.FieldsFuncSeq(text, divides)': the law of the loop.
  Package code: the rows of a text, in the reference.
  Package code: the words of a text, in the reference.
  Package code: sixty words are enough; rows in lower case.
-/
import Derived.Test.YtdapmmhbnaknbaaDoorWW09
import Derived.RangeFuncBox
import Derived.Laws.IdiomStrings
import Derived.OwnWalk
import Derived.Deep.RegionHeld3
namespace Go.Proofs.YtdapmmhbnaknbaaDoor
open Go.RowKit Go.Shelf

attribute [local go_sem] Oper.semAt_some

/-- strings.FieldsFuncSeq: its two boxes, and the function over them. -/
theorem fieldsSeq_c (s : ByteArray) (w : World) : Calls Tryd.prog 23 #[.string s, .func (.func 21) #[] #[]] w fun e w' =>
    e = .returned (.func (.func 40) #[] #[.pointer (some ⟨w.heap.size, 0, none⟩), .pointer (some ⟨w.heap.size + 1, 0, none⟩)]) ∧
    w' = (w.alloc (.cells #[.string s] 9)).alloc (.cells #[.func (.func 21) #[] #[]] 58) := by
  go_enter Tryd.func23, Tryd.ntmps23
  go_wp2
  go_ret
  exact ⟨rfl, rfl⟩
/-- How a round's body is left. -/
def ffPost (B : Nat) (I : Nat → World → Prop) (Ix : Nat → World → Prop) (k : Nat) (W : World) : Exit → Act → World → Prop
  | .normal, _, W' => KeepsFrom B W W' ∧ I (k + 1) W'
  | .exit id, _, W' => id = 0 ∧ KeepsFrom B W W' ∧ Ix k W'
  | _, _, _ => False

theorem range_fields {n : Nat} {g : Operand} {ps : Array Tmp} {assign body : Code} {Q : Exit → Act → World → Prop} {a : Act} {w : World} (b : Nat) (hps : ps.size = 1)
    (hg : a.eval g = .func (.func 40) #[] #[.pointer (some ⟨b, 0, none⟩), .pointer (some ⟨b + 1, 0, none⟩)])
    (hn : 3 ≤ n) (s : ByteArray) (hs : s.size ≤ 1000) (rows : List ByteArray) (hrows : yl s (s.size + 1) 0 none = rows)
    (I Ix : Nat → World → Prop) (hI : OwnFrom w.heap.size I) (hIb : ∀ k W W', I k W → Below W.heap.size W W' → I k W') (hIf : ∀ k W, I k W → FfI b s W) (hIx : OwnFrom w.heap.size Ix) (h0 : I 0 w) (a₁ : ByteArray → Act)
    (hassign : ∀ (l : Nat) (x : ByteArray) (W : World) (K : Act → World → Prop), K (a₁ x) W →
      assign.wpIn (Fence.wide.inRound l) (n - 1 - 1) Tryd.prog (Exit.then K (fun _ _ _ => False)) { tmps := (ps.zip #[.string x]).foldl (fun t (p, v) => t.setIfInBounds p v) a.tmps, defers := [] } W)
    (hbody : ∀ (l k : Nat) (x : ByteArray) (W : World), rows[k]? = some x → I k W → body.wpIn (Fence.wide.inRound l) (n - 1 - 1) Tryd.prog (ffPost w.heap.size I Ix k W) (a₁ x) W)
    (hdone : ∀ (W : World), I rows.length W → W.heap[w.heap.size]? = some (.deferred (some [])) → Q .normal { a with defers := { target := .collected w.heap.size, args := #[] } :: a.defers } W)
    (hstop : ∀ (k : Nat) (W : World), k < rows.length → Ix k W → W.heap[w.heap.size]? = some (.deferred (some [])) → (Code.exit 0).wpIn Fence.wide n Tryd.prog Q { a with defers := { target := .collected w.heap.size, args := #[] } :: a.defers } W) :
    (Code.rangeFunc g ps assign body).wpIn Fence.wide n Tryd.prog Q a w := by
  refine wpIn_rangeFunc fun fn hfn => ?_
  obtain ⟨rec, hrec⟩ : ∃ rec : LoopState → Option Code → Loop, rec = fun st pe => { state := st, pending := pe, fn, tmps := a.tmps, params := ps, assign, body, defers := w.heap.size } := ⟨_, rfl⟩
  obtain ⟨W1, hW1⟩ : ∃ W1, (w.alloc (.deferred (some []))).alloc (.loop (rec .ready none)) = W1 := ⟨_, rfl⟩
  have L1 : W1.heap[w.heap.size + 1]? = some (.loop (rec .ready none)) := by
    rw [← hW1]; have := World.alloc_heap_new (w.alloc (.deferred (some []))) (.loop (rec .ready none)); rwa [World.size_alloc] at this
  have D1 : W1.heap[w.heap.size]? = some (.deferred (some [])) := by
    rw [← hW1]; exact (Below.heap_alloc _ _ _ (by simp)).trans (World.alloc_heap_new w _)
  have I1 : I 0 W1 := by rw [← hW1]; exact hI.alloc _ (hI.alloc _ h0)
  -- the record and the block for deferred calls, in a state
  let RD (st : LoopState) (pe : Option Code) (W : World) : Prop := W.heap[w.heap.size + 1]? = some (.loop (rec st pe)) ∧ W.heap[w.heap.size]? = some (.deferred (some []))
  refine ⟨w.heap.size + 1, [{ target := .collected w.heap.size, args := #[] }], W1, { target := .fn (.func 40) #[.pointer (some ⟨b, 0, none⟩), .pointer (some ⟨b + 1, 0, none⟩)], args := #[.func (.yield (w.heap.size + 1)) #[] #[]] }, W1, 40,
    #[.func (.yield (w.heap.size + 1)) #[] #[]] ++ #[.pointer (some ⟨b, 0, none⟩), .pointer (some ⟨b + 1, 0, none⟩)], W1, ?_, ?_, fun _ _ => trivial, ?_, fun _ => by omega, ?_⟩
  · rw [← hW1, hrec]; exact run_enterLoop_outer _ _ _ _ _
  · simp only [resolve, hg]
    simp [go_sem]
  · simp [invoke, go_sem, enters_of Tryd.func40 (by kernel_rfl) rfl]
  · refine (fields1_in (n - 1) (w.heap.size + 1) b (by omega) s hs rows hrows (fun k W => I k W ∧ RD .ready none W) (fun k W => Ix k W ∧ RD .done (some (.exit 0)) W) (fun k W h => hIf k W h.1) ?_ ?_ W1 ⟨I1, L1, D1⟩).mono ?_
    · rintro k W W' ⟨hi, hl, hd⟩ hb
      exact ⟨hIb k W W' hi hb, (hb.block _ (Array.getElem?_eq_some_iff.1 hl).1).trans hl, (hb.block _ (Array.getElem?_eq_some_iff.1 hd).1).trans hd⟩
    · rintro k x W hk ⟨hi, hl, hd⟩
      have hlt : w.heap.size + 1 < W.heap.size := (Array.getElem?_eq_some_iff.1 hl).1
      have hy := run_yield (P := Tryd.prog) (args := #[Value.string x]) hl (by rw [hrec]; exact hps.symm)
      rw [hrec] at hy
      refine ⟨fn, _, assign, body, hy, roundIn_of_wpIn hfn (hassign _ _ W _ ⟨_, run_beginRound hl (by rw [hrec]), ?_⟩)⟩
      have hl2 : (W.putObj (w.heap.size + 1) (.loop { rec .ready none with state := .busy })).heap[w.heap.size + 1]? = some (.loop { rec .ready none with state := .busy }) := World.putObj_heap_same hlt
      have hd2 : (W.putObj (w.heap.size + 1) (.loop { rec .ready none with state := .busy })).heap[w.heap.size]? = some (.deferred (some [])) := (World.putObj_heap_other (by omega)).trans hd
      refine wpIn_mono (hbody _ k x _ hk (hI.putObj _ hi (by omega) hl rfl)) ?_
      have fin : ∀ (jump : Option Code) (W3 : World), KeepsFrom w.heap.size (W.putObj (w.heap.size + 1) (.loop { rec .ready none with state := .busy })) W3 →
          (Instr.endRound (w.heap.size + 1) jump).run Tryd.prog W3 = .ok (.bool jump.isNone) (W3.putObj (w.heap.size + 1) (.loop (rec (if jump.isNone then .ready else .done) jump))) ∧
          W3.heap[w.heap.size + 1]? = some (.loop { rec .ready none with state := .busy }) ∧ RD (if jump.isNone then .ready else .done) jump (W3.putObj (w.heap.size + 1) (.loop (rec (if jump.isNone then .ready else .done) jump))) := fun jump W3 hk3 => by
        have h3 := hk3.same _ _ (by omega) hl2 rfl
        have hr := run_endRound (P := Tryd.prog) jump h3
        refine ⟨by rw [hrec] at hr ⊢; exact hr, h3, World.putObj_heap_same (Array.getElem?_eq_some_iff.1 h3).1, (World.putObj_heap_other (by omega)).trans (hk3.same _ _ (Nat.le_refl _) hd2 rfl)⟩
      rintro e a3 W3 hp
      cases e with
      | normal =>
        obtain ⟨hk3, hi3⟩ := hp
        obtain ⟨hr, h3, hrd⟩ := fin none W3 hk3
        exact ⟨_, _, hr, .inl ⟨rfl, hI.putObj _ hi3 (by omega) h3 rfl, hrd⟩⟩
      | exit id =>
        obtain ⟨rfl, hk3, hi3⟩ := hp
        obtain ⟨hr, h3, hrd⟩ := fin (some (.exit 0)) W3 hk3
        exact ⟨_, _, hr, .inr ⟨rfl, hIx.putObj _ hi3 (by omega) h3 rfl, hrd⟩⟩
      | ret => exact hp.elim
      | goto t => exact hp.elim
      | panic ch => exact hp.elim
      | outgrown => exact hp.elim
    · rintro e W2 ⟨⟨v, rfl⟩, (⟨hi, hl, hd⟩ | ⟨k, hk, hi, hl, hd⟩)⟩
      · have hr := run_endLoop (P := Tryd.prog) hl (by rw [hrec]; simp)
        rw [hrec] at hr
        exact ⟨none, _, hr, hdone _ (hI.putObj _ hi (by omega) hl rfl) ((World.putObj_heap_other (by omega)).trans hd)⟩
      · have hr := run_endLoop (P := Tryd.prog) hl (by rw [hrec]; simp)
        rw [hrec] at hr
        exact ⟨some (.exit 0), _, hr, hstop k _ hk (hIx.putObj _ hi (by omega) hl rfl) ((World.putObj_heap_other (by omega)).trans hd)⟩
end Go.Proofs.YtdapmmhbnaknbaaDoor
namespace Go.Proofs.YtdapmmhbnaknbaaDoor
open Go.RowKit Go.WideMaps Go.Maps

def btW (l : List UInt8) : ByteArray := ⟨l.toArray⟩
theorem btW_list (l : List UInt8) : (btW l).data.toList = l := rfl
theorem btW_size (l : List UInt8) : (btW l).size = l.length := by show l.toArray.size = _; simp
structure RoI (B : Nat) (w0 w : World) (T : List UInt8) (k : Nat) (v : Value) (O : List (List UInt8)) (wd : List UInt8) : Prop where
  bel : Below B w0 w
  le : B ≤ w.heap.size
  own : w.ownsRow B 9 1 v O.length (O.map fun r => Value.string (btW r))
  is : if k ≤ T.length then O ++ rowsF (T.drop k) wd = rowsF T [] else O = rowsF T []
  wl : wd.length ≤ k
  ol : O.length ≤ k
theorem RoI.keep {B : Nat} {w0 w w' : World} {T : List UInt8} {k : Nat} {v : Value} {O : List (List UInt8)} {wd : List UInt8} (h : RoI B w0 w T k v O wd) (hb : Below w.heap.size w w') : RoI B w0 w' T k v O wd :=
  ⟨h.bel.trans (hb.mono h.le), Nat.le_trans h.le hb.size, own_keep h.own hb, h.is, h.wl, h.ol⟩
theorem RoI.good {B : Nat} {w0 w : World} {T : List UInt8} {k : Nat} {v : Value} {O : List (List UInt8)} {wd : List UInt8} (h : RoI B w0 w T k v O wd) (hk : k < T.length) (hr : rowB T[k] = true) : RoI B w0 w T (k + 1) v O (wd ++ [lowB T[k]]) := by
  refine ⟨h.bel, h.le, h.own, ?_, by rw [List.length_append]; have := h.wl; simp; omega, by have := h.ol; omega⟩
  have hi := h.is
  rw [if_pos (Nat.le_of_lt hk), List.drop_eq_getElem_cons hk] at hi
  rw [if_pos (show k + 1 ≤ T.length by omega), ← hi]
  congr 1
  show rowsF (T.drop (k + 1)) (wd ++ [lowB T[k]]) = (if rowB T[k] = true then rowsF (T.drop (k + 1)) (wd ++ [lowB T[k]]) else _)
  rw [if_pos hr]
/-- A row ends. -/
theorem RoI.flush {B : Nat} {w0 w : World} {T : List UInt8} {k : Nat} {v : Value} {O : List (List UInt8)} {wd : List UInt8} (h : RoI B w0 w T k v O wd)
    (hi : ∀ O' : List (List UInt8), O' = O ++ (if wd = [] then [] else [wd]) → if k + 1 ≤ T.length then O' ++ rowsF (T.drop (k + 1)) [] = rowsF T [] else O' = rowsF T []) :
    (wd = [] → RoI B w0 w T (k + 1) v O []) ∧ (wd ≠ [] → ∀ (v' : Value) (w' : World), Below B w0 w' → B ≤ w'.heap.size → w'.ownsRow B 9 1 v' (O.length + 1) ((O.map fun r => Value.string (btW r)) ++ [.string (btW wd)]) → RoI B w0 w' T (k + 1) v' (O ++ [wd]) []) := by
  constructor
  · intro e
    exact ⟨h.bel, h.le, h.own, hi O (by rw [if_pos e, List.append_nil]), by simp, by have := h.ol; omega⟩
  · intro e v' w' h1 h2 h3
    refine ⟨h1, h2, ?_, hi _ (by rw [if_neg e]), by simp, by rw [List.length_append]; have := h.ol; simp; omega⟩
    rw [List.map_append, List.length_append]
    exact h3
theorem RoI.bad {B : Nat} {w0 w : World} {T : List UInt8} {k : Nat} {v : Value} {O : List (List UInt8)} {wd : List UInt8} (h : RoI B w0 w T k v O wd) (hk : k < T.length) (hr : rowB T[k] = false) :
    (wd = [] → RoI B w0 w T (k + 1) v O []) ∧ (wd ≠ [] → ∀ (v' : Value) (w' : World), Below B w0 w' → B ≤ w'.heap.size → w'.ownsRow B 9 1 v' (O.length + 1) ((O.map fun r => Value.string (btW r)) ++ [.string (btW wd)]) → RoI B w0 w' T (k + 1) v' (O ++ [wd]) []) := by
  refine h.flush fun O' e => ?_
  have hi := h.is
  rw [if_pos (Nat.le_of_lt hk), List.drop_eq_getElem_cons hk] at hi
  rw [if_pos (show k + 1 ≤ T.length by omega), e, ← hi, List.append_assoc]
  congr 1
  show _ = (if rowB T[k] = true then _ else (if wd = [] then [] else [wd]) ++ rowsF (T.drop (k + 1)) [])
  have e2 : (if rowB T[k] = true then rowsF (T.drop (k + 1)) (wd ++ [lowB T[k]]) else (if wd = [] then [] else [wd]) ++ rowsF (T.drop (k + 1)) []) = (if wd = [] then [] else [wd]) ++ rowsF (T.drop (k + 1)) [] := if_neg (by rw [hr]; simp)
  rw [e2]
theorem RoI.fin {B : Nat} {w0 w : World} {T : List UInt8} {k : Nat} {v : Value} {O : List (List UInt8)} {wd : List UInt8} (h : RoI B w0 w T k v O wd) (hk : k = T.length) :
    (wd = [] → RoI B w0 w T (k + 1) v O []) ∧ (wd ≠ [] → ∀ (v' : Value) (w' : World), Below B w0 w' → B ≤ w'.heap.size → w'.ownsRow B 9 1 v' (O.length + 1) ((O.map fun r => Value.string (btW r)) ++ [.string (btW wd)]) → RoI B w0 w' T (k + 1) v' (O ++ [wd]) []) := by
  refine h.flush fun O' e => ?_
  have hi := h.is
  rw [if_pos (by omega), hk, List.drop_length] at hi
  rw [if_neg (by omega), e, ← hi]
  rfl
theorem btW_app (a b : List UInt8) : btW a ++ btW b = btW (a ++ b) := by
  apply ByteArray.ext
  show (btW a ++ btW b).data = (a ++ b).toArray
  rw [ByteArray.data_append]
  show a.toArray ++ b.toArray = _
  simp
theorem conv_one (wr : World) (c : UInt8) (x : Int) (h : (c.toNat : Int) = x) : (convert 79 9 (.slice (some ⟨wr.heap.size, 0, none⟩) 1 1)).run Tryd.prog (wr.alloc (.cells #[.int .u8 x] 5)) = .ok (.string (btW [c])) (wr.alloc (.cells #[.int .u8 x] 5)) := by
  subst h
  refine run_convert_bytes_back (P := Tryd.prog) _ 79 9 5 ⟨wr.heap.size, 0, none⟩ 1 [c] Tryd.underlying79 Tryd.underlying5 Tryd.underlying9 (fun j hj => ?_)
  obtain rfl : j = 0 := by simp at hj; omega
  rw [add_at, World.cell?_alloc_at _ _ _ _ rfl]; rfl
def RwP (T : List UInt8) (w : World) (e : Ending) (w' : World) : Prop :=
  ∃ v, e = .returned v ∧ Below w.heap.size w w' ∧ w'.ownsRow w.heap.size 9 1 v (rowsF T []).length ((rowsF T []).map fun r => Value.string (btW r))
set_option maxRecDepth 100000 in
set_option maxHeartbeats 20000000 in
theorem rows_c (s : ByteArray) (w : World) (hs : s.size ≤ 1000) :
    Calls Tryd.prog 26 #[.string s] w (RwP s.data.toList w) := by
  obtain ⟨T, hT⟩ : ∃ T, s.data.toList = T := ⟨_, rfl⟩
  have hsz : s.size = T.length := by rw [← hT]; exact Lib.size_eq s
  have HAT := Lib.hid (fun (k : Nat) (h : k < s.size) => at_ba s k h)
  have HSZ := Lib.hid hsz
  rw [hT] at HAT ⊢
  clear hT hsz
  obtain ⟨j0, hj, hy0, hy1, hy2⟩ := info_parts (show (Tryd.prog.info? 9).map (fun i => (i.zero, i.size, i.bytes)) = some (some (.string ByteArray.empty), 1, 16) by kernel_rfl)
  have mixed : Tryd.prog.follows .mixedOrders = true := by kernel_rfl
  have I0 : Hid (RoI w.heap.size w w T 0 (.slice none 0 0) [] []) := ⟨Below.refl _ _, Nat.le_refl _, ⟨rfl, .inl ⟨rfl, rfl⟩⟩, by rw [if_pos (Nat.zero_le _)]; rfl, Nat.le_refl _, Nat.le_refl _⟩
  go_enter Tryd.func26, Tryd.ntmps26
  go_wp2_with fail
  go_loopw [3, 4, 5, 6, 10] (fun v wv _ _ i wr => ∃ (k : Nat) (v' : Value) (O : List (List UInt8)) (wd : List UInt8), v' = v ∧ wv = .string (btW wd) ∧ k ≤ s.size + 1 ∧ i = .int .i64 k ∧ Hid (RoI w.heap.size w wr T k v' O wd)) (fun _ _ _ _ i _ => s.size + 1 - (intOf i).toNat)
  case atStart => exact ⟨0, _, [], [], rfl, rfl, Nat.zero_le _, rfl, I0.out⟩
  case round =>
    obtain ⟨k, v, O, wd, rfl, rfl, hk, rfl, hS⟩ := hrel
    clear I0
    by_cases hlt : k < s.size
    · have hl1 : (k : Int) < (s.size : Int) + 1 := by omega
      have hl2 : (k : Int) < (s.size : Int) := by omega
      have hlT : k < T.length := by rw [← HSZ.out]; exact hlt
      have hb : T[k] = s[k]'hlt := by
        have := HAT.out k hlt
        rw [List.getElem?_eq_getElem hlT] at this
        exact Option.some.inj this
      by_cases hu : 65 ≤ (s[k]'hlt).toNat ∧ (s[k]'hlt).toNat ≤ 90
      · have u1 : (65 : Int) ≤ ((s[k]'hlt).toNat : Int) := by omega
        have u2 : ((s[k]'hlt).toNat : Int) ≤ 90 := by omega
        obtain ⟨x, hx⟩ : ∃ x : Nat, ((s[k]'hlt).toNat : Int) + 32 = (x : Int) := ⟨(s[k]'hlt).toNat + 32, by omega⟩
        have hx1 : (97 : Int) ≤ (x : Int) := by omega
        have hx2 : (x : Int) ≤ 122 := by omega
        have hxw : IntKind.u8.wrap (x : Int) = (x : Int) := by
          simp [IntKind.wrap, IntKind.bits, IntKind.signed]; omega
        have hl32 : ((s[k]'hlt) + 32).toNat = x := by rw [UInt8.toNat_add]; have : (32 : UInt8).toNat = 32 := rfl; rw [this]; omega
        have hlow : lowB (T[k]'hlT) = (s[k]'hlt) + 32 := by unfold lowB; rw [hb, if_pos hu]
        have hrow : rowB (T[k]'hlT) = true := by unfold rowB; rw [hlow]; unfold wdB; rw [hl32, decide_eq_true (p := 97 ≤ x) (by omega), decide_eq_true (p := x ≤ 122) (by omega)]; rfl
        obtain ⟨c, hc⟩ : ∃ c, lowB (T[k]'hlT) = c := ⟨_, rfl⟩
        have hcx : (c.toNat : Int) = (x : Int) := by rw [← hc, hlow, hl32]
        have hcv : (convert 79 9 (.slice (some ⟨wr.heap.size, 0, none⟩) 1 1)).run Tryd.prog (wr.alloc (.cells #[.int .u8 (x : Int)] 5)) = .ok (.string (btW [c])) (wr.alloc (.cells #[.int .u8 (x : Int)] 5)) := conv_one wr c _ hcx
        have NX : Hid (RoI w.heap.size w (wr.alloc (.cells #[.int .u8 (x : Int)] 5)) T (k + 1) v O (wd ++ [c])) := by
          have h := hS.out.good hlT hrow
          rw [hc] at h
          exact h.keep (bel_one _ _)
        have hcat : ¬ (9223372036854775807 : Int) < ((btW wd).size : Int) + ((btW [c]).size : Int) := by
          rw [btW_size, btW_size]; have := hS.out.wl; simp only [List.length_cons, List.length_nil]; omega
        have HAP : Hid (btW wd ++ btW [c] = btW (wd ++ [c])) := btW_app _ _
        clear hl32 hlow hrow hc hcx hb
        go_wp2_with (simp only [hcv])
        go_roundw
        case rel => exact ⟨k + 1, v, O, wd ++ [c], rfl, by rw [← HAP.out], by omega, by go_num, NX.out⟩
        case measure => simp [intOf]; omega
      · by_cases g1 : (s[k]'hlt).toNat < 65
        · have u1 : ¬ (65 : Int) ≤ ((s[k]'hlt).toNat : Int) := by omega
          have u3 : ¬ (97 : Int) ≤ ((s[k]'hlt).toNat : Int) := by omega
          by_cases g2 : (s[k]'hlt).toNat < 48
          · have u4 : ¬ (48 : Int) ≤ ((s[k]'hlt).toNat : Int) := by omega
            have hrow : rowB (T[k]'hlT) = false := by unfold rowB lowB; rw [hb, if_neg (by omega)]; unfold wdB; rw [decide_eq_false (p := 97 ≤ _) (by omega), decide_eq_false (p := 48 ≤ _) (by omega)]; simp
            by_cases hw : wd = []
            · subst hw
              have NX := Lib.hid ((RoI.bad hS.out hlT hrow).1 rfl)
              clear hrow hb
              have f1 : ((btW []).toList == []) = true := by rw [Lib.toList_data]; rfl
              have f2 : (btW []).toList.isEmpty = true := by rw [Lib.toList_data]; rfl
              have f3 : (btW []).toList = [] := by rw [Lib.toList_data]; rfl
              go_wp2
              go_roundw
              case rel => exact ⟨k + 1, v, O, [], rfl, rfl, by omega, by go_num, NX.out⟩
              case measure => simp [intOf]; omega
            · have f1 : ((btW wd).toList == []) = false := by rw [beq_eq_false_iff_ne, Lib.toList_data]; exact hw
              have f2 : (btW wd).toList.isEmpty = false := by rw [Lib.toList_data, btW_list]; cases e : wd with | nil => exact absurd e hw | cons _ _ => rfl
              have BN := Lib.hid ((RoI.bad hS.out hlT hrow).2 hw)
              have hd1 : O.length + 1 ≤ maxLen := by unfold maxLen; have := hS.out.ol; omega
              have hd2 : (O.length + 1) * 16 ≤ 140737488355328 := by have := hS.out.ol; omega
              have hd3 : w.heap.size ≤ (wr.alloc (.cells #[.string (btW wd)] 9)).heap.size := by have := hS.out.le; simp; omega
              clear hrow hb
              clear hw
              go_wp2_with (at_builtin; refine wpList_append_own _ rfl _ _ 23 rfl w.heap.size 9 j0 (.string ByteArray.empty) 1 16 Tryd.underlying23 hj hy0 hy1 hy2 rfl (by decide) _ _ _ rfl (hS.out.own.alloc _) ⟨wr.heap.size, 0, none⟩ 1 1 [.string (btW wd)] rfl rfl (cell_one_new _ _ _) (by simp [Value.oneCell']) hd1 hd2 hd3 ?_)
              intro v7 w7 hown7 hgrow7 _
              have NX : Hid (RoI w.heap.size w w7 T (k + 1) v7 (O ++ [wd]) []) := BN.out _ _ ((hS.out.bel.alloc hS.out.le _).grown hgrow7 hd3 (fun u e => (hS.out.own.lt u e).1)) (Nat.le_trans hd3 hgrow7.size) hown7
              clear hown7 hgrow7 f1 f2 hd1 hd2 hd3
              go_wp2
              go_roundw
              case rel => exact ⟨k + 1, v7, O ++ [wd], [], rfl, rfl, by omega, by go_num, NX.out⟩
              case measure => simp [intOf]; omega
          · have u4 : (48 : Int) ≤ ((s[k]'hlt).toNat : Int) := by omega
            by_cases g3 : (s[k]'hlt).toNat ≤ 57
            · have u5 : ((s[k]'hlt).toNat : Int) ≤ 57 := by omega
              have hlow : lowB (T[k]'hlT) = (s[k]'hlt) := by unfold lowB; rw [hb, if_neg (by omega)]
              have hrow : rowB (T[k]'hlT) = true := by unfold rowB; rw [hlow]; unfold wdB; rw [decide_eq_true (p := 48 ≤ _) (by omega), decide_eq_true (p := _ ≤ 57) (by omega)]; simp
              obtain ⟨c, hc⟩ : ∃ c, lowB (T[k]'hlT) = c := ⟨_, rfl⟩
              have hcx : (c.toNat : Int) = ((s[k]'hlt).toNat : Int) := by rw [← hc, hlow]
              have hcv : (convert 79 9 (.slice (some ⟨wr.heap.size, 0, none⟩) 1 1)).run Tryd.prog (wr.alloc (.cells #[.int .u8 ((s[k]'hlt).toNat : Int)] 5)) = .ok (.string (btW [c])) (wr.alloc (.cells #[.int .u8 ((s[k]'hlt).toNat : Int)] 5)) := conv_one wr c _ hcx
              have NX : Hid (RoI w.heap.size w (wr.alloc (.cells #[.int .u8 ((s[k]'hlt).toNat : Int)] 5)) T (k + 1) v O (wd ++ [c])) := by
                have h := hS.out.good hlT hrow
                rw [hc] at h
                exact h.keep (bel_one _ _)
              have hcat : ¬ (9223372036854775807 : Int) < ((btW wd).size : Int) + ((btW [c]).size : Int) := by
                rw [btW_size, btW_size]; have := hS.out.wl; simp only [List.length_cons, List.length_nil]; omega
              have HAP : Hid (btW wd ++ btW [c] = btW (wd ++ [c])) := btW_app _ _
              clear hlow hrow hc hcx hb
              go_wp2_with (simp only [hcv])
              go_roundw
              case rel => exact ⟨k + 1, v, O, wd ++ [c], rfl, by rw [← HAP.out], by omega, by go_num, NX.out⟩
              case measure => simp [intOf]; omega
            · have u5 : ¬ ((s[k]'hlt).toNat : Int) ≤ 57 := by omega
              have hrow : rowB (T[k]'hlT) = false := by unfold rowB lowB; rw [hb, if_neg (by omega)]; unfold wdB; rw [decide_eq_false (p := 97 ≤ _) (by omega), decide_eq_false (p := _ ≤ 57) (by omega)]; simp
              by_cases hw : wd = []
              · subst hw
                have NX := Lib.hid ((RoI.bad hS.out hlT hrow).1 rfl)
                clear hrow hb
                have f1 : ((btW []).toList == []) = true := by rw [Lib.toList_data]; rfl
                have f2 : (btW []).toList.isEmpty = true := by rw [Lib.toList_data]; rfl
                have f3 : (btW []).toList = [] := by rw [Lib.toList_data]; rfl
                go_wp2
                go_roundw
                case rel => exact ⟨k + 1, v, O, [], rfl, rfl, by omega, by go_num, NX.out⟩
                case measure => simp [intOf]; omega
              · have f1 : ((btW wd).toList == []) = false := by rw [beq_eq_false_iff_ne, Lib.toList_data]; exact hw
                have f2 : (btW wd).toList.isEmpty = false := by rw [Lib.toList_data, btW_list]; cases e : wd with | nil => exact absurd e hw | cons _ _ => rfl
                have BN := Lib.hid ((RoI.bad hS.out hlT hrow).2 hw)
                have hd1 : O.length + 1 ≤ maxLen := by unfold maxLen; have := hS.out.ol; omega
                have hd2 : (O.length + 1) * 16 ≤ 140737488355328 := by have := hS.out.ol; omega
                have hd3 : w.heap.size ≤ (wr.alloc (.cells #[.string (btW wd)] 9)).heap.size := by have := hS.out.le; simp; omega
                clear hrow hb
                clear hw
                go_wp2_with (at_builtin; refine wpList_append_own _ rfl _ _ 23 rfl w.heap.size 9 j0 (.string ByteArray.empty) 1 16 Tryd.underlying23 hj hy0 hy1 hy2 rfl (by decide) _ _ _ rfl (hS.out.own.alloc _) ⟨wr.heap.size, 0, none⟩ 1 1 [.string (btW wd)] rfl rfl (cell_one_new _ _ _) (by simp [Value.oneCell']) hd1 hd2 hd3 ?_)
                intro v7 w7 hown7 hgrow7 _
                have NX : Hid (RoI w.heap.size w w7 T (k + 1) v7 (O ++ [wd]) []) := BN.out _ _ ((hS.out.bel.alloc hS.out.le _).grown hgrow7 hd3 (fun u e => (hS.out.own.lt u e).1)) (Nat.le_trans hd3 hgrow7.size) hown7
                clear hown7 hgrow7 f1 f2 hd1 hd2 hd3
                go_wp2
                go_roundw
                case rel => exact ⟨k + 1, v7, O ++ [wd], [], rfl, rfl, by omega, by go_num, NX.out⟩
                case measure => simp [intOf]; omega
        · have u1 : (65 : Int) ≤ ((s[k]'hlt).toNat : Int) := by omega
          have u2 : ¬ ((s[k]'hlt).toNat : Int) ≤ 90 := by omega
          have u4 : (48 : Int) ≤ ((s[k]'hlt).toNat : Int) := by omega
          have u5 : ¬ ((s[k]'hlt).toNat : Int) ≤ 57 := by omega
          by_cases g2 : (s[k]'hlt).toNat < 97
          · have u3 : ¬ (97 : Int) ≤ ((s[k]'hlt).toNat : Int) := by omega
            have hrow : rowB (T[k]'hlT) = false := by unfold rowB lowB; rw [hb, if_neg (by omega)]; unfold wdB; rw [decide_eq_false (p := 97 ≤ _) (by omega), decide_eq_false (p := _ ≤ 57) (by omega)]; simp
            by_cases hw : wd = []
            · subst hw
              have NX := Lib.hid ((RoI.bad hS.out hlT hrow).1 rfl)
              clear hrow hb
              have f1 : ((btW []).toList == []) = true := by rw [Lib.toList_data]; rfl
              have f2 : (btW []).toList.isEmpty = true := by rw [Lib.toList_data]; rfl
              have f3 : (btW []).toList = [] := by rw [Lib.toList_data]; rfl
              go_wp2
              go_roundw
              case rel => exact ⟨k + 1, v, O, [], rfl, rfl, by omega, by go_num, NX.out⟩
              case measure => simp [intOf]; omega
            · have f1 : ((btW wd).toList == []) = false := by rw [beq_eq_false_iff_ne, Lib.toList_data]; exact hw
              have f2 : (btW wd).toList.isEmpty = false := by rw [Lib.toList_data, btW_list]; cases e : wd with | nil => exact absurd e hw | cons _ _ => rfl
              have BN := Lib.hid ((RoI.bad hS.out hlT hrow).2 hw)
              have hd1 : O.length + 1 ≤ maxLen := by unfold maxLen; have := hS.out.ol; omega
              have hd2 : (O.length + 1) * 16 ≤ 140737488355328 := by have := hS.out.ol; omega
              have hd3 : w.heap.size ≤ (wr.alloc (.cells #[.string (btW wd)] 9)).heap.size := by have := hS.out.le; simp; omega
              clear hrow hb
              clear hw
              go_wp2_with (at_builtin; refine wpList_append_own _ rfl _ _ 23 rfl w.heap.size 9 j0 (.string ByteArray.empty) 1 16 Tryd.underlying23 hj hy0 hy1 hy2 rfl (by decide) _ _ _ rfl (hS.out.own.alloc _) ⟨wr.heap.size, 0, none⟩ 1 1 [.string (btW wd)] rfl rfl (cell_one_new _ _ _) (by simp [Value.oneCell']) hd1 hd2 hd3 ?_)
              intro v7 w7 hown7 hgrow7 _
              have NX : Hid (RoI w.heap.size w w7 T (k + 1) v7 (O ++ [wd]) []) := BN.out _ _ ((hS.out.bel.alloc hS.out.le _).grown hgrow7 hd3 (fun u e => (hS.out.own.lt u e).1)) (Nat.le_trans hd3 hgrow7.size) hown7
              clear hown7 hgrow7 f1 f2 hd1 hd2 hd3
              go_wp2
              go_roundw
              case rel => exact ⟨k + 1, v7, O ++ [wd], [], rfl, rfl, by omega, by go_num, NX.out⟩
              case measure => simp [intOf]; omega
          · have u3 : (97 : Int) ≤ ((s[k]'hlt).toNat : Int) := by omega
            by_cases g3 : (s[k]'hlt).toNat ≤ 122
            · have u6 : ((s[k]'hlt).toNat : Int) ≤ 122 := by omega
              have hlow : lowB (T[k]'hlT) = (s[k]'hlt) := by unfold lowB; rw [hb, if_neg (by omega)]
              have hrow : rowB (T[k]'hlT) = true := by unfold rowB; rw [hlow]; unfold wdB; rw [decide_eq_true (p := 97 ≤ _) (by omega), decide_eq_true (p := _ ≤ 122) (by omega)]; simp
              obtain ⟨c, hc⟩ : ∃ c, lowB (T[k]'hlT) = c := ⟨_, rfl⟩
              have hcx : (c.toNat : Int) = ((s[k]'hlt).toNat : Int) := by rw [← hc, hlow]
              have hcv : (convert 79 9 (.slice (some ⟨wr.heap.size, 0, none⟩) 1 1)).run Tryd.prog (wr.alloc (.cells #[.int .u8 ((s[k]'hlt).toNat : Int)] 5)) = .ok (.string (btW [c])) (wr.alloc (.cells #[.int .u8 ((s[k]'hlt).toNat : Int)] 5)) := conv_one wr c _ hcx
              have NX : Hid (RoI w.heap.size w (wr.alloc (.cells #[.int .u8 ((s[k]'hlt).toNat : Int)] 5)) T (k + 1) v O (wd ++ [c])) := by
                have h := hS.out.good hlT hrow
                rw [hc] at h
                exact h.keep (bel_one _ _)
              have hcat : ¬ (9223372036854775807 : Int) < ((btW wd).size : Int) + ((btW [c]).size : Int) := by
                rw [btW_size, btW_size]; have := hS.out.wl; simp only [List.length_cons, List.length_nil]; omega
              have HAP : Hid (btW wd ++ btW [c] = btW (wd ++ [c])) := btW_app _ _
              clear hlow hrow hc hcx hb
              go_wp2_with (simp only [hcv])
              go_roundw
              case rel => exact ⟨k + 1, v, O, wd ++ [c], rfl, by rw [← HAP.out], by omega, by go_num, NX.out⟩
              case measure => simp [intOf]; omega
            · have u6 : ¬ ((s[k]'hlt).toNat : Int) ≤ 122 := by omega
              have hrow : rowB (T[k]'hlT) = false := by unfold rowB lowB; rw [hb, if_neg (by omega)]; unfold wdB; rw [decide_eq_false (p := _ ≤ 122) (by omega), decide_eq_false (p := _ ≤ 57) (by omega)]; simp
              by_cases hw : wd = []
              · subst hw
                have NX := Lib.hid ((RoI.bad hS.out hlT hrow).1 rfl)
                clear hrow hb
                have f1 : ((btW []).toList == []) = true := by rw [Lib.toList_data]; rfl
                have f2 : (btW []).toList.isEmpty = true := by rw [Lib.toList_data]; rfl
                have f3 : (btW []).toList = [] := by rw [Lib.toList_data]; rfl
                go_wp2
                go_roundw
                case rel => exact ⟨k + 1, v, O, [], rfl, rfl, by omega, by go_num, NX.out⟩
                case measure => simp [intOf]; omega
              · have f1 : ((btW wd).toList == []) = false := by rw [beq_eq_false_iff_ne, Lib.toList_data]; exact hw
                have f2 : (btW wd).toList.isEmpty = false := by rw [Lib.toList_data, btW_list]; cases e : wd with | nil => exact absurd e hw | cons _ _ => rfl
                have BN := Lib.hid ((RoI.bad hS.out hlT hrow).2 hw)
                have hd1 : O.length + 1 ≤ maxLen := by unfold maxLen; have := hS.out.ol; omega
                have hd2 : (O.length + 1) * 16 ≤ 140737488355328 := by have := hS.out.ol; omega
                have hd3 : w.heap.size ≤ (wr.alloc (.cells #[.string (btW wd)] 9)).heap.size := by have := hS.out.le; simp; omega
                clear hrow hb
                clear hw
                go_wp2_with (at_builtin; refine wpList_append_own _ rfl _ _ 23 rfl w.heap.size 9 j0 (.string ByteArray.empty) 1 16 Tryd.underlying23 hj hy0 hy1 hy2 rfl (by decide) _ _ _ rfl (hS.out.own.alloc _) ⟨wr.heap.size, 0, none⟩ 1 1 [.string (btW wd)] rfl rfl (cell_one_new _ _ _) (by simp [Value.oneCell']) hd1 hd2 hd3 ?_)
                intro v7 w7 hown7 hgrow7 _
                have NX : Hid (RoI w.heap.size w w7 T (k + 1) v7 (O ++ [wd]) []) := BN.out _ _ ((hS.out.bel.alloc hS.out.le _).grown hgrow7 hd3 (fun u e => (hS.out.own.lt u e).1)) (Nat.le_trans hd3 hgrow7.size) hown7
                clear hown7 hgrow7 f1 f2 hd1 hd2 hd3
                go_wp2
                go_roundw
                case rel => exact ⟨k + 1, v7, O ++ [wd], [], rfl, rfl, by omega, by go_num, NX.out⟩
                case measure => simp [intOf]; omega
    · by_cases he : k = s.size
      · subst he
        obtain ⟨k, hk2⟩ : ∃ k, s.size = k := ⟨_, rfl⟩
        have hl1 : (s.size : Int) < (s.size : Int) + 1 := by omega
        have hl2 : ¬ (s.size : Int) < (s.size : Int) := by omega
        clear k hk2
        by_cases hw : wd = []
        · subst hw
          have NX := Lib.hid ((RoI.fin hS.out (by have := HSZ.out; omega)).1 rfl)
          skip
          have f1 : ((btW []).toList == []) = true := by rw [Lib.toList_data]; rfl
          have f2 : (btW []).toList.isEmpty = true := by rw [Lib.toList_data]; rfl
          have f3 : (btW []).toList = [] := by rw [Lib.toList_data]; rfl
          go_wp2
          go_roundw
          case rel => exact ⟨s.size + 1, v, O, [], rfl, rfl, by omega, by go_num, NX.out⟩
          case measure => simp [intOf]
        · have f1 : ((btW wd).toList == []) = false := by rw [beq_eq_false_iff_ne, Lib.toList_data]; exact hw
          have f2 : (btW wd).toList.isEmpty = false := by rw [Lib.toList_data, btW_list]; cases e : wd with | nil => exact absurd e hw | cons _ _ => rfl
          have BN := Lib.hid ((RoI.fin hS.out (by have := HSZ.out; omega)).2 hw)
          have hd1 : O.length + 1 ≤ maxLen := by unfold maxLen; have := hS.out.ol; omega
          have hd2 : (O.length + 1) * 16 ≤ 140737488355328 := by have := hS.out.ol; omega
          have hd3 : w.heap.size ≤ (wr.alloc (.cells #[.string (btW wd)] 9)).heap.size := by have := hS.out.le; simp; omega
          skip
          clear hw
          go_wp2_with (at_builtin; refine wpList_append_own _ rfl _ _ 23 rfl w.heap.size 9 j0 (.string ByteArray.empty) 1 16 Tryd.underlying23 hj hy0 hy1 hy2 rfl (by decide) _ _ _ rfl (hS.out.own.alloc _) ⟨wr.heap.size, 0, none⟩ 1 1 [.string (btW wd)] rfl rfl (cell_one_new _ _ _) (by simp [Value.oneCell']) hd1 hd2 hd3 ?_)
          intro v7 w7 hown7 hgrow7 _
          have NX : Hid (RoI w.heap.size w w7 T (s.size + 1) v7 (O ++ [wd]) []) := BN.out _ _ ((hS.out.bel.alloc hS.out.le _).grown hgrow7 hd3 (fun u e => (hS.out.own.lt u e).1)) (Nat.le_trans hd3 hgrow7.size) hown7
          clear hown7 hgrow7 f1 f2 hd1 hd2 hd3
          go_wp2
          go_roundw
          case rel => exact ⟨s.size + 1, v7, O ++ [wd], [], rfl, rfl, by omega, by go_num, NX.out⟩
          case measure => simp [intOf]
      · obtain rfl : k = s.size + 1 := by omega
        have hl1 : ¬ ((s.size + 1 : Nat) : Int) < (s.size : Int) + 1 := by omega
        have hO : O = rowsF T [] := by
          have h := hS.out.is
          rw [if_neg (by have := HSZ.out; omega)] at h; exact h
        have PP : Hid (RwP T w (.returned v) wr) := ⟨v, rfl, hS.out.bel, by rw [← hO]; exact hS.out.own⟩
        clear hO hlt
        go_wp2
        go_ret
        exact PP.out
end Go.Proofs.YtdapmmhbnaknbaaDoor
namespace Go.Proofs.YtdapmmhbnaknbaaDoor
open Go.RowKit Go.WideMaps Go.Maps

theorem suf_ahd {w p : ByteArray} (h : Lib.hasSuffix w.data.toList p.data.toList = true) : w.extract 0 (w.size - p.size) = ahd w p ∧ (ahd w p).size = w.size - p.size := by
  have e : ahd w p = ⟨(w.data.toList.take (w.data.toList.length - p.data.toList.length)).toArray⟩ := by unfold ahd Lib.trimSuffix; rw [if_pos h]
  have s1 := Lib.size_eq w
  have s2 := Lib.size_eq p
  constructor
  · rw [e]
    apply ByteArray.ext
    rw [ByteArray.data_extract]
    apply Array.ext'
    rw [Array.toList_extract, List.extract_eq_take_drop, s1, s2]
    show w.data.toList.take (w.data.toList.length - p.data.toList.length - 0) = w.data.toList.take _
    rw [Nat.sub_zero]
  · rw [e]
    show (w.data.toList.take (w.data.toList.length - p.data.toList.length)).toArray.size = _
    rw [List.size_toArray, List.length_take]; omega
def S2b (z : Nat) (a b : ByteArray) (w : World) : Prop := w.cell? ⟨z, 0, none⟩ = some (.string a) ∧ w.cell? ⟨z, 1, none⟩ = some (.string b)
/-- A row is taken in. -/
def stW (S : List ByteArray) (E : List En) (O : List ByteArray) (r : List UInt8) : List ByteArray :=
  if Lib.containsS S (btW (r.take 30)) = true then O else if Lib.containsS O (stmB E (btW (r.take 30))) = true then O else O ++ [stmB E (btW (r.take 30))]
def wrF (S : List ByteArray) (E : List En) (rows : List (List UInt8)) : List ByteArray := rows.foldl (stW S E) []
theorem wr_take {S : List ByteArray} {E : List En} {rows : List (List UInt8)} {k : Nat} (h : k < rows.length) : wrF S E (rows.take (k + 1)) = stW S E (wrF S E (rows.take k)) rows[k] := by
  unfold wrF
  rw [List.take_add_one, List.getElem?_eq_getElem h, List.foldl_append]; rfl
theorem containsW_c (a : Option Addr) (c : Nat) (l : List ByteArray) (x : ByteArray) (w : World) (h : RdW w a l) : Calls Tryd.prog 27 #[.slice a l.length c, .string x] w fun e w' => e = .returned (.bool (Lib.containsS l x)) ∧ w = w' := by
  by_cases h0 : l.length = 0
  · obtain rfl : l = [] := List.eq_nil_of_length_eq_zero h0
    refine (Tryd.slices_Contains_string_empty a c x w).mono ?_
    rintro e w' ⟨rfl, rfl⟩
    exact ⟨rfl, rfl⟩
  · obtain ⟨b, off, rfl, _, hc⟩ := h.2.2 (by omega)
    refine (Tryd.slices_Contains_string b off l.length c l x w (Nat.le_refl _) h.1 (fun j hj => by rw [hc j hj]; rfl)).mono ?_
    rintro e w' ⟨rfl, rfl⟩
    rw [List.take_length]
    exact ⟨rfl, rfl⟩
theorem own_slW {w : World} {B : Nat} {e : TypeId} {size : Nat} {v : Value} {n : Nat} {xs : List Value} (h : w.ownsRow B e size v n xs) : ∃ a c, v = .slice a n c := by
  rcases h.2 with ⟨rfl, h0⟩ | ⟨g, cap, cur, rfl, _⟩
  · exact ⟨none, 0, by rw [h0]⟩
  · exact ⟨_, _, rfl⟩
theorem rdW_own {w : World} {B : Nat} {v : Value} {l : List ByteArray} (h : w.ownsRow B 9 1 v l.length (l.map Value.string)) (hn : l.length ≤ 9223372036854775807) (hs : ∀ s, s ∈ l → s.size ≤ 9223372036854775807) : ∃ a c, v = .slice a l.length c ∧ RdW w a l := by
  obtain ⟨a, c, rfl⟩ := own_slW h
  refine ⟨a, c, rfl, hn, hs, fun h0 => ?_⟩
  rcases h.2 with ⟨_, e2⟩ | ⟨g, cap, cur, e1, _⟩
  · omega
  · injection e1 with e1
    subst e1
    refine ⟨g, 0, rfl, (h.lt g rfl).2, fun j hj => ?_⟩
    have := h.cells (g := g) rfl j (.string (wa l j)) (by
      rw [List.getElem?_map, List.getElem?_eq_getElem hj]
      unfold wa; rw [List.getD_eq_getElem?_getD, List.getElem?_eq_getElem hj]; rfl)
    rw [add_at] at this; exact this
theorem RdW.take {w : World} {a : Option Addr} {l : List ByteArray} (h : RdW w a l) (q : Nat) : RdW w a (l.take q) := by
  have hl : (l.take q).length ≤ l.length := by rw [List.length_take]; omega
  refine ⟨Nat.le_trans hl h.1, fun s hs => h.2.1 s (List.mem_of_mem_take hs), fun h0 => ?_⟩
  obtain ⟨b, off, e, hb, hc⟩ := h.2.2 (by omega)
  refine ⟨b, off, e, hb, fun j hj => ?_⟩
  rw [hc j (by omega)]
  unfold wa
  rw [List.getD_eq_getElem?_getD, List.getD_eq_getElem?_getD, List.getElem?_take, if_pos (by rw [List.length_take] at hj; omega)]
def WqP (T : List UInt8) (S : List ByteArray) (E : List En) (w : World) (e : Ending) (w' : World) : Prop :=
  Below w.heap.size w w' ∧ ∃ a c, e = .returned (.slice a ((wrF S E (rowsF T [])).take 60).length c) ∧ RdW w' a ((wrF S E (rowsF T [])).take 60)
theorem stm_le {E : List En} (h30 : ∀ j, j < E.length → (ea E j).fr.size ≤ 30 ∧ (ea E j).to.size ≤ 30) (w : ByteArray) (hw : w.size ≤ 30) : (stmB E w).size ≤ 60 := by
  have h : ∀ l : List En, (∀ e, e ∈ l → e.to.size ≤ 30) → (stmB l w).size ≤ 60 := fun l => by
    induction l with
    | nil => intro _; show w.size ≤ 60; omega
    | cons e l ih =>
      intro hl
      show (if fitsE w e.fr = true then ahd w e.fr ++ e.to else stmB l w).size ≤ 60
      split
      · have := ahd_le w e.fr
        have := hl e (by simp)
        rw [ByteArray.size_append]; omega
      · exact ih fun x hx => hl x (by simp [hx])
  refine h E fun e he => ?_
  obtain ⟨j, hj, e1⟩ := List.getElem_of_mem he
  have := (h30 j hj).2
  unfold ea at this
  rw [List.getD_eq_getElem?_getD, List.getElem?_eq_getElem hj] at this
  simpa [e1] using this
theorem take_size (r : List UInt8) : (btW (r.take 30)).size ≤ 30 := by rw [btW_size, List.length_take]; omega
structure WqI (B : Nat) (V w : World) (S : List ByteArray) (E : List En) (rows : List (List UInt8)) (k : Nat) (v : Value) (O : List ByteArray) : Prop where
  bel : Below B V w
  le : B ≤ w.heap.size
  own : w.ownsRow B 9 1 v O.length (O.map Value.string)
  is : O = wrF S E (rows.take k)
  sz : ∀ s, s ∈ O → s.size ≤ 60
  ol : O.length ≤ k
theorem WqI.keep {B : Nat} {V w w' : World} {S : List ByteArray} {E : List En} {rows : List (List UInt8)} {k : Nat} {v : Value} {O : List ByteArray} (h : WqI B V w S E rows k v O) (hb : Below w.heap.size w w') : WqI B V w' S E rows k v O :=
  ⟨h.bel.trans (hb.mono h.le), Nat.le_trans h.le hb.size, own_keep h.own hb, h.is, h.sz, h.ol⟩
/-- A string ahead of the size. -/
theorem ext_take30 (r : List UInt8) (z : Nat) (hz : min r.length 30 = z) : (btW r).extract 0 z = btW (r.take 30) := by
  apply ByteArray.ext
  show ((btW r).extract 0 z).data = (r.take 30).toArray
  rw [ByteArray.data_extract]
  show r.toArray.extract 0 z = _
  apply Array.ext'
  rw [Array.toList_extract]
  rw [List.extract_eq_take_drop]
  show r.take (z - 0) = r.take 30
  rw [Nat.sub_zero]
  rcases Nat.le_total r.length 30 with h | h
  · rw [Nat.min_eq_left h] at hz
    rw [← hz, List.take_of_length_le (Nat.le_refl _), List.take_of_length_le h]
  · rw [Nat.min_eq_right h] at hz
    rw [← hz]
theorem rowsF_sum : ∀ (l w : List UInt8), (rowsF l w).length ≤ l.length + 1 ∧ ∀ r, r ∈ rowsF l w → r.length ≤ l.length + w.length
  | [], w => by
    unfold rowsF
    split
    · exact ⟨by simp, fun r h => by simp at h⟩
    · exact ⟨by simp, fun r h => by simp at h; subst h; simp⟩
  | b :: l, w => by
    unfold rowsF
    split
    · have h := rowsF_sum l (w ++ [lowB b])
      rw [List.length_append] at h
      simp only [List.length_cons, List.length_nil] at h ⊢
      exact ⟨by omega, fun r hr => by have := h.2 r hr; omega⟩
    · have h := rowsF_sum l []
      simp only [List.length_cons, List.length_nil] at h ⊢
      refine ⟨?_, fun r hr => ?_⟩
      · rw [List.length_append]
        split <;> simp <;> omega
      · rw [List.mem_append] at hr
        rcases hr with hr | hr
        · split at hr
          · simp at hr
          · simp at hr; subst hr; omega
        · have := h.2 r hr; omega
theorem rows_len (s : ByteArray) (hs : s.size ≤ 1000) : (rowsF s.data.toList []).length ≤ 1001 := by
  have := (rowsF_sum s.data.toList []).1
  have := Lib.size_eq s
  omega
theorem rows_size (s : ByteArray) (hs : s.size ≤ 1000) (r : List UInt8) (h : r ∈ rowsF s.data.toList []) : r.length ≤ 1000 := by
  have h1 := (rowsF_sum s.data.toList []).2 r h
  have := Lib.size_eq s
  simp only [List.length_nil] at h1
  omega
set_option maxRecDepth 100000 in
set_option maxHeartbeats 20000000 in
theorem rwords_c (an sa ae ar ax : Option Addr) (k0 k1 k2 k3 k4 : Nat) (C : Cod) (s : ByteArray) (w : World) (hC : CoR w an sa ae ar ax C) (h30 : ∀ j, j < C.en.length → (ea C.en j).fr.size ≤ 30 ∧ (ea C.en j).to.size ≤ 30) (hs : s.size ≤ 1000) :
    Calls Tryd.prog 13 #[.agg #[.slice an C.nd.length k0, .slice sa C.st.length k1, .slice ae C.en.length k2, .slice ar C.ru.length k3, .slice ax C.ex.length k4], .string s] w (WqP s.data.toList C.st C.en w) := by
  obtain ⟨W1, hW1⟩ : ∃ W1, w.alloc (.cells #[.slice an C.nd.length k0, .slice sa C.st.length k1, .slice ae C.en.length k2, .slice ar C.ru.length k3, .slice ax C.ex.length k4] 28) = W1 := ⟨_, rfl⟩
  obtain ⟨z, hz⟩ : ∃ z, w.heap.size = z := ⟨_, rfl⟩
  have X1 : Hid (KB W1 z (.slice an C.nd.length k0) (.slice sa C.st.length k1) (.slice ae C.en.length k2) (.slice ar C.ru.length k3) (.slice ax C.ex.length k4)) := by
    unfold Hid; rw [← hW1, ← hz]; exact KB.made _ _ _ _ _ _ _
  have B1 : Hid (Below w.heap.size w W1) := by unfold Hid; rw [← hW1]; exact bel_one _ _
  have PC := Lib.hid (hC.below B1.out)
  have H30 := Lib.hid h30
  have RW := Lib.hid (rows_c s W1 hs)
  obtain ⟨x0, x1, x2, x3, x4, _⟩ := X1.out
  obtain ⟨j0, hj, hy0, hy1, hy2⟩ := info_parts (show (Tryd.prog.info? 9).map (fun i => (i.zero, i.size, i.bytes)) = some (some (.string ByteArray.empty), 1, 16) by kernel_rfl)
  obtain ⟨rows, hrows⟩ : ∃ r, rowsF s.data.toList [] = r := ⟨_, rfl⟩
  have mixed : Tryd.prog.follows .mixedOrders = true := by kernel_rfl
  clear hC h30
  go_enter Tryd.func13, Tryd.ntmps13
  go_wp2_with fail
  refine RW.out.mono ?_
  rintro e V ⟨rv, rfl, hbV, hown⟩
  have HROWS := Lib.hid hrows
  rw [hrows] at hown
  have BV : Hid (Below w.heap.size w V) := B1.out.trans (hbV.mono B1.out.size)
  have I1 : Hid (Below W1.heap.size W1 V) := hbV
  have hrl : rows.length ≤ 1001 := by rw [← hrows]; exact rows_len s hs
  obtain ⟨ra', rc', rfl, hrr⟩ := rdW_own (l := rows.map btW) (by rw [List.length_map, List.map_map]; exact hown) (by rw [List.length_map]; omega) (fun x hx => by
    rw [List.mem_map] at hx
    obtain ⟨r, hr, rfl⟩ := hx
    have := rows_size s hs r (by rw [hrows]; exact hr)
    rw [btW_size]; omega)
  rw [List.length_map] at *
  have RR' := Lib.hid hrr
  obtain ⟨n, hn⟩ : ∃ n, rows.length = n := ⟨_, rfl⟩
  have HN := Lib.hid hn
  rw [hn] at hrl ⊢
  have S0 : Hid (WqI V.heap.size V V C.st C.en rows 0 (.slice none 0 0) []) := ⟨Below.refl _ _, Nat.le_refl _, ⟨rfl, .inl ⟨rfl, rfl⟩⟩, rfl, fun s h => by simp at h, Nat.le_refl _⟩
  clear hbV hown hrr hrows hn x0 x1 x2 x3 x4 hW1
  go_wp2_with fail
  go_loopw [5, 7, 9, 13] (fun vo _ _ i wr => ∃ (k : Nat) (vo' : Value) (O : List ByteArray), vo' = vo ∧ k ≤ n ∧ i = .int .i64 k ∧ Hid (WqI V.heap.size V wr C.st C.en rows k vo' O)) (fun _ _ _ i _ => n - (intOf i).toNat)
  case atStart => exact ⟨0, _, [], rfl, Nat.zero_le _, rfl, S0.out⟩
  case round =>
    obtain ⟨k, vo, O, rfl, hk, rfl, hS⟩ := hrel
    obtain ⟨w4, hw4⟩ : ∃ w4, w4 = wr := ⟨wr, rfl⟩
    subst hw4
    clear S0
    have hol : O.length ≤ 1001 := by have := hS.out.ol; omega
    obtain ⟨ao, co, rfl, hro⟩ := rdW_own hS.out.own (by omega) (fun x hx => by have := hS.out.sz x hx; omega)
    have HRO := Lib.hid hro
    obtain ⟨no, hno⟩ : ∃ m, O.length = m := ⟨_, rfl⟩
    have HNO := Lib.hid hno
    have I4 : Hid (Below W1.heap.size W1 w4) := I1.out.trans (hS.out.bel.mono I1.out.size)
    by_cases hlt : k < n
    · have hlt' : (k : Int) < (n : Int) := by omega
      obtain ⟨b', off, rfl, hc⟩ := (RR'.out.below hS.out.bel).at_ (k := k) (by rw [List.length_map, HN.out]; exact hlt)
      have c0 := hc k (by rw [List.length_map, HN.out]; exact hlt)
      have hkr : k < rows.length := by rw [HN.out]; exact hlt
      have hr0 : wa (rows.map btW) k = btW rows[k] := by unfold wa; rw [List.getD_eq_getElem?_getD, List.getElem?_map, List.getElem?_eq_getElem hkr]; rfl
      rw [hr0] at c0
      obtain ⟨r, hr⟩ : ∃ r, rows[k] = r := ⟨_, rfl⟩
      rw [hr] at c0
      have HST : Hid (wrF C.st C.en (rows.take (k + 1)) = stW C.st C.en O r) := by unfold Hid; rw [wr_take hkr, hr, ← hS.out.is]
      obtain ⟨d0, hd0⟩ : ∃ d, btW r = d := ⟨_, rfl⟩
      rw [hd0] at c0
      obtain ⟨zz, hzz⟩ : ∃ q, min r.length 30 = q := ⟨_, rfl⟩
      have hd0s : d0.size = r.length := by rw [← hd0, btW_size]
      have hmin : min (d0.size : Int) 30 = (zz : Int) := by rw [hd0s, ← hzz]; omega
      have hz1 : (0 : Int) ≤ (zz : Int) := by omega
      have hz2 : (zz : Int) ≤ (d0.size : Int) := by omega
      have hz3 : zz ≤ d0.size := by omega
      obtain ⟨d, hd⟩ : ∃ d, d0.extract 0 zz = d := ⟨_, rfl⟩
      have hdr : d = btW (r.take 30) := by rw [← hd, ← hd0]; exact ext_take30 r zz hzz
      have HD := Lib.hid hdr
      have hds : d.size ≤ 30 := by rw [hdr]; exact take_size r
      have A1 := Lib.hid (containsW_c sa k1 C.st d w4 (PC.out.st.below I4.out))
      obtain ⟨v0, v1, v2, v3, v4, _⟩ := X1.out.keep I4.out
      clear hc hr0 hr hkr hd0 hzz hdr hro hd0s hno
      cases h1 : Lib.containsS C.st d with
      | true =>
        rw [h1] at A1
        have NX : Hid (WqI V.heap.size V w4 C.st C.en rows (k + 1) (.slice ao O.length co) O) := by
          refine ⟨hS.out.bel, hS.out.le, hS.out.own, ?_, hS.out.sz, by have := hS.out.ol; omega⟩
          rw [HST.out]; unfold stW; rw [← HD.out, if_pos h1]
        clear h1
        go_wp2_with fail
        refine A1.out.mono ?_
        rintro e1 w5 ⟨rfl, rfl⟩
        go_wp2
        go_roundw
        case rel => exact ⟨k + 1, _, O, rfl, by omega, by go_num, NX.out⟩
        case measure => simp [intOf]; omega
      | false =>
        rw [h1] at A1
        have H1 := Lib.hid h1
        clear h1
        go_wp2_with fail
        refine A1.out.mono ?_
        rintro e1 w5 ⟨rfl, rfl⟩
        go_wp2_with fail
        clear v0 v1 v2 v3 v4 c0 hmin hz1 hz2 hz3 hd
        have m2 := PC.out.en.1
        go_loopw [7, 9, 29] (fun wv _ i wq => ∃ j : Nat, j ≤ C.en.length ∧ wv = .string d ∧ i = .int .i64 j ∧ Hid (Below w4.heap.size w4 wq ∧ stmB (C.en.drop j) d = stmB C.en d)) (fun _ _ i _ => C.en.length - (intOf i).toNat)
        case atStart => exact ⟨0, Nat.zero_le _, rfl, rfl, Below.refl _ _, rfl⟩
        case round =>
          obtain ⟨j, hj', rfl, rfl, hR⟩ := hrel
          obtain ⟨w5, hw5⟩ : ∃ w5, w5 = wr := ⟨wr, rfl⟩
          subst hw5
          by_cases hjl : j < C.en.length
          · obtain ⟨b2, off2, rfl, _, hc⟩ := (PC.out.en.below (I4.out.trans (hR.out.1.mono I4.out.size))).2 (by omega)
            obtain ⟨u0, u1, u2, u3⟩ := hc j hjl
            have hjl' : (j : Int) < (C.en.length : Int) := by omega
            have hst := stm_step (E := C.en) (w := d) (k := j) hjl
            have hz30 := H30.out j hjl
            obtain ⟨en, hen⟩ : ∃ e, ea C.en j = e := ⟨_, rfl⟩
            rw [hen] at u0 u1 u2 u3 hst hz30
            obtain ⟨W3, hW3⟩ : ∃ W3, w5.alloc (.cells #[.string en.fr, .string en.to] 50) = W3 := ⟨_, rfl⟩
            obtain ⟨ez, hez⟩ : ∃ q, w5.heap.size = q := ⟨_, rfl⟩
            have X3 : Hid (B2x W3 ez (.string en.fr) (.string en.to)) := by unfold Hid; rw [← hW3, ← hez]; exact B2x.made _ _ _ _
            have B3 : Hid (Below w5.heap.size w5 W3) := by unfold Hid; rw [← hW3]; exact bel_one _ _
            have B43 : Hid (Below w4.heap.size w4 W3) := hR.out.1.trans (B3.out.mono hR.out.1.size)
            have A2 := Lib.hid ((Tryd.strings_HasSuffix d en.fr W3 (by omega)).mono (R' := fun e w' => e = .returned (.bool (Lib.hasSuffix d.data.toList en.fr.data.toList)) ∧ W3 = w') fun _ _ h => ⟨h.1, h.2.symm⟩)
            have HSS := Lib.hid hst
            have hfz := hz30.1
            have htz := hz30.2
            obtain ⟨v0, v1, _⟩ := X3.out
            clear hc hen u2 u3 hst hz30
            cases h1 : Lib.hasSuffix d.data.toList en.fr.data.toList with
            | true =>
              rw [h1] at A2
              have hsf := suf_ahd h1
              by_cases h2 : en.fr.size + 3 ≤ d.size
              · have h2' : (en.fr.size : Int) + 3 ≤ (d.size : Int) := by omega
                have hfit : fitsE d en.fr = true := by unfold fitsE; rw [h1, decide_eq_true (by rw [hsf.2]; omega)]; rfl
                have HU : Hid (ahd d en.fr ++ en.to = stmB C.en d) := by unfold Hid; rw [← hR.out.2, HSS.out, if_pos hfit]
                have HSF := Lib.hid hsf.1
                clear h1 hfit hsf
                go_wp2_with fail
                refine A2.out.mono ?_
                rintro e1 w6 ⟨rfl, rfl⟩
                go_wp2_with fail
                clear hW3 hez u0 u1 v0 v1
                obtain ⟨mm, hmm⟩ : ∃ m : Nat, d.size - en.fr.size = m := ⟨_, rfl⟩
                have hm1 : (d.size : Int) - (en.fr.size : Int) = (mm : Int) := by omega
                have hmw : IntKind.i64.wrap (mm : Int) = (mm : Int) := by rw [IntKind.wrap_i64]; omega
                have hm2 : (0 : Int) ≤ (mm : Int) := by omega
                have hm3 : (mm : Int) ≤ (d.size : Int) := by omega
                have hm4 : mm ≤ d.size := by omega
                obtain ⟨q, hqq⟩ : ∃ q, ahd d en.fr = q := ⟨_, rfl⟩
                have hex : d.extract 0 mm = q := by rw [← hmm, HSF.out]; exact hqq
                have hqs : q.size ≤ d.size := by rw [← hqq]; exact ahd_le _ _
                have hcat : ¬ (9223372036854775807 : Int) < (q.size : Int) + (en.to.size : Int) := by omega
                have hcat2 : ¬ 9223372036854775807 < q.size + en.to.size := by omega
                rw [hqq] at HU
                clear hmm hqq
                refine wp_region_noPanic ?_
                refine wp_region_held_drew (S := S2b ez en.fr en.to) (by kernel_rfl) (by exact ⟨X3.out.c0, X3.out.c1⟩) (fun hS' => ?_)
                obtain ⟨WD, hWD⟩ : ∃ W, W3.drew = W := ⟨_, rfl⟩
                have B4D : Hid (Below w4.heap.size w4 WD) := by unfold Hid; rw [← hWD]; exact B43.out.drew
                rw [hWD] at hS' ⊢
                clear hWD
                refine wpAnyH_take (i := 0) (v := ?v0z1) rfl (by kernel_rfl) (by kernel_rfl) (by kernel_rfl) (fun _ _ _ h => h) (Or.inl ⟨by rfl, ?hy0z1⟩) (by assumption) ?rest0z1
                case hy0z1 =>
                  intro w hSw
                  dsimp only [S2b] at hSw
                  go_simp
                  try with_reducible rfl
                simp only [Act.put, List.getElem_toArray, List.getElem_cons_succ, List.getElem_cons_zero, List.setIfInBounds_toArray, List.set_cons_zero, List.set_cons_succ]
                refine wpAnyH_take (i := 1) (v := ?v1z2) rfl (by kernel_rfl) (by kernel_rfl) (by kernel_rfl) (fun _ _ _ h => h) (Or.inl ⟨by rfl, ?hy1z2⟩) (by assumption) ?rest1z2
                case hy1z2 =>
                  intro w hSw
                  dsimp only [S2b] at hSw
                  go_simp
                  try with_reducible rfl
                simp only [Act.put, List.getElem_toArray, List.getElem_cons_succ, List.getElem_cons_zero, List.setIfInBounds_toArray, List.set_cons_zero, List.set_cons_succ]
                refine wpAnyH_take (i := 2) (v := ?v2z3) rfl (by kernel_rfl) (by kernel_rfl) (by kernel_rfl) (fun _ _ _ h => h) (Or.inl ⟨by rfl, ?hy2z3⟩) (by assumption) ?rest2z3
                case hy2z3 =>
                  intro w hSw
                  dsimp only [S2b] at hSw
                  go_simp
                  try with_reducible rfl
                simp only [Act.put, List.getElem_toArray, List.getElem_cons_succ, List.getElem_cons_zero, List.setIfInBounds_toArray, List.set_cons_zero, List.set_cons_succ]
                refine wpAnyH_take (i := 3) (v := ?v3z4) rfl (by kernel_rfl) (by kernel_rfl) (by kernel_rfl) (fun _ _ _ h => h) (Or.inl ⟨by rfl, ?hy3z4⟩) (by assumption) ?rest3z4
                case hy3z4 =>
                  intro w hSw
                  dsimp only [S2b] at hSw
                  go_simp
                  try with_reducible rfl
                simp only [Act.put, List.getElem_toArray, List.getElem_cons_succ, List.getElem_cons_zero, List.setIfInBounds_toArray, List.set_cons_zero, List.set_cons_succ]
                refine wpAnyH_take (i := 4) (v := ?v4z5) rfl (by kernel_rfl) (by kernel_rfl) (by kernel_rfl) (fun _ _ _ h => h) (Or.inl ⟨by rfl, ?hy4z5⟩) (by assumption) ?rest4z5
                case hy4z5 =>
                  intro w hSw
                  dsimp only [S2b] at hSw
                  go_simp
                  try with_reducible rfl
                simp only [Act.put, List.getElem_toArray, List.getElem_cons_succ, List.getElem_cons_zero, List.setIfInBounds_toArray, List.set_cons_zero, List.set_cons_succ]
                refine wpAnyH_take (i := 5) (v := ?v5z6) rfl (by kernel_rfl) (by kernel_rfl) (by kernel_rfl) (fun _ _ _ h => h) (Or.inl ⟨by rfl, ?hy5z6⟩) (by assumption) ?rest5z6
                case hy5z6 =>
                  intro w hSw
                  dsimp only [S2b] at hSw
                  go_simp
                  try with_reducible rfl
                simp only [Act.put, List.getElem_toArray, List.getElem_cons_succ, List.getElem_cons_zero, List.setIfInBounds_toArray, List.set_cons_zero, List.set_cons_succ]
                refine wpAnyH_take (i := 6) (v := ?v6z7) rfl (by kernel_rfl) (by kernel_rfl) (by kernel_rfl) (fun _ _ _ h => h) (Or.inl ⟨by rfl, ?hy6z7⟩) (by assumption) ?rest6z7
                case hy6z7 =>
                  intro w hSw
                  dsimp only [S2b] at hSw
                  go_simp
                  try with_reducible rfl
                simp only [Act.put, List.getElem_toArray, List.getElem_cons_succ, List.getElem_cons_zero, List.setIfInBounds_toArray, List.set_cons_zero, List.set_cons_succ]
                refine wpAnyH_take (i := 7) (v := ?v7z8) rfl (by kernel_rfl) (by kernel_rfl) (by kernel_rfl) (fun _ _ _ h => h) (Or.inl ⟨by rfl, ?hy7z8⟩) (by assumption) ?rest7z8
                case hy7z8 =>
                  intro w hSw
                  dsimp only [S2b] at hSw
                  go_simp
                  try with_reducible rfl
                simp only [Act.put, List.getElem_toArray, List.getElem_cons_succ, List.getElem_cons_zero, List.setIfInBounds_toArray, List.set_cons_zero, List.set_cons_succ]
                refine wpAnyH_take (i := 8) (v := ?v8z9) rfl (by kernel_rfl) (by kernel_rfl) (by kernel_rfl) (fun _ _ _ h => h) (Or.inl ⟨by rfl, ?hy8z9⟩) (by assumption) ?rest8z9
                case hy8z9 =>
                  intro w hSw
                  dsimp only [S2b] at hSw
                  go_simp
                  try with_reducible rfl
                simp only [Act.put, List.getElem_toArray, List.getElem_cons_succ, List.getElem_cons_zero, List.setIfInBounds_toArray, List.set_cons_zero, List.set_cons_succ]
                refine wpAnyH_take (i := 9) (v := ?v9z10) rfl (by kernel_rfl) (by kernel_rfl) (by kernel_rfl) (fun _ _ _ h => h) (Or.inl ⟨by rfl, ?hy9z10⟩) (by assumption) ?rest9z10
                case hy9z10 =>
                  intro w hSw
                  dsimp only [S2b] at hSw
                  go_simp
                  try with_reducible rfl
                simp only [Act.put, List.getElem_toArray, List.getElem_cons_succ, List.getElem_cons_zero, List.setIfInBounds_toArray, List.set_cons_zero, List.set_cons_succ]
                refine wpAnyH_take (i := 10) (v := ?v10z11) rfl (by kernel_rfl) (by kernel_rfl) (by kernel_rfl) (fun _ _ _ h => h) (Or.inl ⟨by rfl, ?hy10z11⟩) (by assumption) ?rest10z11
                case hy10z11 =>
                  intro w hSw
                  dsimp only [S2b] at hSw
                  go_simp
                  try with_reducible rfl
                simp only [Act.put, List.getElem_toArray, List.getElem_cons_succ, List.getElem_cons_zero, List.setIfInBounds_toArray, List.set_cons_zero, List.set_cons_succ]
                refine wpAnyH_take (i := 11) (v := ?v11z12) rfl (by kernel_rfl) (by kernel_rfl) (by kernel_rfl) (fun _ _ _ h => h) (Or.inl ⟨by rfl, ?hy11z12⟩) (by assumption) ?rest11z12
                case hy11z12 =>
                  intro w hSw
                  dsimp only [S2b] at hSw
                  go_simp
                  try with_reducible rfl
                simp only [Act.put, List.getElem_toArray, List.getElem_cons_succ, List.getElem_cons_zero, List.setIfInBounds_toArray, List.set_cons_zero, List.set_cons_succ]
                refine wpAnyH_done (by kernel_rfl) ?_ _
                refine NoPanic.normal ?_
                clear hex hcat hcat2 hm1 hmw hm2 hm3 hm4 hS'
                have A3 := Lib.hid (containsW_c ao co O (q ++ en.to) WD (HRO.out.below B4D.out))
                cases hq : Lib.containsS O (q ++ en.to) with
                | true =>
                  rw [hq] at A3
                  have NX : Hid (WqI V.heap.size V WD C.st C.en rows (k + 1) (.slice ao O.length co) O) := by
                    have h := hS.out.keep B4D.out
                    refine ⟨h.bel, h.le, h.own, ?_, h.sz, by have := h.ol; omega⟩
                    rw [HST.out]; unfold stW; rw [← HD.out, if_neg (by rw [H1.out]; simp), ← HU.out, if_pos hq]
                  clear hq
                  go_wp2_with fail
                  refine A3.out.mono ?_
                  rintro e1 w7 ⟨rfl, rfl⟩
                  go_wp2
                  go_roundw
                  case rel => exact ⟨k + 1, _, O, rfl, by omega, by go_num, NX.out⟩
                  case measure => simp [intOf]; omega
                | false =>
                  rw [hq] at A3
                  have SU : Hid (((q ++ en.to) : ByteArray).size ≤ 60) := by unfold Hid; rw [HU.out]; exact stm_le H30.out d hds
                  have ST : Hid (stW C.st C.en O r = O ++ [(q ++ en.to)]) := by unfold Hid stW; rw [← HD.out, if_neg (by rw [H1.out]; simp), ← HU.out, if_neg (by rw [hq]; simp)]
                  have h6 := Lib.hid (hS.out.keep B4D.out)
                  have hd1 : O.length + 1 ≤ maxLen := by unfold maxLen; omega
                  have hd2 : (O.length + 1) * 16 ≤ 140737488355328 := by omega
                  have hd3 : V.heap.size ≤ ((WD : World).alloc (.cells #[.string (q ++ en.to)] 9)).heap.size := by have := h6.out.le; simp; omega
                  clear hq
                  go_wp2_with fail
                  refine A3.out.mono ?_
                  rintro e1 w7 ⟨rfl, rfl⟩
                  go_wp2_with (at_builtin; refine wpList_append_own _ rfl _ _ 23 rfl V.heap.size 9 j0 (.string ByteArray.empty) 1 16 Tryd.underlying23 hj hy0 hy1 hy2 rfl (by decide) _ _ _ rfl (h6.out.own.alloc _) ⟨(WD : World).heap.size, 0, none⟩ 1 1 [.string (q ++ en.to)] rfl rfl (cell_one_new _ _ _) (by simp [Value.oneCell']) hd1 hd2 hd3 ?_)
                  intro v7 w8 hown7 hgrow7 _
                  have NX : Hid (WqI V.heap.size V w8 C.st C.en rows (k + 1) v7 (O ++ [(q ++ en.to)])) := by
                    refine ⟨(h6.out.bel.alloc h6.out.le _).grown hgrow7 hd3 (fun u e => (h6.out.own.lt u e).1), Nat.le_trans hd3 hgrow7.size, ?_, ?_, fun x hx => ?_, ?_⟩
                    · rw [List.length_append, List.map_append]; exact hown7
                    · rw [HST.out, ST.out]
                    · rw [List.mem_append] at hx
                      rcases hx with hx | hx
                      · exact hS.out.sz x hx
                      · simp at hx; subst hx; exact SU.out
                    · rw [List.length_append]; have := hS.out.ol; simp; omega
                  clear hown7 hgrow7 hd1 hd2 hd3
                  go_wp2
                  go_roundw
                  case rel => exact ⟨k + 1, _, O ++ [(q ++ en.to)], rfl, by omega, by go_num, NX.out⟩
                  case measure => simp [intOf]; omega
              · have h2' : ¬ (en.fr.size : Int) + 3 ≤ (d.size : Int) := by omega
                have NX : Hid (stmB (C.en.drop (j + 1)) d = stmB C.en d) := by unfold Hid; rw [← hR.out.2, HSS.out, if_neg (by unfold fitsE; rw [decide_eq_false (by rw [hsf.2]; omega)]; simp)]
                clear h1 hsf
                go_wp2_with fail
                refine A2.out.mono ?_
                rintro e1 w6 ⟨rfl, rfl⟩
                go_wp2
                go_roundw
                case rel => exact ⟨j + 1, by omega, rfl, by go_num, B43.out, NX.out⟩
                case measure => simp [intOf]; omega
            | false =>
              rw [h1] at A2
              have NX : Hid (stmB (C.en.drop (j + 1)) d = stmB C.en d) := by unfold Hid; rw [← hR.out.2, HSS.out, if_neg (by unfold fitsE; rw [h1]; simp)]
              clear h1
              go_wp2_with fail
              refine A2.out.mono ?_
              rintro e1 w6 ⟨rfl, rfl⟩
              go_wp2
              go_roundw
              case rel => exact ⟨j + 1, by omega, rfl, by go_num, B43.out, NX.out⟩
              case measure => simp [intOf]; omega
          · have hjl' : ¬ (j : Int) < (C.en.length : Int) := by omega
            have HU : Hid (d = stmB C.en d) := by
              have h := hR.out.2
              rw [List.drop_of_length_le (by omega)] at h
              exact h
            have B45 : Hid (Below w4.heap.size w4 w5) := hR.out.1
            clear hjl
            have A3 := Lib.hid (containsW_c ao co O d w5 (HRO.out.below B45.out))
            cases hq : Lib.containsS O d with
            | true =>
              rw [hq] at A3
              have NX : Hid (WqI V.heap.size V w5 C.st C.en rows (k + 1) (.slice ao O.length co) O) := by
                have h := hS.out.keep B45.out
                refine ⟨h.bel, h.le, h.own, ?_, h.sz, by have := h.ol; omega⟩
                rw [HST.out]; unfold stW; rw [← HD.out, if_neg (by rw [H1.out]; simp), ← HU.out, if_pos hq]
              clear hq
              go_wp2_with fail
              refine A3.out.mono ?_
              rintro e1 w7 ⟨rfl, rfl⟩
              go_wp2
              go_roundw
              case rel => exact ⟨k + 1, _, O, rfl, by omega, by go_num, NX.out⟩
              case measure => simp [intOf]; omega
            | false =>
              rw [hq] at A3
              have SU : Hid ((d : ByteArray).size ≤ 60) := by unfold Hid; rw [HU.out]; exact stm_le H30.out d hds
              have ST : Hid (stW C.st C.en O r = O ++ [d]) := by unfold Hid stW; rw [← HD.out, if_neg (by rw [H1.out]; simp), ← HU.out, if_neg (by rw [hq]; simp)]
              have h6 := Lib.hid (hS.out.keep B45.out)
              have hd1 : O.length + 1 ≤ maxLen := by unfold maxLen; omega
              have hd2 : (O.length + 1) * 16 ≤ 140737488355328 := by omega
              have hd3 : V.heap.size ≤ ((w5 : World).alloc (.cells #[.string d] 9)).heap.size := by have := h6.out.le; simp; omega
              clear hq
              go_wp2_with fail
              refine A3.out.mono ?_
              rintro e1 w7 ⟨rfl, rfl⟩
              go_wp2_with (at_builtin; refine wpList_append_own _ rfl _ _ 23 rfl V.heap.size 9 j0 (.string ByteArray.empty) 1 16 Tryd.underlying23 hj hy0 hy1 hy2 rfl (by decide) _ _ _ rfl (h6.out.own.alloc _) ⟨(w5 : World).heap.size, 0, none⟩ 1 1 [.string d] rfl rfl (cell_one_new _ _ _) (by simp [Value.oneCell']) hd1 hd2 hd3 ?_)
              intro v7 w8 hown7 hgrow7 _
              have NX : Hid (WqI V.heap.size V w8 C.st C.en rows (k + 1) v7 (O ++ [d])) := by
                refine ⟨(h6.out.bel.alloc h6.out.le _).grown hgrow7 hd3 (fun u e => (h6.out.own.lt u e).1), Nat.le_trans hd3 hgrow7.size, ?_, ?_, fun x hx => ?_, ?_⟩
                · rw [List.length_append, List.map_append]; exact hown7
                · rw [HST.out, ST.out]
                · rw [List.mem_append] at hx
                  rcases hx with hx | hx
                  · exact hS.out.sz x hx
                  · simp at hx; subst hx; exact SU.out
                · rw [List.length_append]; have := hS.out.ol; simp; omega
              clear hown7 hgrow7 hd1 hd2 hd3
              go_wp2
              go_roundw
              case rel => exact ⟨k + 1, _, O ++ [d], rfl, by omega, by go_num, NX.out⟩
              case measure => simp [intOf]; omega
    · have hlt' : ¬ (k : Int) < (n : Int) := by omega
      have hkn : k = n := by omega
      have HL : Hid ((wrF C.st C.en (rowsF s.data.toList [])).take 60 = O.take 60) := by unfold Hid; rw [HROWS.out, hS.out.is, hkn, ← HN.out, List.take_length]
      obtain ⟨q, hq⟩ : ∃ q, min O.length 60 = q := ⟨_, rfl⟩
      have hmin : min (O.length : Int) 60 = (q : Int) := by rw [← hq]; omega
      have hz1 : (0 : Int) ≤ (q : Int) := by omega
      have HQL : Hid ((O.take 60).length = q) := by unfold Hid; rw [List.length_take, ← hq]; omega
      have BW : Hid (Below w.heap.size w w4) := B1.out.trans (I4.out.mono B1.out.size)
      rcases hS.out.own.2 with ⟨e, h0⟩ | ⟨g, cap, cur, e, _, _, hnc, _⟩
      · injection e with e1 e2 e3
        subst e1 e3
        have hO0 : O = [] := List.eq_nil_of_length_eq_zero h0
        subst hO0
        have hq0 : q = 0 := by rw [← hq]; rfl
        subst hq0
        have PP : Hid (WqP s.data.toList C.st C.en w (.returned (.slice none 0 0)) w4) := ⟨BW.out, none, 0, by rw [HL.out]; rfl, by rw [HL.out]; exact HRO.out⟩
        clear hlt hkn hq h0 e2 hno
        go_wp2
        go_ret
        exact PP.out
      · injection e with e1 e2 e3
        subst e1 e3
        have hqc : (q : Int) ≤ (co : Int) := by rw [← hq]; omega
        have PP : Hid (WqP s.data.toList C.st C.en w (.returned (.slice (some ⟨g, 0, none⟩) q co)) w4) := ⟨BW.out, some ⟨g, 0, none⟩, co, by rw [HL.out, HQL.out], by rw [HL.out]; exact HRO.out.take 60⟩
        clear hlt hkn hq hno
        go_wp2
        go_ret
        exact PP.out
end Go.Proofs.YtdapmmhbnaknbaaDoor
namespace Go.Proofs.YtdapmmhbnaknbaaDoor

theorem stW_pre (S : List ByteArray) (E : List En) (O : List ByteArray) (r : List UInt8) : O <+: stW S E O r := by
  unfold stW
  split
  · exact List.prefix_refl _
  · split
    · exact List.prefix_refl _
    · exact List.prefix_append _ _
theorem wrW_pre (S : List ByteArray) (E : List En) : ∀ (rows : List (List UInt8)) (O : List ByteArray), O <+: rows.foldl (stW S E) O
  | [], O => List.prefix_refl _
  | r :: l, O => (stW_pre S E O r).trans (wrW_pre S E l (stW S E O r))
/-- Behind sixty words the others do not count. -/
theorem wr_sixty {S : List ByteArray} {E : List En} {rows : List (List UInt8)} {k : Nat} (h : (wrF S E (rows.take k)).length = 60) : (wrF S E rows).take 60 = wrF S E (rows.take k) := by
  have e : wrF S E rows = (rows.drop k).foldl (stW S E) (wrF S E (rows.take k)) := by
    unfold wrF
    rw [← List.foldl_append, List.take_append_drop]
  obtain ⟨t, ht⟩ := wrW_pre S E (rows.drop k) (wrF S E (rows.take k))
  rw [e, ← ht, List.take_append_of_le_length (by omega), List.take_of_length_le (by omega)]
theorem lower_is (b : UInt8) : Lib.lowerB b = lowB b := by
  unfold Lib.lowerB lowB
  by_cases h : 65 ≤ b.toNat ∧ b.toNat ≤ 90
  · have e : Lib.isUpperB b = true := by unfold Lib.isUpperB; simp [UInt8.le_iff_toNat_le]; exact h
    rw [if_pos e, if_pos h]
  · have e : ¬ Lib.isUpperB b = true := by unfold Lib.isUpperB; simp [UInt8.le_iff_toNat_le]; intro a; omega
    rw [if_neg e, if_neg h]
theorem lowerA_is (l : List UInt8) : Lib.toLowerA l = l.map lowB := by
  unfold Lib.toLowerA
  exact List.map_congr_left fun b _ => lower_is b
theorem row_lo {b : UInt8} (h : rowB b = true) : b.toNat < 128 := by
  rcases Nat.lt_or_ge b.toNat 128 with q | q
  · exact q
  · rw [row_hi q] at h; cases h
/-- What is yielded is bytes of rows alone. -/
theorem yl_bytes (s : ByteArray) : ∀ (f i : Nat) (st : Option Nat), i ≤ s.size → (∀ a, st = some a → ∀ b, b ∈ (s.extract a i).data.toList → rowB b = true) → ∀ x, x ∈ yl s f i st → ∀ b, b ∈ x.data.toList → rowB b = true
  | 0, i, st, _, _, x, hx => by cases hx
  | f + 1, i, st, h1, h2, x, hx => by
    unfold yl at hx
    by_cases hi : i < s.size
    · rw [if_pos hi] at hx
      have hw : 1 ≤ (Utf8.decode s i).2 ∧ i + (Utf8.decode s i).2 ≤ s.size := by
        by_cases hb : (s[i]'hi).toNat < 128
        · rw [decode_ascii s i hi hb]; exact ⟨Nat.le_refl _, hi⟩
        · have h4 := decode_high s i hi (by omega)
          have h5 := dec_bytes s i hi (by omega)
          refine ⟨h4.2, ?_⟩
          have := (h5 ((Utf8.decode s i).2 - 1) (by omega)).1
          omega
      by_cases hd : dvB (Utf8.decode s i).1 = true
      · rw [if_pos hd, List.mem_append] at hx
        rcases hx with hx | hx
        · cases st with
          | none => cases hx
          | some a =>
            have : x = s.extract a i := by simpa using hx
            subst this
            exact h2 a rfl
        · exact yl_bytes s f _ none hw.2 (fun a h => by cases h) x hx
      · rw [if_neg hd] at hx
        have hb : (s[i]'hi).toNat < 128 := by
          rcases Nat.lt_or_ge (s[i]'hi).toNat 128 with q | q
          · exact q
          · exact absurd (dv_hi (decode_high s i hi q).1) hd
        rw [decode_ascii s i hi hb] at hd hx
        have hr : rowB (s[i]'hi) = true := by
          have := dv_row (s[i]'hi)
          cases e : rowB (s[i]'hi) with
          | true => rfl
          | false => rw [e] at this; exact absurd this hd
        refine yl_bytes s f (i + 1) (some (st.getD i)) hi (fun a h b hb => ?_) x hx
        injection h with h
        have hmem : b ∈ (s.extract a (i + 1)).data.toList → b = s[i]'hi ∨ b ∈ (s.extract a i).data.toList := fun hm => by
          rw [ByteArray.data_extract, Array.toList_extract, List.extract_eq_take_drop] at hm ⊢
          have hl : i < s.data.toList.length := by rw [← Lib.size_eq]; exact hi
          have hai : a ≤ i := by
            cases st with
            | none => simp at h; omega
            | some c =>
              simp at h
              rcases Nat.lt_or_ge i a with q | q
              · rw [show i + 1 - a = 0 by omega] at hm; simp at hm
              · exact q
          rw [show i + 1 - a = (i - a) + 1 by omega, List.take_add_one, List.mem_append] at hm
          rcases hm with hm | hm
          · exact .inr hm
          · left
            rw [List.getElem?_drop, show a + (i - a) = i by omega, at_ba s i hi] at hm
            simpa using hm
        rcases hmem hb with e | e
        · rw [e]; exact hr
        · cases st with
          | none =>
            simp at h; subst h
            rw [ByteArray.data_extract, Array.toList_extract, List.extract_eq_take_drop, Nat.sub_self] at e
            simp at e
          | some c => simp at h; subst h; exact h2 c rfl b e
    · rw [if_neg hi] at hx
      have e : i = s.size := by omega
      subst e
      cases st with
      | none => cases hx
      | some a =>
        have : x = s.extract a s.size := by simpa using hx
        subst this
        exact h2 a rfl
end Go.Proofs.YtdapmmhbnaknbaaDoor
