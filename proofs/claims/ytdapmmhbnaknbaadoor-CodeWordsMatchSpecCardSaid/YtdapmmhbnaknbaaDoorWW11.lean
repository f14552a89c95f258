/-
  Package code: the words of a text: what lies in memory between two rows.
  Package code: the words of a text.
  Package code: arguments opened: the lists that they read as.
  Package code: an argument of the type api.Coder, opened.
-/
import Derived.Test.YtdapmmhbnaknbaaDoorWW10
import Derived.Maps.OwnIn
import Derived.Maps.AppendAt
import Derived.Test.YtdapmmhbnaknbaaDoorWW02
import Derived.ProofKit
import Derived.OpenShut
import Derived.ShutString
import Derived.ChangeOld
import Derived.Deep.DeepHandedRow
import Derived.Lib.SmallJoins
namespace Go.Proofs.YtdapmmhbnaknbaaDoor
open Go.RowKit Go.Shelf Go.Maps Go.WideMaps

theorem StS.snoc {w : World} {m : Nat} {l : List ByteArray} (h : StS w m l l.length) (x : ByteArray) : StS w m (l ++ [x]) l.length := by
  have e : (fun y => if kS (l ++ [x]) l.length y = true then some (Value.bool true) else none) = fun y => if kS l l.length y = true then some (Value.bool true) else none := by
    funext y
    unfold kS
    rw [List.take_append_of_le_length (Nat.le_refl _)]
  unfold StS
  rw [e]; exact h
set_option maxRecDepth 100000 in
theorem StS.look {w : World} {m : Nat} {l : List ByteArray} (h : StS w m l l.length) (x : ByteArray) (hx : x.size ≤ maxLen) :
    (Instr.lookup 36 (.map (some m)) (.string x) false).run Tryd.prog w = .ok (.bool (Lib.containsS l x)) w := by
  have h1 := MapS.look1 h Tryd.underlying36 (z := .bool false) (by rfl) x hx
  rw [h1, kS_all]
  cases Lib.containsS l x <;> rfl
theorem cell_lt {w : World} {p : Addr} {v : Value} (h : w.cell? p = some v) : p.block < w.heap.size := by
  rcases Nat.lt_or_ge p.block w.heap.size with q | q
  · exact q
  · rw [World.cell?, Array.getElem?_eq_none q] at h; cases h
theorem tabs_below {f a : Nat} {w w' : World} (h : Lib.Utf8Tabs f a w) (hb : Below w.heap.size w w') : Lib.Utf8Tabs f a w' :=
  ⟨fun c hc => (hb.cell (cell_lt (h.1 c hc))).trans (h.1 c hc), fun i hi => ⟨(hb.cell (cell_lt (h.2 i hi).1)).trans (h.2 i hi).1, (hb.cell (cell_lt (h.2 i hi).2)).trans (h.2 i hi).2⟩⟩
theorem noRow {X : World} {base size k : Nat} {e : TypeId} {v : Value} {xs : List Value} {row : Option Nat} (hr : X.ownsRow base e size v k xs) (hrow : ∀ r, row = some r → ∃ o : Obj, X.heap[r]? = some o ∧ o.isCells = false) : v.ownBlock = none ∨ v.ownBlock ≠ row := by
  rcases hr.2 with ⟨rfl, _⟩ | ⟨g, cap, cur, rfl, _, hgb, _⟩
  · exact .inl rfl
  · refine .inr fun e' => ?_
    obtain ⟨o, ho, hc⟩ := hrow g (by simpa [Value.ownBlock] using e'.symm)
    rw [hgb] at ho; cases ho; cases hc
def WsO (B h g1 gm g3 b : Nat) : Prop := h < g1 ∧ g1 < B ∧ h < gm ∧ gm < B ∧ h < g3 ∧ g3 < B ∧ h < b ∧ b + 1 < B ∧ g1 ≠ gm ∧ g1 ≠ g3 ∧ gm ≠ g3 ∧ g1 ≠ b ∧ g1 ≠ b + 1 ∧ gm ≠ b ∧ gm ≠ b + 1 ∧ g3 ≠ b ∧ g3 ≠ b + 1
structure WsB (B h g1 gm g3 b : Nat) (V1 V2 : Value) (s : ByteArray) (w W : World) (v : Value) (O : List ByteArray) : Prop where
  s2 : W.heap[h]? = some (.cells #[V1, V2] 38 (0, 0))
  o1 : Boxed W g1 23 v
  k3 : Boxed W g3 36 (.map (some gm))
  f4 : Boxed W b 9 (.string s)
  f5 : Boxed W (b + 1) 58 (.func (.func 21) #[] #[])
  kn : StS W gm O O.length
  bel : Below h w W
  le : B ≤ W.heap.size
section
variable {B h g1 gm g3 b : Nat} {V1 V2 : Value} {s : ByteArray} {w W W' : World} {v : Value} {O : List ByteArray}
theorem WsB.grown (p : WsB B h g1 gm g3 b V1 V2 s w W v O) (hO : WsO B h g1 gm g3 b) {row : Option Nat} (hg : W.grownBy W' row) (hr : ∀ r, row = some r → B ≤ r) : WsB B h g1 gm g3 b V1 V2 s w W' v O := by
  unfold WsO at hO
  have ne : ∀ i, i < B → some i ≠ row := fun i hi e => by have := hr i e.symm; omega
  exact ⟨(hg.block h (Array.getElem?_eq_some_iff.1 p.s2).1 (ne _ (by omega))).trans p.s2, p.o1.kept hg (ne _ (by omega)), p.k3.kept hg (ne _ (by omega)), p.f4.kept hg (ne _ (by omega)), p.f5.kept hg (ne _ (by omega)),
    MapS.kept p.kn hg (ne _ (by omega)), p.bel.grown hg (Nat.le_trans (by omega) p.le) (fun r e => Nat.le_trans (by omega) (hr r e)), Nat.le_trans p.le hg.size⟩
theorem WsB.below (p : WsB B h g1 gm g3 b V1 V2 s w W v O) (hO : WsO B h g1 gm g3 b) (hb : Below W.heap.size W W') : WsB B h g1 gm g3 b V1 V2 s w W' v O :=
  p.grown hO (row := none) ⟨hb.os, hb.tape, hb.output, hb.size, fun i hi _ => hb.block i hi⟩ (fun _ e => by cases e)
theorem WsB.setO (p : WsB B h g1 gm g3 b V1 V2 s w W v O) (hO : WsO B h g1 gm g3 b) (x : Value) : WsB B h g1 gm g3 b V1 V2 s w (W.setCell ⟨g1, 0, none⟩ x) x O := by
  unfold WsO at hO
  have hg := grownBy_setCell' W g1 x
  have ne : ∀ i, i ≠ g1 → some i ≠ some g1 := fun i hi e => hi (by injection e)
  exact ⟨(hg.block h (Array.getElem?_eq_some_iff.1 p.s2).1 (ne _ (by omega))).trans p.s2, p.o1.set x, p.k3.kept hg (ne _ (by omega)), p.f4.kept hg (ne _ (by omega)), p.f5.kept hg (ne _ (by omega)),
    MapS.kept p.kn hg (ne _ (by omega)), p.bel.setCell (p := ⟨g1, 0, none⟩) (by show h ≤ g1; omega) x, Nat.le_trans p.le hg.size⟩
theorem WsB.upd (p : WsB B h g1 gm g3 b V1 V2 s w W v O) (hO : WsO B h g1 gm g3 b) (hg : W.grownBy W' (some gm)) {O' : List ByteArray} (hk : StS W' gm O' O'.length) : WsB B h g1 gm g3 b V1 V2 s w W' v O' := by
  unfold WsO at hO
  have ne : ∀ i, i ≠ gm → some i ≠ some gm := fun i hi e => hi (by injection e)
  exact ⟨(hg.block h (Array.getElem?_eq_some_iff.1 p.s2).1 (ne _ (by omega))).trans p.s2, p.o1.kept hg (ne _ (by omega)), p.k3.kept hg (ne _ (by omega)), p.f4.kept hg (ne _ (by omega)), p.f5.kept hg (ne _ (by omega)),
    hk, p.bel.grown hg (Nat.le_trans (by omega) p.le) (fun r e => by injection e with e; omega), Nat.le_trans p.le hg.size⟩
theorem WsB.ff (p : WsB B h g1 gm g3 b V1 V2 s w W v O) (hT : Lib.Utf8Tabs 0 1 W) : FfI b s W := ⟨p.f4.cell, p.f5.cell, hT⟩
theorem WsB.st (p : WsB B h g1 gm g3 b V1 V2 s w W v O) : B2x W h V1 V2 ∧ ∀ o, W.frozen? ⟨h, o, none⟩ = false := by
  have e := p.s2
  have hl := (Array.getElem?_eq_some_iff.1 e).1
  refine ⟨⟨?_, ?_, hl⟩, fun o => ?_⟩
  · simp [World.cell?, e]
  · simp [World.cell?, e]
  · simp [World.frozen?, e]
/-- Between two rows: n words so far, of the first k rows. -/
def WsG (B h g1 gm g3 b : Nat) (V1 V2 : Value) (s : ByteArray) (w : World) (S : List ByteArray) (E : List En) (R : List (List UInt8)) (ok : Nat → Prop) (k : Nat) (W : World) : Prop :=
  ∃ v O, WsB B h g1 gm g3 b V1 V2 s w W v O ∧ W.ownsRow B 9 1 v O.length (O.map Value.string) ∧ O = wrF S E (R.take k) ∧ ok O.length ∧ ∀ x, x ∈ O → x.size ≤ 60
theorem WsG.own {S : List ByteArray} {E : List En} {R : List (List UInt8)} {ok : Nat → Prop} (hO : WsO B h g1 gm g3 b) (d : Nat) : OwnFrom B (fun k W => WsG B h g1 gm g3 b V1 V2 s w S E R ok (k + d) W) := by
  rintro k X Y row ⟨v, O, hB, hr, he, hn, hs⟩ hg hrow
  exact ⟨v, O, hB.grown hO hg (fun r e => (hrow r e).1), hr.kept hg (noRow hr fun r e => (hrow r e).2), he, hn, hs⟩
theorem WsG.below {S : List ByteArray} {E : List En} {R : List (List UInt8)} {ok : Nat → Prop} {k : Nat} (hO : WsO B h g1 gm g3 b) (hb : Below W.heap.size W W') (p : WsG B h g1 gm g3 b V1 V2 s w S E R ok k W) : WsG B h g1 gm g3 b V1 V2 s w S E R ok k W' := by
  obtain ⟨v, O, hB, hr, he, hn, hs⟩ := p
  exact ⟨v, O, hB.below hO hb, own_keep hr hb, he, hn, hs⟩
theorem WsG.bel {S : List ByteArray} {E : List En} {R : List (List UInt8)} {ok : Nat → Prop} {k : Nat} (p : WsG B h g1 gm g3 b V1 V2 s w S E R ok k W) : Below h w W := by
  obtain ⟨v, O, hB, _⟩ := p
  exact hB.bel
end
theorem ext_low30 (x : ByteArray) (q : Nat) (hq : min x.size 30 = q) : (⟨(Lib.toLowerA (x.extract 0 q).data.toList).toArray⟩ : ByteArray) = btW ((x.data.toList.map lowB).take 30) := by
  rw [lowerA_is]
  unfold btW
  congr 2
  rw [ByteArray.data_extract, Array.toList_extract, List.extract_eq_take_drop, List.drop_zero, List.map_take, Nat.sub_zero]
  have hs := Lib.size_eq x
  rw [← hq, hs]
  rcases Nat.le_total x.data.toList.length 30 with h | h
  · rw [Nat.min_eq_left h, List.take_of_length_le (by simp), List.take_of_length_le (by simpa using h)]
  · rw [Nat.min_eq_right h]
theorem ext_bytes {x : ByteArray} {q : Nat} {p : UInt8 → Prop} (h : ∀ b, b ∈ x.data.toList → p b) : ∀ b, b ∈ (x.extract 0 q).data.toList → p b := by
  intro b hb
  rw [ByteArray.data_extract, Array.toList_extract, List.extract_eq_take_drop] at hb
  exact h b (List.mem_of_mem_drop (List.mem_of_mem_take hb))
end Go.Proofs.YtdapmmhbnaknbaaDoor
namespace Go.Proofs.YtdapmmhbnaknbaaDoor
open Go.RowKit Go.Shelf Go.Maps Go.WideMaps

attribute [local go_sem] Oper.semAt_some

theorem infoStr : (Tryd.prog.info? 9).map (fun i => (i.zero, i.size, i.bytes)) = some (some (.string ByteArray.empty), 1, 16) := by kernel_rfl
set_option maxRecDepth 100000 in
set_option maxHeartbeats 8000000 in
theorem words_c (m : Nat) (ae : Option Addr) (k2 : Nat) (S : List ByteArray) (E : List En) (s : ByteArray) (w : World) (hS : StS w m S S.length) (hE : RdE w ae E) (hT : Lib.Utf8Tabs 0 1 w)
    (h30 : ∀ j, j < E.length → (ea E j).fr.size ≤ 30 ∧ (ea E j).to.size ≤ 30) (hs : s.size ≤ 1000) :
    Calls Tryd.prog 11 #[.agg #[.map (some m), .slice ae E.length k2], .string s] w (WqP s.data.toList S E w) := by
  refine (callsIn_wide (n := 8)).1 ?_
  refine callsIn_of_wp_marks Tryd.func11 rfl trivial ?_ rfl
  simp only [Tryd.ntmps11, List.size_toArray, List.length_cons, List.length_nil, Nat.reduceAdd, Nat.reduceSub, Array.replicate_succ, Array.replicate_zero, List.push_toArray, List.append_toArray, List.nil_append, List.cons_append]
  have HC := Lib.hid (fun V => fieldsSeq_c s V)
  have h8 : 1 ≤ 8 := by decide
  have hmm := @run_makeMap Tryd.prog
  gi_wp2_with (refine ⟨trivial, ?_⟩; gi_at_call 23; refine (callsIn_wide.2 (HC.out _)).mono ?_; rintro e w' ⟨rfl, rfl⟩)
  obtain ⟨W0, hW0⟩ : ∃ W0, ((((((w.alloc (.cells #[.map (some m), .slice ae E.length k2] 38)).alloc (.cells #[.slice none 0 0] 23)).alloc (.map #[] 0)).alloc (.cells #[.map (some (w.heap.size + 1 + 1))] 36)).alloc (.cells #[.string s] 9)).alloc (.cells #[.func (.func 21) #[] #[]] 58)) = W0 := ⟨_, rfl⟩
  have SZ : W0.heap.size = w.heap.size + 6 := by rw [← hW0]; simp
  have hM : WsB (w.heap.size + 6) w.heap.size (w.heap.size + 1) (w.heap.size + 1 + 1) (w.heap.size + 1 + 1 + 1) (w.heap.size + 1 + 1 + 1 + 1) (.map (some m)) (.slice ae E.length k2) s w W0 (.slice none 0 0) [] := by
    rw [← hW0]
    refine ⟨?_, ?_, ?_, ?_, ?_, ?_, ?_, by simp⟩
    · have e0 := World.alloc_heap_new w (.cells #[.map (some m), .slice ae E.length k2] 38)
      have old : ∀ (X : World) (o : Obj) (i : Nat) (y : Obj), X.heap[i]? = some y → (X.alloc o).heap[i]? = some y := fun X o i y hy => ((World.grownBy_alloc X o none).block i (Array.getElem?_eq_some_iff.1 hy).1 (by simp)).trans hy
      exact old _ _ _ _ (old _ _ _ _ (old _ _ _ _ (old _ _ _ _ (old _ _ _ _ e0))))
    · simpa using ((((Boxed.new (w.alloc _) _ _).alloc _).alloc _).alloc _).alloc _
    · simpa using ((Boxed.new (((w.alloc _).alloc _).alloc _) _ _).alloc _).alloc _
    · simpa using (Boxed.new ((((w.alloc _).alloc _).alloc _).alloc _) _ _).alloc _
    · simpa using Boxed.new (((((w.alloc _).alloc _).alloc _).alloc _).alloc _) _ _
    · have h0 : StS (((w.alloc (.cells #[.map (some m), .slice ae E.length k2] 38)).alloc (.cells #[.slice none 0 0] 23)).alloc (.map #[] 0)) (w.heap.size + 1 + 1) [] 0 := by
        have h1 := MapS.made ((w.alloc (.cells #[.map (some m), .slice ae E.length k2] 38)).alloc (.cells #[.slice none 0 0] 23))
        unfold StS
        have e : (fun x => if kS [] 0 x = true then some (Value.bool true) else none) = fun _ => none := by funext x; simp [kS]
        rw [e]; simpa using h1
      have al : ∀ {X : World} (o : Obj), StS X (w.heap.size + 1 + 1) [] 0 → StS (X.alloc o) (w.heap.size + 1 + 1) [] 0 := fun {X} o hX => MapS.kept hX (World.grownBy_alloc X o none) (by simp)
      exact al _ (al _ (al _ h0))
    · exact ((((((Below.refl _ w).alloc (Nat.le_refl _) _).alloc (by simp) _).alloc (by simp; omega) _).alloc (by simp; omega) _).alloc (by simp; omega) _).alloc (by simp; omega) _
  rw [hW0]
  clear hW0
  obtain ⟨h, hh⟩ : ∃ h, w.heap.size = h := ⟨_, rfl⟩
  obtain ⟨b, hb⟩ : ∃ b, w.heap.size + 1 + 1 + 1 + 1 = b := ⟨_, rfl⟩
  obtain ⟨g3, hg3⟩ : ∃ b, w.heap.size + 1 + 1 + 1 = b := ⟨_, rfl⟩
  obtain ⟨gm, hgm⟩ : ∃ b, w.heap.size + 1 + 1 = b := ⟨_, rfl⟩
  obtain ⟨g1, hg1⟩ : ∃ b, w.heap.size + 1 = b := ⟨_, rfl⟩
  obtain ⟨B, hB⟩ : ∃ b, w.heap.size + 6 = b := ⟨_, rfl⟩
  have HO : Hid (WsO B h g1 gm g3 b) := by unfold Hid WsO; omega
  rw [hB, hb, hg3, hgm, hg1, hh] at hM
  rw [hB] at SZ
  rw [show w.heap.size + 1 + 1 + 1 + 1 + 1 = b + 1 by omega, hb, hg3, hgm, hg1, hh]
  have HH := Lib.hid hh
  have HS := Lib.hid hS
  have HE := Lib.hid hE
  have HT := Lib.hid hT
  have H30 := Lib.hid h30
  clear hh hb hg3 hgm hg1 hB hS hE hT h30
  obtain ⟨rows, hrows⟩ : ∃ rows, yl s (s.size + 1) 0 none = rows := ⟨_, rfl⟩
  obtain ⟨R, hR⟩ : ∃ R : List (List UInt8), rows.map (fun x => x.data.toList.map lowB) = R := ⟨_, rfl⟩
  have HRF : Hid (rowsF s.data.toList [] = R) := by
    unfold Hid
    have := yl_rows s (s.size + 1) 0 none (Nat.zero_le _) (by omega) (fun a h => by cases h)
    rw [hrows, hR] at this
    exact this.symm
  have HRL : Hid (R.length = rows.length) := by unfold Hid; rw [← hR]; simp
  have HB : Hid (∀ x, x ∈ rows → ∀ c, c ∈ x.data.toList → rowB c = true) := by
    unfold Hid; rw [← hrows]
    exact yl_bytes s (s.size + 1) 0 none (Nat.zero_le _) (fun a h => by cases h)
  have HRX : Hid (∀ k x, rows[k]? = some x → k < R.length ∧ R[k]? = some (x.data.toList.map lowB)) := by
    unfold Hid
    intro k x hk
    have : R[k]? = some (x.data.toList.map lowB) := by rw [← hR, List.getElem?_map, hk]; rfl
    exact ⟨(List.getElem?_eq_some_iff.1 this).1, this⟩
  have hW0h : W0.heap.size = B := SZ
  refine range_fields (n := 8) b rfl rfl (by decide) s hs rows hrows (fun k W => WsG B h g1 gm g3 b (.map (some m)) (.slice ae E.length k2) s w S E R (fun n => n < 60) (k + 0) W) (fun k W => WsG B h g1 gm g3 b (.map (some m)) (.slice ae E.length k2) s w S E R (fun n => n = 60) (k + 1) W)
    (by rw [hW0h]; exact WsG.own HO.out 0) (fun k W W' hI hb => WsG.below HO.out hb hI) ?ff (by rw [hW0h]; exact WsG.own HO.out 1) ?start
    (fun x => { tmps := #[.agg #[.map (some m), .slice ae E.length k2], .string s, .pointer (some ⟨h, 0, none⟩), undef, .slice none 0 0, .pointer (some ⟨g1, 0, none⟩), .pointer (some ⟨g3, 0, none⟩), .func (.func 21) #[] #[], .string x, undef, .map (some gm), .string s, .func (.func 21) #[] #[], .func (.func 40) #[] #[.pointer (some ⟨b, 0, none⟩), .pointer (some ⟨b + 1, 0, none⟩)], .string x, undef, undef, undef, undef, undef, undef, undef, undef, undef, undef, undef, undef, undef, undef, undef, undef, undef, undef, undef, undef, undef, undef, undef, undef, undef, undef, undef], defers := [] }) ?assign ?body ?done ?stop
  case ff =>
    intro k W hI
    obtain ⟨v, O, hB, _⟩ := hI
    exact hB.ff (tabs_below HT.out (by rw [HH.out]; exact hB.bel))
  case start => exact ⟨_, [], hM, World.ownsRow_nil _ _ _ _, rfl, by simp, fun x hx => by cases hx⟩
  case assign =>
    intro l x W K hK
    gi_wp2
    exact hK
  case body =>
    rintro l k x W hk hI
    obtain ⟨v, O, hB, hr, hOe, hlen, hsz⟩ := hI
    rw [Nat.add_zero] at hOe
    obtain ⟨oa, oc, hv⟩ := own_slW hr
    subst hv
    obtain ⟨i0, hi, hz0, hz1, hz2⟩ := info_parts infoStr
    obtain ⟨hkR, hRk⟩ := HRX.out k x hk
    have hxb := HB.out x (List.mem_of_getElem? hk)
    have hxs : x.size ≤ 1000 := by
      have h1 := (rowsF_sum s.data.toList []).2 (x.data.toList.map lowB) (by rw [HRF.out]; exact List.mem_of_getElem? hRk)
      rw [List.length_map] at h1
      have h2 := Lib.size_eq s
      have h3 := Lib.size_eq x
      simp at h1; omega
    obtain ⟨q, hq⟩ : ∃ q, min x.size 30 = q := ⟨_, rfl⟩
    have hmin : min (x.size : Int) 30 = (q : Int) := by omega
    have hq0 : (0 : Int) ≤ (q : Int) := by omega
    have hq1 : (q : Int) ≤ (x.size : Int) := by omega
    obtain ⟨d, hd⟩ : ∃ d, btW ((x.data.toList.map lowB).take 30) = d := ⟨_, rfl⟩
    have hds : d.size ≤ 30 := by rw [← hd]; exact take_size _
    have A1 := Lib.hid (Tryd.strings_ToLower_ascii (x.extract 0 q) W (by rw [ByteArray.size_extract]; omega) (fun j c hc => row_lo (ext_bytes hxb c (List.mem_of_getElem? hc))))
    rw [ext_low30 x q hq, hd] at A1
    have HST : Hid (wrF S E (R.take (k + 1)) = stW S E O (x.data.toList.map lowB)) := by
      unfold Hid
      rw [wr_take hkR, ← hOe]
      have := List.getElem?_eq_getElem hkR
      rw [hRk] at this
      rw [← Option.some.inj this]
    have HD := Lib.hid hd
    have HBB := Lib.hid hB
    have HR := Lib.hid hr
    have HSZ := Lib.hid hsz
    have KX := Lib.hid hkR
    clear hB hr hOe hsz hRk hkR hxb hd hk hq
    gi_wp2_with fail
    refine ⟨trivial, ?_⟩
    refine (CallsIn.inRound l (callsIn_wide.2 A1.out)).mono ?_
    rintro e W1 ⟨rfl, b1⟩
    have HB1 := Lib.hid (HBB.out.below HO.out b1)
    have HR1 := Lib.hid (own_keep HR.out b1)
    have K1 : Hid (KeepsFrom W0.heap.size W W1) := ⟨b1.size, fun i o _ hi _ => (b1.block i (Array.getElem?_eq_some_iff.1 hi).1).trans hi⟩
    have MS : Hid (StS W1 m S S.length) := MapS.below HS.out (by have := HB1.out.bel; rw [← HH.out] at this; exact this) (MapS.lt HS.out)
    have L1 := MS.out.look d (by unfold maxLen; omega)
    obtain ⟨⟨c0, c1, _⟩, f0⟩ := HB1.out.st
    clear b1
    cases hc : Lib.containsS S d with
    | true =>
      rw [hc] at L1
      have PP : Hid (ffPost W0.heap.size (fun k W => WsG B h g1 gm g3 b (.map (some m)) (.slice ae E.length k2) s w S E R (fun n => n < 60) (k + 0) W) (fun k W => WsG B h g1 gm g3 b (.map (some m)) (.slice ae E.length k2) s w S E R (fun n => n = 60) (k + 1) W) k W .normal { tmps := #[], defers := [] } W1) := by
        refine ⟨K1.out, .slice oa O.length oc, O, HB1.out, HR1.out, ?_, hlen, HSZ.out⟩
        rw [Nat.add_zero, HST.out]; unfold stW; rw [HD.out, if_pos hc]
      clear hc
      gi_wp2
      exact PP.out
    | false =>
      rw [hc] at L1
      have A2 := Lib.hid (stem_c (.map (some m)) ae k2 E d W1 (HE.out.below (by rw [HH.out]; exact HB1.out.bel)) H30.out hds)
      obtain ⟨u, hu⟩ : ∃ u, stmB E d = u := ⟨_, rfl⟩
      have hus : u.size ≤ 60 := by rw [← hu]; exact stm_le H30.out d hds
      rw [hu] at A2
      have HU := Lib.hid hu
      have HC1 := Lib.hid hc
      clear hc hu
      gi_wp2_with fail
      refine ⟨trivial, ?_⟩
      refine (CallsIn.inRound l (callsIn_wide.2 A2.out)).mono ?_
      rintro e W2 ⟨rfl, b2⟩
      have HB2 := Lib.hid (HB1.out.below HO.out b2)
      have HR2 := Lib.hid (own_keep HR1.out b2)
      have K2 : Hid (KeepsFrom W0.heap.size W W2) := K1.out.trans ⟨b2.size, fun i o _ hi _ => (b2.block i (Array.getElem?_eq_some_iff.1 hi).1).trans hi⟩
      have k3 := HB2.out.k3.cell
      have o1 := HB2.out.o1.cell
      have L2 := HB2.out.kn.look u (by unfold maxLen; omega)
      clear b2 L1 c0 c1 f0
      cases hc : Lib.containsS O u with
      | true =>
        rw [hc] at L2
        have PP : Hid (∀ a, ffPost W0.heap.size (fun k W => WsG B h g1 gm g3 b (.map (some m)) (.slice ae E.length k2) s w S E R (fun n => n < 60) (k + 0) W) (fun k W => WsG B h g1 gm g3 b (.map (some m)) (.slice ae E.length k2) s w S E R (fun n => n = 60) (k + 1) W) k W .normal a W2) := by
          refine fun a => ⟨K2.out, .slice oa O.length oc, O, HB2.out, HR2.out, ?_, hlen, HSZ.out⟩
          rw [Nat.add_zero, HST.out]; unfold stW; rw [HD.out, if_neg (by rw [HC1.out]; simp), HU.out, if_pos hc]
        have e60 : ((O.length : Int) == 60) = false := by rw [beq_eq_false_iff_ne]; omega
        clear hc
        gi_wp2
        exact PP.out _
      | false =>
        rw [hc] at L2
        have hol : O.length < (O ++ [u]).length := by rw [List.length_append]; exact Nat.lt_succ_self _
        have hwa : wa (O ++ [u]) O.length = u := by unfold wa; rw [List.getD_eq_getElem?_getD, List.getElem?_append_right (Nat.le_refl _)]; simp
        obtain ⟨W3, hup, T3, g3'⟩ := (HB2.out.kn.snoc u).store hol (by unfold maxLen; omega) (by rw [hwa]; unfold maxLen; omega)
        rw [hwa] at hup
        have HB3 := Lib.hid (HB2.out.upd HO.out g3' (O' := O ++ [u]) (by rw [List.length_append]; exact T3))
        have LO := HO.out
        unfold WsO at LO
        have HR3 : Hid (W3.ownsRow B 9 1 (.slice oa O.length oc) O.length (O.map Value.string)) := World.ownsRow.kept HR2.out g3' (by
          rcases hob : (Value.slice oa O.length oc).ownBlock with _ | r
          · exact .inl rfl
          · refine .inr fun e => ?_
            have := (HR2.out.lt r hob).1
            injection e with e; omega)
        have K3 : Hid (KeepsFrom W0.heap.size W W3) := K2.out.trans (KeepsFrom.of_grownBy g3' (fun j e => by injection e with e; omega))
        have HC2 := Lib.hid hc
        have q1 := HB3.out.o1.cell
        have q1' := HB3.out.o1.frozen
        have hb3 : B ≤ W3.heap.size := HB3.out.le
        clear hc T3 g3' LO hwa hol
        gi_wp2_with (gi_at_builtin; refine wpListIn_append_own _ rfl _ _ 23 rfl B 9 i0 (.string ByteArray.empty) 1 16 Tryd.underlying23 hi hz0 hz1 hz2 rfl (by decide) (.slice oa O.length oc) O.length _ rfl (HR3.out.alloc _) ⟨W3.heap.size, 0, none⟩ 1 1 [.string u] rfl rfl (cell_one_new _ _ _) (by simp [Value.oneCell']) ?c3 ?c4 ?c5 ?_)
        case c3 => unfold maxLen; omega
        case c4 => omega
        case c5 => simp; omega
        intro v' w4 hown' hgrow _
        obtain ⟨g', cap', rfl⟩ := ownsRow_succ hown'
        have HB4 := Lib.hid ((HB3.out.below HO.out (bel_one W3 (.cells #[.string u] 9))).grown HO.out hgrow (fun r e => (HR3.out.lt r e).1))
        have K4 : Hid (KeepsFrom W0.heap.size W w4) := (K3.out.trans ((KeepsOthers.alloc _ _).from _)).trans ((KeepsOthers.of_grownBy hgrow fun j o ej hj => by
          rcases (HR3.out.alloc (.cells #[.string u] 9)).2 with ⟨e, _⟩ | ⟨g, cap, cur, e, _, hgb, _⟩
          · rw [e] at ej; simp [Value.ownBlock] at ej
          · rw [e] at ej
            obtain rfl : g = j := by simpa [Value.ownBlock] using ej
            rw [hgb] at hj; cases hj; rfl).from _)
        have y2 := HB4.out.o1.cell
        have y2' := HB4.out.o1.frozen
        obtain ⟨W5, hW5⟩ : ∃ V, w4.setCell ⟨g1, 0, none⟩ (.slice (some ⟨g', 0, none⟩) (O.length + 1) cap') = V := ⟨_, rfl⟩
        have HB5 : Hid (WsB B h g1 gm g3 b (.map (some m)) (.slice ae E.length k2) s w W5 (.slice (some ⟨g', 0, none⟩) (O.length + 1) cap') (O ++ [u])) := by
          unfold Hid; rw [← hW5]; exact HB4.out.setO HO.out _
        have HR5 : Hid (W5.ownsRow B 9 1 (.slice (some ⟨g', 0, none⟩) (O.length + 1) cap') (O ++ [u]).length ((O ++ [u]).map Value.string)) := by
          unfold Hid
          rw [← hW5, List.length_append, List.map_append]
          exact World.ownsRow.kept hown' (grownBy_setCell' w4 g1 _) (.inr (HB4.out.o1.not_row (by decide) hown').symm)
        have K5 : Hid (KeepsFrom W0.heap.size W W5) := by
          unfold Hid; rw [← hW5]; exact K4.out.trans ((KeepsOthers.setCell _ _ _).from _)
        have z1 := HB5.out.o1.cell
        have HE5 : Hid (O ++ [u] = wrF S E (R.take (k + 1))) := by
          unfold Hid
          rw [HST.out]; unfold stW; rw [HD.out, if_neg (by rw [HC1.out]; simp), HU.out, if_neg (by rw [HC2.out]; simp)]
        have HZ5 : Hid (∀ y, y ∈ O ++ [u] → y.size ≤ 60) := by
          intro y hy
          rw [List.mem_append] at hy
          rcases hy with hy | hy
          · exact HSZ.out y hy
          · simp at hy; subst hy; exact hus
        have HL5 : Hid ((O ++ [u]).length = O.length + 1) := by unfold Hid; simp
        clear hown' hgrow q1 q1'
        by_cases h60 : O.length + 1 = 60
        · have PP : Hid (∀ a, ffPost W0.heap.size (fun k W => WsG B h g1 gm g3 b (.map (some m)) (.slice ae E.length k2) s w S E R (fun n => n < 60) (k + 0) W) (fun k W => WsG B h g1 gm g3 b (.map (some m)) (.slice ae E.length k2) s w S E R (fun n => n = 60) (k + 1) W) k W (.exit 0) a W5) :=
            fun a => ⟨rfl, K5.out, _, O ++ [u], HB5.out, HR5.out, HE5.out, by rw [HL5.out]; exact h60, HZ5.out⟩
          have e60 : (((O.length : Int) + 1) == 60) = true := by rw [beq_iff_eq]; omega
          clear h60
          gi_wp2
          exact PP.out _
        · have PP : Hid (∀ a, ffPost W0.heap.size (fun k W => WsG B h g1 gm g3 b (.map (some m)) (.slice ae E.length k2) s w S E R (fun n => n < 60) (k + 0) W) (fun k W => WsG B h g1 gm g3 b (.map (some m)) (.slice ae E.length k2) s w S E R (fun n => n = 60) (k + 1) W) k W .normal a W5) :=
            fun a => ⟨K5.out, _, O ++ [u], HB5.out, HR5.out, HE5.out, by rw [HL5.out]; omega, HZ5.out⟩
          have e60 : (((O.length : Int) + 1) == 60) = false := by rw [beq_eq_false_iff_ne]; omega
          clear h60
          gi_wp2
          exact PP.out _
  case done =>
    intro W hI hK
    obtain ⟨v, O, hB, hr, hOe, hlen, hsz⟩ := hI
    have hl9 : O.length ≤ 9223372036854775807 := by omega
    have r1 := ownsRow_putObj hr (.deferred none) hK rfl
    obtain ⟨oa, oc, hv, hrd⟩ := rdW_own r1 hl9 (fun x hx => by have := hsz x hx; omega)
    subst hv
    have HEQ : Hid ((wrF S E (rowsF s.data.toList [])).take 60 = O) := by
      unfold Hid
      rw [HRF.out]
      rw [Nat.add_zero, ← HRL.out, List.take_length] at hOe
      rw [← hOe, List.take_of_length_le (by omega)]
    have RR : Hid (WqP s.data.toList S E w (.returned (.slice oa O.length oc)) (W.putObj W0.heap.size (.deferred none))) := by
      refine ⟨?_, oa, oc, by rw [HEQ.out], by rw [HEQ.out]; exact hrd⟩
      rw [HH.out]; exact hB.bel.grown (grownBy_putObj' _ _ _) (by have := hB.le; have := HO.out; unfold WsO at this; omega) (fun k e => by cases e; have := HO.out; unfold WsO at this; omega)
    have c2 := hB.o1.cell
    have HK2 := Lib.hid hK
    clear hB hr hOe hlen hsz r1 hrd hK
    gi_wp2
    refine ⟨by simp, .inl ⟨_, _, rfl, run_takeDeferred HK2.out, ?_⟩⟩
    exact ⟨_, by simp [results, Tryd.results11, go_sem], RR.out⟩
  case stop =>
    intro k W hk hX hK
    obtain ⟨v, O, hB, hr, hOe, hlen, hsz⟩ := hX
    have hl9 : O.length ≤ 9223372036854775807 := by omega
    have r1 := ownsRow_putObj hr (.deferred none) hK rfl
    obtain ⟨oa, oc, hv, hrd⟩ := rdW_own r1 hl9 (fun x hx => by have := hsz x hx; omega)
    subst hv
    have HEQ : Hid ((wrF S E (rowsF s.data.toList [])).take 60 = O) := by
      unfold Hid
      rw [HRF.out, hOe]
      exact wr_sixty (by rw [← hOe]; exact hlen)
    have RR : Hid (WqP s.data.toList S E w (.returned (.slice oa O.length oc)) (W.putObj W0.heap.size (.deferred none))) := by
      refine ⟨?_, oa, oc, by rw [HEQ.out], by rw [HEQ.out]; exact hrd⟩
      rw [HH.out]; exact hB.bel.grown (grownBy_putObj' _ _ _) (by have := hB.le; have := HO.out; unfold WsO at this; omega) (fun k e => by cases e; have := HO.out; unfold WsO at this; omega)
    have c2 := hB.o1.cell
    have HK2 := Lib.hid hK
    clear hB hr hOe hlen hsz r1 hrd hK
    gi_wp2
    refine ⟨by simp, .inl ⟨_, _, rfl, run_takeDeferred HK2.out, ?_⟩⟩
    exact ⟨_, by simp [results, Tryd.results11, go_sem], RR.out⟩
end Go.Proofs.YtdapmmhbnaknbaaDoor
namespace Go.Proofs.YtdapmmhbnaknbaaDoor
open Go.ChangeShapes Go.WideShapes Go.ChangeAt Go.RowKit Go.Joins

theorem laidOut : laidOutB Tryd.prog = true := by kernel_rfl
theorem own : ownKnob Tryd.prog.godebug = none := by kernel_rfl
theorem block_lt {W : World} {b o : Nat} {v : Value} (h : W.cell? ⟨b, o, none⟩ = some v) : b < W.heap.size := by
  rcases Nat.lt_or_ge b W.heap.size with l | l
  · exact l
  · simp [World.cell?, Array.getElem?_eq_none l] at h
theorem add_none (b off i : Nat) : (Addr.mk b off none).add i = ⟨b, off + i, none⟩ := by
  unfold Addr.add
  split
  · rename_i h; subst h; simp
  · rfl
theorem cellsI : Tryd.prog.cellsOf 3 = 1 := by kernel_rfl
theorem cellsTx : Tryd.prog.cellsOf 9 = 1 := by kernel_rfl
theorem cellsNd : Tryd.prog.cellsOf 66 = 3 := by kernel_rfl
theorem wf_in {n : Int} (h : (Lit.int .i64 n).wf = true) : in64 n := by
  unfold in64
  simp [Lit.wf, IntKind.min, IntKind.max, IntKind.signed, IntKind.bits] at h
  omega
section
variable {H : Type} {enc : TypeId × Value → H} {W : World}
theorem bulk_all_cons {d : DataW H} {r : List (DataW H)} : Rows.uptoBulkAll (d :: r) = Rows.uptoBulk d + Rows.uptoBulkAll r := by simp only [Rows.uptoBulkAll]
/-- A slice, opened element by element. -/
theorem open_row {α : Type} {tS tE : TypeId} {m : Nat} (hS : Tryd.prog.underlying tS = some (.slice tE)) (hm : Tryd.prog.cellsOf tE = m) (h0 : 0 < m) (El : α → List Value → Prop) (size : α → Nat)
    (hEl : ∀ fuel cs y, DataW.trod enc Tryd.prog W 0 (fun _ => true) true fuel tE cs = some y → ∃ c, El c cs ∧ size c ≤ Rows.uptoBulk y.1)
    {fuel : Nat} {cs : List Value} {x : DataW H × List MemPlace} (h : DataW.trod enc Tryd.prog W 0 (fun _ => true) true fuel tS cs = some x) :
    ∃ (l : List α) (a : Option Addr) (cap : Nat), cs = [.slice a l.length cap] ∧ (l = [] ∨ ∃ b off, a = some ⟨b, off, none⟩ ∧ b < W.heap.size ∧ (l.length ≤ cap ∧ cap ≤ 9223372036854775807) ∧
      ∀ (j : Nat) (c : α), l[j]? = some c → ∃ cs', El c cs' ∧ ∀ i, i < m → W.cell? ⟨b, off + j * m + i, none⟩ = cs'[i]?) ∧ (l.map size).sum + 1 ≤ Rows.uptoBulk x.1 ∧ l.length + 1 ≤ Rows.uptoBulk x.1 := by
  have pos : ∀ d : DataW H, 1 ≤ Rows.uptoBulk d := fun d => by
    cases d with
    | lit v => cases v <;> simp only [Rows.uptoBulk] <;> omega
    | _ => simp only [Rows.uptoBulk]; omega
  rcases DataW.trod_slice hS h with ⟨e7, e8⟩ | ⟨a, len, cap, elems, rest, n, hn, e7, e8, _, hlc, hcm, hel, hat, _, _⟩
  · exact ⟨[], none, 0, e7, .inl rfl, by rw [e8]; simp [Rows.uptoBulk], by rw [e8]; simp [Rows.uptoBulk]⟩
  · have hel1 : Rows.uptoBulkAll (elems.map (·.1)) + 1 ≤ Rows.uptoBulk x.1 := by
      rw [e8]; simp only [Rows.uptoBulk]; omega
    unfold maxLen at hcm
    by_cases hl0 : len = 0
    · subst hl0
      exact ⟨[], some a, cap, e7, .inl rfl, by simp; omega, by simp; omega⟩
    rw [hm] at hat
    have each : ∀ i, i < len → ∃ cs' y, elems[i]? = some y ∧ W.cells? 0 (a.add (i * m)) m = some cs' ∧ DataW.trod enc Tryd.prog W 0 (fun _ => true) true n tE cs' = some y := by
      intro i hi
      have h5 := hat i hi
      have h6 : elems[i]? = some (elems[i]'(by omega)) := List.getElem?_eq_getElem (by omega)
      rw [h6] at h5
      obtain ⟨cs', h7, h8⟩ := Option.bind_eq_some_iff.1 h5
      exact ⟨cs', _, h6, h7, h8⟩
    obtain ⟨b, off, spot⟩ := a
    obtain ⟨hspot, hblk⟩ : spot = none ∧ b < W.heap.size := by
      obtain ⟨cs', y, _, h7, h8⟩ := each 0 (by omega)
      obtain ⟨hlen, _, hc⟩ := World.cells?_some h7
      have hc0 := hc 0 (by omega)
      have hx : ∃ v, cs'[0]? = some v := ⟨cs'[0]'(by omega), List.getElem?_eq_getElem (by omega)⟩
      obtain ⟨v, hv⟩ := hx
      rw [hv] at hc0
      have hs0 : spot = none := by
        simpa [Addr.add] using World.cell?_spot hc0
      subst hs0
      rw [add_none, add_none] at hc0
      exact ⟨rfl, block_lt hc0⟩
    subst hspot
    have row : ∀ j, j ≤ len → ∃ l : List α, l.length = j ∧ (l.map size).sum ≤ Rows.uptoBulkAll ((elems.drop (len - j)).map (·.1)) ∧ l.length ≤ Rows.uptoBulkAll ((elems.drop (len - j)).map (·.1)) ∧
        ∀ (i : Nat) (c : α), l[i]? = some c → ∃ cs', El c cs' ∧ ∀ q, q < m → W.cell? ⟨b, off + (len - j + i) * m + q, none⟩ = cs'[q]? := by
      intro j
      induction j with
      | zero => intro _; exact ⟨[], rfl, by simp, by simp, fun i c hi => by simp at hi⟩
      | succ j ihj =>
        intro hj
        obtain ⟨l, hx1, hx2, hx3, hx4⟩ := ihj (by omega)
        obtain ⟨cs', y, h6, h7, h8⟩ := each (len - (j + 1)) (by omega)
        obtain ⟨c, g1, g2⟩ := hEl _ _ _ h8
        obtain ⟨_, _, hc⟩ := World.cells?_some h7
        rw [add_none] at hc
        have cc : ∀ i, i < m → W.cell? ⟨b, off + (len - (j + 1)) * m + i, none⟩ = cs'[i]? := fun i hi => by
          rw [← add_none]; exact hc i hi
        have hdrop : elems.drop (len - (j + 1)) = y :: elems.drop (len - j) := by
          obtain ⟨hlt, he⟩ := List.getElem?_eq_some_iff.1 h6
          rw [List.drop_eq_getElem_cons hlt, he, show len - (j + 1) + 1 = len - j by omega]
        have hp := pos y.1
        refine ⟨c :: l, by simp [hx1], ?_, ?_, ?_⟩
        · rw [hdrop, List.map_cons, List.map_cons, List.sum_cons, bulk_all_cons]; omega
        · rw [hdrop, List.map_cons, List.length_cons, bulk_all_cons]; omega
        · intro i c' hi
          cases i with
          | zero =>
            simp only [List.getElem?_cons_zero, Option.some.injEq] at hi
            subst hi
            exact ⟨cs', g1, cc⟩
          | succ i =>
            obtain ⟨cs2, g3, g4⟩ := hx4 i c' (by simpa using hi)
            refine ⟨cs2, g3, fun q hq => ?_⟩
            rw [show len - (j + 1) + (i + 1) = len - j + i by omega]
            exact g4 q hq
    obtain ⟨l, hx1, hx2, hx3, hx4⟩ := row len (Nat.le_refl _)
    rw [Nat.sub_self, List.drop_zero] at hx2 hx3
    simp only [Nat.sub_self, Nat.zero_add] at hx4
    exact ⟨l, some ⟨b, off, none⟩, cap, by rw [e7, hx1], .inr ⟨b, off, rfl, hblk, ⟨by omega, by omega⟩, hx4⟩, by omega, by omega⟩


set_option maxRecDepth 100000 in
theorem open_nd (fuel : Nat) (cs : List Value) (y : DataW H × List MemPlace) (h : DataW.trod enc Tryd.prog W 0 (fun _ => true) true fuel 66 cs = some y) :
    ∃ u : Nd, (cs = [.int .i64 u.cd, .int .i64 u.pr, .string u.ti] ∧ ((-9223372036854775808 ≤ u.cd ∧ u.cd ≤ 9223372036854775807) ∧ (-9223372036854775808 ≤ u.pr ∧ u.pr ≤ 9223372036854775807) ∧ u.ti.size ≤ 9223372036854775807)) ∧ 0 ≤ Rows.uptoBulk y.1 := by
  obtain ⟨ys, n, _, rfl, hl, hlen, hf⟩ := DataW.trod_struct Tryd.underlying66 h
  rw [cellsNd] at hl
  obtain ⟨c0, c1, c2, rfl⟩ : ∃ c0 c1 c2, cs = [c0, c1, c2] := by
    match cs, hl with
    | [a0, a1, a2], _ => exact ⟨a0, a1, a2, rfl⟩
  obtain ⟨y0, y1, y2, rfl⟩ : ∃ y0 y1 y2, ys = [y0, y1, y2] := by
    match ys, hlen with
    | [a0, a1, a2], _ => exact ⟨a0, a1, a2, rfl⟩
  have h0 : DataW.trod enc Tryd.prog W 0 (fun _ => true) true n 3 (([c0, c1, c2].drop 0).take (Tryd.prog.cellsOf 3)) = some y0 := hf 0 _ rfl
  have h1 : DataW.trod enc Tryd.prog W 0 (fun _ => true) true n 3 (([c0, c1, c2].drop 1).take (Tryd.prog.cellsOf 3)) = some y1 := hf 1 _ rfl
  have h2 : DataW.trod enc Tryd.prog W 0 (fun _ => true) true n 9 (([c0, c1, c2].drop 2).take (Tryd.prog.cellsOf 9)) = some y2 := hf 2 _ rfl
  simp only [cellsI, cellsTx, List.drop_zero, List.drop_succ_cons, List.take_succ_cons, List.take_zero] at h0 h1 h2
  obtain ⟨v0, e0, _, w0⟩ := DataW.trod_int Tryd.underlying3 h0
  obtain ⟨v1, e1, _, w1⟩ := DataW.trod_int Tryd.underlying3 h1
  obtain ⟨v2, e2, _, w2⟩ := DataW.trod_string Tryd.underlying9 h2
  simp only [List.cons.injEq, and_true] at e0 e1 e2
  subst e0 e1 e2
  unfold maxLen at w2
  exact ⟨⟨v0, v1, v2⟩, ⟨rfl, wf_in w0, wf_in w1, w2⟩, Nat.zero_le _⟩
set_option maxRecDepth 100000 in
theorem open_N {b0 : Nat} {v : Value} {d : DataW H} {p : List MemPlace} (hv : Value.okWide Tryd.prog W .any b0 22 v) (h : DataW.Trod enc Tryd.prog W 0 (fun _ => true) true 22 v d p) :
    ∃ a l c, v = .slice a (List.length l) c ∧ RdN W a l ∧ Fits l ∧ List.length l ≤ c := by
  obtain ⟨a0, len, cap, rfl⟩ := okWide_slice Tryd.underlying22 hv
  obtain ⟨m, h⟩ := h
  obtain ⟨l, a, cap', e, hr, _, _⟩ := open_row (α := Nd) Tryd.underlying22 cellsNd (by decide) (fun u cs => cs = [.int .i64 u.cd, .int .i64 u.pr, .string u.ti] ∧ ((-9223372036854775808 ≤ u.cd ∧ u.cd ≤ 9223372036854775807) ∧ (-9223372036854775808 ≤ u.pr ∧ u.pr ≤ 9223372036854775807) ∧ u.ti.size ≤ 9223372036854775807)) (fun _ => 0) open_nd h
  simp [Value.cells] at e
  obtain ⟨rfl, rfl, rfl⟩ := e
  refine ⟨_, l, _, rfl, ?_⟩
  rcases hr with rfl | ⟨b, off, rfl, hb, hc, hr⟩
  · exact ⟨⟨by simp, fun h => by simp at h⟩, (fun u hu => by cases hu), by simp⟩
  · refine ⟨⟨by omega, fun _ => ⟨b, off, rfl, hb, fun j hj => ?_⟩⟩, fun u hu => ?_, hc.1⟩
    · obtain ⟨cs', hcs, hq⟩ := hr j (nd l j) (by unfold nd; rw [List.getD, List.getElem?_eq_getElem hj]; simp)
      obtain ⟨rfl, _⟩ := hcs
      exact ⟨hq 0 (by omega), hq 1 (by omega), hq 2 (by omega)⟩
    · obtain ⟨j, hj, rfl⟩ := List.mem_iff_getElem.1 hu
      obtain ⟨cs', ⟨_, hs⟩, _⟩ := hr j l[j] (List.getElem?_eq_getElem hj)
      exact hs
end
end Go.Proofs.YtdapmmhbnaknbaaDoor
namespace Go.Proofs.YtdapmmhbnaknbaaDoor
open Go.ChangeShapes Go.WideShapes Go.ChangeAt Go.RowKit Go.Joins

theorem cellsSt : Tryd.prog.cellsOf 23 = 1 := by kernel_rfl
theorem cellsEn : Tryd.prog.cellsOf 50 = 2 := by kernel_rfl
theorem cellsRu : Tryd.prog.cellsOf 53 = 3 := by kernel_rfl
theorem cellsXp : Tryd.prog.cellsOf 56 = 2 := by kernel_rfl
theorem cellsCoder : Tryd.prog.cellsOf 28 = 5 := by kernel_rfl
theorem cellsNds : Tryd.prog.cellsOf 22 = 1 := by kernel_rfl
theorem cellsEns : Tryd.prog.cellsOf 24 = 1 := by kernel_rfl
theorem cellsRus : Tryd.prog.cellsOf 25 = 1 := by kernel_rfl
theorem cellsXps : Tryd.prog.cellsOf 26 = 1 := by kernel_rfl
section
variable {H : Type} {enc : TypeId × Value → H} {W : World}
theorem open_tx (fuel : Nat) (cs : List Value) (y : DataW H × List MemPlace) (h : DataW.trod enc Tryd.prog W 0 (fun _ => true) true fuel 9 cs = some y) :
    ∃ u : ByteArray, (cs = [.string u] ∧ u.size ≤ 9223372036854775807) ∧ 0 ≤ Rows.uptoBulk y.1 := by
  obtain ⟨v, e, _, w⟩ := DataW.trod_string Tryd.underlying9 h
  unfold maxLen at w
  exact ⟨v, ⟨e, w⟩, Nat.zero_le _⟩
theorem open_W {fuel : Nat} {cs : List Value} {x : DataW H × List MemPlace} (h : DataW.trod enc Tryd.prog W 0 (fun _ => true) true fuel 23 cs = some x) :
    ∃ a l c, cs = [.slice a (List.length l) c] ∧ RdW W a l := by
  obtain ⟨l, a, cap, e, hr, _, _⟩ := open_row (α := ByteArray) Tryd.underlying23 cellsTx (by decide) (fun u cs => cs = [.string u] ∧ u.size ≤ 9223372036854775807) (fun _ => 0) open_tx h
  refine ⟨a, l, cap, e, ?_⟩
  rcases hr with rfl | ⟨b, off, rfl, hb, hc, hr⟩
  · exact ⟨by simp, (fun s hs => by cases hs), fun h => by simp at h⟩
  · refine ⟨by omega, fun s hs => ?_, fun _ => ⟨b, off, rfl, hb, fun j hj => ?_⟩⟩
    · obtain ⟨j, hj, rfl⟩ := List.mem_iff_getElem.1 hs
      obtain ⟨cs', ⟨_, hs⟩, _⟩ := hr j l[j] (List.getElem?_eq_getElem hj)
      exact hs
    · obtain ⟨cs', ⟨rfl, _⟩, hq⟩ := hr j (wa l j) (by unfold wa; rw [List.getD, List.getElem?_eq_getElem hj]; simp)
      have := hq 0 (by omega)
      simpa using this
set_option maxRecDepth 100000 in
theorem open_en (fuel : Nat) (cs : List Value) (y : DataW H × List MemPlace) (h : DataW.trod enc Tryd.prog W 0 (fun _ => true) true fuel 50 cs = some y) :
    ∃ u : En, (cs = [.string u.fr, .string u.to] ∧ u.fr.size ≤ 9223372036854775807 ∧ u.to.size ≤ 9223372036854775807) ∧ 0 ≤ Rows.uptoBulk y.1 := by
  obtain ⟨ys, n, _, rfl, hl, hlen, hf⟩ := DataW.trod_struct Tryd.underlying50 h
  rw [cellsEn] at hl
  obtain ⟨c0 , c1, rfl⟩ : ∃ c0 c1, cs = [c0, c1] := by
    match cs, hl with
    | [a0, a1], _ => exact ⟨a0, a1, rfl⟩
  obtain ⟨y0 , y1, rfl⟩ : ∃ y0 y1, ys = [y0, y1] := by
    match ys, hlen with
    | [a0, a1], _ => exact ⟨a0, a1, rfl⟩
  have h0 : DataW.trod enc Tryd.prog W 0 (fun _ => true) true n 9 (([c0, c1].drop 0).take (Tryd.prog.cellsOf 9)) = some y0 := hf 0 _ rfl
  have h1 : DataW.trod enc Tryd.prog W 0 (fun _ => true) true n 9 (([c0, c1].drop 1).take (Tryd.prog.cellsOf 9)) = some y1 := hf 1 _ rfl
  simp only [cellsTx, List.drop_zero, List.drop_succ_cons, List.take_succ_cons, List.take_zero] at h0 h1
  obtain ⟨v0, e0, _, w0⟩ := DataW.trod_string Tryd.underlying9 h0
  obtain ⟨v1, e1, _, w1⟩ := DataW.trod_string Tryd.underlying9 h1
  simp only [List.cons.injEq, and_true] at e0 e1
  subst e0 e1
  unfold maxLen at w0 w1
  exact ⟨⟨v0, v1⟩, ⟨rfl, w0, w1⟩, Nat.zero_le _⟩
set_option maxRecDepth 100000 in
theorem open_xp (fuel : Nat) (cs : List Value) (y : DataW H × List MemPlace) (h : DataW.trod enc Tryd.prog W 0 (fun _ => true) true fuel 56 cs = some y) :
    ∃ u : Xp, (cs = [.string u.tx, .int .i64 u.cd] ∧ u.tx.size ≤ 9223372036854775807) ∧ 0 ≤ Rows.uptoBulk y.1 := by
  obtain ⟨ys, n, _, rfl, hl, hlen, hf⟩ := DataW.trod_struct Tryd.underlying56 h
  rw [cellsXp] at hl
  obtain ⟨c0 , c1, rfl⟩ : ∃ c0 c1, cs = [c0, c1] := by
    match cs, hl with
    | [a0, a1], _ => exact ⟨a0, a1, rfl⟩
  obtain ⟨y0 , y1, rfl⟩ : ∃ y0 y1, ys = [y0, y1] := by
    match ys, hlen with
    | [a0, a1], _ => exact ⟨a0, a1, rfl⟩
  have h0 : DataW.trod enc Tryd.prog W 0 (fun _ => true) true n 9 (([c0, c1].drop 0).take (Tryd.prog.cellsOf 9)) = some y0 := hf 0 _ rfl
  have h1 : DataW.trod enc Tryd.prog W 0 (fun _ => true) true n 3 (([c0, c1].drop 1).take (Tryd.prog.cellsOf 3)) = some y1 := hf 1 _ rfl
  simp only [cellsTx, cellsI, List.drop_zero, List.drop_succ_cons, List.take_succ_cons, List.take_zero] at h0 h1
  obtain ⟨v0, e0, _, w0⟩ := DataW.trod_string Tryd.underlying9 h0
  obtain ⟨v1, e1, _, w1⟩ := DataW.trod_int Tryd.underlying3 h1
  simp only [List.cons.injEq, and_true] at e0 e1
  subst e0 e1
  unfold maxLen at w0
  exact ⟨⟨v0, v1⟩, ⟨rfl, w0⟩, Nat.zero_le _⟩
set_option maxRecDepth 100000 in
theorem open_ru (fuel : Nat) (cs : List Value) (y : DataW H × List MemPlace) (h : DataW.trod enc Tryd.prog W 0 (fun _ => true) true fuel 53 cs = some y) :
    ∃ u : Ru, (∃ a1 c1 a2 c2, cs = [.slice a1 u.wi.length c1, .slice a2 u.wo.length c2, .int .i64 u.cd] ∧ RdW W a1 u.wi ∧ RdW W a2 u.wo) ∧ 0 ≤ Rows.uptoBulk y.1 := by
  obtain ⟨ys, n, _, rfl, hl, hlen, hf⟩ := DataW.trod_struct Tryd.underlying53 h
  rw [cellsRu] at hl
  obtain ⟨c0 , c1 , c2, rfl⟩ : ∃ c0 c1 c2, cs = [c0, c1, c2] := by
    match cs, hl with
    | [a0, a1, a2], _ => exact ⟨a0, a1, a2, rfl⟩
  obtain ⟨y0 , y1 , y2, rfl⟩ : ∃ y0 y1 y2, ys = [y0, y1, y2] := by
    match ys, hlen with
    | [a0, a1, a2], _ => exact ⟨a0, a1, a2, rfl⟩
  have h0 : DataW.trod enc Tryd.prog W 0 (fun _ => true) true n 23 (([c0, c1, c2].drop 0).take (Tryd.prog.cellsOf 23)) = some y0 := hf 0 _ rfl
  have h1 : DataW.trod enc Tryd.prog W 0 (fun _ => true) true n 23 (([c0, c1, c2].drop 1).take (Tryd.prog.cellsOf 23)) = some y1 := hf 1 _ rfl
  have h2 : DataW.trod enc Tryd.prog W 0 (fun _ => true) true n 3 (([c0, c1, c2].drop 2).take (Tryd.prog.cellsOf 3)) = some y2 := hf 2 _ rfl
  simp only [cellsSt, cellsI, List.drop_zero, List.drop_succ_cons, List.take_succ_cons, List.take_zero] at h0 h1 h2
  obtain ⟨v0, l0, c0', e0, w0⟩ := open_W h0
  obtain ⟨v1, l1, c1', e1, w1⟩ := open_W h1
  obtain ⟨v2, e2, _, w2⟩ := DataW.trod_int Tryd.underlying3 h2
  simp only [List.cons.injEq, and_true] at e0 e1 e2
  subst e0 e1 e2
  exact ⟨⟨l0, l1, v2⟩, ⟨_, _, _, _, rfl, w0, w1⟩, Nat.zero_le _⟩
set_option maxRecDepth 100000 in
theorem open_E {fuel : Nat} {cs : List Value} {x : DataW H × List MemPlace} (h : DataW.trod enc Tryd.prog W 0 (fun _ => true) true fuel 24 cs = some x) :
    ∃ a l c, cs = [.slice a (List.length l) c] ∧ RdE W a l := by
  obtain ⟨l, a, cap, e, hr, _, _⟩ := open_row (α := En) Tryd.underlying24 cellsEn (by decide) (fun u cs => cs = [.string u.fr, .string u.to] ∧ u.fr.size ≤ 9223372036854775807 ∧ u.to.size ≤ 9223372036854775807) (fun _ => 0) open_en h
  refine ⟨a, l, cap, e, ?_⟩
  rcases hr with rfl | ⟨b, off, rfl, hb, hc, hr⟩
  · exact ⟨by simp, fun h => by simp at h⟩
  · refine ⟨by omega, fun _ => ⟨b, off, rfl, hb, fun j hj => ?_⟩⟩
    obtain ⟨cs', hcs, hq⟩ := hr j (ea l j) (by unfold ea; rw [List.getD, List.getElem?_eq_getElem hj]; simp)
    obtain ⟨rfl, z⟩ := hcs
    exact ⟨hq 0 (by omega), hq 1 (by omega), z⟩
set_option maxRecDepth 100000 in
theorem open_X {fuel : Nat} {cs : List Value} {x : DataW H × List MemPlace} (h : DataW.trod enc Tryd.prog W 0 (fun _ => true) true fuel 26 cs = some x) :
    ∃ a l c, cs = [.slice a (List.length l) c] ∧ RdX W a l := by
  obtain ⟨l, a, cap, e, hr, _, _⟩ := open_row (α := Xp) Tryd.underlying26 cellsXp (by decide) (fun u cs => cs = [.string u.tx, .int .i64 u.cd] ∧ u.tx.size ≤ 9223372036854775807) (fun _ => 0) open_xp h
  refine ⟨a, l, cap, e, ?_⟩
  rcases hr with rfl | ⟨b, off, rfl, hb, hc, hr⟩
  · exact ⟨by simp, fun h => by simp at h⟩
  · refine ⟨by omega, fun _ => ⟨b, off, rfl, hb, fun j hj => ?_⟩⟩
    obtain ⟨cs', hcs, hq⟩ := hr j (xa l j) (by unfold xa; rw [List.getD, List.getElem?_eq_getElem hj]; simp)
    obtain ⟨rfl, z⟩ := hcs
    exact ⟨hq 0 (by omega), hq 1 (by omega), z⟩
set_option maxRecDepth 100000 in
theorem open_U {fuel : Nat} {cs : List Value} {x : DataW H × List MemPlace} (h : DataW.trod enc Tryd.prog W 0 (fun _ => true) true fuel 25 cs = some x) :
    ∃ a l c, cs = [.slice a (List.length l) c] ∧ RdU W a l := by
  obtain ⟨l, a, cap, e, hr, _, _⟩ := open_row (α := Ru) Tryd.underlying25 cellsRu (by decide) (fun u cs => ∃ a1 c1 a2 c2, cs = [.slice a1 u.wi.length c1, .slice a2 u.wo.length c2, .int .i64 u.cd] ∧ RdW W a1 u.wi ∧ RdW W a2 u.wo) (fun _ => 0) open_ru h
  refine ⟨a, l, cap, e, ?_⟩
  rcases hr with rfl | ⟨b, off, rfl, hb, hc, hr⟩
  · exact ⟨by simp, fun h => by simp at h⟩
  · refine ⟨by omega, fun _ => ⟨b, off, rfl, hb, fun j hj => ?_⟩⟩
    obtain ⟨cs', hcs, hq⟩ := hr j (ra l j) (by unfold ra; rw [List.getD, List.getElem?_eq_getElem hj]; simp)
    obtain ⟨a1, c1, a2, c2, rfl, z1, z2⟩ := hcs
    exact ⟨a1, c1, a2, c2, hq 0 (by omega), hq 1 (by omega), hq 2 (by omega), z1, z2⟩
set_option maxRecDepth 100000 in
theorem open_Ns {fuel : Nat} {cs : List Value} {x : DataW H × List MemPlace} (h : DataW.trod enc Tryd.prog W 0 (fun _ => true) true fuel 22 cs = some x) :
    ∃ a l c, cs = [.slice a (List.length l) c] ∧ RdN W a l ∧ Fits l := by
  obtain ⟨l, a, cap, e, hr, _, _⟩ := open_row (α := Nd) Tryd.underlying22 cellsNd (by decide) (fun u cs => cs = [.int .i64 u.cd, .int .i64 u.pr, .string u.ti] ∧ ((-9223372036854775808 ≤ u.cd ∧ u.cd ≤ 9223372036854775807) ∧ (-9223372036854775808 ≤ u.pr ∧ u.pr ≤ 9223372036854775807) ∧ u.ti.size ≤ 9223372036854775807)) (fun _ => 0) open_nd h
  refine ⟨a, l, cap, e, ?_⟩
  rcases hr with rfl | ⟨b, off, rfl, hb, hc, hr⟩
  · exact ⟨⟨by simp, fun h => by simp at h⟩, (fun u hu => by cases hu)⟩
  · refine ⟨⟨by omega, fun _ => ⟨b, off, rfl, hb, fun j hj => ?_⟩⟩, fun u hu => ?_⟩
    · obtain ⟨cs', hcs, hq⟩ := hr j (nd l j) (by unfold nd; rw [List.getD, List.getElem?_eq_getElem hj]; simp)
      obtain ⟨rfl, _⟩ := hcs
      exact ⟨hq 0 (by omega), hq 1 (by omega), hq 2 (by omega)⟩
    · obtain ⟨j, hj, rfl⟩ := List.mem_iff_getElem.1 hu
      obtain ⟨cs', ⟨_, hs⟩, _⟩ := hr j l[j] (List.getElem?_eq_getElem hj)
      exact hs
set_option maxRecDepth 100000 in
/-- An argument of the type api.Coder, opened. -/
theorem open_K {b0 : Nat} {v : Value} {d : DataW H} {p : List MemPlace} (hv : Value.okWide Tryd.prog W .any b0 28 v) (h : DataW.Trod enc Tryd.prog W 0 (fun _ => true) true 28 v d p) :
    ∃ an k0 sa k1 ae k2 ar k3 ax k4 C, v = .agg #[.slice an (Cod.nd C).length k0, .slice sa C.st.length k1, .slice ae C.en.length k2, .slice ar C.ru.length k3, .slice ax C.ex.length k4] ∧ CoR W an sa ae ar ax C := by
  obtain ⟨cs, rfl, _⟩ := okWide_struct Tryd.underlying28 hv
  obtain ⟨fuel, hf⟩ := h
  cases cs with
  | mk cs =>
    have hf' : DataW.trod enc Tryd.prog W 0 (fun _ => true) true fuel 28 cs = some (d, p) := hf
    obtain ⟨ys, n, _, hdd, hl, hlen, hf⟩ := DataW.trod_struct Tryd.underlying28 hf'
    rw [cellsCoder] at hl
    obtain ⟨c0, c1, c2, c3, c4, rfl⟩ : ∃ c0 c1 c2 c3 c4, cs = [c0, c1, c2, c3, c4] := by
      match cs, hl with
      | [a, b, c, d, e], _ => exact ⟨a, b, c, d, e, rfl⟩
    obtain ⟨y0, y1, y2, y3, y4, rfl⟩ : ∃ y0 y1 y2 y3 y4, ys = [y0, y1, y2, y3, y4] := by
      match ys, hlen with
      | [a, b, c, d, e], _ => exact ⟨a, b, c, d, e, rfl⟩
    have h0 : DataW.trod enc Tryd.prog W 0 (fun _ => true) true n 22 (([c0, c1, c2, c3, c4].drop 0).take (Tryd.prog.cellsOf 22)) = some y0 := hf 0 _ rfl
    have h1 : DataW.trod enc Tryd.prog W 0 (fun _ => true) true n 23 (([c0, c1, c2, c3, c4].drop 1).take (Tryd.prog.cellsOf 23)) = some y1 := hf 1 _ rfl
    have h2 : DataW.trod enc Tryd.prog W 0 (fun _ => true) true n 24 (([c0, c1, c2, c3, c4].drop 2).take (Tryd.prog.cellsOf 24)) = some y2 := hf 2 _ rfl
    have h3 : DataW.trod enc Tryd.prog W 0 (fun _ => true) true n 25 (([c0, c1, c2, c3, c4].drop 3).take (Tryd.prog.cellsOf 25)) = some y3 := hf 3 _ rfl
    have h4 : DataW.trod enc Tryd.prog W 0 (fun _ => true) true n 26 (([c0, c1, c2, c3, c4].drop 4).take (Tryd.prog.cellsOf 26)) = some y4 := hf 4 _ rfl
    simp only [cellsNds, cellsSt, cellsEns, cellsRus, cellsXps, List.drop_zero, List.drop_succ_cons, List.take_succ_cons, List.take_zero] at h0 h1 h2 h3 h4
    obtain ⟨a0, l0, k0, e0, r0, f0⟩ := open_Ns h0
    obtain ⟨a1, l1, k1, e1, r1⟩ := open_W h1
    obtain ⟨a2, l2, k2, e2, r2⟩ := open_E h2
    obtain ⟨a3, l3, k3, e3, r3⟩ := open_U h3
    obtain ⟨a4, l4, k4, e4, r4⟩ := open_X h4
    simp only [List.cons.injEq, and_true] at e0 e1 e2 e3 e4
    subst e0 e1 e2 e3 e4
    exact ⟨a0, k0, a1, k1, a2, k2, a3, k3, a4, k4, ⟨l0, l1, l2, l3, l4⟩, rfl, r0, r1, r2, r3, r4, f0⟩
end
end Go.Proofs.YtdapmmhbnaknbaaDoor
