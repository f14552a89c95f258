/-
  The reference of package code: Text.
  Package code: nodes in rows of the call's own, divided by what is next above them.
  Package code: a builder of strings that grows (WriteString), and what lies there while a frame's text is written.
-/
import Derived.Test.YtgfjbilhgblbeaaDoorMf13
import Derived.Test.YtgfjbilhgblbeaaDoorMf06
import Derived.Deep.AppendLies
import Derived.Lib.AppendStr
import Derived.Laws.EntriesVeiled
namespace Go.Proofs.YtgfjbilhgblbeaaDoor
open Go.RowKit Go.WideMaps Go.Maps

theorem short_of {l : List Nd} (h : frS l = 0) : Short l := fun j hj => by
  unfold frS at h
  by_cases h1 : l.length = 0
  · omega
  rw [if_neg h1] at h
  by_cases h2 : 600 < l.length
  · rw [if_pos h2] at h; simp at h
  rw [if_neg h2] at h
  by_cases h3 : fe (ndE l) l.length ≠ 0
  · rw [if_pos h3] at h; exact absurd h h3
  have := fe_zero (s := ndE l) (n := l.length) (by omega) j hj
  unfold ndE at this
  split at this
  · simp at this
  · split at this
    · simp at this
    · split at this
      · simp at this
      · omega
/-- Text's answer. -/
def TxtP (l : List Nd) (w : World) (e : Ending) (w' : World) : Prop :=
  (frS l = 0 ∧ e = .returned (.tuple #[.string (bs (txN l 9 0 0)), .int .i64 0]) ∧ Below w.heap.size w w') ∨
  (frS l ≠ 0 ∧ e = .returned (.tuple #[.string ⟨#[]⟩, .int .i64 (frS l)]) ∧ Below w.heap.size w w')
set_option maxRecDepth 100000 in
theorem rText_c (sa : Option Addr) (c : Nat) (l : List Nd) (w : World) (hl : RdN w sa l) (hf : Fits l) (hP : Pow w) :
    Calls Tryd.prog 9 #[.slice sa l.length c] w (TxtP l w) := by
  have HK := Lib.hid (rCheckFrame_c sa c l w hl hf)
  by_cases hz : frS l = 0
  · have HZ := Lib.hid hz
    have F := fr_of hz
    have hT := short_of hz
    have KL : Hid (∀ W, Below w.heap.size w W → Calls Tryd.prog 34 #[.slice sa l.length c, .int .i64 0, .int .i64 0] W (TP (txN l 9 0 0) W)) := fun W hb => rlines_c sa c l F hT w hl hP 9 0 0 rfl (.inl rfl) F.tree.zero W hb
    have LN : Hid ((txN l 9 0 0).length ≤ 59400) := by
      have h1 := txN_len F hT 9 0 0 (by omega)
      have h2 := dsc_le l 0
      have h3 : l.length ≤ 600 := F.le
      unfold Hid; omega
    rw [hz] at HK
    clear hl hf hP hz F hT
    go_enter Tryd.func9, Tryd.ntmps9
    go_wp2_with fail
    (with_reducible refine HK.out.mono ?_)
    rintro e W1 ⟨rfl, b1⟩
    have B1 := Lib.hid b1
    clear b1 HK
    go_wp2_with fail
    (with_reducible refine (KL.out W1 B1.out).mono ?_)
    rintro e W2 ⟨t, rfl, _, ht, b2⟩
    have B2 := Lib.hid (B1.out.trans (b2.out.mono B1.out.size))
    have hsz : t.size ≤ 59400 := by rw [ht.out, bs_size]; exact LN.out
    have hlt : ¬ (60000 : Int) < (t.size : Int) := by omega
    have R : Hid (TxtP l w (.returned (.tuple #[.string t, .int .i64 0])) W2) := Or.inl ⟨HZ.out, by rw [ht.out], B2.out⟩
    clear b2 ht KL
    go_wp2
    go_ret2
    exact R.out
  · have HZ := Lib.hid hz
    obtain ⟨f, hfl⟩ : ∃ f, frS l = f := ⟨_, rfl⟩
    have HP := Lib.hid hfl
    rw [hfl] at hz HK
    have f1 : (f == 0) = false := by rw [beq_eq_false_iff_ne]; exact hz
    have f2 : (f != 0) = true := by rw [bne, f1]; rfl
    clear hl hf hP hfl hz
    go_enter Tryd.func9, Tryd.ntmps9
    go_wp2_with fail
    (with_reducible refine HK.out.mono ?_)
    rintro e W1 ⟨rfl, b1⟩
    have R : Hid (TxtP l w (.returned (.tuple #[.string ⟨#[]⟩, .int .i64 f])) W1) := Or.inr ⟨HZ.out, by rw [HP.out], b1⟩
    clear b1 HK
    go_wp2
    go_ret2
    exact R.out
end Go.Proofs.YtgfjbilhgblbeaaDoor
namespace Go.Proofs.YtgfjbilhgblbeaaDoor
open Go.RowKit Go.WideMaps Go.Maps

theorem infoN : (Tryd.prog.info? 56).map (fun i => (i.zero, i.size, i.bytes)) = some (some (.agg #[.int .i64 0, .int .i64 0, .string ByteArray.empty]), 3, 32) := by kernel_rfl
def ncells (u : Nd) : List Value := [.int .i64 u.cd, .int .i64 u.pr, .string u.ti]
def nrow (C : List Nd) : List Value := C.flatMap ncells
theorem nrow_snoc (C : List Nd) (u : Nd) : nrow (C ++ [u]) = nrow C ++ ncells u := by unfold nrow; rw [List.flatMap_append]; simp
theorem nrow_at : ∀ (C : List Nd) (j : Nat), j < C.length → ∀ i, i < 3 → (nrow C)[j * 3 + i]? = (ncells (nd C j))[i]?
  | [], _, h, _, _ => by simp at h
  | u :: C, 0, _, i, hi => by
    show (ncells u ++ nrow C)[0 * 3 + i]? = _
    rw [Nat.zero_mul, Nat.zero_add, List.getElem?_append_left (by simpa [ncells] using hi)]
    rfl
  | u :: C, j + 1, h, i, hi => by
    show (ncells u ++ nrow C)[(j + 1) * 3 + i]? = _
    rw [List.getElem?_append_right (by simp only [ncells, List.length_cons, List.length_nil]; omega)]
    rw [show (j + 1) * 3 + i - (ncells u).length = j * 3 + i by simp only [ncells, List.length_cons, List.length_nil]; omega]
    rw [nrow_at C j (by simpa using h) i hi]
    rfl
theorem rdN_own {w : World} {B : Nat} {v : Value} {C : List Nd} (h : w.ownsRow B 56 3 v C.length (nrow C)) (hn : C.length ≤ 9223372036854775807) : ∃ a c, v = .slice a C.length c ∧ RdN w a C := by
  rcases h.2 with ⟨rfl, h0⟩ | ⟨g, cap, cur, rfl, hbase, hb, h1, h2, h3, h4⟩
  · exact ⟨none, 0, by rw [h0], hn, fun h => by omega⟩
  · refine ⟨some ⟨g, 0, none⟩, cap, rfl, hn, fun _ => ⟨g, 0, rfl, lt_of_block hb, fun j hj => ?_⟩⟩
    have key : ∀ i, i < 3 → w.cell? ⟨g, 0 + j * 3 + i, none⟩ = (ncells (nd C j))[i]? := fun i hi => by rw [Nat.zero_add, h.cellAt _ (by omega), nrow_at C j hj i hi]
    exact ⟨key 0 (by omega), key 1 (by omega), key 2 (by omega)⟩
/-- The nodes below s, of the first k. -/
def kdK (l : List Nd) (s : Int) : Nat → List Nd
  | 0 => []
  | k + 1 => if (nd l k).pr = s then kdK l s k ++ [nd l k] else kdK l s k
theorem kdK_hit {l : List Nd} {s : Int} {k : Nat} (h : (nd l k).pr = s) : kdK l s (k + 1) = kdK l s k ++ [nd l k] := by
  show (if _ then _ else _) = _; rw [if_pos h]
theorem kdK_miss {l : List Nd} {s : Int} {k : Nat} (h : (nd l k).pr ≠ s) : kdK l s (k + 1) = kdK l s k := by
  show (if _ then _ else _) = _; rw [if_neg h]
theorem kdK_len (l : List Nd) (s : Int) : ∀ k, (kdK l s k).length ≤ k
  | 0 => Nat.le_refl _
  | k + 1 => by
    have h := kdK_len l s k
    by_cases e : (nd l k).pr = s
    · rw [kdK_hit e]; simp; omega
    · rw [kdK_miss e]; omega
theorem kdK_mem {l : List Nd} {s : Int} {u : Nd} : ∀ {k}, u ∈ kdK l s k → ∃ j, j < k ∧ (nd l j).pr = s ∧ nd l j = u
  | 0, h => by simp [kdK] at h
  | k + 1, h => by
    by_cases e : (nd l k).pr = s
    · rw [kdK_hit e] at h
      rcases List.mem_append.1 h with h | h
      · obtain ⟨j, h1, h2, h3⟩ := kdK_mem h
        exact ⟨j, by omega, h2, h3⟩
      · exact ⟨k, by omega, e, (List.mem_singleton.1 h).symm⟩
    · rw [kdK_miss e] at h
      obtain ⟨j, h1, h2, h3⟩ := kdK_mem h
      exact ⟨j, by omega, h2, h3⟩
/-- The nodes in memory, each in the row of what is next above it. -/
structure GrIs (w0 wr : World) (mb : Nat) (l : List Nd) (k : Nat) (V : Int → Value) : Prop where
  map : MapIs wr mb k fun s => if kdK l s k = [] then none else some (V s)
  row : ∀ s, wr.ownsRow (mb + 2) 56 3 (V s) (kdK l s k).length (nrow (kdK l s k))
  non : ∀ s, kdK l s k = [] → V s = .slice none 0 0
  ne : ∀ s t g, s ≠ t → (V s).ownBlock = some g → (V t).ownBlock ≠ some g
  lo : w0.heap.size ≤ mb
  lt : mb < wr.heap.size
  bel : Below w0.heap.size w0 wr
theorem GrIs.keep {w0 wr W : World} {mb k : Nat} {l : List Nd} {V : Int → Value} (h : GrIs w0 wr mb l k V) (hb : Below wr.heap.size wr W) : GrIs w0 W mb l k V :=
  ⟨h.map.below hb h.lt, fun s => own_keep (h.row s) hb, h.non, h.ne, h.lo, Nat.lt_of_lt_of_le h.lt hb.size, h.bel.trans (hb.mono h.bel.size)⟩
theorem GrIs.start (w0 w : World) (l : List Nd) (hb : Below w0.heap.size w0 w) : GrIs w0 (w.alloc (.map #[] 0)) w.heap.size l 0 fun _ => .slice none 0 0 :=
  ⟨(MapIs.made w).congr fun s => rfl, fun s => World.ownsRow_nil _ _ _ _, fun _ _ => rfl, fun _ _ g _ e => by simp [Value.ownBlock] at e, hb.size, by simp, hb.alloc hb.size _⟩
theorem zeroNs (w : World) : (zeroValue 22).run Tryd.prog w = .ok (.slice none 0 0) w := by kernel_rfl
theorem GrIs.look {w0 wr : World} {mb k : Nat} {l : List Nd} {V : Int → Value} (h : GrIs w0 wr mb l k V) {s : Int} (hs : -9223372036854775808 ≤ s ∧ s ≤ 9223372036854775807) :
    (Instr.lookup 54 (.map (some mb)) (.int .i64 s) false).run Tryd.prog wr = .ok (V s) wr := by
  rw [MapIs.look1 h.map Tryd.underlying54 (zeroNs wr) hs]
  by_cases e : kdK l s k = []
  · rw [if_pos e]; simp [h.non s e]
  · rw [if_neg e]; rfl
/-- What the append leaves, ahead of the store into the map. -/
theorem GrIs.store {w0 wr w4 : World} {mb k : Nat} {l : List Nd} {V : Int → Value} {o : Obj} {v' : Value} (h : GrIs w0 wr mb l k V) (hk : k < maxLen)
    (hp : -9223372036854775808 ≤ (nd l k).pr ∧ (nd l k).pr ≤ 9223372036854775807)
    (hown : w4.ownsRow (mb + 2) 56 3 v' ((kdK l (nd l k).pr k).length + 1) (nrow (kdK l (nd l k).pr k) ++ ncells (nd l k)))
    (hg : (wr.alloc o).grownBy w4 (V (nd l k).pr).ownBlock) (hloc : (V (nd l k).pr).ownBlock = v'.ownBlock ∨ v'.ownBlock = some (wr.heap.size + 1)) :
    ∃ w5, (Instr.mapUpdate 54 (.map (some mb)) (.int .i64 (nd l k).pr) v').run Tryd.prog w4 = .ok () w5 ∧ GrIs w0 w5 mb l (k + 1) (fun s => if s = (nd l k).pr then v' else V s) ∧ w4.grownBy w5 (some mb) := by
  have hlt := h.lt
  have blt : ∀ s g, (V s).ownBlock = some g → mb + 2 ≤ g ∧ g < wr.heap.size := fun s g e => (h.row s).lt g e
  have hnb : some mb ≠ (V (nd l k).pr).ownBlock := fun e => by have := (blt _ _ e.symm).1; omega
  have m4 : MapIs w4 mb k fun s => if kdK l s k = [] then none else some (V s) := (h.map.below (bel_one wr o) hlt).kept hg hnb
  obtain ⟨w5, h1, h2, h3⟩ := m4.store Tryd.underlying54 hk hp v'
  have hb4 : Below w0.heap.size w0 w4 := (h.bel.alloc h.bel.size o).grown hg (by have := h.bel.size; simp; omega) (fun g e => by have := (blt _ _ e).1; have := h.lo; omega)
  refine ⟨w5, h1, ⟨h2.congr fun s => ?_, fun s => ?_, fun s hs => ?_, fun s t g hst e => ?_, h.lo, ?_, hb4.grown h3 hb4.size (fun g e => by cases e; exact h.lo)⟩, h3⟩
  · by_cases e : s = (nd l k).pr
    · subst e; rw [if_pos rfl, kdK_hit rfl, if_neg (by simp)]; simp
    · rw [if_neg e, kdK_miss (fun e2 => e e2.symm)]; simp [e]
  · by_cases e : s = (nd l k).pr
    · subst e
      rw [if_pos rfl, kdK_hit rfl, List.length_append, nrow_snoc]
      exact hown.kept h3 (Or.inr fun e => by have := (hown.lt mb e).1; omega)
    · rw [if_neg e, kdK_miss (fun e2 => e e2.symm)]
      refine (((h.row s).alloc o).kept hg ?_).kept h3 (Or.inr fun e => by have := (blt s mb e).1; omega)
      cases e5 : (V s).ownBlock with
      | none => exact .inl rfl
      | some g => exact .inr fun e2 => h.ne s _ g e e5 e2.symm
  · by_cases e : s = (nd l k).pr
    · subst e; rw [kdK_hit rfl] at hs; simp at hs
    · rw [if_neg e]; rw [kdK_miss (fun e2 => e e2.symm)] at hs; exact h.non s hs
  · have old : ∀ q, q ≠ (nd l k).pr → (V q).ownBlock = some g → v'.ownBlock ≠ some g := fun q hq eq e2 => by
      rcases hloc with e3 | e3
      · exact h.ne q _ g hq eq (e3.trans e2)
      · rw [e3] at e2; injection e2 with e2; have := (blt q g eq).2; omega
    by_cases e1 : s = (nd l k).pr
    · have e2 : t ≠ (nd l k).pr := fun e2 => hst (e1.trans e2.symm)
      simp only [if_pos e1] at e
      simp only [if_neg e2]
      exact fun e3 => old t e2 e3 e
    · simp only [if_neg e1] at e
      by_cases e2 : t = (nd l k).pr
      · simp only [if_pos e2]; exact old s e1 e
      · simp only [if_neg e2]; exact h.ne s t g hst e
  · have := hg.size; have := h3.size; simp at *; omega
/-- What follows a node in the text. -/
def ndT (l : List Nd) (n v : Nat) (u : Nd) : List UInt8 := lnT v u ++ txN l n u.cd.toNat (v + 1)
theorem tcat_kdK (l : List Nd) (n p v : Nat) : ∀ k, tcat (kid l n p v) k = (kdK l (p : Int) k).flatMap (ndT l n v)
  | 0 => rfl
  | k + 1 => by
    unfold tcat
    rw [tcat_kdK l n p v k]
    by_cases e : (nd l k).pr = (p : Int)
    · rw [kdK_hit e, List.flatMap_append]
      congr 1
      unfold kid next
      rw [if_pos (by exact decide_eq_true e)]
      simp [ndT]
    · rw [kdK_miss e]
      have : kid l n p v k = [] := by unfold kid next; rw [if_neg (by simpa using e)]
      rw [this, List.append_nil]
end Go.Proofs.YtgfjbilhgblbeaaDoor
namespace Go.Proofs.YtgfjbilhgblbeaaDoor
open Go.RowKit Go.WideMaps Go.Maps

theorem infoB : (Tryd.prog.info? 5).map (fun i => (i.zero, i.size, i.bytes)) = some (some (.int .u8 0), 1, 1) := by kernel_rfl
theorem info_byte : ∃ i, Tryd.prog.info? 5 = some i ∧ i.zero = some (.int .u8 0) ∧ i.size = 1 ∧ i.bytes = 1 := by
  have h := infoB
  cases e : Tryd.prog.info? 5 with
  | none => rw [e] at h; cases h
  | some i => rw [e] at h; simp at h; exact ⟨i, rfl, h⟩
theorem sizeBuilder : (Tryd.prog.info? 60).map (·.size) = some 2 := by kernel_rfl
abbrev IsB (g : Nat) (l : List UInt8) (W : World) : Prop := Lib.IsBuilder 60 5 g g (Lib.byteCells l) W
theorem strCells_is (s : ByteArray) : Lib.strCells s = Lib.byteCells s.data.toList := by simp [Lib.strCells, Lib.byteCells]
theorem byteCells_append (a b : List UInt8) : Lib.byteCells (a ++ b) = Lib.byteCells a ++ Lib.byteCells b := by simp [Lib.byteCells]
theorem byteCells_length (a : List UInt8) : (Lib.byteCells a).length = a.length := by simp [Lib.byteCells]
set_option maxHeartbeats 1000000 in
set_option maxRecDepth 100000 in
theorem check_fresh (b : Nat) (w : World) (h0 : w.cell? ⟨b, 0, none⟩ = some (.pointer none)) (hsh : w.shape? b = some (60, 2)) (hfz : w.frozen? ⟨b, 0, none⟩ = false) :
    Calls Tryd.prog 58 #[.pointer (some ⟨b, 0, none⟩)] w fun e w' => e = .returned (.tuple #[]) ∧ w' = w.setCell ⟨b, 0, none⟩ (.pointer (some ⟨b, 0, none⟩)) := by
  obtain ⟨j, hj, hjs⟩ := Option.map_eq_some_iff.1 sizeBuilder
  have hlies : liesAt Tryd.prog Tryd.prog.depth 60 (2 / Tryd.prog.cellsOf 60) 0 60 1 = true := by kernel_rfl
  have u1 := Lib.run_to_unsafe (P := Tryd.prog) w ⟨b, 0, none⟩ Tryd.underlying57 Tryd.underlying109 hj (by rw [hjs]; decide) hsh (Nat.zero_lt_succ 1)
  have u3 := Lib.run_from_unsafe (P := Tryd.prog) w ⟨b, 0, none⟩ Tryd.underlying109 Tryd.underlying57 hj hsh hlies
  clear hsh hlies hj hjs
  go_enter Tryd.func58, Tryd.ntmps58
  go_wp2
  rw [run_callFunc_extern Tryd.func68 (by kernel_rfl) (by kernel_rfl) (by kernel_rfl) (e := Extern.AbiNoEscape.same) (by kernel_rfl)]
  rw [Lib.run_noEscape]
  simp only [Result.andThen]
  rw [Oper.upon_value]
  go_wp2
  go_end0
  exact ⟨rfl, rfl⟩
set_option maxHeartbeats 1000000 in
set_option maxRecDepth 100000 in
theorem check_used (b : Nat) (w : World) (h0 : w.cell? ⟨b, 0, none⟩ = some (.pointer (some ⟨b, 0, none⟩))) :
    Calls Tryd.prog 58 #[.pointer (some ⟨b, 0, none⟩)] w fun e w' => e = .returned (.tuple #[]) ∧ w' = w := by
  obtain ⟨j, hj, _⟩ := Option.map_eq_some_iff.1 sizeBuilder
  go_enter Tryd.func58, Tryd.ntmps58
  go_wp2
  rw [Lib.run_neq_ptr_same w _ Tryd.underlying57 hj]
  go_wp2
  go_end0
  exact ⟨rfl, rfl⟩
theorem check_any (B b : Nat) (l : List Value) (w : World) (h : Lib.IsBuilder 60 5 B b l w) :
    Calls Tryd.prog 58 #[.pointer (some ⟨b, 0, none⟩)] w fun e w' => e = .returned (.tuple #[]) ∧ Lib.BuilderAt 60 5 B b (.pointer (some ⟨b, 0, none⟩)) l w' ∧ Below B w w' ∧ w.heap.size = w'.heap.size ∧ ∀ p : Addr, p ≠ ⟨b, 0, none⟩ → w'.cell? p = w.cell? p := by
  rcases h with h | h
  · refine (check_fresh b w h.cell0 h.shape h.frozen0).mono ?_
    rintro e w' ⟨rfl, rfl⟩
    exact ⟨rfl, h.used _, (Below.refl B w).setCell (p := ⟨b, 0, none⟩) h.1 _, by simp, fun p hp => World.cell?_setCell_other _ _ _ _ (fun e => hp e.symm)⟩
  · refine (check_used b w h.cell0).mono ?_
    rintro e w' ⟨rfl, rfl⟩
    exact ⟨rfl, h, Below.refl B _, rfl, fun _ _ => rfl⟩
set_option maxHeartbeats 1000000 in
set_option maxRecDepth 100000 in
theorem put_c (g : Nat) (l : List UInt8) (s : ByteArray) (w : World) (h : IsB g l w) (hl : l.length + s.size ≤ 1000000) :
    Calls Tryd.prog 30 #[.pointer (some ⟨g, 0, none⟩), .string s] w fun e w' => e = .returned (.tuple #[.int .i64 s.size, .nilIface]) ∧ IsB g (l ++ s.data.toList) w' ∧ Below g w w' ∧ ∀ p : Addr, p.block < w.heap.size → p.block ≠ g → (∀ v, w.cell? ⟨g, 1, none⟩ = some v → v.ownBlock ≠ some p.block) → w'.cell? p = w.cell? p := by
  obtain ⟨i0, hi, hz0, hz1, hz2⟩ := info_byte
  have HC := Lib.hid (check_any g g (Lib.byteCells l) w h)
  have HL := Lib.hid hl
  clear h hl
  go_enter Tryd.func30, Tryd.ntmps30
  go_wp2_with fail
  refine HC.out.mono ?_
  rintro e w1 ⟨rfl, ⟨_, v, hbk, hown, hne⟩, b1, hsz, hoth⟩
  have OTH := Lib.hid hoth
  have SZ := Lib.hid hsz
  clear hsz hoth
  have S1 : Hid (g < w1.heap.size) := lt_of_block hbk
  have B1 := Lib.hid b1
  have HBk := Lib.hid hbk
  have HNE := Lib.hid hne
  have HOW := Lib.hid hown
  have c0 : w1.cell? ⟨g, 0, none⟩ = some (.pointer (some ⟨g, 0, none⟩)) := by rw [Lib.cell_of_heap hbk]; rfl
  have c1 : w1.cell? ⟨g, 1, none⟩ = some v := by rw [Lib.cell_of_heap hbk]; rfl
  have C1 : Hid (w.cell? ⟨g, 1, none⟩ = some v) := by unfold Hid; rw [← OTH.out _ (by simp)]; exact c1
  clear hbk hne hown b1 HC
  go_wp2_with (at_builtin; refine Lib.wpList_append_own_string _ rfl _ _ 58 9 rfl g 5 i0 Tryd.underlying58 Tryd.underlying9 hi hz0 hz1 hz2 _ _ _ rfl HOW.out s rfl ?c3 ?c4 ?c5 ?_)
  case c3 => have := HL.out; have := byteCells_length l; unfold maxLen; omega
  case c4 => have := HL.out; have := byteCells_length l; omega
  case c5 => have := S1.out; omega
  intro v' w2 hown' hgrow _
  have hb2 : w2.heap[g]? = some (.cells #[.pointer (some ⟨g, 0, none⟩), v] 60 (0, 0)) := by
    rw [hgrow.block g S1.out (fun e => HNE.out e.symm)]
    exact HBk.out
  have d0 : w2.cell? ⟨g, 0, none⟩ = some (.pointer (some ⟨g, 0, none⟩)) := by rw [Lib.cell_of_heap hb2]; rfl
  have d1 : w2.cell? ⟨g, 1, none⟩ = some v := by rw [Lib.cell_of_heap hb2]; rfl
  have f1 : w2.frozen? ⟨g, 1, none⟩ = false := Lib.frozen_of_heap hb2 1
  obtain ⟨ao, n', cap, rfl⟩ : ∃ ao n' cap, v' = .slice ao n' cap := by
    rcases hown'.2 with ⟨hv, _⟩ | ⟨g, cap, cur, hv, _⟩
    · exact ⟨_, _, _, hv⟩
    · exact ⟨_, _, _, hv⟩
  have HO2 := Lib.hid hown'
  have HB2 := Lib.hid hb2
  have HG2 := Lib.hid hgrow
  clear hown' hb2 hgrow c0 c1 hi hz0 hz1 hz2
  go_wp2
  go_ret2
  have hh := HO2.out
  refine ⟨rfl, .inr (Lib.BuilderAt.put (T := 60) (e := 5) (Nat.le_refl _) HB2.out (bs' := Lib.byteCells (l ++ s.data.toList)) (by
    rw [byteCells_append, ← strCells_is, List.length_append, Lib.strCells_length]; simpa using hh) (by decide)), (B1.out.grown HG2.out (by have := S1.out; omega) (fun k hk => (HOW.out.lt k hk).1)).setCell (p := ⟨g, 1, none⟩) (Nat.le_refl _) _, ?_⟩
  intro p hp hpg hv
  rw [World.cell?_setCell_other _ _ _ _ (by intro e; exact hpg (by rw [← e]))]
  rw [← OTH.out p (by intro e; exact hpg (by rw [e]))]
  exact World.cell?_of_block (HG2.out.block p.block (by rw [← SZ.out]; exact hp) (fun e => hv v C1.out e.symm))
theorem isB_keep {g : Nat} {l : List UInt8} {w w' : World} (h : IsB g l w) (hb : Below w.heap.size w w') : IsB g l w' := by
  rcases h with ⟨h1, v, h2, h3, h4⟩ | ⟨h1, v, h2, h3, h4⟩
  · exact .inl ⟨h1, v, (hb.block g (lt_of_block h2)).trans h2, own_keep h3 hb, h4⟩
  · exact .inr ⟨h1, v, (hb.block g (lt_of_block h2)).trans h2, own_keep h3 hb, h4⟩

/-- The closure that writes, as the value in its box. -/
abbrev FV (x g b : Nat) : Value := .func (.func 29) #[] #[.pointer (some ⟨x, 0, none⟩), .pointer (some ⟨g, 0, none⟩), .pointer (some ⟨b, 0, none⟩)]
theorem buf_lt {g : Nat} {l : List UInt8} {w : World} (h : IsB g l w) : ∀ v, w.cell? ⟨g, 1, none⟩ = some v → ∀ q, v.ownBlock = some q → q < w.heap.size := by
  intro v hv q hq
  rcases h with ⟨h1, u, h2, h3, h4⟩ | ⟨h1, u, h2, h3, h4⟩
  all_goals
    have e : w.cell? ⟨g, 1, none⟩ = some u := by rw [Lib.cell_of_heap h2]; rfl
    rw [e] at hv
    injection hv with hv
    subst hv
    exact (h3.lt q hq).2
/-- A box that has a func is not the builder's row. -/
theorem nobuf_of {g b : Nat} {l : List UInt8} {w : World} {F : Value} (h : IsB g l w) (hl : l ≠ []) (hb : w.cell? ⟨b, 0, none⟩ = some F) (hF : ∀ n : Int, F ≠ .int .u8 n) : ∀ v, w.cell? ⟨g, 1, none⟩ = some v → v.ownBlock ≠ some b := by
  intro v hv hq
  have key : ∃ u : Value, w.ownsRow g 5 1 u l.length (Lib.byteCells l) ∧ w.cell? ⟨g, 1, none⟩ = some u := by
    rcases h with ⟨h1, u, h2, h3, h4⟩ | ⟨h1, u, h2, h3, h4⟩
    all_goals exact ⟨u, by simpa [byteCells_length] using h3, by rw [Lib.cell_of_heap h2]; rfl⟩
  obtain ⟨u, ho, hc⟩ := key
  rw [hc] at hv
  injection hv with hv
  subst hv
  obtain ⟨y, r, rfl⟩ : ∃ y r, l = y :: r := by
    cases l with
    | nil => exact absurd rfl hl
    | cons y r => exact ⟨y, r, rfl⟩
  rcases ho.2 with ⟨e, _⟩ | ⟨q, cap, cur, rfl, _⟩
  · subst e; simp [Value.ownBlock] at hq
  · simp [Value.ownBlock] at hq
    subst hq
    have := ho.cellAt 0 (by simp)
    rw [hb] at this
    simp [Lib.byteCells] at this
    exact hF _ this
/-- What lies there while the text is written. -/
structure TxS (w0 : World) (mb x g b : Nat) (l : List Nd) (V : Int → Value) (W : World) (acc : List UInt8) : Prop where
  gr : GrIs w0 W mb l l.length V
  box : W.cell? ⟨x, 0, none⟩ = some (.map (some mb))
  bd : IsB g acc W
  fnc : W.cell? ⟨b, 0, none⟩ = some (FV x g b)
  nob : ∀ v, W.cell? ⟨g, 1, none⟩ = some v → v.ownBlock ≠ some b
  ord : x < g ∧ mb < g ∧ g < b ∧ b < W.heap.size ∧ w0.heap.size ≤ g
  rlt : ∀ s q, (V s).ownBlock = some q → q < g
theorem isB_low {g : Nat} {l : List UInt8} {w : World} (h : IsB g l w) : g < w.heap.size := by
  rcases h with ⟨h1, u, h2, h3, h4⟩ | ⟨h1, u, h2, h3, h4⟩
  all_goals exact lt_of_block h2
theorem TxS.keep {w0 W W' : World} {mb x g b : Nat} {l : List Nd} {V : Int → Value} {acc : List UInt8} (h : TxS w0 mb x g b l V W acc) (hb : Below W.heap.size W W') : TxS w0 mb x g b l V W' acc := by
  obtain ⟨o1, o2, o3, o4, o5⟩ := h.ord
  exact ⟨h.gr.keep hb, (hb.cell (p := ⟨x, 0, none⟩) (by show x < _; omega)).trans h.box, isB_keep h.bd hb, (hb.cell (p := ⟨b, 0, none⟩) o4).trans h.fnc,
    fun v hv => h.nob v (by rw [← hb.cell (p := ⟨g, 1, none⟩) (by show g < _; omega)]; exact hv), ⟨o1, o2, o3, Nat.lt_of_lt_of_le o4 hb.size, o5⟩, h.rlt⟩
theorem own_keepB {W W' : World} {g base : Nat} {e : TypeId} {size : Nat} {v : Value} {n : Nat} {xs : List Value} (h : W.ownsRow base e size v n xs) (hb : Below g W W') (hv : ∀ q, v.ownBlock = some q → q < g) : W'.ownsRow base e size v n xs := by
  refine ⟨h.1, ?_⟩
  rcases h.2 with hn | ⟨q, cap, cur, rfl, h1, h2, h3⟩
  · exact .inl hn
  · exact .inr ⟨q, cap, cur, rfl, h1, (hb.block q (hv q rfl)).trans h2, h3⟩
/-- A write into the builder. -/
theorem TxS.write {w0 W W' : World} {mb x g b : Nat} {l : List Nd} {V : Int → Value} {acc s : List UInt8} (h : TxS w0 mb x g b l V W acc) (hs : s ≠ []) (hb : Below g W W') (hi : IsB g (acc ++ s) W')
    (hz : W.heap.size ≤ W'.heap.size) (hc : W'.cell? ⟨b, 0, none⟩ = W.cell? ⟨b, 0, none⟩) : TxS w0 mb x g b l V W' (acc ++ s) := by
  obtain ⟨o1, o2, o3, o4, o5⟩ := h.ord
  have G := h.gr
  refine ⟨⟨G.map.below hb o2, fun q => own_keepB (G.row q) hb (h.rlt q), G.non, G.ne, G.lo, Nat.lt_of_lt_of_le G.lt hz, G.bel.trans (hb.mono o5)⟩, (hb.cell (p := ⟨x, 0, none⟩) o1).trans h.box, hi, hc.trans h.fnc, ?_, ⟨o1, o2, o3, Nat.lt_of_lt_of_le o4 hz, o5⟩, h.rlt⟩
  exact nobuf_of hi (by simp [hs]) (hc.trans h.fnc) (fun n e => by cases e)
end Go.Proofs.YtgfjbilhgblbeaaDoor
