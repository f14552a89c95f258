/-
  Package code: nodes in rows of the call's own, divided by what is next above them.
  Package code: a builder of strings that grows (WriteString), and what lies there while a frame's text is written.
  Package code: the closure of Text writes the nodes below a code, with all below them.
  Package code: Text.
-/
import Derived.Test.YtheekfijbbgbkaaGreatDoorTS11
import Derived.Test.YtheekfijbbgbkaaGreatDoorTS06
import Derived.Deep.AppendLies
import Derived.Lib.AppendStr
import Derived.Laws.EntriesVeiled
import Derived.Deep.RegionHeld3
namespace Go.Proofs.YtheekfijbbgbkaaGreatDoor
open Go.RowKit Go.WideMaps Go.Maps

theorem infoN : (Tryz.prog.info? 28).map (fun i => (i.zero, i.size, i.bytes)) = some (some (.agg #[.int .i64 0, .int .i64 0, .string ByteArray.empty]), 3, 32) := by kernel_rfl
def ncells (u : Nd) : List Value := [.int .i64 u.cd, .int .i64 u.pr, .string u.ti]
def nrow (C : List Nd) : List Value := C.flatMap ncells
theorem nrow_snoc (C : List Nd) (u : Nd) : nrow (C ++ [u]) = nrow C ++ ncells u := by unfold nrow; rw [List.flatMap_append]; simp
theorem nrow_at : ∀ (C : List Nd) (j : Nat), j < C.length → ∀ i, i < 3 → (nrow C)[j * 3 + i]? = (ncells (nd C j))[i]?
  | [], _, h, _, _ => by simp at h
  | u :: C, 0, _, i, hi => by
    show (ncells u ++ nrow C)[0 * 3 + i]? = _
    rw [Nat.zero_mul, Nat.zero_add, List.getElem?_append_left (by simpa [ncells] using hi)]
    rfl
  | u :: C, j + 1, h, i, hi => by
    show (ncells u ++ nrow C)[(j + 1) * 3 + i]? = _
    rw [List.getElem?_append_right (by simp only [ncells, List.length_cons, List.length_nil]; omega)]
    rw [show (j + 1) * 3 + i - (ncells u).length = j * 3 + i by simp only [ncells, List.length_cons, List.length_nil]; omega]
    rw [nrow_at C j (by simpa using h) i hi]
    rfl
theorem rdN_own {w : World} {B : Nat} {v : Value} {C : List Nd} (h : w.ownsRow B 28 3 v C.length (nrow C)) (hn : C.length ≤ 9223372036854775807) : ∃ a c, v = .slice a C.length c ∧ RdN w a C := by
  rcases h.2 with ⟨rfl, h0⟩ | ⟨g, cap, cur, rfl, hbase, hb, h1, h2, h3, h4⟩
  · exact ⟨none, 0, by rw [h0], hn, fun h => by omega⟩
  · refine ⟨some ⟨g, 0, none⟩, cap, rfl, hn, fun _ => ⟨g, 0, rfl, lt_of_block hb, fun j hj => ?_⟩⟩
    have key : ∀ i, i < 3 → w.cell? ⟨g, 0 + j * 3 + i, none⟩ = (ncells (nd C j))[i]? := fun i hi => by rw [Nat.zero_add, h.cellAt _ (by omega), nrow_at C j hj i hi]
    exact ⟨key 0 (by omega), key 1 (by omega), key 2 (by omega)⟩
/-- The nodes below s, of the first k. -/
def kdK (l : List Nd) (s : Int) : Nat → List Nd
  | 0 => []
  | k + 1 => if (nd l k).pr = s then kdK l s k ++ [nd l k] else kdK l s k
theorem kdK_hit {l : List Nd} {s : Int} {k : Nat} (h : (nd l k).pr = s) : kdK l s (k + 1) = kdK l s k ++ [nd l k] := by
  show (if _ then _ else _) = _; rw [if_pos h]
theorem kdK_miss {l : List Nd} {s : Int} {k : Nat} (h : (nd l k).pr ≠ s) : kdK l s (k + 1) = kdK l s k := by
  show (if _ then _ else _) = _; rw [if_neg h]
theorem kdK_len (l : List Nd) (s : Int) : ∀ k, (kdK l s k).length ≤ k
  | 0 => Nat.le_refl _
  | k + 1 => by
    have h := kdK_len l s k
    by_cases e : (nd l k).pr = s
    · rw [kdK_hit e]; simp; omega
    · rw [kdK_miss e]; omega
theorem kdK_mem {l : List Nd} {s : Int} {u : Nd} : ∀ {k}, u ∈ kdK l s k → ∃ j, j < k ∧ (nd l j).pr = s ∧ nd l j = u
  | 0, h => by simp [kdK] at h
  | k + 1, h => by
    by_cases e : (nd l k).pr = s
    · rw [kdK_hit e] at h
      rcases List.mem_append.1 h with h | h
      · obtain ⟨j, h1, h2, h3⟩ := kdK_mem h
        exact ⟨j, by omega, h2, h3⟩
      · exact ⟨k, by omega, e, (List.mem_singleton.1 h).symm⟩
    · rw [kdK_miss e] at h
      obtain ⟨j, h1, h2, h3⟩ := kdK_mem h
      exact ⟨j, by omega, h2, h3⟩
/-- The nodes in memory, each in the row of what is next above it. -/
structure GrIs (w0 wr : World) (mb : Nat) (l : List Nd) (k : Nat) (V : Int → Value) : Prop where
  map : MapIs wr mb k fun s => if kdK l s k = [] then none else some (V s)
  row : ∀ s, wr.ownsRow (mb + 2) 28 3 (V s) (kdK l s k).length (nrow (kdK l s k))
  non : ∀ s, kdK l s k = [] → V s = .slice none 0 0
  ne : ∀ s t g, s ≠ t → (V s).ownBlock = some g → (V t).ownBlock ≠ some g
  lo : w0.heap.size ≤ mb
  lt : mb < wr.heap.size
  bel : Below w0.heap.size w0 wr
theorem GrIs.keep {w0 wr W : World} {mb k : Nat} {l : List Nd} {V : Int → Value} (h : GrIs w0 wr mb l k V) (hb : Below wr.heap.size wr W) : GrIs w0 W mb l k V :=
  ⟨h.map.below hb h.lt, fun s => own_keep (h.row s) hb, h.non, h.ne, h.lo, Nat.lt_of_lt_of_le h.lt hb.size, h.bel.trans (hb.mono h.bel.size)⟩
theorem GrIs.start (w0 w : World) (l : List Nd) (hb : Below w0.heap.size w0 w) : GrIs w0 (w.alloc (.map #[] 0)) w.heap.size l 0 fun _ => .slice none 0 0 :=
  ⟨(MapIs.made w).congr fun s => rfl, fun s => World.ownsRow_nil _ _ _ _, fun _ _ => rfl, fun _ _ g _ e => by simp [Value.ownBlock] at e, hb.size, by simp, hb.alloc hb.size _⟩
theorem zeroNs (w : World) : (zeroValue 22).run Tryz.prog w = .ok (.slice none 0 0) w := by kernel_rfl
theorem GrIs.look {w0 wr : World} {mb k : Nat} {l : List Nd} {V : Int → Value} (h : GrIs w0 wr mb l k V) {s : Int} (hs : -9223372036854775808 ≤ s ∧ s ≤ 9223372036854775807) :
    (Instr.lookup 47 (.map (some mb)) (.int .i64 s) false).run Tryz.prog wr = .ok (V s) wr := by
  rw [MapIs.look1 h.map Tryz.underlying47 (zeroNs wr) hs]
  by_cases e : kdK l s k = []
  · rw [if_pos e]; simp [h.non s e]
  · rw [if_neg e]; rfl
/-- What the append leaves, ahead of the store into the map. -/
theorem GrIs.store {w0 wr w4 : World} {mb k : Nat} {l : List Nd} {V : Int → Value} {o : Obj} {v' : Value} (h : GrIs w0 wr mb l k V) (hk : k < maxLen)
    (hp : -9223372036854775808 ≤ (nd l k).pr ∧ (nd l k).pr ≤ 9223372036854775807)
    (hown : w4.ownsRow (mb + 2) 28 3 v' ((kdK l (nd l k).pr k).length + 1) (nrow (kdK l (nd l k).pr k) ++ ncells (nd l k)))
    (hg : (wr.alloc o).grownBy w4 (V (nd l k).pr).ownBlock) (hloc : (V (nd l k).pr).ownBlock = v'.ownBlock ∨ v'.ownBlock = some (wr.heap.size + 1)) :
    ∃ w5, (Instr.mapUpdate 47 (.map (some mb)) (.int .i64 (nd l k).pr) v').run Tryz.prog w4 = .ok () w5 ∧ GrIs w0 w5 mb l (k + 1) (fun s => if s = (nd l k).pr then v' else V s) ∧ w4.grownBy w5 (some mb) := by
  have hlt := h.lt
  have blt : ∀ s g, (V s).ownBlock = some g → mb + 2 ≤ g ∧ g < wr.heap.size := fun s g e => (h.row s).lt g e
  have hnb : some mb ≠ (V (nd l k).pr).ownBlock := fun e => by have := (blt _ _ e.symm).1; omega
  have m4 : MapIs w4 mb k fun s => if kdK l s k = [] then none else some (V s) := (h.map.below (bel_one wr o) hlt).kept hg hnb
  obtain ⟨w5, h1, h2, h3⟩ := m4.store Tryz.underlying47 hk hp v'
  have hb4 : Below w0.heap.size w0 w4 := (h.bel.alloc h.bel.size o).grown hg (by have := h.bel.size; simp; omega) (fun g e => by have := (blt _ _ e).1; have := h.lo; omega)
  refine ⟨w5, h1, ⟨h2.congr fun s => ?_, fun s => ?_, fun s hs => ?_, fun s t g hst e => ?_, h.lo, ?_, hb4.grown h3 hb4.size (fun g e => by cases e; exact h.lo)⟩, h3⟩
  · by_cases e : s = (nd l k).pr
    · subst e; rw [if_pos rfl, kdK_hit rfl, if_neg (by simp)]; simp
    · rw [if_neg e, kdK_miss (fun e2 => e e2.symm)]; simp [e]
  · by_cases e : s = (nd l k).pr
    · subst e
      rw [if_pos rfl, kdK_hit rfl, List.length_append, nrow_snoc]
      exact hown.kept h3 (Or.inr fun e => by have := (hown.lt mb e).1; omega)
    · rw [if_neg e, kdK_miss (fun e2 => e e2.symm)]
      refine (((h.row s).alloc o).kept hg ?_).kept h3 (Or.inr fun e => by have := (blt s mb e).1; omega)
      cases e5 : (V s).ownBlock with
      | none => exact .inl rfl
      | some g => exact .inr fun e2 => h.ne s _ g e e5 e2.symm
  · by_cases e : s = (nd l k).pr
    · subst e; rw [kdK_hit rfl] at hs; simp at hs
    · rw [if_neg e]; rw [kdK_miss (fun e2 => e e2.symm)] at hs; exact h.non s hs
  · have old : ∀ q, q ≠ (nd l k).pr → (V q).ownBlock = some g → v'.ownBlock ≠ some g := fun q hq eq e2 => by
      rcases hloc with e3 | e3
      · exact h.ne q _ g hq eq (e3.trans e2)
      · rw [e3] at e2; injection e2 with e2; have := (blt q g eq).2; omega
    by_cases e1 : s = (nd l k).pr
    · have e2 : t ≠ (nd l k).pr := fun e2 => hst (e1.trans e2.symm)
      simp only [if_pos e1] at e
      simp only [if_neg e2]
      exact fun e3 => old t e2 e3 e
    · simp only [if_neg e1] at e
      by_cases e2 : t = (nd l k).pr
      · simp only [if_pos e2]; exact old s e1 e
      · simp only [if_neg e2]; exact h.ne s t g hst e
  · have := hg.size; have := h3.size; simp at *; omega
/-- What follows a node in the text. -/
def ndT (l : List Nd) (n v : Nat) (u : Nd) : List UInt8 := lnT v u ++ txN l n u.cd.toNat (v + 1)
theorem tcat_kdK (l : List Nd) (n p v : Nat) : ∀ k, tcat (kid l n p v) k = (kdK l (p : Int) k).flatMap (ndT l n v)
  | 0 => rfl
  | k + 1 => by
    unfold tcat
    rw [tcat_kdK l n p v k]
    by_cases e : (nd l k).pr = (p : Int)
    · rw [kdK_hit e, List.flatMap_append]
      congr 1
      unfold kid next
      rw [if_pos (by exact decide_eq_true e)]
      simp [ndT]
    · rw [kdK_miss e]
      have : kid l n p v k = [] := by unfold kid next; rw [if_neg (by simpa using e)]
      rw [this, List.append_nil]
end Go.Proofs.YtheekfijbbgbkaaGreatDoor
namespace Go.Proofs.YtheekfijbbgbkaaGreatDoor
open Go.RowKit Go.WideMaps Go.Maps

theorem infoB : (Tryz.prog.info? 5).map (fun i => (i.zero, i.size, i.bytes)) = some (some (.int .u8 0), 1, 1) := by kernel_rfl
theorem info_byte : ∃ i, Tryz.prog.info? 5 = some i ∧ i.zero = some (.int .u8 0) ∧ i.size = 1 ∧ i.bytes = 1 := by
  have h := infoB
  cases e : Tryz.prog.info? 5 with
  | none => rw [e] at h; cases h
  | some i => rw [e] at h; simp at h; exact ⟨i, rfl, h⟩
theorem sizeBuilder : (Tryz.prog.info? 51).map (·.size) = some 2 := by kernel_rfl
abbrev IsB (g : Nat) (l : List UInt8) (W : World) : Prop := Lib.IsBuilder 51 5 g g (Lib.byteCells l) W
theorem strCells_is (s : ByteArray) : Lib.strCells s = Lib.byteCells s.data.toList := by simp [Lib.strCells, Lib.byteCells]
theorem byteCells_append (a b : List UInt8) : Lib.byteCells (a ++ b) = Lib.byteCells a ++ Lib.byteCells b := by simp [Lib.byteCells]
theorem byteCells_length (a : List UInt8) : (Lib.byteCells a).length = a.length := by simp [Lib.byteCells]
set_option maxHeartbeats 1000000 in
set_option maxRecDepth 100000 in
theorem check_fresh (b : Nat) (w : World) (h0 : w.cell? ⟨b, 0, none⟩ = some (.pointer none)) (hsh : w.shape? b = some (51, 2)) (hfz : w.frozen? ⟨b, 0, none⟩ = false) :
    Calls Tryz.prog 39 #[.pointer (some ⟨b, 0, none⟩)] w fun e w' => e = .returned (.tuple #[]) ∧ w' = w.setCell ⟨b, 0, none⟩ (.pointer (some ⟨b, 0, none⟩)) := by
  obtain ⟨j, hj, hjs⟩ := Option.map_eq_some_iff.1 sizeBuilder
  have hlies : liesAt Tryz.prog Tryz.prog.depth 51 (2 / Tryz.prog.cellsOf 51) 0 51 1 = true := by kernel_rfl
  have u1 := Lib.run_to_unsafe (P := Tryz.prog) w ⟨b, 0, none⟩ Tryz.underlying48 Tryz.underlying105 hj (by rw [hjs]; decide) hsh (Nat.zero_lt_succ 1)
  have u3 := Lib.run_from_unsafe (P := Tryz.prog) w ⟨b, 0, none⟩ Tryz.underlying105 Tryz.underlying48 hj hsh hlies
  clear hsh hlies hj hjs
  go_enter Tryz.func39, Tryz.ntmps39
  go_wp2
  rw [run_callFunc_extern Tryz.func63 (by kernel_rfl) (by kernel_rfl) (by kernel_rfl) (e := Extern.AbiNoEscape.same) (by kernel_rfl)]
  rw [Lib.run_noEscape]
  simp only [Result.andThen]
  rw [Oper.upon_value]
  go_wp2
  go_end0
  exact ⟨rfl, rfl⟩
set_option maxHeartbeats 1000000 in
set_option maxRecDepth 100000 in
theorem check_used (b : Nat) (w : World) (h0 : w.cell? ⟨b, 0, none⟩ = some (.pointer (some ⟨b, 0, none⟩))) :
    Calls Tryz.prog 39 #[.pointer (some ⟨b, 0, none⟩)] w fun e w' => e = .returned (.tuple #[]) ∧ w' = w := by
  obtain ⟨j, hj, _⟩ := Option.map_eq_some_iff.1 sizeBuilder
  go_enter Tryz.func39, Tryz.ntmps39
  go_wp2
  rw [Lib.run_neq_ptr_same w _ Tryz.underlying48 hj]
  go_wp2
  go_end0
  exact ⟨rfl, rfl⟩
theorem check_any (B b : Nat) (l : List Value) (w : World) (h : Lib.IsBuilder 51 5 B b l w) :
    Calls Tryz.prog 39 #[.pointer (some ⟨b, 0, none⟩)] w fun e w' => e = .returned (.tuple #[]) ∧ Lib.BuilderAt 51 5 B b (.pointer (some ⟨b, 0, none⟩)) l w' ∧ Below B w w' ∧ w.heap.size = w'.heap.size ∧ ∀ p : Addr, p ≠ ⟨b, 0, none⟩ → w'.cell? p = w.cell? p := by
  rcases h with h | h
  · refine (check_fresh b w h.cell0 h.shape h.frozen0).mono ?_
    rintro e w' ⟨rfl, rfl⟩
    exact ⟨rfl, h.used _, (Below.refl B w).setCell (p := ⟨b, 0, none⟩) h.1 _, by simp, fun p hp => World.cell?_setCell_other _ _ _ _ (fun e => hp e.symm)⟩
  · refine (check_used b w h.cell0).mono ?_
    rintro e w' ⟨rfl, rfl⟩
    exact ⟨rfl, h, Below.refl B _, rfl, fun _ _ => rfl⟩
set_option maxHeartbeats 1000000 in
set_option maxRecDepth 100000 in
theorem put_c (g : Nat) (l : List UInt8) (s : ByteArray) (w : World) (h : IsB g l w) (hl : l.length + s.size ≤ 1000000) :
    Calls Tryz.prog 20 #[.pointer (some ⟨g, 0, none⟩), .string s] w fun e w' => e = .returned (.tuple #[.int .i64 s.size, .nilIface]) ∧ IsB g (l ++ s.data.toList) w' ∧ Below g w w' ∧ ∀ p : Addr, p.block < w.heap.size → p.block ≠ g → (∀ v, w.cell? ⟨g, 1, none⟩ = some v → v.ownBlock ≠ some p.block) → w'.cell? p = w.cell? p := by
  obtain ⟨i0, hi, hz0, hz1, hz2⟩ := info_byte
  have HC := Lib.hid (check_any g g (Lib.byteCells l) w h)
  have HL := Lib.hid hl
  clear h hl
  go_enter Tryz.func20, Tryz.ntmps20
  go_wp2_with fail
  refine HC.out.mono ?_
  rintro e w1 ⟨rfl, ⟨_, v, hbk, hown, hne⟩, b1, hsz, hoth⟩
  have OTH := Lib.hid hoth
  have SZ := Lib.hid hsz
  clear hsz hoth
  have S1 : Hid (g < w1.heap.size) := lt_of_block hbk
  have B1 := Lib.hid b1
  have HBk := Lib.hid hbk
  have HNE := Lib.hid hne
  have HOW := Lib.hid hown
  have c0 : w1.cell? ⟨g, 0, none⟩ = some (.pointer (some ⟨g, 0, none⟩)) := by rw [Lib.cell_of_heap hbk]; rfl
  have c1 : w1.cell? ⟨g, 1, none⟩ = some v := by rw [Lib.cell_of_heap hbk]; rfl
  have C1 : Hid (w.cell? ⟨g, 1, none⟩ = some v) := by unfold Hid; rw [← OTH.out _ (by simp)]; exact c1
  clear hbk hne hown b1 HC
  go_wp2_with (at_builtin; refine Lib.wpList_append_own_string _ rfl _ _ 49 9 rfl g 5 i0 Tryz.underlying49 Tryz.underlying9 hi hz0 hz1 hz2 _ _ _ rfl HOW.out s rfl ?c3 ?c4 ?c5 ?_)
  case c3 => have := HL.out; have := byteCells_length l; unfold maxLen; omega
  case c4 => have := HL.out; have := byteCells_length l; omega
  case c5 => have := S1.out; omega
  intro v' w2 hown' hgrow _
  have hb2 : w2.heap[g]? = some (.cells #[.pointer (some ⟨g, 0, none⟩), v] 51 (0, 0)) := by
    rw [hgrow.block g S1.out (fun e => HNE.out e.symm)]
    exact HBk.out
  have d0 : w2.cell? ⟨g, 0, none⟩ = some (.pointer (some ⟨g, 0, none⟩)) := by rw [Lib.cell_of_heap hb2]; rfl
  have d1 : w2.cell? ⟨g, 1, none⟩ = some v := by rw [Lib.cell_of_heap hb2]; rfl
  have f1 : w2.frozen? ⟨g, 1, none⟩ = false := Lib.frozen_of_heap hb2 1
  obtain ⟨ao, n', cap, rfl⟩ : ∃ ao n' cap, v' = .slice ao n' cap := by
    rcases hown'.2 with ⟨hv, _⟩ | ⟨g, cap, cur, hv, _⟩
    · exact ⟨_, _, _, hv⟩
    · exact ⟨_, _, _, hv⟩
  have HO2 := Lib.hid hown'
  have HB2 := Lib.hid hb2
  have HG2 := Lib.hid hgrow
  clear hown' hb2 hgrow c0 c1 hi hz0 hz1 hz2
  go_wp2
  go_ret2
  have hh := HO2.out
  refine ⟨rfl, .inr (Lib.BuilderAt.put (T := 51) (e := 5) (Nat.le_refl _) HB2.out (bs' := Lib.byteCells (l ++ s.data.toList)) (by
    rw [byteCells_append, ← strCells_is, List.length_append, Lib.strCells_length]; simpa using hh) (by decide)), (B1.out.grown HG2.out (by have := S1.out; omega) (fun k hk => (HOW.out.lt k hk).1)).setCell (p := ⟨g, 1, none⟩) (Nat.le_refl _) _, ?_⟩
  intro p hp hpg hv
  rw [World.cell?_setCell_other _ _ _ _ (by intro e; exact hpg (by rw [← e]))]
  rw [← OTH.out p (by intro e; exact hpg (by rw [e]))]
  exact World.cell?_of_block (HG2.out.block p.block (by rw [← SZ.out]; exact hp) (fun e => hv v C1.out e.symm))
theorem isB_keep {g : Nat} {l : List UInt8} {w w' : World} (h : IsB g l w) (hb : Below w.heap.size w w') : IsB g l w' := by
  rcases h with ⟨h1, v, h2, h3, h4⟩ | ⟨h1, v, h2, h3, h4⟩
  · exact .inl ⟨h1, v, (hb.block g (lt_of_block h2)).trans h2, own_keep h3 hb, h4⟩
  · exact .inr ⟨h1, v, (hb.block g (lt_of_block h2)).trans h2, own_keep h3 hb, h4⟩

/-- The closure that writes, as the value in its box. -/
abbrev FV (x g b : Nat) : Value := .func (.func 19) #[] #[.pointer (some ⟨x, 0, none⟩), .pointer (some ⟨g, 0, none⟩), .pointer (some ⟨b, 0, none⟩)]
theorem buf_lt {g : Nat} {l : List UInt8} {w : World} (h : IsB g l w) : ∀ v, w.cell? ⟨g, 1, none⟩ = some v → ∀ q, v.ownBlock = some q → q < w.heap.size := by
  intro v hv q hq
  rcases h with ⟨h1, u, h2, h3, h4⟩ | ⟨h1, u, h2, h3, h4⟩
  all_goals
    have e : w.cell? ⟨g, 1, none⟩ = some u := by rw [Lib.cell_of_heap h2]; rfl
    rw [e] at hv
    injection hv with hv
    subst hv
    exact (h3.lt q hq).2
/-- A box that has a func is not the builder's row. -/
theorem nobuf_of {g b : Nat} {l : List UInt8} {w : World} {F : Value} (h : IsB g l w) (hl : l ≠ []) (hb : w.cell? ⟨b, 0, none⟩ = some F) (hF : ∀ n : Int, F ≠ .int .u8 n) : ∀ v, w.cell? ⟨g, 1, none⟩ = some v → v.ownBlock ≠ some b := by
  intro v hv hq
  have key : ∃ u : Value, w.ownsRow g 5 1 u l.length (Lib.byteCells l) ∧ w.cell? ⟨g, 1, none⟩ = some u := by
    rcases h with ⟨h1, u, h2, h3, h4⟩ | ⟨h1, u, h2, h3, h4⟩
    all_goals exact ⟨u, by simpa [byteCells_length] using h3, by rw [Lib.cell_of_heap h2]; rfl⟩
  obtain ⟨u, ho, hc⟩ := key
  rw [hc] at hv
  injection hv with hv
  subst hv
  obtain ⟨y, r, rfl⟩ : ∃ y r, l = y :: r := by
    cases l with
    | nil => exact absurd rfl hl
    | cons y r => exact ⟨y, r, rfl⟩
  rcases ho.2 with ⟨e, _⟩ | ⟨q, cap, cur, rfl, _⟩
  · subst e; simp [Value.ownBlock] at hq
  · simp [Value.ownBlock] at hq
    subst hq
    have := ho.cellAt 0 (by simp)
    rw [hb] at this
    simp [Lib.byteCells] at this
    exact hF _ this
/-- What lies there while the text is written. -/
structure TxS (w0 : World) (mb x g b : Nat) (l : List Nd) (V : Int → Value) (W : World) (acc : List UInt8) : Prop where
  gr : GrIs w0 W mb l l.length V
  box : W.cell? ⟨x, 0, none⟩ = some (.map (some mb))
  bd : IsB g acc W
  fnc : W.cell? ⟨b, 0, none⟩ = some (FV x g b)
  nob : ∀ v, W.cell? ⟨g, 1, none⟩ = some v → v.ownBlock ≠ some b
  ord : x < g ∧ mb < g ∧ g < b ∧ b < W.heap.size ∧ w0.heap.size ≤ g
  rlt : ∀ s q, (V s).ownBlock = some q → q < g
theorem isB_low {g : Nat} {l : List UInt8} {w : World} (h : IsB g l w) : g < w.heap.size := by
  rcases h with ⟨h1, u, h2, h3, h4⟩ | ⟨h1, u, h2, h3, h4⟩
  all_goals exact lt_of_block h2
theorem TxS.keep {w0 W W' : World} {mb x g b : Nat} {l : List Nd} {V : Int → Value} {acc : List UInt8} (h : TxS w0 mb x g b l V W acc) (hb : Below W.heap.size W W') : TxS w0 mb x g b l V W' acc := by
  obtain ⟨o1, o2, o3, o4, o5⟩ := h.ord
  exact ⟨h.gr.keep hb, (hb.cell (p := ⟨x, 0, none⟩) (by show x < _; omega)).trans h.box, isB_keep h.bd hb, (hb.cell (p := ⟨b, 0, none⟩) o4).trans h.fnc,
    fun v hv => h.nob v (by rw [← hb.cell (p := ⟨g, 1, none⟩) (by show g < _; omega)]; exact hv), ⟨o1, o2, o3, Nat.lt_of_lt_of_le o4 hb.size, o5⟩, h.rlt⟩
theorem own_keepB {W W' : World} {g base : Nat} {e : TypeId} {size : Nat} {v : Value} {n : Nat} {xs : List Value} (h : W.ownsRow base e size v n xs) (hb : Below g W W') (hv : ∀ q, v.ownBlock = some q → q < g) : W'.ownsRow base e size v n xs := by
  refine ⟨h.1, ?_⟩
  rcases h.2 with hn | ⟨q, cap, cur, rfl, h1, h2, h3⟩
  · exact .inl hn
  · exact .inr ⟨q, cap, cur, rfl, h1, (hb.block q (hv q rfl)).trans h2, h3⟩
/-- A write into the builder. -/
theorem TxS.write {w0 W W' : World} {mb x g b : Nat} {l : List Nd} {V : Int → Value} {acc s : List UInt8} (h : TxS w0 mb x g b l V W acc) (hs : s ≠ []) (hb : Below g W W') (hi : IsB g (acc ++ s) W')
    (hz : W.heap.size ≤ W'.heap.size) (hc : W'.cell? ⟨b, 0, none⟩ = W.cell? ⟨b, 0, none⟩) : TxS w0 mb x g b l V W' (acc ++ s) := by
  obtain ⟨o1, o2, o3, o4, o5⟩ := h.ord
  have G := h.gr
  refine ⟨⟨G.map.below hb o2, fun q => own_keepB (G.row q) hb (h.rlt q), G.non, G.ne, G.lo, Nat.lt_of_lt_of_le G.lt hz, G.bel.trans (hb.mono o5)⟩, (hb.cell (p := ⟨x, 0, none⟩) o1).trans h.box, hi, hc.trans h.fnc, ?_, ⟨o1, o2, o3, Nat.lt_of_lt_of_le o4 hz, o5⟩, h.rlt⟩
  exact nobuf_of hi (by simp [hs]) (hc.trans h.fnc) (fun n e => by cases e)
end Go.Proofs.YtheekfijbbgbkaaGreatDoor
namespace Go.Proofs.YtheekfijbbgbkaaGreatDoor
open Go.RowKit Go.WideMaps Go.Maps

theorem rep_succ (v : Nat) : Lib.repeatL [32, 32] v ++ [32, 32] = Lib.repeatL [32, 32] (v + 1) := by
  rw [Lib.repeatL_add, Lib.repeatL_one]
theorem rdN_at {w : World} {B : Nat} {a : Option Addr} {c : Nat} {C : List Nd} (h : w.ownsRow B 28 3 (.slice a C.length c) C.length (nrow C)) (hn : C.length ≤ 9223372036854775807) : RdN w a C := by
  obtain ⟨a', c', e, hr⟩ := rdN_own h hn
  injection e with e1 _ _
  subst e1
  exact hr
theorem nd_take {K : List Nd} {k : Nat} (h : k < K.length) : K.take (k + 1) = K.take k ++ [nd K k] := by
  rw [List.take_add_one, List.getElem?_eq_getElem h]
  simp [nd, List.getD, List.getElem?_eq_getElem h]
theorem flat_le {K : List Nd} {f : Nd → List UInt8} (k : Nat) : ((K.take k).flatMap f).length ≤ (K.flatMap f).length := by
  conv => rhs; rw [← List.take_append_drop k K, List.flatMap_append, List.length_append]
  omega
set_option maxRecDepth 100000 in
set_option maxHeartbeats 8000000 in
theorem write_c (l : List Nd) (F : Fr l) (hT : Short l) (w0 : World) (mb x g b : Nat) (V : Int → Value) (hP : Pow w0) : ∀ (n p v : Nat), v + n = 9 → In (Has l) p → lev l p = v → ∀ (W : World) (acc : List UInt8) (t : ByteArray), t = bs (Lib.repeatL [32, 32] v) → TxS w0 mb x g b l V W acc → acc.length + (txN l n p v).length ≤ 100000 →
    Calls Tryz.prog 19 #[.int .i64 (p : Nat), .string t, .pointer (some ⟨x, 0, none⟩), .pointer (some ⟨g, 0, none⟩), .pointer (some ⟨b, 0, none⟩)] W (fun e W' => e = .returned (.tuple #[]) ∧ TxS w0 mb x g b l V W' (acc ++ txN l n p v))
  | 0, p, v, h, hp, hlv, _, _, _, _, _, _ => by
    have : lev l p ≤ 8 := by
      rcases hp with rfl | hp
      · rw [F.tree.zero]; omega
      · exact (F.lev hp).2.2.1
    omega
  | n + 1, p, v, h, hp, hlv, W, acc, t, ht, hS, hacc => by
    have IH := Lib.hid (fun d hd hdl => write_c l F hT w0 mb x g b V hP n d (v + 1) (by omega) hd hdl)
    obtain ⟨K, hK⟩ : ∃ K, kdK l (p : Int) l.length = K := ⟨_, rfl⟩
    have hK6 : K.length ≤ 600 := by rw [← hK]; exact Nat.le_trans (kdK_len _ _ _) F.le
    have TX : txN l (n + 1) p v = K.flatMap (ndT l n v) := by rw [txN_is, tcat_kdK, hK]
    rw [TX] at hacc ⊢
    have HKM : Hid (∀ u, u ∈ K → ∃ j, j < l.length ∧ (nd l j).pr = (p : Int) ∧ nd l j = u) := fun u hu => kdK_mem (by rw [hK]; exact hu)
    have row := hS.gr.row (p : Int)
    rw [hK] at row
    have ROW : Hid (∀ W acc, TxS w0 mb x g b l V W acc → W.ownsRow (mb + 2) 28 3 (V (p : Int)) K.length (nrow K)) := fun W acc h => by have := h.gr.row (p : Int); rw [hK] at this; exact this
    obtain ⟨av, cv, hV, _⟩ := rdN_own row (by omega)
    rw [hV] at ROW
    have hpb : p ≤ 999 := by
      rcases hp with rfl | hp
      · omega
      · obtain ⟨q, hq, e⟩ := hp
        have := F.ord.rng q hq
        omega
    have hlk := hS.gr.look (s := (p : Int)) (by omega)
    rw [hV] at hlk
    have hbx := hS.box
    have HPP := Lib.hid hP
    have HF := Lib.hid (And.intro F hT)
    have HIN := Lib.hid (And.intro hp hlv)
    have HS := Lib.hid hS
    have HT := Lib.hid ht
    have HA := Lib.hid hacc
    have hv9 : v ≤ 8 := by omega
    have TSZ : Hid (t.size ≤ 16) := by unfold Hid; rw [ht, bs_size, Lib.repeatL_length]; simp; omega
    clear hS hP hp hlv F hT ht hacc row TX hK hV
    go_enter Tryz.func19, Tryz.ntmps19
    go_wp2
    clear hlk hbx
    go_loopw [13] (fun i wr => ∃ k : Nat, k ≤ K.length ∧ i = .int .i64 k ∧ Hid (TxS w0 mb x g b l V wr (acc ++ (K.take k).flatMap (ndT l n v)))) (fun i _ => K.length - (intOf i).toNat)
    case atStart => exact ⟨0, Nat.zero_le _, rfl, by unfold Hid; simpa using HS.out⟩
    case round =>
      obtain ⟨k, hk, rfl, hS⟩ := hrel
      by_cases hlt : k < K.length
      · have RK := rdN_at (ROW.out _ _ hS.out) (by omega)
        obtain ⟨b', off, rfl, u0, u1, u2⟩ := RK.at_ hlt
        obtain ⟨u, hu⟩ : ∃ u, nd K k = u := ⟨_, rfl⟩
        have TK : Hid ((K.take (k + 1)).flatMap (ndT l n v) = (K.take k).flatMap (ndT l n v) ++ ndT l n v u) := by unfold Hid; rw [nd_take hlt, List.flatMap_append, hu]; simp
        have HAK : Hid (acc.length + ((K.take k).flatMap (ndT l n v)).length ≤ 100000) := by have := HA.out; have := flat_le (K := K) (f := ndT l n v) k; unfold Hid; omega
        have HAN : Hid (acc.length + ((K.take (k + 1)).flatMap (ndT l n v)).length ≤ 100000) := by have := HA.out; have := flat_le (K := K) (f := ndT l n v) (k + 1); unfold Hid; omega
        have hum : u ∈ K := by rw [← hu]; unfold nd; rw [List.getD, List.getElem?_eq_getElem hlt]; simp
        obtain ⟨j, hj, hpr, hju⟩ := HKM.out u hum
        rw [hu] at u0 u1 u2
        have hrg := HF.out.1.ord.rng j hj
        have hti := HF.out.2 j hj
        rw [hju] at hrg hti
        have hlt' : (k : Int) < (K.length : Int) := by omega
        obtain ⟨W4, hW4⟩ : ∃ W, wr.alloc (.cells #[.int .i64 u.cd, .int .i64 u.pr, .string u.ti] 28) = W := ⟨_, rfl⟩
        have N4 : Hid (NodeB wr W4 u) := by unfold Hid; rw [← hW4]; exact node_b _ _
        obtain ⟨z, hz⟩ : ∃ z, wr.heap.size = z := ⟨_, rfl⟩
        have SZ : Hid (S9 z u W4 ∧ z < W4.heap.size) := by rw [← hz]; exact ⟨N4.out.2.2, by have := N4.out.2.1; omega⟩
        have TS4 := Lib.hid (hS.out.keep N4.out.1)
        have ZG : Hid (z ≠ g) := by have := hS.out.ord; unfold Hid; omega
        have NBZ : Hid (∀ v, W4.cell? ⟨g, 1, none⟩ = some v → v.ownBlock ≠ some z) := fun v hv e => by
          rw [N4.out.1.cell (p := ⟨g, 1, none⟩) (by have := hS.out.ord; show g < _; omega)] at hv
          have := buf_lt hS.out.bd v hv z e
          omega
        have HPW : Hid (∀ V, Below W4.heap.size W4 V → Pow V) := fun V hb => HPP.out.below (TS4.out.gr.bel.trans (hb.mono TS4.out.gr.bel.size))
        have HSS : Hid (∀ V, Below W4.heap.size W4 V → S9 z u V) := fun V hb => ⟨(hb.cell (p := ⟨z, 0, none⟩) SZ.out.2).trans SZ.out.1.1, (hb.cell (p := ⟨z, 1, none⟩) SZ.out.2).trans SZ.out.1.2.1, (hb.cell (p := ⟨z, 2, none⟩) SZ.out.2).trans SZ.out.1.2.2⟩
        have IHC : Hid (∀ W3 t3, t3 = bs (Lib.repeatL [32, 32] (v + 1)) → TxS w0 mb x g b l V W3 (acc ++ (K.take k).flatMap (ndT l n v) ++ lnT v u) → Calls Tryz.prog 19 #[.int .i64 u.cd, .string t3, .pointer (some ⟨x, 0, none⟩), .pointer (some ⟨g, 0, none⟩), .pointer (some ⟨b, 0, none⟩)] W3 (fun e W' => e = .returned (.tuple #[]) ∧ TxS w0 mb x g b l V W' (acc ++ (K.take k).flatMap (ndT l n v) ++ lnT v u ++ txN l n u.cd.toNat (v + 1)))) := fun W3 t3 ht3 hT3 => by
          obtain ⟨d, hd, hh⟩ := nd_has HF.out.1 hj
          rw [hju] at hd
          have hlv : lev l d = v + 1 := by
            have e1 : par l d = p := by
              rw [par_at HF.out.1.ord hj (by rw [hju]; exact hd), hpr, Int.toNat_natCast]
            have := (HF.out.1.tree.pos d hh).2.1
            rw [e1, HIN.out.2] at this
            exact this
          have := IH.out d (.inr hh) hlv W3 _ t3 ht3 hT3 (by
            have h1 := HAN.out
            rw [TK.out] at h1
            simp only [ndT, List.length_append, hd, Int.toNat_natCast] at h1 ⊢
            omega)
          rw [hd, Int.toNat_natCast]
          exact this
        clear IH hum hju hpr hj hS hu RK
        go_wp2_with fail
        refine wp_region_noPanic ?_
        refine wp_region_held_drew (S := S9 z u) (by kernel_rfl) (HSS.out _ (Below.refl _ _).drew) (fun hS => ?_)
        obtain ⟨WD, hWD⟩ : ∃ W, W4.drew = W := ⟨_, rfl⟩
        have D0 : Hid (Below W4.heap.size W4 WD) := by unfold Hid; rw [← hWD]; exact (Below.refl _ _).drew
        rw [hWD] at hS ⊢
        clear hWD
        refine wpAnyH_take (i := 0) (v := ?v0z1) rfl (by kernel_rfl) (by kernel_rfl) (by kernel_rfl) (fun _ _ _ h => h) (Or.inl ⟨by rfl, ?hy0z1⟩) (by assumption) ?rest0z1
        case hy0z1 =>
          intro w hSw
          dsimp only [S9] at hSw
          go_simp
          try with_reducible rfl
        simp only [Act.put, List.getElem_toArray, List.getElem_cons_succ, List.getElem_cons_zero, List.setIfInBounds_toArray, List.set_cons_zero, List.set_cons_succ]
        refine wpAnyH_take (i := 1) (v := ?v1z2) rfl (by kernel_rfl) (by kernel_rfl) (by kernel_rfl) (fun _ _ _ h => h) (Or.inl ⟨by rfl, ?hy1z2⟩) (by assumption) ?rest1z2
        case hy1z2 =>
          intro w hSw
          dsimp only [S9] at hSw
          go_simp
          try with_reducible rfl
        simp only [Act.put, List.getElem_toArray, List.getElem_cons_succ, List.getElem_cons_zero, List.setIfInBounds_toArray, List.set_cons_zero, List.set_cons_succ]
        refine wpAnyH_take (i := 2) (v := ?v2z3) rfl (by kernel_rfl) (by kernel_rfl) (by kernel_rfl) (fun _ _ _ h => h) (Or.inl ⟨by rfl, ?hy2z3⟩) (by assumption) ?rest2z3
        case hy2z3 =>
          intro w hSw
          dsimp only [S9] at hSw
          go_simp
          try with_reducible rfl
        simp only [Act.put, List.getElem_toArray, List.getElem_cons_succ, List.getElem_cons_zero, List.setIfInBounds_toArray, List.set_cons_zero, List.set_cons_succ]
        refine wpAnyH_take (i := 6) (v := ?v6z4) rfl (by kernel_rfl) (by kernel_rfl) (by kernel_rfl) (fun _ _ _ h => h) (Or.inl ⟨by rfl, ?hy6z4⟩) (by assumption) ?rest6z4
        case hy6z4 =>
          intro w hSw
          dsimp only [S9] at hSw
          go_simp
          try with_reducible rfl
        simp only [Act.put, List.getElem_toArray, List.getElem_cons_succ, List.getElem_cons_zero, List.setIfInBounds_toArray, List.set_cons_zero, List.set_cons_succ]
        refine wpAnyH_take (i := 7) (v := ?v7z5) rfl (by kernel_rfl) (by kernel_rfl) (by kernel_rfl) (fun _ _ _ h => h) (Or.inl ⟨by rfl, ?hy7z5⟩) (by assumption) ?rest7z5
        case hy7z5 =>
          intro w hSw
          dsimp only [S9] at hSw
          go_simp
          try with_reducible rfl
        simp only [Act.put, List.getElem_toArray, List.getElem_cons_succ, List.getElem_cons_zero, List.setIfInBounds_toArray, List.set_cons_zero, List.set_cons_succ]
        refine wpAnyH_ready (rs := [3]) (by kernel_rfl) (by simp) ?_
        refine AllReadyH.cons rfl (fun K_ hK => ?_) AllReadyH.nil
        go_simp
        (refine (itoa_c u.cd WD (HPW.out WD D0.out) (by omega) (by omega)).mono ?_)
        rintro e V2 ⟨t2, rfl, _, ht2, bc2⟩
        try go_simp
        have D2 : Hid (Below W4.heap.size W4 V2) := D0.out.trans (bc2.out.mono D0.out.size)
        have T2 : Hid (t2.size ≤ 21) := by unfold Hid; rw [ht2.out, bs_size]; exact Lib.itoa_length_le u.cd (by omega) (by omega)
        have hT := HSS.out V2 D2.out
        refine hK.out _ _ hT (fun _ => ?_)
        clear hK K_ hS
        have hS := hT
        clear hT
        try simp only [Act.put, List.setIfInBounds_toArray, List.set_cons_zero, List.set_cons_succ]
        obtain ⟨x1, hx1⟩ : ∃ x : ByteArray, t ++ t2 = x := ⟨_, rfl⟩
        obtain ⟨x2, hx2⟩ : ∃ x : ByteArray, x1 ++ (⟨#[32]⟩ : ByteArray) = x := ⟨_, rfl⟩
        obtain ⟨x3, hx3⟩ : ∃ x : ByteArray, x2 ++ u.ti = x := ⟨_, rfl⟩
        obtain ⟨x4, hx4⟩ : ∃ x : ByteArray, x3 ++ (⟨#[10]⟩ : ByteArray) = x := ⟨_, rfl⟩
        have s1 : x1.size = t.size + t2.size := by rw [← hx1, ByteArray.size_append]
        have s2 : x2.size = x1.size + 1 := by rw [← hx2, ByteArray.size_append]; rfl
        have s3 : x3.size = x2.size + u.ti.size := by rw [← hx3, ByteArray.size_append]
        have s4 : x4.size = x3.size + 1 := by rw [← hx4, ByteArray.size_append]; rfl
        have q1 : ¬ 9223372036854775807 < t.size + t2.size := by have := TSZ.out; have := T2.out; omega
        have q2 : ¬ 9223372036854775807 < x1.size + 1 := by have := TSZ.out; have := T2.out; omega
        have q3 : ¬ 9223372036854775807 < x2.size + u.ti.size := by have := TSZ.out; have := T2.out; omega
        have q4 : ¬ 9223372036854775807 < x3.size + 1 := by have := TSZ.out; have := T2.out; omega
        have HX : Hid (x4 = bs (lnT v u) ∧ x4.size ≤ 200) := by
          refine ⟨?_, by have := TSZ.out; have := T2.out; omega⟩
          rw [← hx4, ← hx3, ← hx2, ← hx1, HT.out, ht2.out]
          unfold lnT
          apply ByteArray.ext
          simp [ByteArray.data_append, bs, bts]
        clear s1 s2 s3 s4
        refine wpAnyH_take (i := 4) (v := ?v4z6) rfl (by kernel_rfl) (by kernel_rfl) (by kernel_rfl) (fun _ _ _ h => h) (Or.inl ⟨by rfl, ?hy4z6⟩) (by assumption) ?rest4z6
        case hy4z6 =>
          intro w hSw
          dsimp only [S9] at hSw
          go_simp
          try with_reducible rfl
        simp only [Act.put, List.getElem_toArray, List.getElem_cons_succ, List.getElem_cons_zero, List.setIfInBounds_toArray, List.set_cons_zero, List.set_cons_succ]
        refine wpAnyH_take (i := 5) (v := ?v5z7) rfl (by kernel_rfl) (by kernel_rfl) (by kernel_rfl) (fun _ _ _ h => h) (Or.inl ⟨by rfl, ?hy5z7⟩) (by assumption) ?rest5z7
        case hy5z7 =>
          intro w hSw
          dsimp only [S9] at hSw
          go_simp
          try with_reducible rfl
        simp only [Act.put, List.getElem_toArray, List.getElem_cons_succ, List.getElem_cons_zero, List.setIfInBounds_toArray, List.set_cons_zero, List.set_cons_succ]
        refine wpAnyH_take (i := 8) (v := ?v8z8) rfl (by kernel_rfl) (by kernel_rfl) (by kernel_rfl) (fun _ _ _ h => h) (Or.inl ⟨by rfl, ?hy8z8⟩) (by assumption) ?rest8z8
        case hy8z8 =>
          intro w hSw
          dsimp only [S9] at hSw
          go_simp
          try with_reducible rfl
        simp only [Act.put, List.getElem_toArray, List.getElem_cons_succ, List.getElem_cons_zero, List.setIfInBounds_toArray, List.set_cons_zero, List.set_cons_succ]
        refine wpAnyH_take (i := 9) (v := ?v9z9) rfl (by kernel_rfl) (by kernel_rfl) (by kernel_rfl) (fun _ _ _ h => h) (Or.inl ⟨by rfl, ?hy9z9⟩) (by assumption) ?rest9z9
        case hy9z9 =>
          intro w hSw
          dsimp only [S9] at hSw
          go_simp
          try with_reducible rfl
        simp only [Act.put, List.getElem_toArray, List.getElem_cons_succ, List.getElem_cons_zero, List.setIfInBounds_toArray, List.set_cons_zero, List.set_cons_succ]
        refine wpAnyH_ready (rs := [10]) (by kernel_rfl) (by simp) ?_
        refine AllReadyH.cons rfl (fun K_ hK => ?_) AllReadyH.nil
        go_simp
        (refine (put_c g (acc ++ (K.take k).flatMap (ndT l n v)) x4 V2 ((TS4.out.keep D2.out).bd) (by have := HX.out.2; have := HAK.out; rw [List.length_append]; omega)).mono ?_)
        rintro e V3 ⟨rfl, ib3, bg3, ot3⟩
        try go_simp
        have TS3 : Hid (TxS w0 mb x g b l V V3 (acc ++ (K.take k).flatMap (ndT l n v) ++ lnT v u)) := by
          have e4 : x4.data.toList = lnT v u := by rw [HX.out.1]; simp [bs]
          rw [e4] at ib3
          have TT := TS4.out.keep D2.out
          exact TT.write (by unfold lnT; simp) bg3 ib3 bg3.size (ot3 ⟨b, 0, none⟩ TT.ord.2.2.2.1 (by have := TT.ord.2.2.1; show b ≠ g; omega) TT.nob)
        have hT : S9 z u V3 := by
          have zl : z < V2.heap.size := Nat.lt_of_lt_of_le SZ.out.2 D2.out.size
          have nb : ∀ v, V2.cell? ⟨g, 1, none⟩ = some v → v.ownBlock ≠ some z := fun v hv => NBZ.out v (by rw [← D2.out.cell (p := ⟨g, 1, none⟩) (by have := TS4.out.ord; show g < _; omega)]; exact hv)
          have zg : z ≠ g := ZG.out
          have hS2 := HSS.out V2 D2.out
          exact ⟨(ot3 ⟨z, 0, none⟩ zl zg nb).trans hS2.1, (ot3 ⟨z, 1, none⟩ zl zg nb).trans hS2.2.1, (ot3 ⟨z, 2, none⟩ zl zg nb).trans hS2.2.2⟩
        have SV3 : Hid (V3.cell? ⟨z, 0, none⟩ = some (.int .i64 u.cd)) := hT.1
        refine hK.out _ _ hT (fun _ => ?_)
        clear hK K_ hS hT ib3 bg3 ot3 hx1 hx2 hx3 hx4 q1 q2 q3 q4
        try simp only [Act.put, List.setIfInBounds_toArray, List.set_cons_zero, List.set_cons_succ]
        refine wpAnyH_done (by kernel_rfl) ?_ _
        refine NoPanic.normal ?_
        have c0 := SV3.out
        have c1 := TS3.out.fnc
        obtain ⟨t5, ht5⟩ : ∃ y : ByteArray, t ++ (⟨#[32, 32]⟩ : ByteArray) = y := ⟨_, rfl⟩
        have q5 : ¬ 9223372036854775807 < t.size + 2 := by have := TSZ.out; omega
        have HI := Lib.hid (IHC.out V3 t5 (by rw [← ht5, HT.out, ← rep_succ, ← bs_app]; rfl) TS3.out)
        go_wp2_with fail
        (with_reducible refine HI.out.mono ?_)
        rintro e V4 ⟨rfl, hT4⟩
        have NX : Hid (TxS w0 mb x g b l V V4 (acc ++ (K.take (k + 1)).flatMap (ndT l n v))) := by
          unfold Hid
          rw [TK.out]
          simpa [ndT, List.append_assoc] using hT4
        clear hT4 HI TS3 SV3 c0 c1 q5 ht5
        go_wp2
        go_roundw
        case rel => exact ⟨k + 1, by omega, by go_num, NX.out⟩
        case measure => simp [intOf]; omega
      · obtain rfl : k = K.length := by omega
        have R : Hid (TxS w0 mb x g b l V wr (acc ++ K.flatMap (ndT l n v))) := by have := hS.out; rw [List.take_length] at this; exact this
        clear hlt hS
        go_wp2
        go_end0
        exact ⟨rfl, R.out⟩
end Go.Proofs.YtheekfijbbgbkaaGreatDoor
namespace Go.Proofs.YtheekfijbbgbkaaGreatDoor
open Go.RowKit Go.WideMaps Go.Maps

/-- What the loads of a round read. -/
def S8 (z x mb : Nat) (u : Nd) (V : World) : Prop := S9 z u V ∧ V.cell? ⟨x, 0, none⟩ = some (.map (some mb))
theorem fits_nd {l : List Nd} (h : Fits l) {k : Nat} (hk : k < l.length) : -9223372036854775808 ≤ (nd l k).pr ∧ (nd l k).pr ≤ 9223372036854775807 := (h _ (nd_mem hk)).2.1
set_option maxRecDepth 100000 in
set_option maxHeartbeats 8000000 in
theorem Text_c (sa : Option Addr) (c : Nat) (l : List Nd) (w : World) (hl : RdN w sa l) (hf : Fits l) (hP : Pow w) :
    Calls Tryz.prog 8 #[.slice sa l.length c] w (TxtP l w) := by
  have HK := Lib.hid (CheckFrame_c sa c l w hl hf)
  by_cases hz : frS l = 0
  · have hmm := @run_makeMap Tryz.prog
    obtain ⟨j0, hj, hy0, hy1, hy2⟩ := info_parts infoN
    have HZ := Lib.hid hz
    have F := fr_of hz
    have hT := short_of hz
    have WR : Hid (∀ mb x g b V W, TxS w mb x g b l V W [] → Calls Tryz.prog 19 #[.int .i64 0, .string ⟨#[]⟩, .pointer (some ⟨x, 0, none⟩), .pointer (some ⟨g, 0, none⟩), .pointer (some ⟨b, 0, none⟩)] W (fun e W' => e = .returned (.tuple #[]) ∧ TxS w mb x g b l V W' (txN l 9 0 0))) := fun mb x g b V W h => by
      have h1 := txN_len F hT 9 0 0 (by omega)
      have h2 := dsc_le l 0
      have h3 : l.length ≤ 600 := F.le
      have := write_c l F hT w mb x g b V hP 9 0 0 rfl (.inl rfl) F.tree.zero W [] ⟨#[]⟩ rfl h (by simp only [List.length_nil]; omega)
      simpa using this
    have LN : Hid ((txN l 9 0 0).length ≤ 59400 ∧ l.length ≤ 600) := by
      have h1 := txN_len F hT 9 0 0 (by omega)
      have h2 := dsc_le l 0
      have h3 : l.length ≤ 600 := F.le
      unfold Hid; omega
    have HL := Lib.hid hl
    have HF := Lib.hid hf
    have h9 := hl.1
    rw [hz] at HK
    clear hl hf hP hz F hT
    go_enter Tryz.func8, Tryz.ntmps8
    go_wp2_with fail
    (with_reducible refine HK.out.mono ?_)
    rintro e W1 ⟨rfl, b1⟩
    obtain ⟨W2, hW2⟩ : ∃ W, W1.alloc (.map #[] 0) = W := ⟨_, rfl⟩
    have G2 : Hid (GrIs w W2 W1.heap.size l 0 (fun _ => .slice none 0 0)) := by unfold Hid; rw [← hW2]; exact GrIs.start w W1 l b1
    have s2 : W2.heap.size = W1.heap.size + 1 := by rw [← hW2]; simp
    obtain ⟨mb, hmb⟩ : ∃ m, W1.heap.size = m := ⟨_, rfl⟩
    rw [hmb] at G2 s2
    obtain ⟨W3, hW3⟩ : ∃ W, W2.alloc (.cells #[.map (some mb)] 47) = W := ⟨_, rfl⟩
    obtain ⟨x, hx⟩ : ∃ x, W2.heap.size = x := ⟨_, rfl⟩
    have XM : Hid (x = mb + 1) := by unfold Hid; omega
    have G3 : Hid (GrIs w W3 mb l 0 (fun _ => .slice none 0 0) ∧ W3.cell? ⟨x, 0, none⟩ = some (.map (some mb)) ∧ x < W3.heap.size) := by
      unfold Hid
      rw [← hW3, ← hx]
      exact ⟨G2.out.keep (bel_one _ _), by rw [World.cell?_alloc_at _ _ _ _ rfl]; rfl, by simp⟩
    clear b1 HK G2 s2
    go_wp2
    clear hW2 hW3 hmm
    go_loopw [18] (fun i wr => ∃ (k : Nat) (V : Int → Value), k ≤ l.length ∧ i = .int .i64 k ∧ Hid (GrIs w wr mb l k V ∧ wr.cell? ⟨x, 0, none⟩ = some (.map (some mb)) ∧ x < wr.heap.size)) (fun i _ => l.length - (intOf i).toNat)
    case atStart => exact ⟨0, _, Nat.zero_le _, rfl, G3.out⟩
    case round =>
      obtain ⟨k, V, hk, rfl, hS⟩ := hrel
      clear G3
      by_cases hlt : k < l.length
      · obtain ⟨b', off, rfl, u0, u1, u2⟩ := (HL.out.below hS.out.1.bel).at_ hlt
        have UB : Hid (-9223372036854775808 ≤ (nd l k).pr ∧ (nd l k).pr ≤ 9223372036854775807) := fits_nd HF.out hlt
        obtain ⟨u, hu⟩ : ∃ u, nd l k = u := ⟨_, rfl⟩
        have HU := Lib.hid hu
        rw [hu] at u0 u1 u2 UB
        have hlt' : (k : Int) < (l.length : Int) := by omega
        obtain ⟨W4, hW4⟩ : ∃ W, wr.alloc (.cells #[.int .i64 u.cd, .int .i64 u.pr, .string u.ti] 28) = W := ⟨_, rfl⟩
        have N4 : Hid (NodeB wr W4 u) := by unfold Hid; rw [← hW4]; exact node_b _ _
        obtain ⟨z, hz⟩ : ∃ z, wr.heap.size = z := ⟨_, rfl⟩
        have SZ : Hid (S8 z x mb u W4 ∧ x < z ∧ z < W4.heap.size) := by rw [← hz]; exact ⟨⟨N4.out.2.2, (N4.out.1.cell (p := ⟨x, 0, none⟩) hS.out.2.2).trans hS.out.2.1⟩, hS.out.2.2, by have := N4.out.2.1; omega⟩
        have G4 := Lib.hid (hS.out.1.keep N4.out.1)
        have ZX : Hid (x = mb + 1 ∧ x < z) := ⟨XM.out, SZ.out.2.1⟩
        have KL : Hid ((kdK l u.pr k).length ≤ k ∧ k ≤ 600) := ⟨kdK_len _ _ _, by have := LN.out.2; omega⟩
        have OWB : Hid (∀ q, (V u.pr).ownBlock = some q → mb + 2 ≤ q ∧ q < z) := fun q hq => by have := (hS.out.1.row u.pr).lt q hq; omega
        have HSS : Hid (∀ V, Below W4.heap.size W4 V → S8 z x mb u V) := fun V hb => by
          have zl := SZ.out.2.2
          have s := SZ.out.1
          exact ⟨⟨(hb.cell (p := ⟨z, 0, none⟩) zl).trans s.1.1, (hb.cell (p := ⟨z, 1, none⟩) zl).trans s.1.2.1, (hb.cell (p := ⟨z, 2, none⟩) zl).trans s.1.2.2⟩, (hb.cell (p := ⟨x, 0, none⟩) (Nat.lt_trans SZ.out.2.1 zl)).trans s.2⟩
        clear hS hu N4
        go_wp2_with fail
        refine wp_region_noPanic ?_
        refine wp_region_held_drew (S := S8 z x mb u) (by kernel_rfl) (HSS.out _ (Below.refl _ _).drew) (fun hS => ?_)
        obtain ⟨WD, hWD⟩ : ∃ W, W4.drew = W := ⟨_, rfl⟩
        have D0 : Hid (Below W4.heap.size W4 WD) := by unfold Hid; rw [← hWD]; exact (Below.refl _ _).drew
        rw [hWD] at hS ⊢
        clear hWD
        have GD := Lib.hid (G4.out.keep D0.out)
        have ZLD : Hid (z < WD.heap.size) := Nat.lt_of_lt_of_le SZ.out.2.2 D0.out.size
        have HSD : Hid (∀ V, Below WD.heap.size WD V → S8 z x mb u V) := fun V hb => HSS.out V (D0.out.trans (hb.mono D0.out.size))
        have HLK : Hid (∀ W, Below WD.heap.size WD W → (Instr.lookup 47 (.map (some mb)) (.int .i64 u.pr) false).run Tryz.prog W = .ok (V u.pr) W) := fun W hb => (GD.out.keep hb).look UB.out
        refine wpAnyH_take (i := 0) (v := ?v0z1) rfl (by kernel_rfl) (by kernel_rfl) (by kernel_rfl) (fun _ _ _ h => h) (Or.inl ⟨by rfl, ?hy0z1⟩) (by assumption) ?rest0z1
        case hy0z1 =>
          intro w hSw
          dsimp only [S8, S9] at hSw
          go_simp
          try with_reducible rfl
        simp only [Act.put, List.getElem_toArray, List.getElem_cons_succ, List.getElem_cons_zero, List.setIfInBounds_toArray, List.set_cons_zero, List.set_cons_succ]
        refine wpAnyH_take (i := 1) (v := ?v1z2) rfl (by kernel_rfl) (by kernel_rfl) (by kernel_rfl) (fun _ _ _ h => h) (Or.inl ⟨by rfl, ?hy1z2⟩) (by assumption) ?rest1z2
        case hy1z2 =>
          intro w hSw
          dsimp only [S8, S9] at hSw
          go_simp
          try with_reducible rfl
        simp only [Act.put, List.getElem_toArray, List.getElem_cons_succ, List.getElem_cons_zero, List.setIfInBounds_toArray, List.set_cons_zero, List.set_cons_succ]
        refine wpAnyH_take (i := 2) (v := ?v2z3) rfl (by kernel_rfl) (by kernel_rfl) (by kernel_rfl) (fun _ _ _ h => h) (Or.inl ⟨by rfl, ?hy2z3⟩) (by assumption) ?rest2z3
        case hy2z3 =>
          intro w hSw
          dsimp only [S8, S9] at hSw
          go_simp
          try with_reducible rfl
        simp only [Act.put, List.getElem_toArray, List.getElem_cons_succ, List.getElem_cons_zero, List.setIfInBounds_toArray, List.set_cons_zero, List.set_cons_succ]
        refine wpAnyH_take (i := 3) (v := ?v3z4) rfl (by kernel_rfl) (by kernel_rfl) (by kernel_rfl) (fun _ _ _ h => h) (Or.inl ⟨by rfl, ?hy3z4⟩) (by assumption) ?rest3z4
        case hy3z4 =>
          intro w hSw
          dsimp only [S8, S9] at hSw
          go_simp
          try with_reducible rfl
        simp only [Act.put, List.getElem_toArray, List.getElem_cons_succ, List.getElem_cons_zero, List.setIfInBounds_toArray, List.set_cons_zero, List.set_cons_succ]
        refine wpAnyH_take (i := 4) (v := ?v4z5) rfl (by kernel_rfl) (by kernel_rfl) (by kernel_rfl) (fun _ _ _ h => h) (Or.inl ⟨by rfl, ?hy4z5⟩) (by assumption) ?rest4z5
        case hy4z5 =>
          intro w hSw
          dsimp only [S8, S9] at hSw
          go_simp
          try with_reducible rfl
        simp only [Act.put, List.getElem_toArray, List.getElem_cons_succ, List.getElem_cons_zero, List.setIfInBounds_toArray, List.set_cons_zero, List.set_cons_succ]
        refine wpAnyH_take (i := 5) (v := ?v5z6) rfl (by kernel_rfl) (by kernel_rfl) (by kernel_rfl) (fun _ _ _ h => h) (Or.inl ⟨by rfl, ?hy5z6⟩) (by assumption) ?rest5z6
        case hy5z6 =>
          intro w hSw
          dsimp only [S8, S9] at hSw
          go_simp
          try with_reducible rfl
        simp only [Act.put, List.getElem_toArray, List.getElem_cons_succ, List.getElem_cons_zero, List.setIfInBounds_toArray, List.set_cons_zero, List.set_cons_succ]
        refine wpAnyH_take (i := 7) (v := ?v7z7) rfl (by kernel_rfl) (by kernel_rfl) (by kernel_rfl) (fun _ _ _ h => h) (Or.inl ⟨by rfl, ?hy7z7⟩) (by assumption) ?rest7z7
        case hy7z7 =>
          intro w hSw
          dsimp only [S8, S9] at hSw
          go_simp
          try with_reducible rfl
        simp only [Act.put, List.getElem_toArray, List.getElem_cons_succ, List.getElem_cons_zero, List.setIfInBounds_toArray, List.set_cons_zero, List.set_cons_succ]
        refine wpAnyH_ready (rs := [6, 8]) (by kernel_rfl) (by simp) ?_
        refine AllReadyH.cons rfl (fun K_ hK => ?_) (AllReadyH.cons rfl (fun K_ hK => ?_) AllReadyH.nil)
        · have hlk := HLK.out WD (Below.refl _ _)
          go_simp
          refine hK.out _ _ hS (fun _ => ?_)
          clear hK K_ hlk
          try simp only [Act.put, List.setIfInBounds_toArray, List.set_cons_zero, List.set_cons_succ]
          refine wpAnyH_ready (rs := [8]) (by kernel_rfl) (by simp) ?_
          refine AllReadyH.cons rfl (fun K_ hK => ?_) AllReadyH.nil
          go_simp
          have hT : S8 z x mb u (WD.alloc (.cells #[.int .i64 u.cd, .int .i64 u.pr, .string u.ti] 28)) := HSD.out _ (bel_one WD _)
          refine hK.out _ _ hT (fun _ => ?_)
          clear hK K_ hS
          have hS := hT
          clear hT
          try simp only [Act.put, List.setIfInBounds_toArray, List.set_cons_zero, List.set_cons_succ]
          have hx1 : ∀ q ∈ [Value.int .i64 u.cd, .int .i64 u.pr, .string u.ti], q.oneCell' = true := by intro q hq; simp at hq; rcases hq with rfl | rfl | rfl <;> rfl
          have hx2 : (kdK l u.pr k).length + 1 ≤ maxLen := by have := KL.out; unfold maxLen; omega
          have hx3 : ((kdK l u.pr k).length + 1) * 32 ≤ 140737488355328 := by have := KL.out; omega
          have hx4 : mb + 2 ≤ (WD.alloc (.cells #[.int .i64 u.cd, .int .i64 u.pr, .string u.ti] 28)).heap.size := by have := ZX.out; have := ZLD.out; simp; omega
          refine wpAnyH_ready (rs := [9]) (by kernel_rfl) (by simp) ?_
          refine AllReadyH.cons rfl (fun K_ hK => ?_) AllReadyH.nil
          first
            | refine wp_append_lies _ _ _ 22 (by rfl) (mb + 2) 28 j0 (.agg #[.int .i64 0, .int .i64 0, .string ByteArray.empty]) 3 32 Tryz.underlying22 hj hy0 hy1 hy2 rfl (by decide) _ _ _ (by rfl) ((GD.out.row u.pr).alloc _) ⟨WD.heap.size, 0, none⟩ 1 1 [.int .i64 u.cd, .int .i64 u.pr, .string u.ti] (by rfl) rfl (cell_three_new _ _ _ _ _) hx1 (by decide) hx2 hx3 hx4 (WD.heap.size + 1) (by simp) ?_
            | refine step_append_lies _ rfl _ _ 22 (by rfl) (mb + 2) 28 j0 (.agg #[.int .i64 0, .int .i64 0, .string ByteArray.empty]) 3 32 Tryz.underlying22 hj hy0 hy1 hy2 rfl (by decide) _ _ _ (by rfl) ((GD.out.row u.pr).alloc _) ⟨WD.heap.size, 0, none⟩ 1 1 [.int .i64 u.cd, .int .i64 u.pr, .string u.ti] (by rfl) rfl (cell_three_new _ _ _ _ _) hx1 (by decide) hx2 hx3 hx4 (WD.heap.size + 1) (by simp) ?_
          intro g' cap' w9 hown9 hgrow9 hloc9 _
          obtain ⟨w5, hup, G5, g5⟩ : ∃ w5, (Instr.mapUpdate 47 (.map (some mb)) (.int .i64 u.pr) (.slice (some ⟨g', 0, none⟩) ((kdK l u.pr k).length + 1) cap')).run Tryz.prog w9 = .ok () w5 ∧ GrIs w w5 mb l (k + 1) (fun s => if s = u.pr then (.slice (some ⟨g', 0, none⟩) ((kdK l u.pr k).length + 1) cap') else V s) ∧ w9.grownBy w5 (some mb) := by
            have := GD.out.store (w4 := w9) (v' := .slice (some ⟨g', 0, none⟩) ((kdK l u.pr k).length + 1) cap') (by have := KL.out; unfold maxLen; omega) (by rw [HU.out]; exact UB.out) (by rw [HU.out]; exact hown9) (by rw [HU.out]; exact hgrow9) (by rw [HU.out]; rcases hloc9 with h | h; exact .inl h; exact .inr (by rw [h]; rfl))
            rw [HU.out] at this
            exact this
          have hT : S8 z x mb u w9 := by
            have t := HSD.out _ (bel_one WD (.cells #[.int .i64 u.cd, .int .i64 u.pr, .string u.ti] 28))
            have ne : ∀ q : Nat, (q = z ∨ q = x) → some q ≠ (V u.pr).ownBlock := fun q hq e => by
              have h1 := OWB.out q e.symm
              have := ZX.out
              rcases hq with rfl | rfl <;> omega
            exact ⟨⟨hgrow9.cell t.1.1 (ne _ (.inl rfl)), hgrow9.cell t.1.2.1 (ne _ (.inl rfl)), hgrow9.cell t.1.2.2 (ne _ (.inl rfl))⟩, hgrow9.cell t.2 (ne _ (.inr rfl))⟩
          have HT9 := Lib.hid hT
          refine hK.out _ _ hT (fun _ => ?_)
          clear hK K_ hS hT hown9 hgrow9 hloc9 hx1 hx2 hx3 hx4
          try simp only [Act.put, List.setIfInBounds_toArray, List.set_cons_zero, List.set_cons_succ]
          refine wpAnyH_ready (rs := [10]) (by kernel_rfl) (by simp) ?_
          refine AllReadyH.cons rfl (fun K_ hK => ?_) AllReadyH.nil
          go_simp
          have hT : S8 z x mb u w5 := by
            have ne : ∀ q : Nat, (q = z ∨ q = x) → some q ≠ some mb := fun q hq e => by
              have := ZX.out
              injection e with e
              rcases hq with rfl | rfl <;> omega
            have t := HT9.out
            exact ⟨⟨g5.cell t.1.1 (ne _ (.inl rfl)), g5.cell t.1.2.1 (ne _ (.inl rfl)), g5.cell t.1.2.2 (ne _ (.inl rfl))⟩, g5.cell t.2 (ne _ (.inr rfl))⟩
          have NX : Hid (GrIs w w5 mb l (k + 1) (fun s => if s = u.pr then (.slice (some ⟨g', 0, none⟩) ((kdK l u.pr k).length + 1) cap') else V s) ∧ w5.cell? ⟨x, 0, none⟩ = some (.map (some mb)) ∧ x < w5.heap.size) :=
            ⟨G5, hT.2, World.block_lt_of_cell? w5 ⟨x, 0, none⟩ hT.2⟩
          refine hK.out _ _ hT (fun _ => ?_)
          clear hK K_ hT hup G5 g5
          try simp only [Act.put, List.setIfInBounds_toArray, List.set_cons_zero, List.set_cons_succ]
          refine wpAnyH_done (by kernel_rfl) ?_ _
          refine NoPanic.normal ?_
          go_wp2
          go_roundw
          case rel => exact ⟨k + 1, _, by omega, by go_num, NX.out⟩
          case measure => simp [intOf]; omega
        · go_simp
          have hT : S8 z x mb u (WD.alloc (.cells #[.int .i64 u.cd, .int .i64 u.pr, .string u.ti] 28)) := HSD.out _ (bel_one WD _)
          refine hK.out _ _ hT (fun _ => ?_)
          clear hK K_ hS
          have hS := hT
          clear hT
          try simp only [Act.put, List.setIfInBounds_toArray, List.set_cons_zero, List.set_cons_succ]
          refine wpAnyH_ready (rs := [6]) (by kernel_rfl) (by simp) ?_
          refine AllReadyH.cons rfl (fun K_ hK => ?_) AllReadyH.nil
          have hlk := HLK.out _ (bel_one WD (.cells #[.int .i64 u.cd, .int .i64 u.pr, .string u.ti] 28))
          go_simp
          refine hK.out _ _ hS (fun _ => ?_)
          clear hK K_ hlk
          try simp only [Act.put, List.setIfInBounds_toArray, List.set_cons_zero, List.set_cons_succ]
          have hx1 : ∀ q ∈ [Value.int .i64 u.cd, .int .i64 u.pr, .string u.ti], q.oneCell' = true := by intro q hq; simp at hq; rcases hq with rfl | rfl | rfl <;> rfl
          have hx2 : (kdK l u.pr k).length + 1 ≤ maxLen := by have := KL.out; unfold maxLen; omega
          have hx3 : ((kdK l u.pr k).length + 1) * 32 ≤ 140737488355328 := by have := KL.out; omega
          have hx4 : mb + 2 ≤ (WD.alloc (.cells #[.int .i64 u.cd, .int .i64 u.pr, .string u.ti] 28)).heap.size := by have := ZX.out; have := ZLD.out; simp; omega
          refine wpAnyH_ready (rs := [9]) (by kernel_rfl) (by simp) ?_
          refine AllReadyH.cons rfl (fun K_ hK => ?_) AllReadyH.nil
          first
            | refine wp_append_lies _ _ _ 22 (by rfl) (mb + 2) 28 j0 (.agg #[.int .i64 0, .int .i64 0, .string ByteArray.empty]) 3 32 Tryz.underlying22 hj hy0 hy1 hy2 rfl (by decide) _ _ _ (by rfl) ((GD.out.row u.pr).alloc _) ⟨WD.heap.size, 0, none⟩ 1 1 [.int .i64 u.cd, .int .i64 u.pr, .string u.ti] (by rfl) rfl (cell_three_new _ _ _ _ _) hx1 (by decide) hx2 hx3 hx4 (WD.heap.size + 1) (by simp) ?_
            | refine step_append_lies _ rfl _ _ 22 (by rfl) (mb + 2) 28 j0 (.agg #[.int .i64 0, .int .i64 0, .string ByteArray.empty]) 3 32 Tryz.underlying22 hj hy0 hy1 hy2 rfl (by decide) _ _ _ (by rfl) ((GD.out.row u.pr).alloc _) ⟨WD.heap.size, 0, none⟩ 1 1 [.int .i64 u.cd, .int .i64 u.pr, .string u.ti] (by rfl) rfl (cell_three_new _ _ _ _ _) hx1 (by decide) hx2 hx3 hx4 (WD.heap.size + 1) (by simp) ?_
          intro g' cap' w9 hown9 hgrow9 hloc9 _
          obtain ⟨w5, hup, G5, g5⟩ : ∃ w5, (Instr.mapUpdate 47 (.map (some mb)) (.int .i64 u.pr) (.slice (some ⟨g', 0, none⟩) ((kdK l u.pr k).length + 1) cap')).run Tryz.prog w9 = .ok () w5 ∧ GrIs w w5 mb l (k + 1) (fun s => if s = u.pr then (.slice (some ⟨g', 0, none⟩) ((kdK l u.pr k).length + 1) cap') else V s) ∧ w9.grownBy w5 (some mb) := by
            have := GD.out.store (w4 := w9) (v' := .slice (some ⟨g', 0, none⟩) ((kdK l u.pr k).length + 1) cap') (by have := KL.out; unfold maxLen; omega) (by rw [HU.out]; exact UB.out) (by rw [HU.out]; exact hown9) (by rw [HU.out]; exact hgrow9) (by rw [HU.out]; rcases hloc9 with h | h; exact .inl h; exact .inr (by rw [h]; rfl))
            rw [HU.out] at this
            exact this
          have hT : S8 z x mb u w9 := by
            have t := HSD.out _ (bel_one WD (.cells #[.int .i64 u.cd, .int .i64 u.pr, .string u.ti] 28))
            have ne : ∀ q : Nat, (q = z ∨ q = x) → some q ≠ (V u.pr).ownBlock := fun q hq e => by
              have h1 := OWB.out q e.symm
              have := ZX.out
              rcases hq with rfl | rfl <;> omega
            exact ⟨⟨hgrow9.cell t.1.1 (ne _ (.inl rfl)), hgrow9.cell t.1.2.1 (ne _ (.inl rfl)), hgrow9.cell t.1.2.2 (ne _ (.inl rfl))⟩, hgrow9.cell t.2 (ne _ (.inr rfl))⟩
          have HT9 := Lib.hid hT
          refine hK.out _ _ hT (fun _ => ?_)
          clear hK K_ hS hT hown9 hgrow9 hloc9 hx1 hx2 hx3 hx4
          try simp only [Act.put, List.setIfInBounds_toArray, List.set_cons_zero, List.set_cons_succ]
          refine wpAnyH_ready (rs := [10]) (by kernel_rfl) (by simp) ?_
          refine AllReadyH.cons rfl (fun K_ hK => ?_) AllReadyH.nil
          go_simp
          have hT : S8 z x mb u w5 := by
            have ne : ∀ q : Nat, (q = z ∨ q = x) → some q ≠ some mb := fun q hq e => by
              have := ZX.out
              injection e with e
              rcases hq with rfl | rfl <;> omega
            have t := HT9.out
            exact ⟨⟨g5.cell t.1.1 (ne _ (.inl rfl)), g5.cell t.1.2.1 (ne _ (.inl rfl)), g5.cell t.1.2.2 (ne _ (.inl rfl))⟩, g5.cell t.2 (ne _ (.inr rfl))⟩
          have NX : Hid (GrIs w w5 mb l (k + 1) (fun s => if s = u.pr then (.slice (some ⟨g', 0, none⟩) ((kdK l u.pr k).length + 1) cap') else V s) ∧ w5.cell? ⟨x, 0, none⟩ = some (.map (some mb)) ∧ x < w5.heap.size) :=
            ⟨G5, hT.2, World.block_lt_of_cell? w5 ⟨x, 0, none⟩ hT.2⟩
          refine hK.out _ _ hT (fun _ => ?_)
          clear hK K_ hT hup G5 g5
          try simp only [Act.put, List.setIfInBounds_toArray, List.set_cons_zero, List.set_cons_succ]
          refine wpAnyH_done (by kernel_rfl) ?_ _
          refine NoPanic.normal ?_
          go_wp2
          go_roundw
          case rel => exact ⟨k + 1, _, by omega, by go_num, NX.out⟩
          case measure => simp [intOf]; omega
      · obtain rfl : k = l.length := by omega
        obtain ⟨g, hg⟩ : ∃ g, wr.heap.size = g := ⟨_, rfl⟩
        obtain ⟨W5, hW5⟩ : ∃ W, wr.alloc (.cells #[.pointer none, .slice none 0 0] 51) = W := ⟨_, rfl⟩
        have s5 : W5.heap.size = g + 1 := by rw [← hW5]; simp [hg]
        have I5 : Hid (IsB g [] W5 ∧ Below wr.heap.size wr W5 ∧ W5.cell? ⟨g, 1, none⟩ = some (.slice none 0 0)) := by
          unfold Hid
          rw [← hW5, ← hg]
          exact ⟨Lib.fresh_isBuilder _ _ wr, bel_one _ _, by rw [World.cell?_alloc_at _ _ _ _ rfl]; rfl⟩
        obtain ⟨W6, hW6⟩ : ∃ W, W5.alloc (.cells #[FV x g (g + 1)] 52) = W := ⟨_, rfl⟩
        have TS : Hid (TxS w mb x g (g + 1) l V W6 []) := by
          have b6 := bel_one W5 (.cells #[FV x g (g + 1)] 52)
          rw [hW6] at b6
          have G := hS.out
          have G5 := G.1.keep I5.out.2.1
          have hm := G.1.lt
          have hw := G.1.bel.size
          have h6 : W6.heap.size = g + 1 + 1 := by rw [← hW6]; simp [s5]
          have hx9 := G.2.2
          refine ⟨G5.keep b6, (b6.cell (p := ⟨x, 0, none⟩) (by show x < _; omega)).trans ((I5.out.2.1.cell (p := ⟨x, 0, none⟩) G.2.2).trans G.2.1), isB_keep I5.out.1 b6, ?_, fun v hv => ?_, ⟨by omega, by omega, by omega, by omega, by omega⟩, fun s q hq => by have := ((G.1.row s).lt q hq).2; omega⟩
          · rw [← s5, ← hW6, World.cell?_alloc_at _ _ _ _ rfl, s5]; rfl
          · rw [b6.cell (p := ⟨g, 1, none⟩) (by show g < _; omega), I5.out.2.2] at hv
            injection hv with hv
            subst hv
            simp [Value.ownBlock]
        have c1 := TS.out.fnc
        clear I5 hS XM
        go_wp2_with fail
        clear hW5 hW6 s5 c1
        (with_reducible refine (WR.out _ _ _ _ _ _ TS.out).mono ?_)
        rintro e W7 ⟨rfl, hT7⟩
        have T7 := Lib.hid hT7
        have HLN : Hid (Calls Tryz.prog 22 #[.pointer (some ⟨g, 0, none⟩)] W7 fun e w' => e = .returned (.int .i64 (txN l 9 0 0).length) ∧ w' = W7) := by
          have h := Tryz.Builder_Len g g (Lib.byteCells (txN l 9 0 0)) W7 hT7.bd
          rw [byteCells_length] at h
          exact h
        have HST2 : Hid (Calls Tryz.prog 23 #[.pointer (some ⟨g, 0, none⟩)] W7 fun e w' => e = .returned (.string (bs (txN l 9 0 0))) ∧ Below g W7 w') := Tryz.Builder_String_any g g (txN l 9 0 0) W7 hT7.bd (by have := hT7.ord; omega)
        have hbig : ¬ (60000 : Int) < ((txN l 9 0 0).length : Int) := by have := LN.out.1; omega
        clear hT7 TS WR
        go_wp2_with fail
        refine HLN.out.mono ?_
        rintro e w9 ⟨rfl, rfl⟩
        go_wp2_with fail
        refine HST2.out.mono ?_
        rintro e W9 ⟨rfl, b9⟩
        have R : Hid (TxtP l w (.returned (.tuple #[.string (bs (txN l 9 0 0)), .int .i64 0])) W9) := Or.inl ⟨HZ.out, rfl, T7.out.gr.bel.trans (b9.mono T7.out.ord.2.2.2.2)⟩
        clear b9
        go_wp2
        go_ret2
        exact R.out
  · have HZ := Lib.hid hz
    obtain ⟨f, hfl⟩ : ∃ f, frS l = f := ⟨_, rfl⟩
    have HP := Lib.hid hfl
    rw [hfl] at hz HK
    have f1 : (f == 0) = false := by rw [beq_eq_false_iff_ne]; exact hz
    have f2 : (f != 0) = true := by rw [bne, f1]; rfl
    clear hl hf hP hfl hz
    go_enter Tryz.func8, Tryz.ntmps8
    go_wp2_with fail
    (with_reducible refine HK.out.mono ?_)
    rintro e W1 ⟨rfl, b1⟩
    have R : Hid (TxtP l w (.returned (.tuple #[.string ⟨#[]⟩, .int .i64 f])) W1) := Or.inr ⟨HZ.out, by rw [HP.out], b1⟩
    clear b1 HK
    go_wp2
    go_ret2
    exact R.out
end Go.Proofs.YtheekfijbbgbkaaGreatDoor
