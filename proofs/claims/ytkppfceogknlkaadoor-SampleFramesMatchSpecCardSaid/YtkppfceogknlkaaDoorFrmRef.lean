/-
  names, of, clusters, sizes and total of the reference.
-/
import Derived.Test.YtkppfceogknlkaaDoorFrmSC
namespace Go.Proofs.YtkppfceogknlkaaDoor
open Go.RowKit Go.WideMaps Go.Maps

theorem infoS : (Tryd.prog.info? 9).map (fun i => (i.zero, i.size, i.bytes)) = some (some (.string ByteArray.empty), 1, 16) := by kernel_rfl
theorem infoU : (Tryd.prog.info? 47).map (fun i => (i.zero, i.size, i.bytes)) = some (some (.agg #[.int .i64 0, .string ⟨#[]⟩, .int .i64 0, .int .i64 0]), 4, 40) := by kernel_rfl
/-- The cells of a unit. -/
def ucells (u : Un) : List Value := [.int .i64 u.id, .string u.st, .int .i64 u.cl, .int .i64 u.sz]
theorem ub_at (wr : World) (u : Un) (W1 : World) (h : wr.alloc (.cells #[.int .i64 u.id, .string u.st, .int .i64 u.cl, .int .i64 u.sz] 47) = W1) :
    Below wr.heap.size wr W1 ∧ W1.heap.size = wr.heap.size + 1 ∧ W1.cell? ⟨wr.heap.size, 0, none⟩ = some (.int .i64 u.id) ∧ W1.cell? ⟨wr.heap.size, 1, none⟩ = some (.string u.st) ∧ W1.cell? ⟨wr.heap.size, 2, none⟩ = some (.int .i64 u.cl) ∧ W1.cell? ⟨wr.heap.size, 3, none⟩ = some (.int .i64 u.sz) := by
  rw [← h]
  exact ⟨bel_one _ _, by simp, by rw [World.cell?_alloc_at _ _ _ _ rfl]; rfl, by rw [World.cell?_alloc_at _ _ _ _ rfl]; rfl, by rw [World.cell?_alloc_at _ _ _ _ rfl]; rfl, by rw [World.cell?_alloc_at _ _ _ _ rfl]; rfl⟩
theorem take_un (l : List Un) {k : Nat} (h : k < l.length) : l.take (k + 1) = l.take k ++ [un l k] := by
  rw [List.take_add_one, List.getElem?_eq_getElem h]
  simp [un, List.getD, List.getElem?_eq_getElem h]
theorem un_mem (l : List Un) {k : Nat} (h : k < l.length) : un l k ∈ l := by unfold un; rw [List.getD, List.getElem?_eq_getElem h]; simp
theorem own_keep {W W' : World} {base : Nat} {e : TypeId} {size : Nat} {v : Value} {n : Nat} {xs : List Value} (h : W.ownsRow base e size v n xs) (hb : Below W.heap.size W W') : W'.ownsRow base e size v n xs := by
  refine h.kept (below_grow hb) ?_
  cases v.ownBlock with
  | none => exact .inl rfl
  | some _ => exact .inr (by simp)
/-- The row of the first k strata's names. -/
def nrow (l : List Un) (k : Nat) : List Value := ((l.take k).map sk).map encStr
theorem nrow_len (l : List Un) (k : Nat) (h : k ≤ l.length) : ((l.take k).map sk).length = k := by simp; omega
theorem nrow_succ (l : List Un) {k : Nat} (h : k < l.length) : nrow l (k + 1) = nrow l k ++ [.string (un l k).st] := by
  unfold nrow
  rw [take_un l h, List.map_append, List.map_append]
  simp only [List.map_cons, List.map_nil, encStr_bs]
  unfold sk
  rw [bs_of]
def irow (f : Un → Int) (l : List Un) (k : Nat) : List Value := ((l.take k).map f).map (Value.int .i64)
theorem irow_succ (f : Un → Int) (l : List Un) {k : Nat} (h : k < l.length) : irow f l (k + 1) = irow f l k ++ [.int .i64 (f (un l k))] := by
  unfold irow
  rw [take_un l h, List.map_append, List.map_append]
  simp
set_option maxHeartbeats 2000000 in
theorem names_c (a : Option Addr) (c : Nat) (l : List Un) (w : World) (hl : RdU w a l) (h5 : l.length ≤ 5000) :
    Calls Tryd.prog 12 #[.slice a l.length c] w fun e w' => ∃ a' c', e = .returned (.slice a' (strN l).length c') ∧ RdS w' a' (strN l) ∧ Below w.heap.size w w' := by
  obtain ⟨i0, hi, hz0, hz1, hz2⟩ := info_parts infoS
  have HL := Lib.hid hl
  clear hl
  go_enter Tryd.func12, Tryd.ntmps12
  go_wp2
  go_loopw [3, 8] (fun o i wr => ∃ k : Nat, k ≤ l.length ∧ i = .int .i64 k ∧ Hid (wr.ownsRow w.heap.size 9 1 o k (nrow l k) ∧ Below w.heap.size w wr)) (fun _ i _ => l.length - (intOf i).toNat)
  case atStart => exact ⟨0, Nat.zero_le _, rfl, World.ownsRow_nil _ _ _ _, Below.refl _ _⟩
  case round =>
    obtain ⟨k, hk, rfl, hR⟩ := hrel
    by_cases hlt : k < l.length
    · obtain ⟨b, off, rfl, u0, u1, u2, u3⟩ := (HL.out.below hR.out.2).at_ hlt
      have hlt' : (k : Int) < (l.length : Int) := by omega
      have HN := Lib.hid (nrow_succ l hlt)
      generalize un l k = uu at *
      obtain ⟨id, st, cl, sz⟩ := uu
      dsimp only at *
      obtain ⟨W1, hW1⟩ : ∃ W1, wr.alloc (.cells #[.int .i64 id, .string st, .int .i64 cl, .int .i64 sz] 47) = W1 := ⟨_, rfl⟩
      obtain ⟨q0, q1, v0, v1, v2, v3⟩ := ub_at wr ⟨id, st, cl, sz⟩ W1 hW1
      dsimp only at v0 v1 v2 v3
      have B1 := Lib.hid q0
      have Z1 := Lib.hid q1
      clear q0 q1
      have hO := Lib.hid (own_keep hR.out.1 B1.out)
      have hBB := Lib.hid (hR.out.2.trans (B1.out.mono hR.out.2.size))
      go_wp2_with (at_builtin; refine wpList_append_own _ rfl _ _ 40 rfl w.heap.size 9 i0 (.string ByteArray.empty) 1 16 Tryd.underlying40 hi hz0 hz1 hz2 rfl (by decide) _ _ _ rfl (hO.out.alloc _) ⟨W1.heap.size, 0, none⟩ 1 1 [.string st] rfl rfl (cell_one_new _ _ _) ?c2 ?c3 ?c4 ?c5 ?_)
      case c2 => intro u hu; simp at hu; subst hu; rfl
      case c3 => unfold maxLen; omega
      case c4 => omega
      case c5 => have := hBB.out.size; simp; omega
      intro v' w4 hown' hgrow _
      have NX : Hid (w4.ownsRow w.heap.size 9 1 v' (k + 1) (nrow l (k + 1)) ∧ Below w.heap.size w w4) := by
        refine ⟨by rw [HN.out]; exact hown', ?_⟩
        have hs := hBB.out.size
        exact (hBB.out.trans ((bel_one W1 _).mono hs)).grown hgrow (by simp; omega) (fun g hg => (hO.out.lt g hg).1)
      clear hown' hgrow hO hR
      go_wp2
      go_roundw
      case rel => exact ⟨k + 1, by omega, by go_num, NX.out⟩
      case measure => simp [intOf]; omega
    · obtain rfl : k = l.length := by omega
      clear hlt
      have hm : ((l.take l.length).map sk).length = l.length := by simp
      have R0 : Hid (wr.ownsRow w.heap.size 9 1 u3 (l.map sk).length ((l.map sk).map encStr)) := by
        have := hR.out.1
        unfold Hid
        unfold nrow at this
        rw [List.take_length] at this
        simpa using this
      have hll : (l.map sk).length ≤ 5000 := by simpa using h5
      have BR := Lib.hid hR.out.2
      clear hR hm
      go_wp2_with fail
      refine (sortS_c w.heap.size u3 (l.map sk) wr R0.out hll).mono ?_
      rintro e w2 ⟨rfl, R1, G1⟩
      have B2 := Lib.hid (BR.out.grown G1 BR.out.size (fun g hg => (R0.out.lt g hg).1))
      have hlm : (l.map sk).length = ((l.map sk).mergeSort leS).length := by simp
      rw [hlm] at R1
      have R2 := Lib.hid R1
      have hll2 : ((l.map sk).mergeSort leS).length ≤ 5000 := by simpa using h5
      clear R1 G1 R0 BR
      go_wp2_with fail
      refine (compactS_c w.heap.size u3 _ w2 R2.out hll2 B2.out.size).mono ?_
      rintro e w3 ⟨a', c', rfl, hr, b3⟩
      have R := Lib.hid (show RdS w3 a' (strN l) ∧ Below w.heap.size w w3 from ⟨hr, B2.out.trans b3⟩)
      clear hr b3
      go_wp2
      go_ret
      exact ⟨a', c', rfl, R.out.1, R.out.2⟩
end Go.Proofs.YtkppfceogknlkaaDoor
