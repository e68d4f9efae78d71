/- Proved here: plain facts on the names of the things that touch a box: which of them stands where, that a greater box tells all that a lesser one tells, and that the greatest box tells all; no condition. -/
import Derived.Test.YtkklmdmdnehaeaaWTouch
import Derived.Test.YtkklmdmdnehaeaaWArea
namespace Go.Proofs.Ytkklmdmdnehaeaa
set_option linter.unusedVariables false
open Go.ChangeShapes Go.WideShapes Go.ChangeAt Go.RowKit Go.Deep

theorem inN_more (ax ay bx bY : Int) (fs : List Ft) (j d : Nat) : ∃ t, inN ax ay bx bY fs (j + d) = inN ax ay bx bY fs j ++ t := by
  induction d with
  | zero => exact ⟨[], by simp⟩
  | succ d ih =>
    obtain ⟨t, ht⟩ := ih
    refine ⟨t ++ (if touches ax ay bx bY (fkd fs (j + d)) (fps fs (j + d)) then [fid fs (j + d)] else []), ?_⟩
    have e : inN ax ay bx bY fs (j + (d + 1)) = inN ax ay bx bY fs (j + d) ++ (if touches ax ay bx bY (fkd fs (j + d)) (fps fs (j + d)) then [fid fs (j + d)] else []) := rfl
    rw [e, ht, List.append_assoc]

theorem inN_at {ax ay bx bY : Int} {fs : List Ft} {j m : Nat} (hj : j < m) (ht : touches ax ay bx bY (fkd fs j) (fps fs j) = true) :
    (inN ax ay bx bY fs j).length < (inN ax ay bx bY fs m).length ∧ sx (inN ax ay bx bY fs m) (inN ax ay bx bY fs j).length = fid fs j := by
  obtain ⟨t, h⟩ := inN_more ax ay bx bY fs (j + 1) (m - (j + 1))
  rw [show j + 1 + (m - (j + 1)) = m by omega] at h
  have h1 : inN ax ay bx bY fs (j + 1) = inN ax ay bx bY fs j ++ [fid fs j] := by simp [inN, ht]
  rw [h, h1]
  exact ⟨by simp, by simp [sx]⟩

theorem inN_every {ax ay bx bY : Int} {fs : List Ft} : ∀ m, (∀ i, i < m → touches ax ay bx bY (fkd fs i) (fps fs i) = true) → (inN ax ay bx bY fs m).length = m
  | 0, _ => rfl
  | m + 1, h => by
    have := inN_every m fun i hi => h i (by omega)
    simp [inN, h m (by omega), this]

theorem loX_le (ps : List (Int × Int)) : ∀ n, 0 < n → loX ps n ≤ px ps 0
  | 0, h => absurd h (Nat.lt_irrefl 0)
  | 1, _ => by simp [loX]
  | n + 2, _ => by
    have := loX_le ps (n + 1) (by omega)
    show min (loX ps (n + 1)) (px ps (n + 1)) ≤ _
    omega
theorem loY_le (ps : List (Int × Int)) : ∀ n, 0 < n → loY ps n ≤ py ps 0
  | 0, h => absurd h (Nat.lt_irrefl 0)
  | 1, _ => by simp [loY]
  | n + 2, _ => by
    have := loY_le ps (n + 1) (by omega)
    show min (loY ps (n + 1)) (py ps (n + 1)) ≤ _
    omega
theorem hiX_ge (ps : List (Int × Int)) : ∀ n, 0 < n → px ps 0 ≤ hiX ps n
  | 0, h => absurd h (Nat.lt_irrefl 0)
  | 1, _ => by simp [hiX]
  | n + 2, _ => by
    have := hiX_ge ps (n + 1) (by omega)
    show _ ≤ max (hiX ps (n + 1)) (px ps (n + 1))
    omega
theorem hiY_ge (ps : List (Int × Int)) : ∀ n, 0 < n → py ps 0 ≤ hiY ps n
  | 0, h => absurd h (Nat.lt_irrefl 0)
  | 1, _ => by simp [hiY]
  | n + 2, _ => by
    have := hiY_ge ps (n + 1) (by omega)
    show _ ≤ max (hiY ps (n + 1)) (py ps (n + 1))
    omega

theorem touches_all {k : Int} {ps : List (Int × Int)} (h : shapeOk k ps = true) : touches (-1000) (-1000) 1000 1000 k ps = true := by
  have hp := ok_pos h
  have hg : ptsGood ps = true := by
    unfold shapeOk at h
    simp only [Bool.and_eq_true] at h
    exact h.2
  obtain ⟨⟨x1, x2⟩, y1, y2⟩ := good_bd hg hp
  have h1 := loX_le ps ps.length hp
  have h2 := loY_le ps ps.length hp
  have h3 := hiX_ge ps ps.length hp
  have h4 := hiY_ge ps ps.length hp
  unfold touches boxLX boxLY boxHX boxHY
  rw [if_pos h, if_pos h, if_pos h, if_pos h]
  simp only [Bool.and_eq_true, decide_eq_true_eq]
  omega

theorem sheet_shape {fs : List Ft} (h : sheetOk fs = true) {i : Nat} (hi : i < fs.length) : shapeOk (fkd fs i) (fps fs i) = true := by
  unfold sheetOk at h
  simp only [Bool.and_eq_true] at h
  have := featsGood_at h.1 hi
  unfold featGood ftOk featOk at this
  simp only [Bool.and_eq_true] at this
  exact this.1.1.2

/-- the greatest box tells every thing -/
theorem inAll_every {fs : List Ft} (h : sheetOk fs = true) : (inAll (-1000) (-1000) 1000 1000 fs).length = fs.length := by
  unfold inAll
  rw [if_pos h]
  exact inN_every _ fun i hi => touches_all (sheet_shape h hi)

theorem inN_sub {ax ay bx bY ax' ay' bx' bY' : Int} (h1 : ax' ≤ ax) (h2 : ay' ≤ ay) (h3 : bx ≤ bx') (h4 : bY ≤ bY') (fs : List Ft) : ∀ n, (inN ax ay bx bY fs n).Sublist (inN ax' ay' bx' bY' fs n)
  | 0 => List.Sublist.refl _
  | n + 1 => by
    have ih := inN_sub h1 h2 h3 h4 fs n
    unfold inN
    refine ih.append ?_
    by_cases ht : touches ax ay bx bY (fkd fs n) (fps fs n) = true
    · have ht' : touches ax' ay' bx' bY' (fkd fs n) (fps fs n) = true := by
        unfold touches at ht ⊢
        simp only [Bool.and_eq_true, decide_eq_true_eq] at ht ⊢
        omega
      rw [if_pos ht, if_pos ht']
      exact List.Sublist.refl _
    · rw [if_neg ht]
      exact List.nil_sublist _

/-- a greater box tells all that a lesser one tells, in the same order -/
theorem inAll_sub {ax ay bx bY ax' ay' bx' bY' : Int} (h1 : ax' ≤ ax) (h2 : ay' ≤ ay) (h3 : bx ≤ bx') (h4 : bY ≤ bY') (fs : List Ft) : (inAll ax ay bx bY fs).Sublist (inAll ax' ay' bx' bY' fs) := by
  unfold inAll
  split
  · exact inN_sub h1 h2 h3 h4 fs _
  · exact List.Sublist.refl _

theorem drop_sx {xs : List ByteArray} {i : Nat} (h : i < xs.length) : xs.drop i = sx xs i :: xs.drop (i + 1) := by
  rw [List.drop_eq_getElem_cons h]
  simp [sx, h]

/-- one row is found in another one, step by step -/
theorem sub_step_yes {xs ys : List ByteArray} {k i : Nat} (hk : k < xs.length) (hi : i < ys.length) (h : (xs.drop k).Sublist (ys.drop i)) (he : sx xs k = sx ys i) : (xs.drop (k + 1)).Sublist (ys.drop (i + 1)) := by
  rw [drop_sx hk, drop_sx hi, he] at h
  exact (List.cons_sublist_cons.1 h)
theorem sub_step_no {xs ys : List ByteArray} {k i : Nat} (hk : k < xs.length) (hi : i < ys.length) (h : (xs.drop k).Sublist (ys.drop i)) (he : sx xs k ≠ sx ys i) : (xs.drop k).Sublist (ys.drop (i + 1)) := by
  rw [drop_sx hk, drop_sx hi] at h
  rw [drop_sx hk]
  generalize sx xs k = x at *
  generalize sx ys i = y at *
  rcases List.sublist_cons_iff.1 h with h | ⟨t, e, _⟩
  · exact h
  · simp only [List.cons.injEq] at e
    exact absurd e.1 he
theorem sub_step_over {xs ys : List ByteArray} {k i : Nat} (hk : xs.length ≤ k) : (xs.drop k).Sublist (ys.drop i) := by
  rw [List.drop_of_length_le hk]
  exact List.nil_sublist _
theorem sub_end {xs ys : List ByteArray} {k i : Nat} (hk : k ≤ xs.length) (hi : ys.length ≤ i) (h : (xs.drop k).Sublist (ys.drop i)) : k = xs.length := by
  rw [List.drop_of_length_le hi] at h
  have := List.sublist_nil.1 h
  have hl := congrArg List.length this
  rw [List.length_drop] at hl
  simp at hl
  omega
end Go.Proofs.Ytkklmdmdnehaeaa
