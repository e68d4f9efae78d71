/- Proved here: plain facts on how many points of two rows can be one, on their pairs, and on what two made of a row; no condition. -/
import Derived.Test.YtaefibefagbheaaWBase
namespace Go.Proofs.Ytaefibefagbheaa
set_option linter.unusedVariables false

/-- how many points of two rows can be one -/
def lcs : List (Int × Int) → List (Int × Int) → Nat
  | [], _ => 0
  | _ :: _, [] => 0
  | x :: xs, y :: ys => if x = y then lcs xs ys + 1 else max (lcs xs (y :: ys)) (lcs (x :: xs) ys)
termination_by a b => a.length + b.length

theorem lcs_nil (b : List (Int × Int)) : lcs [] b = 0 := by rw [lcs]
theorem lcs_nil' (a : List (Int × Int)) : lcs a [] = 0 := by cases a <;> rw [lcs]
theorem lcs_cons (x y : Int × Int) (xs ys : List (Int × Int)) : lcs (x :: xs) (y :: ys) = if x = y then lcs xs ys + 1 else max (lcs xs (y :: ys)) (lcs (x :: xs) ys) := by rw [lcs]

theorem lcs_ind {P : List (Int × Int) → List (Int × Int) → Prop} (h : ∀ a b, (∀ c d, c.length + d.length < a.length + b.length → P c d) → P a b) (a b : List (Int × Int)) : P a b := by
  have H : ∀ n a b, List.length a + List.length b = n → P a b := by
    intro n
    induction n using Nat.strongRecOn with
    | ind n ih =>
      intro a b e
      exact h a b fun c d hl => ih _ (by omega) c d rfl
  exact H _ a b rfl

theorem lcs_comm (a b : List (Int × Int)) : lcs a b = lcs b a := by
  refine lcs_ind (P := fun a b => lcs a b = lcs b a) ?_ a b
  intro a b ih
  cases a with
  | nil => rw [lcs_nil, lcs_nil']
  | cons x xs =>
    cases b with
    | nil => rw [lcs_nil, lcs_nil']
    | cons y ys =>
      rw [lcs_cons, lcs_cons, ih xs ys (by simp; omega), ih xs (y :: ys) (by simp), ih (x :: xs) ys (by simp)]
      by_cases e : x = y
      · rw [if_pos e, if_pos e.symm]
      · rw [if_neg e, if_neg (fun h => e h.symm), Nat.max_comm]

theorem lcs_cons_bd (x : Int × Int) (xs b : List (Int × Int)) : lcs xs b ≤ lcs (x :: xs) b ∧ lcs (x :: xs) b ≤ lcs xs b + 1 := by
  refine lcs_ind (P := fun xs b => ∀ x, lcs xs b ≤ lcs (x :: xs) b ∧ lcs (x :: xs) b ≤ lcs xs b + 1) ?_ xs b x
  intro xs b ih x
  cases b with
  | nil => rw [lcs_nil', lcs_nil']; omega
  | cons y ys =>
    have r := ih ys xs (by simp; omega) y
    rw [lcs_comm ys xs, lcs_comm (y :: ys) xs] at r
    rw [lcs_cons]
    by_cases e : x = y
    · rw [if_pos e]; omega
    · rw [if_neg e]
      have l := ih xs ys (by simp) x
      omega

theorem lcs_cons_bd' (y : Int × Int) (a ys : List (Int × Int)) : lcs a ys ≤ lcs a (y :: ys) ∧ lcs a (y :: ys) ≤ lcs a ys + 1 := by
  have := lcs_cons_bd y ys a
  rwa [lcs_comm ys a, lcs_comm (y :: ys) a] at this

theorem lcs_le (a b : List (Int × Int)) : lcs a b ≤ a.length := by
  induction a with
  | nil => rw [lcs_nil]; exact Nat.zero_le _
  | cons x xs ih => have := lcs_cons_bd x xs b; simp; omega

theorem lcs_le' (a b : List (Int × Int)) : lcs a b ≤ b.length := by rw [lcs_comm]; exact lcs_le b a

theorem lcs_mid (c : Int × Int) (a1 a2 b : List (Int × Int)) : lcs (a1 ++ a2) b ≤ lcs (a1 ++ c :: a2) b ∧ lcs (a1 ++ c :: a2) b ≤ lcs (a1 ++ a2) b + 1 := by
  refine lcs_ind (P := fun a1 b => lcs (a1 ++ a2) b ≤ lcs (a1 ++ c :: a2) b ∧ lcs (a1 ++ c :: a2) b ≤ lcs (a1 ++ a2) b + 1) ?_ a1 b
  intro a1 b ih
  cases a1 with
  | nil => exact lcs_cons_bd c a2 b
  | cons x xs =>
    cases b with
    | nil => rw [lcs_nil', lcs_nil']; omega
    | cons y ys =>
      have h1 := ih xs ys (by simp; omega)
      have h2 := ih xs (y :: ys) (by simp)
      have h3 := ih (x :: xs) ys (by simp)
      simp only [List.cons_append] at h3 ⊢
      rw [lcs_cons, lcs_cons]
      by_cases e : x = y
      · rw [if_pos e, if_pos e]; omega
      · rw [if_neg e, if_neg e]; omega

theorem lcs_snoc (p : Int × Int) (a b : List (Int × Int)) : lcs (a ++ [p]) (b ++ [p]) = lcs a b + 1 := by
  refine lcs_ind (P := fun a b => lcs (a ++ [p]) (b ++ [p]) = lcs a b + 1) ?_ a b
  intro a b ih
  cases a with
  | nil =>
    cases b with
    | nil => simp [lcs_cons, lcs_nil]
    | cons y ys =>
      have h := ih [] ys (by simp)
      simp only [List.nil_append, List.cons_append] at h ⊢
      rw [lcs_cons, h, lcs_nil, lcs_nil, lcs_nil, lcs_nil]
      split <;> omega
  | cons x xs =>
    cases b with
    | nil =>
      have h := ih xs [] (by simp)
      simp only [List.nil_append, List.cons_append] at h ⊢
      rw [lcs_cons, h, lcs_nil', lcs_nil', lcs_nil', lcs_nil']
      split <;> omega
    | cons y ys =>
      have h1 := ih xs ys (by simp; omega)
      have h2 := ih xs (y :: ys) (by simp)
      have h3 := ih (x :: xs) ys (by simp)
      simp only [List.cons_append] at h2 h3 ⊢
      rw [lcs_cons, lcs_cons, h1, h2, h3]
      by_cases e : x = y
      · rw [if_pos e, if_pos e]
      · rw [if_neg e, if_neg e]; omega

theorem lcs_tail (c a b : List (Int × Int)) : lcs (a ++ c) (b ++ c) = lcs a b + c.length := by
  induction c generalizing a b with
  | nil => simp
  | cons x xs ih =>
    have h := ih (a ++ [x]) (b ++ [x])
    simp only [List.append_assoc, List.singleton_append] at h
    rw [h, lcs_snoc]
    simp; omega

theorem lcs_self (a : List (Int × Int)) : lcs a a = a.length := by
  have := lcs_tail a [] []
  simpa [lcs_nil] using this

theorem lcs_begin (a c : List (Int × Int)) : lcs (a ++ c) a = a.length := by
  induction a with
  | nil => simp [lcs_nil']
  | cons x xs ih => simp only [List.cons_append, List.length_cons]; rw [lcs_cons, if_pos rfl, ih]

/-- the pairs of two rows, from two places on -/
def prs (i k : Nat) : List (Int × Int) → List (Int × Int) → List (Nat × Nat)
  | [], _ => []
  | _ :: _, [] => []
  | x :: xs, y :: ys => if x = y then (i, k) :: prs (i + 1) (k + 1) xs ys else if lcs (x :: xs) ys ≤ lcs xs (y :: ys) then prs (i + 1) k xs (y :: ys) else prs i (k + 1) (x :: xs) ys
termination_by a b => a.length + b.length

theorem prs_nil (i k : Nat) (b : List (Int × Int)) : prs i k [] b = [] := by rw [prs]
theorem prs_nil' (i k : Nat) (a : List (Int × Int)) : prs i k a [] = [] := by cases a <;> rw [prs]
theorem prs_cons (i k : Nat) (x y : Int × Int) (xs ys : List (Int × Int)) : prs i k (x :: xs) (y :: ys) = if x = y then (i, k) :: prs (i + 1) (k + 1) xs ys else if lcs (x :: xs) ys ≤ lcs xs (y :: ys) then prs (i + 1) k xs (y :: ys) else prs i (k + 1) (x :: xs) ys := by rw [prs]

theorem prs_len (i k : Nat) (a b : List (Int × Int)) : (prs i k a b).length = lcs a b := by
  refine lcs_ind (P := fun a b => ∀ i k, (prs i k a b).length = lcs a b) ?_ a b i k
  intro a b ih i k
  cases a with
  | nil => rw [prs_nil, lcs_nil]; rfl
  | cons x xs =>
    cases b with
    | nil => rw [prs_nil', lcs_nil']; rfl
    | cons y ys =>
      rw [prs_cons, lcs_cons]
      by_cases e : x = y
      · rw [if_pos e, if_pos e, List.length_cons, ih xs ys (by simp; omega)]
      · rw [if_neg e, if_neg e]
        by_cases h : lcs (x :: xs) ys ≤ lcs xs (y :: ys)
        · rw [if_pos h, ih xs (y :: ys) (by simp)]; omega
        · rw [if_neg h, ih (x :: xs) ys (by simp)]; omega

/-- pairs ascend in both places, and are one point each -/
theorem prs_fit (i k : Nat) (a b : List (Int × Int)) : ∀ p ∈ prs i k a b, i ≤ p.1 ∧ k ≤ p.2 ∧ p.1 - i < a.length ∧ p.2 - k < b.length ∧ a[p.1 - i]? = b[p.2 - k]? := by
  refine lcs_ind (P := fun a b => ∀ i k, ∀ p ∈ prs i k a b, i ≤ p.1 ∧ k ≤ p.2 ∧ p.1 - i < a.length ∧ p.2 - k < b.length ∧ a[p.1 - i]? = b[p.2 - k]?) ?_ a b i k
  intro a b ih i k p hp
  cases a with
  | nil => rw [prs_nil] at hp; cases hp
  | cons x xs =>
    cases b with
    | nil => rw [prs_nil'] at hp; cases hp
    | cons y ys =>
      rw [prs_cons] at hp
      by_cases e : x = y
      · rw [if_pos e, List.mem_cons] at hp
        rcases hp with rfl | hp
        · simp [e]
        · obtain ⟨h1, h2, h3, h4, h5⟩ := ih xs ys (by simp; omega) _ _ p hp
          have e1 : p.1 - i = p.1 - (i + 1) + 1 := by omega
          have e2 : p.2 - k = p.2 - (k + 1) + 1 := by omega
          rw [e1, e2]
          exact ⟨by omega, by omega, by simp; omega, by simp; omega, by simpa using h5⟩
      · rw [if_neg e] at hp
        by_cases h : lcs (x :: xs) ys ≤ lcs xs (y :: ys)
        · rw [if_pos h] at hp
          obtain ⟨h1, h2, h3, h4, h5⟩ := ih xs (y :: ys) (by simp) _ _ p hp
          have e1 : p.1 - i = p.1 - (i + 1) + 1 := by omega
          rw [e1]
          exact ⟨by omega, h2, by simp; omega, h4, by simpa using h5⟩
        · rw [if_neg h] at hp
          obtain ⟨h1, h2, h3, h4, h5⟩ := ih (x :: xs) ys (by simp) _ _ p hp
          have e2 : p.2 - k = p.2 - (k + 1) + 1 := by omega
          rw [e2]
          exact ⟨h1, by omega, h3, by simp; omega, by simpa using h5⟩

/-- one ascends to the other in both places -/
def Up2 (p q : Nat × Nat) : Prop := p.1 < q.1 ∧ p.2 < q.2

theorem prs_up (i k : Nat) (a b : List (Int × Int)) : (prs i k a b).Pairwise Up2 := by
  refine lcs_ind (P := fun a b => ∀ i k, (prs i k a b).Pairwise Up2) ?_ a b i k
  intro a b ih i k
  cases a with
  | nil => rw [prs_nil]; exact List.Pairwise.nil
  | cons x xs =>
    cases b with
    | nil => rw [prs_nil']; exact List.Pairwise.nil
    | cons y ys =>
      rw [prs_cons]
      by_cases e : x = y
      · rw [if_pos e, List.pairwise_cons]
        refine ⟨fun q hq => ?_, ih xs ys (by simp; omega) _ _⟩
        obtain ⟨h1, h2, _⟩ := prs_fit _ _ _ _ q hq
        exact ⟨by omega, by omega⟩
      · rw [if_neg e]
        by_cases h : lcs (x :: xs) ys ≤ lcs xs (y :: ys)
        · rw [if_pos h]; exact ih xs (y :: ys) (by simp) _ _
        · rw [if_neg h]; exact ih (x :: xs) ys (by simp) _ _

/-- of a row, and one that begins with it, all are pairs -/
theorem prs_begin (i k : Nat) (a c : List (Int × Int)) : prs i k a (a ++ c) = (List.range a.length).map fun j => (i + j, k + j) := by
  induction a generalizing i k with
  | nil => rw [prs_nil]; rfl
  | cons x xs ih =>
    simp only [List.cons_append, List.length_cons]
    rw [prs_cons, if_pos rfl, ih, List.range_succ_eq_map]
    simp only [List.map_cons, List.map_map, Nat.add_zero]
    congr 1
    refine List.map_congr_left fun j _ => ?_
    simp only [Function.comp]
    rw [Nat.add_assoc, Nat.add_assoc, Nat.add_comm 1 j]

theorem prs_self (i k : Nat) (a : List (Int × Int)) : prs i k a a = (List.range a.length).map fun j => (i + j, k + j) := by
  have := prs_begin i k a []
  rwa [List.append_nil] at this

/-- a strange point ahead -/
theorem prs_ahead (i k : Nat) (p : Int × Int) (a : List (Int × Int)) (h : p ∉ a) : prs i k a (p :: a) = (List.range a.length).map fun j => (i + j, k + 1 + j) := by
  cases a with
  | nil => rw [prs_nil]; rfl
  | cons x xs =>
    have e : ¬ x = p := fun e => h (by rw [e]; exact List.mem_cons_self)
    have h1 : lcs xs (p :: x :: xs) ≤ xs.length := lcs_le _ _
    have h2 := lcs_self (x :: xs)
    rw [prs_cons, if_neg e, if_neg (by rw [h2]; simp; omega), prs_self]

/-- what two made of a piece -/
def pick (o a b : List (Int × Int)) : Option (List (Int × Int)) := if a = o then some b else if b = o then some a else if a = b then some a else none

theorem pick_swap (o a b : List (Int × Int)) : pick o a b = pick o b a := by
  unfold pick
  by_cases h1 : a = o <;> by_cases h2 : b = o <;> by_cases h3 : a = b <;> simp_all
  all_goals (intro h; exact absurd h.symm h3)

theorem pick_snoc (p : Int × Int) (o a b : List (Int × Int)) : pick (o ++ [p]) (a ++ [p]) (b ++ [p]) = (pick o a b).map (· ++ [p]) := by
  unfold pick
  simp only [List.append_cancel_right_eq]
  split
  · rfl
  · split
    · rfl
    · split <;> rfl

/-- a piece of a row -/
def cut (l : List (Int × Int)) (i j : Nat) : List (Int × Int) := (l.take j).drop i

theorem cut_snoc (l : List (Int × Int)) (i j : Nat) (h : i ≤ j) (hj : j < l.length) : cut l i (j + 1) = cut l i j ++ [l.getD j (0, 0)] := by
  unfold cut
  rw [List.take_succ_eq_append_getElem hj, List.drop_append_of_le_length (by simp; omega)]
  congr 2
  simp [hj]

theorem cut_drop (l : List (Int × Int)) (i j : Nat) (h : i ≤ j) : cut l i j ++ l.drop j = l.drop i := by
  unfold cut
  by_cases hj : j ≤ l.length
  · have h1 := List.take_append_drop (j - i) (l.drop i)
    rw [List.drop_drop, show i + (j - i) = j by omega, List.take_drop, show i + (j - i) = j by omega] at h1
    exact h1
  · rw [List.take_of_length_le (by omega), List.drop_eq_nil_of_le (by omega : l.length ≤ j), List.append_nil]

/-- what stays: the places in all three rows -/
def stays (pa pb : List (Nat × Nat)) : List (Nat × Nat × Nat) := pa.filterMap fun p => (pb.lookup p.1).map fun q => (p.1, p.2, q)

/-- what two made of a row, from three places on -/
def mrg (base a b : List (Int × Int)) (o x y : Nat) : List (Nat × Nat × Nat) → Option (List (Int × Int))
  | [] => pick (base.drop o) (a.drop x) (b.drop y)
  | t :: rest => match pick (cut base o t.1) (cut a x t.2.1) (cut b y t.2.2) with
    | none => none
    | some p => (mrg base a b (t.1 + 1) (t.2.1 + 1) (t.2.2 + 1) rest).map fun r => p ++ base.getD t.1 (0, 0) :: r

/-- what two made of a row -/
def merged (base a b : List (Int × Int)) : Option (List (Int × Int)) := mrg base a b 0 0 0 (stays (prs 0 0 base a) (prs 0 0 base b))
end Go.Proofs.Ytaefibefagbheaa
