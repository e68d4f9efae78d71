/- Proved here: plain facts on a shape turned round and on a shape moved: it is one, its area, its box. -/
import Derived.Test.YtdfadpejddhbkaaWBackI
import Derived.Test.YtdfadpejddhbkaaWMoveI
import Derived.Test.YtdfadpejddhbkaaWArea
import Derived.Test.YtdfadpejddhbkaaWBox
namespace Go.Proofs.Ytdfadpejddhbkaa
set_option linter.unusedVariables false
open Go.ChangeShapes Go.WideShapes Go.ChangeAt Go.RowKit

theorem least_le (f : Nat → Int) (g : Nat → Int) (hs : ∀ n, g (n + 1) = min (g n) (f n)) : ∀ n i, i < n → g n ≤ f i
  | 0, i, h => absurd h (Nat.not_lt_zero _)
  | n + 1, i, h => by
    have e := hs n
    by_cases hi : i = n
    · subst hi; omega
    · have := least_le f g hs n i (by omega); omega

theorem least_at (f : Nat → Int) (g : Nat → Int) (h0 : g 0 = f 0) (hs : ∀ n, g (n + 1) = min (g n) (f n)) : ∀ n, ∃ i, i < n + 1 ∧ f i = g (n + 1)
  | 0 => ⟨0, by omega, by rw [hs, h0]; omega⟩
  | n + 1 => by
    obtain ⟨i, hi, e⟩ := least_at f g h0 hs n
    have e2 := hs (n + 1)
    by_cases c : g (n + 1) ≤ f (n + 1)
    · exact ⟨i, by omega, by omega⟩
    · exact ⟨n + 1, by omega, by omega⟩

theorem most_ge (f : Nat → Int) (g : Nat → Int) (hs : ∀ n, g (n + 1) = max (g n) (f n)) : ∀ n i, i < n → f i ≤ g n
  | 0, i, h => absurd h (Nat.not_lt_zero _)
  | n + 1, i, h => by
    have e := hs n
    by_cases hi : i = n
    · subst hi; omega
    · have := most_ge f g hs n i (by omega); omega

theorem most_at (f : Nat → Int) (g : Nat → Int) (h0 : g 0 = f 0) (hs : ∀ n, g (n + 1) = max (g n) (f n)) : ∀ n, ∃ i, i < n + 1 ∧ f i = g (n + 1)
  | 0 => ⟨0, by omega, by rw [hs, h0]; omega⟩
  | n + 1 => by
    obtain ⟨i, hi, e⟩ := most_at f g h0 hs n
    have e2 := hs (n + 1)
    by_cases c : f (n + 1) ≤ g (n + 1)
    · exact ⟨i, by omega, by omega⟩
    · exact ⟨n + 1, by omega, by omega⟩

/-- two rows of numbers that are the same but for their places and a distance have their least and their most at that distance -/
theorem least_same {f f' g g' : Nat → Int} {n : Nat} {d : Int} (hn : 0 < n) (h0 : g 0 = f 0) (hs : ∀ n, g (n + 1) = min (g n) (f n)) (h0' : g' 0 = f' 0) (hs' : ∀ n, g' (n + 1) = min (g' n) (f' n))
    (h1 : ∀ i, i < n → ∃ j, j < n ∧ f' i = f j + d) (h2 : ∀ i, i < n → ∃ j, j < n ∧ f i + d = f' j) : g' n = g n + d := by
  obtain ⟨m, rfl⟩ : ∃ m, n = m + 1 := ⟨n - 1, by omega⟩
  obtain ⟨i, hi, e⟩ := least_at f g h0 hs m
  obtain ⟨i', hi', e'⟩ := least_at f' g' h0' hs' m
  obtain ⟨j, hj, k⟩ := h2 i hi
  obtain ⟨j', hj', k'⟩ := h1 i' hi'
  have a := least_le f g hs (m + 1) j' hj'
  have b := least_le f' g' hs' (m + 1) j hj
  omega

theorem most_same {f f' g g' : Nat → Int} {n : Nat} {d : Int} (hn : 0 < n) (h0 : g 0 = f 0) (hs : ∀ n, g (n + 1) = max (g n) (f n)) (h0' : g' 0 = f' 0) (hs' : ∀ n, g' (n + 1) = max (g' n) (f' n))
    (h1 : ∀ i, i < n → ∃ j, j < n ∧ f' i = f j + d) (h2 : ∀ i, i < n → ∃ j, j < n ∧ f i + d = f' j) : g' n = g n + d := by
  obtain ⟨m, rfl⟩ : ∃ m, n = m + 1 := ⟨n - 1, by omega⟩
  obtain ⟨i, hi, e⟩ := most_at f g h0 hs m
  obtain ⟨i', hi', e'⟩ := most_at f' g' h0' hs' m
  obtain ⟨j, hj, k⟩ := h2 i hi
  obtain ⟨j', hj', k'⟩ := h1 i' hi'
  have a := most_ge f g hs (m + 1) j' hj'
  have b := most_ge f' g' hs' (m + 1) j hj
  omega

theorem rev_x {ps : List (Int × Int)} {i : Nat} (h : i < ps.length) : px ps.reverse i = px ps (ps.length - 1 - i) := by
  simp [px, List.getElem?_reverse h]
theorem rev_y {ps : List (Int × Int)} {i : Nat} (h : i < ps.length) : py ps.reverse i = py ps (ps.length - 1 - i) := by
  simp [py, List.getElem?_reverse h]

theorem box_reverse {ps : List (Int × Int)} (h : 0 < ps.length) : loX ps.reverse ps.length = loX ps ps.length ∧ loY ps.reverse ps.length = loY ps ps.length ∧ hiX ps.reverse ps.length = hiX ps ps.length ∧ hiY ps.reverse ps.length = hiY ps ps.length := by
  have x1 : ∀ i, i < ps.length → ∃ j, j < ps.length ∧ px ps.reverse i = px ps j + 0 := fun i hi => ⟨ps.length - 1 - i, by omega, by rw [rev_x hi]; omega⟩
  have x2 : ∀ i, i < ps.length → ∃ j, j < ps.length ∧ px ps i + 0 = px ps.reverse j := fun i hi => ⟨ps.length - 1 - i, by omega, by rw [rev_x (by omega), show ps.length - 1 - (ps.length - 1 - i) = i from by omega]; omega⟩
  have y1 : ∀ i, i < ps.length → ∃ j, j < ps.length ∧ py ps.reverse i = py ps j + 0 := fun i hi => ⟨ps.length - 1 - i, by omega, by rw [rev_y hi]; omega⟩
  have y2 : ∀ i, i < ps.length → ∃ j, j < ps.length ∧ py ps i + 0 = py ps.reverse j := fun i hi => ⟨ps.length - 1 - i, by omega, by rw [rev_y (by omega), show ps.length - 1 - (ps.length - 1 - i) = i from by omega]; omega⟩
  have a1 := least_same h (f := px ps) (f' := px ps.reverse) (g := loX ps) (g' := loX ps.reverse) rfl (fun _ => rfl) rfl (fun _ => rfl) x1 x2
  have a2 := least_same h (f := py ps) (f' := py ps.reverse) (g := loY ps) (g' := loY ps.reverse) rfl (fun _ => rfl) rfl (fun _ => rfl) y1 y2
  have a3 := most_same h (f := px ps) (f' := px ps.reverse) (g := hiX ps) (g' := hiX ps.reverse) rfl (fun _ => rfl) rfl (fun _ => rfl) x1 x2
  have a4 := most_same h (f := py ps) (f' := py ps.reverse) (g := hiY ps) (g' := hiY ps.reverse) rfl (fun _ => rfl) rfl (fun _ => rfl) y1 y2
  exact ⟨by omega, by omega, by omega, by omega⟩

theorem term_reverse {ps : List (Int × Int)} {i : Nat} (h : i + 1 < ps.length) : term ps.reverse i = - term ps (ps.length - 2 - i) := by
  have e1 : nxt ps.length i = i + 1 := by simp [nxt, h]
  have e2 : nxt ps.length (ps.length - 2 - i) = ps.length - 1 - i := by unfold nxt; split <;> omega
  simp only [term, List.length_reverse]
  rw [e1, e2, rev_x (by omega), rev_y (by omega), rev_x (by omega), rev_y (by omega), show ps.length - 1 - (i + 1) = ps.length - 2 - i from by omega]
  rw [Int.neg_sub, Int.mul_comm (px ps (ps.length - 1 - i)), Int.mul_comm (px ps (ps.length - 2 - i))]

theorem area_rev_to (ps : List (Int × Int)) : ∀ m, m + 1 ≤ ps.length → areaTo ps.reverse m = areaTo ps (ps.length - 1 - m) - areaTo ps (ps.length - 1)
  | 0, _ => by simp [areaTo]
  | m + 1, h => by
    have ih := area_rev_to ps m (by omega)
    have t := term_reverse (ps := ps) (i := m) (by omega)
    have e : areaTo ps (ps.length - 1 - m) = areaTo ps (ps.length - 2 - m) + term ps (ps.length - 2 - m) := by
      rw [show ps.length - 1 - m = (ps.length - 2 - m) + 1 from by omega]; rfl
    simp only [areaTo]
    rw [ih, t, e, show ps.length - 1 - (m + 1) = ps.length - 2 - m from by omega]
    omega

theorem areaTo_reverse {ps : List (Int × Int)} (h : 0 < ps.length) : areaTo ps.reverse ps.length = - areaTo ps ps.length := by
  obtain ⟨m, hm⟩ : ∃ m, ps.length = m + 1 := ⟨ps.length - 1, by omega⟩
  have a := area_rev_to ps m (by omega)
  have e1 : nxt ps.length m = 0 := by simp [nxt, hm]
  have t : term ps.reverse m = - term ps m := by
    simp only [term, List.length_reverse]
    rw [e1, rev_x (by omega), rev_y (by omega), rev_x (by omega), rev_y (by omega), show ps.length - 1 - m = 0 from by omega, show ps.length - 1 - 0 = m from by omega]
    rw [Int.neg_sub]
  rw [hm]
  simp only [areaTo]
  rw [a, t, show ps.length - 1 - m = 0 from by omega, show ps.length - 1 = m from by omega]
  simp only [areaTo]
  omega

theorem ok_reverse {k : Int} {ps : List (Int × Int)} (h : shapeOk k ps = true) : shapeOk k ps.reverse = true := by
  have hp := ok_pos' h
  obtain ⟨h1, h2, h3⟩ := shapeOk_parts h
  have g : ptsGood ps.reverse = true := by
    refine ptsGood_of fun j hj => ?_
    rw [List.length_reverse] at hj
    have a := ptsGood_at h3 (j := ps.length - 1 - j) (by omega)
    unfold ptGood at a ⊢
    simp only [Bool.and_eq_true] at a ⊢
    rw [rev_x hj, rev_y hj]
    refine ⟨a.1, ?_⟩
    by_cases h0 : 0 < j
    · have b := ptsGood_at h3 (j := ps.length - j) (by omega)
      unfold ptGood at b
      simp only [Bool.and_eq_true] at b
      have c := b.2
      rw [rev_x (by omega), rev_y (by omega), show ps.length - 1 - (j - 1) = ps.length - j from by omega]
      rw [show ps.length - j - 1 = ps.length - 1 - j from by omega] at c
      have z : decide (0 < ps.length - j) = true := by simp; omega
      rw [z] at c
      simp only [Bool.true_and, ptEq, Bool.not_eq_true', decide_eq_false_iff_not] at c
      simp only [h0, decide_true, Bool.true_and, ptEq, Bool.not_eq_true', decide_eq_false_iff_not]
      exact fun e => c e.symm
    · simp [h0]
  have kh : kindHolds k ps.reverse = true := by
    unfold kindHolds at h2 ⊢
    rw [List.length_reverse, rev_x hp, rev_y hp, rev_x (by omega), rev_y (by omega), show ps.length - 1 - 0 = ps.length - 1 from by omega, show ps.length - 1 - (ps.length - 1) = 0 from by omega]
    have c : ptEq (px ps (ps.length - 1), py ps (ps.length - 1)) (px ps 0, py ps 0) = ptEq (px ps 0, py ps 0) (px ps (ps.length - 1), py ps (ps.length - 1)) := by
      unfold ptEq
      exact decide_eq_decide.2 ⟨Eq.symm, Eq.symm⟩
    rw [c]
    exact h2
  unfold shapeOk
  simp [h1, g, kh]

theorem area_reverse {k : Int} {ps : List (Int × Int)} (h : shapeOk k ps = true) : shapeArea k ps.reverse = - shapeArea k ps := by
  have h' := ok_reverse h
  have hp := ok_pos' h
  unfold shapeArea
  rw [h, h', List.length_reverse, areaTo_reverse hp]
  split <;> simp

theorem boxes_reverse {k : Int} {ps : List (Int × Int)} (h : shapeOk k ps = true) : boxLX k ps.reverse = boxLX k ps ∧ boxLY k ps.reverse = boxLY k ps ∧ boxHX k ps.reverse = boxHX k ps ∧ boxHY k ps.reverse = boxHY k ps := by
  have h' := ok_reverse h
  obtain ⟨a, b, c, d⟩ := box_reverse (ok_pos' h)
  unfold boxLX boxLY boxHX boxHY
  simp only [h, h', if_true, List.length_reverse]
  exact ⟨a, b, c, d⟩

theorem area_few (k : Int) (ps : List (Int × Int)) : -12000000 ≤ shapeArea k ps ∧ shapeArea k ps ≤ 12000000 := by
  unfold shapeArea
  split
  · rename_i h
    obtain ⟨h1, _, h3⟩ := shapeOk_parts h.1
    have := areaTo_bd h3 _ (Nat.le_refl _)
    omega
  · omega

theorem back_twice {k : Int} {ps : List (Int × Int)} (h : shapeOk k ps = true) : backK k ps.reverse = k ∧ backP k ps.reverse = ps := by
  unfold backK backP
  simp [ok_reverse h]

/- a shape moved -/
theorem area_moved_to (ps : List (Int × Int)) (dx dy : Int) : ∀ m, m < ps.length → areaTo (moved ps dx dy) m = areaTo ps m + (px ps 0 * dy - px ps m * dy) + (dx * py ps m - dx * py ps 0)
  | 0, _ => by simp [areaTo]
  | m + 1, h => by
    have ih := area_moved_to ps dx dy m (by omega)
    have e1 : nxt ps.length m = m + 1 := by simp [nxt, h]
    simp only [areaTo, term, moved_len]
    rw [ih, e1, moved_x (i := m) (by omega), moved_y (i := m) (by omega), moved_x (i := m + 1) h, moved_y (i := m + 1) h]
    simp only [Int.add_mul, Int.mul_add]
    rw [Int.mul_comm dx dy]
    omega

theorem areaTo_moved {ps : List (Int × Int)} (dx dy : Int) (h : 0 < ps.length) : areaTo (moved ps dx dy) ps.length = areaTo ps ps.length := by
  obtain ⟨m, hm⟩ : ∃ m, ps.length = m + 1 := ⟨ps.length - 1, by omega⟩
  have a := area_moved_to ps dx dy m (by omega)
  have e1 : nxt ps.length m = 0 := by simp [nxt, hm]
  rw [hm]
  simp only [areaTo, term, moved_len]
  rw [a, e1, moved_x (i := m) (by omega), moved_y (i := m) (by omega), moved_x (i := 0) h, moved_y (i := 0) h]
  simp only [Int.add_mul, Int.mul_add]
  rw [Int.mul_comm dx dy]
  omega

theorem area_moved {k : Int} {ps : List (Int × Int)} {dx dy : Int} (h : shapeOk k ps = true) (h' : shapeOk k (moved ps dx dy) = true) : shapeArea k (moved ps dx dy) = shapeArea k ps := by
  unfold shapeArea
  rw [h, h', moved_len, areaTo_moved _ _ (ok_pos' h)]

theorem boxes_moved {k : Int} {ps : List (Int × Int)} {dx dy : Int} (h : shapeOk k ps = true) (h' : shapeOk k (moved ps dx dy) = true) : boxLX k (moved ps dx dy) = boxLX k ps + dx ∧ boxLY k (moved ps dx dy) = boxLY k ps + dy ∧ boxHX k (moved ps dx dy) = boxHX k ps + dx ∧ boxHY k (moved ps dx dy) = boxHY k ps + dy := by
  have hp := ok_pos' h
  have x1 : ∀ i, i < ps.length → ∃ j, j < ps.length ∧ px (moved ps dx dy) i = px ps j + dx := fun i hi => ⟨i, hi, moved_x hi⟩
  have x2 : ∀ i, i < ps.length → ∃ j, j < ps.length ∧ px ps i + dx = px (moved ps dx dy) j := fun i hi => ⟨i, hi, (moved_x hi).symm⟩
  have y1 : ∀ i, i < ps.length → ∃ j, j < ps.length ∧ py (moved ps dx dy) i = py ps j + dy := fun i hi => ⟨i, hi, moved_y hi⟩
  have y2 : ∀ i, i < ps.length → ∃ j, j < ps.length ∧ py ps i + dy = py (moved ps dx dy) j := fun i hi => ⟨i, hi, (moved_y hi).symm⟩
  have a1 := least_same hp (f := px ps) (f' := px (moved ps dx dy)) (g := loX ps) (g' := loX (moved ps dx dy)) rfl (fun _ => rfl) rfl (fun _ => rfl) x1 x2
  have a2 := least_same hp (f := py ps) (f' := py (moved ps dx dy)) (g := loY ps) (g' := loY (moved ps dx dy)) rfl (fun _ => rfl) rfl (fun _ => rfl) y1 y2
  have a3 := most_same hp (f := px ps) (f' := px (moved ps dx dy)) (g := hiX ps) (g' := hiX (moved ps dx dy)) rfl (fun _ => rfl) rfl (fun _ => rfl) x1 x2
  have a4 := most_same hp (f := py ps) (f' := py (moved ps dx dy)) (g := hiY ps) (g' := hiY (moved ps dx dy)) rfl (fun _ => rfl) rfl (fun _ => rfl) y1 y2
  unfold boxLX boxLY boxHX boxHY
  simp only [h, h', if_true, moved_len]
  exact ⟨a1, a2, a3, a4⟩

theorem moved_back (ps : List (Int × Int)) (dx dy : Int) : moved (moved ps dx dy) (-dx) (-dy) = ps := by
  unfold moved
  rw [List.map_map]
  refine (List.map_congr_left (g := id) fun p _ => ?_).trans (List.map_id _)
  simp only [Function.comp, id]
  exact Prod.ext (by simp only []; omega) (by simp only []; omega)

end Go.Proofs.Ytdfadpejddhbkaa
