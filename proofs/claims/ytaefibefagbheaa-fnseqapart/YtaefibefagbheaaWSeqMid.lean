/- Proved here: plain facts on how far the model is with three rows: what stays from a place on, and what is still to be made; no condition. -/
import Derived.Test.YtaefibefagbheaaWSeqMergeP
namespace Go.Proofs.Ytaefibefagbheaa
set_option linter.unusedVariables false
open Go.ChangeShapes Go.WideShapes Go.ChangeAt Go.RowKit

/-- what stays from a place of the third row on -/
def rst (ts : List (Nat × Nat × Nat)) (i : Nat) : List (Nat × Nat × Nat) := ts.filter fun t => decide (i ≤ t.1)

theorem rst_zero (ts : List (Nat × Nat × Nat)) : rst ts 0 = ts := by
  unfold rst
  rw [List.filter_eq_self]
  intro t _
  simp

theorem rst_skip {ts : List (Nat × Nat × Nat)} {i : Nat} (h : ∀ t ∈ ts, t.1 ≠ i) : rst ts (i + 1) = rst ts i := by
  unfold rst
  refine List.filter_congr fun t ht => ?_
  have := h t ht
  rw [decide_eq_decide]
  omega

theorem rst_take {ts : List (Nat × Nat × Nat)} (hp : ts.Pairwise Up3) {t : Nat × Nat × Nat} (h : t ∈ ts) : rst ts t.1 = t :: rst ts (t.1 + 1) := by
  induction ts with
  | nil => cases h
  | cons u r ih =>
    rw [List.pairwise_cons] at hp
    unfold rst at *
    rcases List.mem_cons.1 h with rfl | h
    · rw [List.filter_cons_of_pos (by simp), List.filter_cons_of_neg (by simp)]
      congr 1
      refine List.filter_congr fun v hv => ?_
      have := (hp.1 v hv).1
      rw [decide_eq_decide]
      omega
    · have := (hp.1 t h).1
      rw [List.filter_cons_of_neg (by simp; omega), List.filter_cons_of_neg (by simp; omega)]
      exact ih hp.2 h

theorem rst_end {base a b : List (Int × Int)} {ts : List (Nat × Nat × Nat)} (h : ∀ t ∈ ts, One3 base a b t) : rst ts base.length = [] := by
  unfold rst
  rw [List.filter_eq_nil_iff]
  intro t ht
  have := (h t ht).1
  simp; omega

theorem lookup_none_mem {ps : List (Nat × Nat)} {i : Nat} (h : ps.lookup i = none) : ∀ p ∈ ps, p.1 ≠ i := by
  induction ps with
  | nil => intro p hp; cases hp
  | cons q r ih =>
    obtain ⟨q1, q2⟩ := q
    simp only [List.lookup] at h
    by_cases e : i = q1
    · subst e; simp at h
    · rw [beq_false_of_ne e] at h
      intro p hp
      rcases List.mem_cons.1 hp with rfl | hp
      · exact fun e' => e e'.symm
      · exact ih h p hp

theorem stays_mem {pa pb : List (Nat × Nat)} {i ka kb : Nat} (h1 : pa.lookup i = some ka) (h2 : pb.lookup i = some kb) : (i, ka, kb) ∈ stays pa pb := by
  unfold stays
  rw [List.mem_filterMap]
  exact ⟨(i, ka), mem_of_lookup h1, by simp [h2]⟩

theorem stays_not {pa pb : List (Nat × Nat)} {i : Nat} (h : pa.lookup i = none ∨ pb.lookup i = none) : ∀ t ∈ stays pa pb, t.1 ≠ i := by
  intro t ht
  obtain ⟨p, hp, hu⟩ := List.mem_filterMap.1 ht
  cases hl : pb.lookup p.1 with
  | none => rw [hl] at hu; cases hu
  | some q =>
    rw [hl] at hu
    cases hu
    rintro rfl
    rcases h with h | h
    · exact lookup_none_mem h p hp rfl
    · rw [h] at hl; cases hl

/-- how far it is: from three places on there is still so much to be made -/
structure Mid (base a b : List (Int × Int)) (i o x y : Nat) (ml : List (Int × Int)) : Prop where
  chain : Chain base a b (o, x, y) (rst (stays (prs 0 0 base a) (prs 0 0 base b)) i)
  le : o ≤ base.length ∧ x ≤ a.length ∧ y ≤ b.length
  what : (mrg base a b o x y (rst (stays (prs 0 0 base a) (prs 0 0 base b)) i)).map (ml ++ ·) = merged base a b

theorem Mid.start (base a b : List (Int × Int)) : Mid base a b 0 0 0 0 [] := by
  refine ⟨?_, ⟨Nat.zero_le _, Nat.zero_le _, Nat.zero_le _⟩, ?_⟩
  · rw [rst_zero]; exact stays_chain base a b
  · rw [rst_zero]; simp [merged]

theorem Mid.skip {base a b : List (Int × Int)} {i o x y : Nat} {ml : List (Int × Int)} (h : Mid base a b i o x y ml) (hn : (prs 0 0 base a).lookup i = none ∨ (prs 0 0 base b).lookup i = none) : Mid base a b (i + 1) o x y ml := by
  have e := rst_skip (stays_not hn)
  exact ⟨by rw [e]; exact h.chain, h.le, by rw [e]; exact h.what⟩

theorem Mid.at {base a b : List (Int × Int)} {i o x y : Nat} {ml : List (Int × Int)} (h : Mid base a b i o x y ml) {ka kb : Nat} (h1 : (prs 0 0 base a).lookup i = some ka) (h2 : (prs 0 0 base b).lookup i = some kb) :
    (o ≤ i ∧ x ≤ ka ∧ y ≤ kb) ∧ (ka < a.length ∧ kb < b.length) ∧ rst (stays (prs 0 0 base a) (prs 0 0 base b)) i = (i, ka, kb) :: rst (stays (prs 0 0 base a) (prs 0 0 base b)) (i + 1) := by
  have e := rst_take (stays_up (prs_up 0 0 base a) (prs_up 0 0 base b)) (stays_mem h1 h2)
  simp only at e
  have hc := h.chain
  rw [e] at hc
  exact ⟨hc.1, ⟨hc.2.1.2.1, hc.2.1.2.2.1⟩, e⟩

theorem Mid.take {base a b : List (Int × Int)} {i o x y : Nat} {ml p : List (Int × Int)} (h : Mid base a b i o x y ml) (hi : i < base.length) {ka kb : Nat} (h1 : (prs 0 0 base a).lookup i = some ka) (h2 : (prs 0 0 base b).lookup i = some kb) (hp : pick (cut base o i) (cut a x ka) (cut b y kb) = some p) :
    Mid base a b (i + 1) (i + 1) (ka + 1) (kb + 1) (ml ++ p ++ [(px base i, py base i)]) := by
  obtain ⟨_, ⟨l1, l2⟩, e⟩ := h.at h1 h2
  have hc := h.chain
  have hw := h.what
  rw [e] at hc hw
  refine ⟨hc.2.2, ⟨hi, l1, l2⟩, ?_⟩
  rw [← hw]
  simp only [mrg, hp]
  rw [Option.map_map]
  cases mrg base a b (i + 1) (ka + 1) (kb + 1) (rst (stays (prs 0 0 base a) (prs 0 0 base b)) (i + 1)) with
  | none => rfl
  | some r => simp [← pt_of]

theorem Mid.clash {base a b : List (Int × Int)} {i o x y : Nat} {ml : List (Int × Int)} (h : Mid base a b i o x y ml) {ka kb : Nat} (h1 : (prs 0 0 base a).lookup i = some ka) (h2 : (prs 0 0 base b).lookup i = some kb) (hp : pick (cut base o i) (cut a x ka) (cut b y kb) = none) : merged base a b = none := by
  obtain ⟨_, _, e⟩ := h.at h1 h2
  have hw := h.what
  rw [e] at hw
  rw [← hw]
  simp only [mrg, hp]
  rfl

theorem Mid.last {base a b : List (Int × Int)} {o x y : Nat} {ml : List (Int × Int)} (h : Mid base a b base.length o x y ml) : merged base a b = (pick (cut base o base.length) (cut a x a.length) (cut b y b.length)).map (ml ++ ·) := by
  have hw := h.what
  rw [rst_end (stays_one base a b)] at hw
  rw [← hw, cut_all, cut_all, cut_all]
  rfl
end Go.Proofs.Ytaefibefagbheaa
