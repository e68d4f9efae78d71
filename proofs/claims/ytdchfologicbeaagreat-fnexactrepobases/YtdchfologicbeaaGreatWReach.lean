/- Proved here: plain facts on what is ahead of a version; no condition. -/
import Derived.Test.YtdchfologicbeaaGreatWRepoOkS
namespace Go.Proofs.YtdchfologicbeaaGreat
set_option linter.unusedVariables false
open Go.ChangeShapes Go.WideShapes Go.ChangeAt Go.RowKit

/-- what is ahead of a version, or it -/
inductive Ahead (cs : List Cm) (a : Nat) : Nat → Prop
  | refl : Ahead cs a a
  | step {j u : Nat} : Ahead cs a j → (u : Int) ∈ (mg cs j).1 → Ahead cs a u

theorem Ahead.sub {cs : List Cm} {a b : Nat} {S : Nat → Prop} (ha : S a) (hc : ∀ j, S j → ∀ u : Nat, (u : Int) ∈ (mg cs j).1 → S u) (h : Ahead cs a b) : S b := by
  induction h with
  | refl => exact ha
  | step _ hu ih => exact hc _ ih _ hu

theorem mem_ix {l : List Int} {x : Int} : x ∈ l ↔ ∃ i, i < l.length ∧ ix l i = x := by
  rw [List.mem_iff_getElem]
  constructor
  · rintro ⟨i, h, e⟩
    exact ⟨i, h, by rw [ix_get h, e]⟩
  · rintro ⟨i, h, e⟩
    exact ⟨i, h, by rw [← ix_get h, e]⟩

/-- the versions ahead of the version of a place lie ahead of it -/
def UpsOk (cs : List Cm) : Prop := ∀ i, i < cs.length → UpOk (mg cs i).1 i

theorem RepoGood.ups {cs : List Cm} {hs : List Hd} (g : RepoGood cs hs) : UpsOk cs := fun i hi => (g.cms i hi).up

theorem UpsOk.mem {cs : List Cm} (g : UpsOk cs) {j : Nat} (hj : j < cs.length) {x : Int} (hx : x ∈ (mg cs j).1) : ∃ u : Nat, x = u ∧ u < j := by
  obtain ⟨i, hi, rfl⟩ := mem_ix.1 hx
  obtain ⟨h1, h2⟩ := (g j hj).1 i hi
  exact ⟨(ix (mg cs j).1 i).toNat, by omega, by omega⟩

theorem Ahead.le {cs : List Cm} (g : UpsOk cs) {a b : Nat} (ha : a < cs.length) (h : Ahead cs a b) : b ≤ a := by
  induction h with
  | refl => exact Nat.le_refl _
  | step h hu ih =>
    obtain ⟨u', e, hlt⟩ := g.mem (by omega) hu
    omega

open Classical in
noncomputable def aheadB (cs : List Cm) (a b : Nat) : Bool := decide (Ahead cs a b)
theorem aheadB_iff {cs : List Cm} {a b : Nat} : aheadB cs a b = true ↔ Ahead cs a b := by simp [aheadB]

/-- how many of the places are not marked -/
def unm (M : Nat → Bool) : Nat := ((List.range 14).filter (fun j => !M j)).length

def markIt (M : Nat → Bool) (j : Nat) : Nat → Bool := fun i => if i = j then true else M i
theorem markIt_at (M : Nat → Bool) (j : Nat) : markIt M j j = true := if_pos rfl
theorem markIt_ne {M : Nat → Bool} {j i : Nat} (h : i ≠ j) : markIt M j i = M i := if_neg h
theorem markIt_of {M : Nat → Bool} {j i : Nat} (h : M i = true) : markIt M j i = true := by
  unfold markIt
  split
  · rfl
  · exact h

theorem count_mark {M : Nat → Bool} {j : Nat} (hj : M j = false) : ∀ (l : List Nat), l.Nodup → (l.filter (fun i => !markIt M j i)).length + (if j ∈ l then 1 else 0) = (l.filter (fun i => !M i)).length
  | [], _ => by simp
  | x :: r, h => by
    obtain ⟨h1, h2⟩ := List.nodup_cons.1 h
    have ih := count_mark hj r h2
    by_cases e : x = j
    · subst e
      have h3 : (r.filter (fun i => !markIt M x i)).length = (r.filter (fun i => !M i)).length := by
        rw [if_neg h1] at ih
        simpa using ih
      simp [markIt_at, hj, h3]
    · have e' : ¬ j = x := fun h => e h.symm
      simp only [List.filter_cons, markIt_ne e, List.mem_cons, e', false_or]
      split
      · simp only [List.length_cons]
        omega
      · exact ih

theorem unm_mark {M : Nat → Bool} {j : Nat} (hj : M j = false) (hlt : j < 14) : unm (markIt M j) + 1 = unm M := by
  have := count_mark hj (List.range 14) List.nodup_range
  rwa [if_pos (List.mem_range.2 hlt)] at this

theorem unm_le (M : Nat → Bool) : unm M ≤ 14 := by
  unfold unm
  have := List.length_filter_le (fun j => !M j) (List.range 14)
  simpa using this

/-- what holds while what is ahead is walked: S was marked ahead of it, M is marked now, st is still to be walked -/
structure Walk (cs : List Cm) (at_ : Nat) (S M : Nat → Bool) (st : List Int) : Prop where
  ahd : ∀ x ∈ st, ∃ j : Nat, x = j ∧ j < cs.length ∧ Ahead cs at_ j
  old : ∀ j, S j = true → M j = true
  new : ∀ j, M j = true → S j = true ∨ Ahead cs at_ j
  cl : ∀ j, M j = true → ∀ u : Nat, (u : Int) ∈ (mg cs j).1 → M u = true ∨ (u : Int) ∈ st
  beg : M at_ = true ∨ (at_ : Int) ∈ st
  few : st.length + 3 * unm M ≤ 43

theorem Walk.start {cs : List Cm} {at_ : Nat} {S : Nat → Bool} (hc : ∀ j, S j = true → ∀ u : Nat, (u : Int) ∈ (mg cs j).1 → S u = true) (ha : at_ < cs.length) : Walk cs at_ S S [(at_ : Int)] :=
  ⟨fun x hx => ⟨at_, by simpa using hx, ha, .refl⟩, fun _ h => h, fun _ h => .inl h, fun j h u hu => .inl (hc j h u hu), .inr (by simp), by have := unm_le S; simp; omega⟩

theorem Walk.skip {cs : List Cm} {at_ : Nat} {S M : Nat → Bool} {st : List Int} {j : Nat} (h : Walk cs at_ S M (st ++ [(j : Int)])) (hm : M j = true) : Walk cs at_ S M st := by
  refine ⟨fun x hx => h.ahd x (by simp [hx]), h.old, h.new, fun i hi u hu => ?_, ?_, by have := h.few; simp at this; omega⟩
  · rcases h.cl i hi u hu with h1 | h1
    · exact .inl h1
    · rcases List.mem_append.1 h1 with h2 | h2
      · exact .inr h2
      · have h3 : (u : Int) = (j : Int) := by simpa using h2
        have : u = j := by omega
        subst this
        exact .inl hm
  · rcases h.beg with h1 | h1
    · exact .inl h1
    · rcases List.mem_append.1 h1 with h2 | h2
      · exact .inr h2
      · have h3 : (at_ : Int) = (j : Int) := by simpa using h2
        have : at_ = j := by omega
        subst this
        exact .inl hm

theorem Walk.mark {cs : List Cm} {at_ : Nat} {S M : Nat → Bool} {st : List Int} {j : Nat} (g : UpsOk cs) (hn : cs.length ≤ 14) (h : Walk cs at_ S M (st ++ [(j : Int)])) (hm : M j = false) : Walk cs at_ S (markIt M j) (st ++ (mg cs j).1) := by
  obtain ⟨j', e, hj, hA⟩ := h.ahd (j : Int) (by simp)
  obtain rfl : j = j' := by omega
  have hu2 := (g j hj).2.1
  refine ⟨fun x hx => ?_, fun i hi => markIt_of (h.old i hi), fun i hi => ?_, fun i hi u hu => ?_, ?_, ?_⟩
  · rcases List.mem_append.1 hx with h1 | h1
    · exact h.ahd x (by simp [h1])
    · obtain ⟨u, rfl, hlt⟩ := g.mem hj h1
      exact ⟨u, rfl, by omega, hA.step h1⟩
  · by_cases e2 : i = j
    · subst e2
      exact .inr hA
    · rw [markIt_ne e2] at hi
      exact h.new i hi
  · by_cases e2 : i = j
    · subst e2
      exact .inr (by simp [hu])
    · rw [markIt_ne e2] at hi
      rcases h.cl i hi u hu with h1 | h1
      · exact .inl (markIt_of h1)
      · rcases List.mem_append.1 h1 with h2 | h2
        · exact .inr (by simp [h2])
        · have h3 : (u : Int) = (j : Int) := by simpa using h2
          have : u = j := by omega
          subst this
          exact .inl (markIt_at _ _)
  · rcases h.beg with h1 | h1
    · exact .inl (markIt_of h1)
    · rcases List.mem_append.1 h1 with h2 | h2
      · exact .inr (by simp [h2])
      · have h3 : (at_ : Int) = (j : Int) := by simpa using h2
        have : at_ = j := by omega
        subst this
        exact .inl (markIt_at _ _)
  · have h1 := h.few
    have h2 := unm_mark hm (by omega)
    simp only [List.length_append, List.length_cons, List.length_nil] at h1 ⊢
    omega

theorem Walk.done {cs : List Cm} {at_ : Nat} {S M : Nat → Bool} (h : Walk cs at_ S M []) (j : Nat) : M j = (S j || aheadB cs at_ j) := by
  rw [Bool.eq_iff_iff, Bool.or_eq_true, aheadB_iff]
  constructor
  · exact h.new j
  · rintro (h1 | h1)
    · exact h.old j h1
    · refine h1.sub (S := fun i => M i = true) ?_ fun i hi u hu => ?_
      · rcases h.beg with h2 | h2
        · exact h2
        · simp at h2
      · rcases h.cl i hi u hu with h2 | h2
        · exact h2
        · simp at h2
end Go.Proofs.YtdchfologicbeaaGreat
