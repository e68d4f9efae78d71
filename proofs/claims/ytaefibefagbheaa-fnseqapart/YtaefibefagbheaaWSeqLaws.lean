/- Proved here: plain facts on what is made of three rows: whichever hand is first, what one alone turned, what both turned alike, what is kept, a point more at an end, and points put in at two ends; no condition. -/
import Derived.Test.YtaefibefagbheaaWSeqMid
namespace Go.Proofs.Ytaefibefagbheaa
set_option linter.unusedVariables false
open Go.ChangeShapes Go.WideShapes Go.ChangeAt Go.RowKit

theorem longOf_comm (a b : List (Int × Int)) : longOf a b = longOf b a := by
  have e : fewB [a.length, b.length] = fewB [b.length, a.length] := by simp [fewB, Bool.and_comm]
  unfold longOf
  rw [e, lcs_comm]

theorem pick_left (o b : List (Int × Int)) : pick o o b = some b := if_pos rfl
theorem pick_alike (o a : List (Int × Int)) : pick o a a = some a := by
  unfold pick
  by_cases h : a = o
  · rw [if_pos h]
  · rw [if_neg h, if_neg h, if_pos rfl]

theorem pick_cases {o a b r : List (Int × Int)} (h : pick o a b = some r) : (a = o ∧ r = b) ∨ r = a := by
  unfold pick at h
  split at h
  · next e => cases h; exact .inl ⟨e, rfl⟩
  · split at h
    · cases h; exact .inr rfl
    · split at h
      · cases h; exact .inr rfl
      · cases h

/-- a row from a place on: a piece, a point, and the rest -/
theorem cut_at (l : List (Int × Int)) (i j : Nat) (h : i ≤ j) (hj : j < l.length) : cut l i j ++ l.getD j (0, 0) :: l.drop (j + 1) = l.drop i := by
  rw [← cut_drop l i j h, List.drop_eq_getElem_cons hj]
  congr 2
  simp [hj]

theorem getD_of {a b : List (Int × Int)} {i j : Nat} (h : a[i]? = b[j]?) : a.getD i (0, 0) = b.getD j (0, 0) := by
  rw [List.getD_eq_getElem?_getD, List.getD_eq_getElem?_getD, h]

theorem mrg_left {base b : List (Int × Int)} : ∀ {ts : List (Nat × Nat × Nat)} {o y : Nat}, Chain base base b (o, o, y) ts → (∀ t ∈ ts, t.2.1 = t.1) → mrg base base b o o y ts = some (b.drop y)
  | [], o, y, _, _ => pick_left _ _
  | t :: r, o, y, hc, h => by
    obtain ⟨⟨l1, l2, l3⟩, ⟨m1, m2, m3, m4, m5⟩, hr⟩ := hc
    have e := h t List.mem_cons_self
    unfold nx at hr
    rw [e] at hr
    have ih := mrg_left hr fun u hu => h u (List.mem_cons_of_mem _ hu)
    simp only [mrg]
    rw [e, pick_left]
    simp only
    rw [ih, Option.map_some, getD_of m5, cut_at b y t.2.2 l3 m3]

theorem mrg_alike {base a : List (Int × Int)} : ∀ {ts : List (Nat × Nat × Nat)} {o x : Nat}, Chain base a a (o, x, x) ts → (∀ t ∈ ts, t.2.2 = t.2.1) → mrg base a a o x x ts = some (a.drop x)
  | [], o, x, _, _ => pick_alike _ _
  | t :: r, o, x, hc, h => by
    obtain ⟨⟨l1, l2, l3⟩, ⟨m1, m2, m3, m4, m5⟩, hr⟩ := hc
    have e := h t List.mem_cons_self
    unfold nx at hr
    rw [e] at hr
    have ih := mrg_alike hr fun u hu => h u (List.mem_cons_of_mem _ hu)
    simp only [mrg]
    rw [e, pick_alike]
    simp only
    rw [ih, Option.map_some, getD_of m4, cut_at a x t.2.1 l2 m2]

theorem lookup_of {ps : List (Nat × Nat)} (h : ps.Pairwise Up2) {p : Nat × Nat} (hp : p ∈ ps) : ps.lookup p.1 = some p.2 := by
  induction ps with
  | nil => cases hp
  | cons q r ih =>
    rw [List.pairwise_cons] at h
    obtain ⟨q1, q2⟩ := q
    rcases List.mem_cons.1 hp with rfl | hp'
    · simp [List.lookup]
    · have := (h.1 p hp').1
      simp only at this
      have e : (p.1 == q1) = false := beq_false_of_ne (by omega)
      simp only [List.lookup, e]
      exact ih h.2 hp'

theorem stays_iff {pa pb : List (Nat × Nat)} (ha : pa.Pairwise Up2) (hb : pb.Pairwise Up2) (t : Nat × Nat × Nat) : t ∈ stays pa pb ↔ (t.1, t.2.1) ∈ pa ∧ (t.1, t.2.2) ∈ pb := by
  constructor
  · intro ht
    obtain ⟨p, hp, hu⟩ := List.mem_filterMap.1 ht
    cases hl : pb.lookup p.1 with
    | none => rw [hl] at hu; cases hu
    | some q =>
      rw [hl] at hu
      cases hu
      exact ⟨hp, mem_of_lookup hl⟩
  · rintro ⟨h1, h2⟩
    exact stays_mem (lookup_of ha h1) (lookup_of hb h2)

theorem up3_ext : ∀ {l l' : List (Nat × Nat × Nat)}, l.Pairwise Up3 → l'.Pairwise Up3 → (∀ t, t ∈ l ↔ t ∈ l') → l = l'
  | [], [], _, _, _ => rfl
  | [], u :: r, _, _, h => absurd ((h u).2 List.mem_cons_self) (by simp)
  | t :: l, [], _, _, h => absurd ((h t).1 List.mem_cons_self) (by simp)
  | t :: l, u :: r, h1, h2, h => by
    rw [List.pairwise_cons] at h1 h2
    have e : t = u := by
      rcases List.mem_cons.1 ((h t).1 List.mem_cons_self) with e | e
      · exact e
      · rcases List.mem_cons.1 ((h u).2 List.mem_cons_self) with e' | e'
        · exact e'.symm
        · have h3 := (h1.1 u e').1
          have h4 := (h2.1 t e).1
          omega
    subst e
    congr 1
    refine up3_ext h1.2 h2.2 fun v => ⟨fun hv => ?_, fun hv => ?_⟩
    · rcases List.mem_cons.1 ((h v).1 (List.mem_cons_of_mem _ hv)) with rfl | e
      · have := (h1.1 _ hv).1; omega
      · exact e
    · rcases List.mem_cons.1 ((h v).2 (List.mem_cons_of_mem _ hv)) with rfl | e
      · have := (h2.1 _ hv).1; omega
      · exact e

/-- the two hands in each other's place -/
def sw (t : Nat × Nat × Nat) : Nat × Nat × Nat := (t.1, t.2.2, t.2.1)

theorem stays_swap {pa pb : List (Nat × Nat)} (ha : pa.Pairwise Up2) (hb : pb.Pairwise Up2) : stays pb pa = (stays pa pb).map sw := by
  refine up3_ext (stays_up hb ha) ?_ fun t => ?_
  · rw [List.pairwise_map]
    exact (stays_up ha hb).imp fun h => ⟨h.1, h.2.2, h.2.1⟩
  · rw [stays_iff hb ha, List.mem_map]
    constructor
    · rintro ⟨h1, h2⟩
      exact ⟨sw t, (stays_iff ha hb _).2 ⟨h2, h1⟩, rfl⟩
    · rintro ⟨u, hu, rfl⟩
      obtain ⟨h1, h2⟩ := (stays_iff ha hb _).1 hu
      exact ⟨h2, h1⟩

theorem mrg_swap (base a b : List (Int × Int)) : ∀ (ts : List (Nat × Nat × Nat)) (o x y : Nat), mrg base b a o y x (ts.map sw) = mrg base a b o x y ts
  | [], o, x, y => pick_swap _ _ _
  | t :: r, o, x, y => by
    have ih := mrg_swap base a b r (t.1 + 1) (t.2.1 + 1) (t.2.2 + 1)
    simp only [List.map_cons, mrg, sw]
    rw [pick_swap, ih]

theorem merged_swap (base a b : List (Int × Int)) : merged base b a = merged base a b := by
  unfold merged
  rw [stays_swap (prs_up 0 0 base a) (prs_up 0 0 base b), mrg_swap]

theorem merged_left (o b : List (Int × Int)) : merged o o b = some b := by
  unfold merged
  rw [mrg_left (stays_chain o o b)]
  · rfl
  · intro t ht
    have h := ((stays_iff (prs_up 0 0 o o) (prs_up 0 0 o b) t).1 ht).1
    rw [prs_self] at h
    obtain ⟨j, _, e⟩ := List.mem_map.1 h
    simp only [Prod.mk.injEq] at e
    omega

theorem merged_right (o a : List (Int × Int)) : merged o a o = some a := by rw [merged_swap, merged_left]

theorem merged_alike (o a : List (Int × Int)) : merged o a a = some a := by
  unfold merged
  rw [mrg_alike (stays_chain o a a)]
  · rfl
  · intro t ht
    obtain ⟨h1, h2⟩ := (stays_iff (prs_up 0 0 o a) (prs_up 0 0 o a) t).1 ht
    have e1 := lookup_of (prs_up 0 0 o a) h1
    have e2 := lookup_of (prs_up 0 0 o a) h2
    simp only at e1 e2
    rw [e1] at e2
    exact (Option.some.inj e2).symm

theorem few3 (o a b : List (Int × Int)) : fewB [o.length, b.length, a.length] = fewB [o.length, a.length, b.length] := by
  unfold fewB
  simp only [List.all_cons, List.all_nil, Bool.and_true]
  rw [Bool.and_comm (decide (b.length ≤ 12))]

theorem mergedOf_swap (o a b : List (Int × Int)) : mergedOf o b a = mergedOf o a b := by
  unfold mergedOf
  rw [few3, merged_swap]

theorem few3_one {o a b : List (Int × Int)} (h : fewB [o.length, a.length, b.length] = true) : o.length ≤ 12 ∧ a.length ≤ 12 ∧ b.length ≤ 12 := by simpa [fewB] using h
theorem few3_mk {o a b : List (Int × Int)} (h1 : o.length ≤ 12) (h2 : a.length ≤ 12) (h3 : b.length ≤ 12) : fewB [o.length, a.length, b.length] = true := by simpa [fewB] using ⟨h1, h2, h3⟩

theorem mergedOf_left {o b : List (Int × Int)} (h1 : o.length ≤ 12) (h3 : b.length ≤ 12) : mergedOf o o b = some b := by rw [mergedOf_few (few3_mk h1 h1 h3), merged_left]
theorem mergedOf_right {o a : List (Int × Int)} (h1 : o.length ≤ 12) (h3 : a.length ≤ 12) : mergedOf o a o = some a := by rw [mergedOf_few (few3_mk h1 h3 h1), merged_right]
theorem mergedOf_alike {o a : List (Int × Int)} (h1 : o.length ≤ 12) (h3 : a.length ≤ 12) : mergedOf o a a = some a := by rw [mergedOf_few (few3_mk h1 h3 h3), merged_alike]

theorem mem_cut {l : List (Int × Int)} {i j : Nat} {p : Int × Int} (h : p ∈ cut l i j) : p ∈ l := List.mem_of_mem_take (List.mem_of_mem_drop h)
theorem mem_getD {l : List (Int × Int)} {i : Nat} (h : i < l.length) : l.getD i (0, 0) ∈ l := by
  rw [List.getD_eq_getElem?_getD, List.getElem?_eq_getElem h]
  exact List.getElem_mem h

theorem cut_lenJ {l : List (Int × Int)} {i j : Nat} (hj : j ≤ l.length) : (cut l i j).length = j - i := by
  unfold cut
  rw [List.length_drop, List.length_take]
  omega

/-- what is made keeps what came -/
theorem mrg_keep {base a b : List (Int × Int)} : ∀ {ts : List (Nat × Nat × Nat)} {o x y : Nat} {r : List (Int × Int)}, Chain base a b (o, x, y) ts → mrg base a b o x y ts = some r → x ≤ a.length → y ≤ b.length →
    (∀ p ∈ r, p ∈ a ∨ p ∈ b) ∧ (∀ p ∈ a.drop x, p ∉ base → p ∈ r) ∧ r.length ≤ (a.length - x) + (b.length - y)
  | [], o, x, y, r, _, h, _, _ => by
    simp only [mrg] at h
    rcases pick_cases h with ⟨e, rfl⟩ | rfl
    · refine ⟨fun p hp => .inr (List.mem_of_mem_drop hp), fun p hp hn => absurd ?_ hn, by rw [List.length_drop]; omega⟩
      rw [e] at hp
      exact List.mem_of_mem_drop hp
    · exact ⟨fun p hp => .inl (List.mem_of_mem_drop hp), fun p hp _ => hp, by rw [List.length_drop]; omega⟩
  | t :: ts, o, x, y, r, hc, h, hx, hy => by
    obtain ⟨⟨l1, l2, l3⟩, ⟨m1, m2, m3, m4, m5⟩, hr⟩ := hc
    simp only at l1 l2 l3
    simp only [mrg] at h
    cases hp : pick (cut base o t.1) (cut a x t.2.1) (cut b y t.2.2) with
    | none => rw [hp] at h; cases h
    | some q =>
      rw [hp] at h
      simp only at h
      cases hm : mrg base a b (t.1 + 1) (t.2.1 + 1) (t.2.2 + 1) ts with
      | none => rw [hm] at h; cases h
      | some s =>
        rw [hm, Option.map_some] at h
        cases h
        obtain ⟨i1, i2, i3⟩ := mrg_keep hr hm m2 m3
        have ea : base.getD t.1 (0, 0) ∈ a := by rw [getD_of m4]; exact mem_getD m2
        have ka : (cut a x t.2.1).length = t.2.1 - x := cut_lenJ (by omega)
        have kb : (cut b y t.2.2).length = t.2.2 - y := cut_lenJ (by omega)
        have hq : (∀ p ∈ q, p ∈ a ∨ p ∈ b) ∧ (∀ p ∈ cut a x t.2.1, p ∉ base → p ∈ q) ∧ q.length ≤ (t.2.1 - x) + (t.2.2 - y) := by
          rcases pick_cases hp with ⟨e, rfl⟩ | rfl
          · refine ⟨fun p hp => .inr (mem_cut hp), fun p hp hn => absurd ?_ hn, by omega⟩
            rw [e] at hp
            exact mem_cut hp
          · exact ⟨fun p hp => .inl (mem_cut hp), fun p hp _ => hp, by omega⟩
        obtain ⟨q1, q2, q3⟩ := hq
        refine ⟨fun p hp => ?_, fun p hp hn => ?_, ?_⟩
        · rw [List.mem_append, List.mem_cons] at hp
          rcases hp with hp | rfl | hp
          · exact q1 p hp
          · exact .inl ea
          · exact i1 p hp
        · rw [← cut_at a x t.2.1 l2 m2, List.mem_append, List.mem_cons] at hp
          rw [List.mem_append, List.mem_cons]
          rcases hp with hp | rfl | hp
          · exact .inl (q2 p hp hn)
          · exact absurd (by rw [← getD_of m4]; exact mem_getD m1) hn
          · exact .inr (.inr (i2 p hp hn))
        · simp only [List.length_append, List.length_cons]
          omega

theorem merged_keep {base a b r : List (Int × Int)} (h : merged base a b = some r) : (∀ p ∈ r, p ∈ a ∨ p ∈ b) ∧ (∀ p ∈ a, p ∉ base → p ∈ r) ∧ (∀ p ∈ b, p ∉ base → p ∈ r) ∧ r.length ≤ a.length + b.length := by
  obtain ⟨h1, h2, h3⟩ := mrg_keep (stays_chain base a b) h (Nat.zero_le _) (Nat.zero_le _)
  have h' : merged base b a = some r := by rw [merged_swap, h]
  obtain ⟨_, k2, _⟩ := mrg_keep (stays_chain base b a) h' (Nat.zero_le _) (Nat.zero_le _)
  exact ⟨h1, h2, k2, by omega⟩

/-- a strange point behind both -/
theorem prs_snoc (i k : Nat) (p : Int × Int) (a b : List (Int × Int)) (ha : p ∉ a) (hb : p ∉ b) : prs i k (a ++ [p]) (b ++ [p]) = prs i k a b ++ [(i + a.length, k + b.length)] := by
  refine lcs_ind (P := fun a b => ∀ i k, p ∉ a → p ∉ b → prs i k (a ++ [p]) (b ++ [p]) = prs i k a b ++ [(i + a.length, k + b.length)]) ?_ a b i k ha hb
  intro a b ih i k ha hb
  cases a with
  | nil =>
    cases b with
    | nil => simp [prs_cons, prs_nil]
    | cons y ys =>
      have hy : ¬ p = y := fun e => hb (by rw [e]; exact List.mem_cons_self)
      have h := ih [] ys (by simp) i (k + 1) ha fun h => hb (List.mem_cons_of_mem _ h)
      have hl := lcs_snoc p [] ys
      simp only [List.nil_append, List.cons_append] at h hl ⊢
      rw [prs_cons, if_neg hy, hl, lcs_nil, lcs_nil, if_neg (by omega), h, prs_nil, prs_nil]
      simp; omega
  | cons x xs =>
    have hx : ¬ x = p := fun e => ha (by rw [e]; exact List.mem_cons_self)
    cases b with
    | nil =>
      have h := ih xs [] (by simp) (i + 1) k (fun h => ha (List.mem_cons_of_mem _ h)) hb
      simp only [List.nil_append, List.cons_append] at h ⊢
      rw [prs_cons, if_neg hx, lcs_nil', if_pos (Nat.zero_le _), h, prs_nil', prs_nil']
      simp; omega
    | cons y ys =>
      have hx' : p ∉ xs := fun h => ha (List.mem_cons_of_mem _ h)
      have hy' : p ∉ ys := fun h => hb (List.mem_cons_of_mem _ h)
      have h1 := ih xs ys (by simp; omega) (i + 1) (k + 1) hx' hy'
      have h2 := ih xs (y :: ys) (by simp) (i + 1) k hx' hb
      have h3 := ih (x :: xs) ys (by simp) i (k + 1) ha hy'
      have g2 := lcs_snoc p xs (y :: ys)
      have g3 := lcs_snoc p (x :: xs) ys
      simp only [List.cons_append] at h2 h3 g2 g3 ⊢
      rw [prs_cons, prs_cons]
      by_cases e : x = y
      · rw [if_pos e, if_pos e, h1]
        simp; omega
      · rw [if_neg e, if_neg e, g2, g3]
        by_cases hc : lcs (x :: xs) ys ≤ lcs xs (y :: ys)
        · rw [if_pos hc, if_pos (by omega), h2]
          simp; omega
        · rw [if_neg hc, if_neg (by omega), h3]
          simp; omega

theorem fm_congr {α β : Type} {f g : α → Option β} : ∀ {l : List α}, (∀ x ∈ l, f x = g x) → l.filterMap f = l.filterMap g
  | [], _ => rfl
  | x :: l, h => by
    have ih := fm_congr fun y hy => h y (List.mem_cons_of_mem x hy)
    rw [List.filterMap_cons, List.filterMap_cons, h x List.mem_cons_self, ih]

theorem stays_snoc {pa pb : List (Nat × Nat)} {n na nb : Nat} (ha : ∀ p ∈ pa, p.1 < n) (hb : ∀ p ∈ pb, p.1 < n) : stays (pa ++ [(n, na)]) (pb ++ [(n, nb)]) = stays pa pb ++ [(n, na, nb)] := by
  have hn : pb.lookup n = none := by
    cases h : pb.lookup n with
    | none => rfl
    | some q => have := hb _ (mem_of_lookup h); simp only at this; omega
  unfold stays
  rw [List.filterMap_append]
  congr 1
  · refine fm_congr fun p hp => ?_
    have := ha p hp
    rw [List.lookup_append]
    have e : (p.1 == n) = false := beq_false_of_ne (by omega)
    simp [List.lookup, e]
  · simp [List.lookup_append, hn, List.lookup]

theorem mrg_snoc (p : Int × Int) (base a b : List (Int × Int)) : ∀ (ts : List (Nat × Nat × Nat)) (o x y : Nat), Chain base a b (o, x, y) ts → o ≤ base.length → x ≤ a.length → y ≤ b.length →
    mrg (base ++ [p]) (a ++ [p]) (b ++ [p]) o x y (ts ++ [(base.length, a.length, b.length)]) = (mrg base a b o x y ts).map (· ++ [p])
  | [], o, x, y, _, ho, hx, hy => by
    have c : ∀ (l : List (Int × Int)) (i : Nat), cut (l ++ [p]) i l.length = l.drop i := fun l i => by unfold cut; rw [List.take_left]
    have d : ∀ (l : List (Int × Int)), (l ++ [p]).drop (l.length + 1) = [] := fun l => List.drop_eq_nil_of_le (by simp)
    have g : (base ++ [p]).getD base.length (0, 0) = p := by simp
    simp only [List.nil_append, mrg]
    rw [c, c, c, d, d, d, pick_left, g]
    cases pick (base.drop o) (a.drop x) (b.drop y) <;> rfl
  | t :: r, o, x, y, hc, ho, hx, hy => by
    obtain ⟨⟨l1, l2, l3⟩, ⟨m1, m2, m3, m4, m5⟩, hr⟩ := hc
    have ih := mrg_snoc p base a b r (t.1 + 1) (t.2.1 + 1) (t.2.2 + 1) hr m1 m2 m3
    have c : ∀ (l : List (Int × Int)) (i j : Nat), j ≤ l.length → cut (l ++ [p]) i j = cut l i j := fun l i j h => by unfold cut; rw [List.take_append_of_le_length h]
    have g : (base ++ [p]).getD t.1 (0, 0) = base.getD t.1 (0, 0) := by
      rw [List.getD_eq_getElem?_getD, List.getD_eq_getElem?_getD, List.getElem?_append_left m1]
    simp only [List.cons_append, mrg]
    rw [c _ _ _ (by omega), c _ _ _ (by omega), c _ _ _ (by omega), g, ih]
    cases pick (cut base o t.1) (cut a x t.2.1) (cut b y t.2.2) with
    | none => rfl
    | some q =>
      simp only
      cases mrg base a b (t.1 + 1) (t.2.1 + 1) (t.2.2 + 1) r <;> simp

theorem prs_lt (a b : List (Int × Int)) : ∀ p ∈ prs 0 0 a b, p.1 < a.length := fun p hp => by
  have := (prs_fit 0 0 a b p hp).2.2.1
  omega

theorem merged_snoc (p : Int × Int) (o a b : List (Int × Int)) (ho : p ∉ o) (ha : p ∉ a) (hb : p ∉ b) : merged (o ++ [p]) (a ++ [p]) (b ++ [p]) = (merged o a b).map (· ++ [p]) := by
  unfold merged
  rw [prs_snoc 0 0 p o a ho ha, prs_snoc 0 0 p o b ho hb]
  simp only [Nat.zero_add]
  rw [stays_snoc (prs_lt o a) (prs_lt o b)]
  exact mrg_snoc p o a b _ 0 0 0 (stays_chain o a b) (Nat.zero_le _) (Nat.zero_le _) (Nat.zero_le _)

/-- so many places further -/
def far2 (p : Nat × Nat) : Nat × Nat := (p.1 + 1, p.2 + 1)
def far3 (t : Nat × Nat × Nat) : Nat × Nat × Nat := (t.1 + 1, t.2.1 + 1, t.2.2 + 1)

theorem prs_far (i k : Nat) (a b : List (Int × Int)) : prs (i + 1) (k + 1) a b = (prs i k a b).map far2 := by
  refine lcs_ind (P := fun a b => ∀ i k, prs (i + 1) (k + 1) a b = (prs i k a b).map far2) ?_ a b i k
  intro a b ih i k
  cases a with
  | nil => rw [prs_nil, prs_nil]; rfl
  | cons x xs =>
    cases b with
    | nil => rw [prs_nil', prs_nil']; rfl
    | cons y ys =>
      rw [prs_cons, prs_cons]
      by_cases e : x = y
      · rw [if_pos e, if_pos e, ih xs ys (by simp; omega)]; rfl
      · rw [if_neg e, if_neg e]
        by_cases h : lcs (x :: xs) ys ≤ lcs xs (y :: ys)
        · rw [if_pos h, if_pos h, ih xs (y :: ys) (by simp)]
        · rw [if_neg h, if_neg h, ih (x :: xs) ys (by simp)]

theorem lookup_far (l : List (Nat × Nat)) (i : Nat) : (l.map far2).lookup (i + 1) = (l.lookup i).map (· + 1) := by
  induction l with
  | nil => rfl
  | cons q r ih =>
    obtain ⟨q1, q2⟩ := q
    simp only [List.map_cons, far2, List.lookup]
    by_cases e : i = q1
    · subst e; simp
    · rw [beq_false_of_ne e, beq_false_of_ne (by omega : ¬ i + 1 = q1 + 1)]
      exact ih

theorem stays_cons (pa pb : List (Nat × Nat)) : stays ((0, 0) :: pa.map far2) ((0, 0) :: pb.map far2) = (0, 0, 0) :: (stays pa pb).map far3 := by
  unfold stays
  rw [List.filterMap_cons_some (b := (0, 0, 0)) (by simp [List.lookup])]
  congr 1
  rw [List.filterMap_map, List.map_filterMap]
  refine fm_congr fun p hp => ?_
  have e : (p.1 + 1 == 0) = false := beq_false_of_ne (by omega)
  simp only [Function.comp, far2, List.lookup, e]
  have := lookup_far pb p.1
  rw [this]
  cases pb.lookup p.1 <;> rfl

theorem mrg_cons (p : Int × Int) (base a b : List (Int × Int)) : ∀ (ts : List (Nat × Nat × Nat)) (o x y : Nat), mrg (p :: base) (p :: a) (p :: b) (o + 1) (x + 1) (y + 1) (ts.map far3) = mrg base a b o x y ts
  | [], o, x, y => by simp only [List.map_nil, mrg, List.drop_succ_cons]
  | t :: r, o, x, y => by
    have ih := mrg_cons p base a b r (t.1 + 1) (t.2.1 + 1) (t.2.2 + 1)
    have c : ∀ (l : List (Int × Int)) (i j : Nat), cut (p :: l) (i + 1) (j + 1) = cut l i j := fun l i j => by unfold cut; rw [List.take_succ_cons, List.drop_succ_cons]
    have g : ∀ (l : List (Int × Int)) (i : Nat), (p :: l).getD (i + 1) (0, 0) = l.getD i (0, 0) := fun l i => by simp
    simp only [List.map_cons, mrg, far3]
    rw [c, c, c, g, ih]

theorem merged_cons (p : Int × Int) (o a b : List (Int × Int)) : merged (p :: o) (p :: a) (p :: b) = (merged o a b).map (p :: ·) := by
  have h : ∀ l : List (Int × Int), prs 0 0 (p :: o) (p :: l) = (0, 0) :: (prs 0 0 o l).map far2 := fun l => by rw [prs_cons, if_pos rfl, prs_far]
  have c : ∀ (l : List (Int × Int)), cut l 0 0 = [] := fun l => by simp [cut]
  have e := mrg_cons p o a b (stays (prs 0 0 o a) (prs 0 0 o b)) 0 0 0
  simp only [Nat.zero_add] at e
  unfold merged
  rw [h, h, stays_cons]
  simp only [mrg]
  rw [c, c, c, pick_left]
  simp only [Nat.zero_add]
  rw [e]
  cases mrg o a b 0 0 0 (stays (prs 0 0 o a) (prs 0 0 o b)) <;> simp

/-- places that go on by one -/
theorem run_up (f : Nat → Nat × Nat × Nat) (hf : ∀ j k, j < k → Up3 (f j) (f k)) (n : Nat) : ((List.range n).map f).Pairwise Up3 := by
  rw [List.pairwise_map]
  exact List.pairwise_lt_range.imp fun h => hf _ _ h

theorem stays_ends (p q : Int × Int) (o : List (Int × Int)) (hp : p ∉ o) : stays (prs 0 0 o (p :: o)) (prs 0 0 o (o ++ [q])) = (List.range o.length).map fun j => (j, j + 1, j) := by
  refine up3_ext (stays_up (prs_up _ _ _ _) (prs_up _ _ _ _)) (run_up _ (fun j k h => ⟨h, Nat.succ_lt_succ h, h⟩) _) fun t => ?_
  rw [stays_iff (prs_up _ _ _ _) (prs_up _ _ _ _), prs_ahead 0 0 p o hp, prs_begin 0 0 o [q]]
  obtain ⟨t1, t2, t3⟩ := t
  simp only [List.mem_map, List.mem_range, Prod.mk.injEq, Nat.zero_add]
  constructor
  · rintro ⟨⟨j, hj, e1, e2⟩, ⟨k, hk, e3, e4⟩⟩
    exact ⟨j, hj, by omega, by omega, by omega⟩
  · rintro ⟨j, hj, e1, e2, e3⟩
    exact ⟨⟨j, hj, by omega, by omega⟩, ⟨j, hj, by omega, by omega⟩⟩

theorem stays_same (p q : Int × Int) (o : List (Int × Int)) (hp : p ∉ o) (hq : q ∉ o) : stays (prs 0 0 o (p :: o)) (prs 0 0 o (q :: o)) = (List.range o.length).map fun j => (j, j + 1, j + 1) := by
  refine up3_ext (stays_up (prs_up _ _ _ _) (prs_up _ _ _ _)) (run_up _ (fun j k h => ⟨h, Nat.succ_lt_succ h, Nat.succ_lt_succ h⟩) _) fun t => ?_
  rw [stays_iff (prs_up _ _ _ _) (prs_up _ _ _ _), prs_ahead 0 0 p o hp, prs_ahead 0 0 q o hq]
  obtain ⟨t1, t2, t3⟩ := t
  simp only [List.mem_map, List.mem_range, Prod.mk.injEq, Nat.zero_add]
  constructor
  · rintro ⟨⟨j, hj, e1, e2⟩, ⟨k, hk, e3, e4⟩⟩
    exact ⟨j, hj, by omega, by omega, by omega⟩
  · rintro ⟨j, hj, e1, e2, e3⟩
    exact ⟨⟨j, hj, by omega, by omega⟩, ⟨j, hj, by omega, by omega⟩⟩

theorem cut_none (l : List (Int × Int)) (i : Nat) : cut l i i = [] := by
  unfold cut
  exact List.drop_eq_nil_of_le (by rw [List.length_take]; omega)

theorem mrg_ends (p q : Int × Int) (o : List (Int × Int)) : ∀ (m k : Nat), k + m = o.length → mrg o (p :: o) (o ++ [q]) k (k + 1) k ((List.range' k m).map fun j => (j, j + 1, j)) = some (o.drop k ++ [q])
  | 0, k, h => by
    have h1 : o.drop k = [] := List.drop_eq_nil_of_le (by omega)
    have h2 : (o ++ [q]).drop k = [q] := by
      rw [List.drop_append_of_le_length (by omega), h1]; rfl
    simp only [List.range'_zero, List.map_nil, mrg, List.drop_succ_cons]
    rw [h1, h2, pick_left]
    rfl
  | m + 1, k, h => by
    have ih := mrg_ends p q o m (k + 1) (by omega)
    have hk : k < o.length := by omega
    simp only [List.range'_succ, List.map_cons, mrg]
    rw [cut_none, cut_none, cut_none, pick_left]
    simp only
    rw [ih, Option.map_some, List.nil_append]
    congr 1
    rw [List.drop_eq_getElem_cons hk, List.cons_append]
    congr 1
    rw [List.getD_eq_getElem?_getD, List.getElem?_eq_getElem hk]
    rfl

theorem merged_ends (p q : Int × Int) (o : List (Int × Int)) (hp : p ∉ o) (h0 : 0 < o.length) : merged o (p :: o) (o ++ [q]) = some (p :: (o ++ [q])) := by
  unfold merged
  rw [stays_ends p q o hp]
  obtain ⟨m, hm⟩ : ∃ m, o.length = m + 1 := ⟨o.length - 1, by omega⟩
  have ih := mrg_ends p q o m 1 (by omega)
  have hc : cut (p :: o) 0 1 = [p] := by simp [cut]
  rw [List.range_eq_range', hm, List.range'_succ]
  simp only [List.map_cons, mrg]
  rw [cut_none, cut_none, Nat.zero_add, hc]
  have hpk : pick [] [p] [] = some [p] := by simp [pick]
  rw [hpk]
  simp only
  rw [ih, Option.map_some]
  cases o with
  | nil => simp at h0
  | cons x xs => simp

theorem merged_clash (p q : Int × Int) (o : List (Int × Int)) (hp : p ∉ o) (hq : q ∉ o) (hne : p ≠ q) (h0 : 0 < o.length) : merged o (p :: o) (q :: o) = none := by
  unfold merged
  rw [stays_same p q o hp hq]
  obtain ⟨m, hm⟩ : ∃ m, o.length = m + 1 := ⟨o.length - 1, by omega⟩
  rw [List.range_eq_range', hm, List.range'_succ]
  simp only [List.map_cons, mrg]
  have hc : ∀ u : Int × Int, cut (u :: o) 0 (0 + 1) = [u] := fun u => by simp [cut]
  rw [cut_none, hc, hc]
  have hpk : pick [] [p] [q] = none := by simp [pick, hne]
  rw [hpk]

theorem merged_none (a b : List (Int × Int)) : merged [] a b = pick [] a b := by
  unfold merged
  rw [prs_nil, prs_nil]
  simp only [stays, List.filterMap_nil, mrg, List.drop_zero]
end Go.Proofs.Ytaefibefagbheaa
