/- Proved here: what a map of tags tells in the order of its keys is one list alone, and what putting and cutting do to it; no condition. -/
import Derived.Test.YtdfadpejddhbkaaWByKey
import Derived.Sort.KeysCollected
import Derived.Maps.Views
import Derived.Sort.Walk0
namespace Go.Proofs.Ytdfadpejddhbkaa
set_option linter.unusedVariables false
open Go.ChangeShapes Go.WideShapes Go.ChangeAt Go.RowKit Go.Maps

/-- a tag's key, as bytes -/
def kl (t : Tg) : List UInt8 := t.1.data.toList
/-- in the order of their keys, each once -/
def Asc (us : List Tg) : Prop := us.Pairwise (fun p q => kl p < kl q)

/-- the map tells these tags, in order -/
structure Tells (D : DataW Value) (us : List Tg) : Prop where
  asc : Asc us
  at_ : ∀ t ∈ us, ∀ z, D.atKey (.string (kl t)) z = .held (tagV t)
  has : ∀ x, Maps.has D (.string x) = true → ∃ t ∈ us, kl t = x

theorem asc_ext : ∀ {us vs : List Tg}, Asc us → Asc vs → (∀ t, t ∈ us ↔ t ∈ vs) → us = vs
  | [], [], _, _, _ => rfl
  | [], v :: vs, _, _, h => absurd ((h v).2 (.head _)) (by simp)
  | u :: us, [], _, _, h => absurd ((h u).1 (.head _)) (by simp)
  | u :: us, v :: vs, hu, hv, h => by
    obtain ⟨hu1, hu2⟩ := List.pairwise_cons.1 hu
    obtain ⟨hv1, hv2⟩ := List.pairwise_cons.1 hv
    have e : u = v := by
      rcases List.mem_cons.1 ((h u).1 (.head _)) with e | h1
      · exact e
      · rcases List.mem_cons.1 ((h v).2 (.head _)) with e | h2
        · exact e.symm
        · exact absurd (List.lt_trans (hv1 u h1) (hu1 v h2)) (List.lt_irrefl _)
    subst e
    congr 1
    refine asc_ext hu2 hv2 fun t => ⟨fun ht => ?_, fun ht => ?_⟩
    · rcases List.mem_cons.1 ((h t).1 (.tail _ ht)) with e | h1
      · subst e
        exact absurd (hu1 t ht) (List.lt_irrefl _)
      · exact h1
    · rcases List.mem_cons.1 ((h t).2 (.tail _ ht)) with e | h1
      · subst e
        exact absurd (hv1 t ht) (List.lt_irrefl _)
      · exact h1

theorem tagV_inj {s t : Tg} (h : tagV s = tagV t) : s = t := by
  simp [tagV] at h
  exact Prod.ext h.1 h.2

theorem Tells.unique {D : DataW Value} {us vs : List Tg} (hu : Tells D us) (hv : Tells D vs) : us = vs := by
  have key : ∀ {us vs : List Tg}, Tells D us → Tells D vs → ∀ t, t ∈ us → t ∈ vs := by
    intro us vs hu hv t ht
    obtain ⟨s, hs, e⟩ := hv.has (kl t) (has_true_of_atKey (hu.at_ t ht))
    have h1 := hu.at_ t ht (.nil)
    have h2 := hv.at_ s hs (.nil)
    rw [e, h1] at h2
    obtain rfl := tagV_inj (DataW.held.inj h2)
    exact hs
  exact asc_ext hu.asc hv.asc fun t => ⟨key hu hv t, key hv hu t⟩

/-- a tag put among tags, as the model puts it -/
def putS : List Tg → Tg → List Tg
  | [], t => [t]
  | u :: us, t => if kl t ≤ kl u then t :: (u :: us).filter (fun s => decide (kl s ≠ kl t)) else u :: putS us t

theorem mem_putS (s t : Tg) : ∀ us : List Tg, s ∈ putS us t ↔ s = t ∨ (s ∈ us ∧ kl s ≠ kl t)
  | [] => by simp [putS]
  | u :: us => by
    unfold putS
    split
    · simp only [List.mem_cons, List.mem_filter, decide_eq_true_eq]
    · rename_i h
      have hlt : kl u < kl t := Classical.byContradiction h
      rw [List.mem_cons, mem_putS s t us, List.mem_cons]
      constructor
      · rintro (rfl | rfl | ⟨h1, h2⟩)
        · exact .inr ⟨.inl rfl, fun e => List.lt_irrefl _ (e ▸ hlt)⟩
        · exact .inl rfl
        · exact .inr ⟨.inr h1, h2⟩
      · rintro (rfl | ⟨rfl | h1, h2⟩)
        · exact .inr (.inl rfl)
        · exact .inl rfl
        · exact .inr (.inr ⟨h1, h2⟩)

theorem lt_of_le_ne {x y : List UInt8} (h : x ≤ y) (hne : y ≠ x) : x < y := by
  refine Classical.byContradiction fun hn => hne ?_
  exact List.le_antisymm (List.not_lt.1 hn) h

theorem asc_putS (t : Tg) : ∀ {us : List Tg}, Asc us → Asc (putS us t)
  | [], _ => List.pairwise_singleton _ _
  | u :: us, h => by
    obtain ⟨h1, h2⟩ := List.pairwise_cons.1 h
    unfold putS
    split
    · rename_i hle
      refine List.pairwise_cons.2 ⟨fun s hs => ?_, h.filter _⟩
      simp only [List.mem_filter, decide_eq_true_eq] at hs
      refine lt_of_le_ne ?_ hs.2
      rcases List.mem_cons.1 hs.1 with rfl | hm
      · exact hle
      · exact List.le_trans hle (List.le_of_lt (h1 s hm))
    · rename_i hle
      have hlt : kl u < kl t := Classical.byContradiction hle
      refine List.pairwise_cons.2 ⟨fun s hs => ?_, asc_putS t h2⟩
      rcases (mem_putS s t us).1 hs with rfl | ⟨hm, _⟩
      · exact hlt
      · exact h1 s hm

theorem key_ne {x : List UInt8} {t : Tg} (h : x ≠ kl t) : Lit.string x ≠ keyL t.1 := fun e => h (Lit.string.inj e)

theorem Tells.put {D : DataW Value} {us : List Tg} (h : Tells D us) (hD : IsMap D) (t : Tg) : Tells (D.put (keyL t.1) (.held (tagV t))) (putS us t) := by
  refine ⟨asc_putS t h.asc, fun s hs z => ?_, fun x hx => ?_⟩
  · rcases (mem_putS s t us).1 hs with rfl | ⟨hm, hne⟩
    · exact atKey_put_same (k := keyL s.1) hD (show WideAt.IsKeyLit (keyL s.1) from trivial) _ _
    · rw [atKey_put_other (key_ne hne)]
      exact h.at_ s hm z
  · by_cases e : x = kl t
    · exact ⟨t, (mem_putS t t us).2 (.inl rfl), e.symm⟩
    · rw [has_put_other (key_ne e)] at hx
      obtain ⟨s, hs, hk⟩ := h.has x hx
      exact ⟨s, (mem_putS s t us).2 (.inr ⟨hs, by rw [hk]; exact e⟩), hk⟩

/-- tags without a key -/
def cutS (us : List Tg) (x : List UInt8) : List Tg := us.filter (fun s => decide (kl s ≠ x))

theorem Tells.cut {D : DataW Value} {us : List Tg} (h : Tells D us) (x : List UInt8) : Tells (D.del (.string x)) (cutS us x) := by
  refine ⟨h.asc.filter _, fun s hs z => ?_, fun y hy => ?_⟩
  · simp only [cutS, List.mem_filter, decide_eq_true_eq] at hs
    rw [atKey_del_other (fun e => hs.2 (Lit.string.inj e))]
    exact h.at_ s hs.1 z
  · by_cases e : y = x
    · subst e
      rw [has_del_same] at hy
      cases hy
    · rw [has_del_other (fun e' => e (Lit.string.inj e'))] at hy
      obtain ⟨s, hs, hk⟩ := h.has y hy
      exact ⟨s, by simp only [cutS, List.mem_filter, decide_eq_true_eq]; exact ⟨hs, by rw [hk]; exact e⟩, hk⟩

theorem tells_fold : ∀ (ts : List Tg) (D : DataW Value) (us : List Tg), IsMap D → Tells D us →
    IsMap (ts.foldl (fun D t => D.put (keyL t.1) (.held (tagV t))) D) ∧ Tells (ts.foldl (fun D t => D.put (keyL t.1) (.held (tagV t))) D) (ts.foldl putS us)
  | [], D, us, h1, h2 => ⟨h1, h2⟩
  | t :: r, D, us, h1, h2 => tells_fold r _ _ (h1.put _ _) (h2.put h1 t)

theorem tells_none : Tells (.map []) [] := ⟨List.Pairwise.nil, fun t ht => by simp at ht, fun x hx => by simp [Maps.has] at hx⟩

theorem mapOf_isMap (ts : List Tg) : IsMap (mapOf ts) := (tells_fold ts _ _ isMap_empty tells_none).1
/-- what the map of tags tells -/
def told (ts : List Tg) : List Tg := ts.foldl putS []
theorem tells_mapOf (ts : List Tg) : Tells (mapOf ts) (told ts) := (tells_fold ts _ _ isMap_empty tells_none).2

theorem putS_last {us : List Tg} {t : Tg} (h : ∀ u ∈ us, kl u < kl t) : putS us t = us ++ [t] := by
  induction us with
  | nil => rfl
  | cons u us ih =>
    have h1 : ¬ kl t ≤ kl u := fun h2 => h2 (h u (.head _))
    unfold putS
    rw [if_neg h1, ih fun s hs => h s (.tail _ hs)]
    rfl

theorem fold_asc : ∀ (ts us : List Tg), Asc (us ++ ts) → ts.foldl putS us = us ++ ts
  | [], us, _ => by simp
  | t :: r, us, h => by
    rw [List.foldl_cons, putS_last fun u hu => (List.pairwise_append.1 h).2.2 u hu t (.head _), fold_asc r (us ++ [t]) (by simpa using h)]
    simp

/-- tags that are in order are told as they are -/
theorem told_asc {ts : List Tg} (h : Asc ts) : told ts = ts := by simpa [told] using fold_asc ts [] (by simpa using h)
/-- what is told is in order -/
theorem asc_told (ts : List Tg) : Asc (told ts) := (tells_mapOf ts).asc

end Go.Proofs.Ytdfadpejddhbkaa
