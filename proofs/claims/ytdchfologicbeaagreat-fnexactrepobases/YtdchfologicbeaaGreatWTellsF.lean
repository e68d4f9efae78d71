/- Proved here: what a map of things tells in the order of its keys is one list alone, and what putting and cutting do to it; no condition. -/
import Derived.Test.YtdchfologicbeaaGreatWTells
import Derived.Sort.KeysCollected
import Derived.Maps.Views
import Derived.Sort.Walk0
namespace Go.Proofs.YtdchfologicbeaaGreat
set_option linter.unusedVariables false
open Go.ChangeShapes Go.WideShapes Go.ChangeAt Go.RowKit Go.Maps

/-- what a map by names holds: a name and a value -/
abbrev En := ByteArray × Value
def entV (t : En) : Value := t.2
/-- the map of these -/
def mapF (ts : List En) : DataW Value := ts.foldl (fun D t => D.put (keyL t.1) (.held (entV t))) (.map [])
def ek (ts : List En) (i : Nat) : ByteArray := (ts.getD i (.empty, .bool false)).1
def ev (ts : List En) (i : Nat) : Value := (ts.getD i (.empty, .bool false)).2

theorem mapF_step {ts : List En} {k : Nat} (h : k < ts.length) : mapF (ts.take (k + 1)) = (mapF (ts.take k)).put (keyL (ek ts k)) (.held (ev ts k)) := by
  have h1 : ts.take (k + 1) = ts.take k ++ [(ek ts k, ev ts k)] := by
    have h2 : (ek ts k, ev ts k) = ts[k] := by simp [ek, ev, h]
    rw [h2]
    exact List.take_succ_eq_append_getElem h
  rw [h1, mapF, List.foldl_append]
  rfl

/-- its key, as bytes -/
def klF (t : En) : List UInt8 := t.1.data.toList
/-- in the order of their keys, each once -/
def AscF (us : List En) : Prop := us.Pairwise (fun p q => klF p < klF q)

/-- the map tells these tags, in order -/
structure TellsF (D : DataW Value) (us : List En) : Prop where
  asc : AscF us
  at_ : ∀ t ∈ us, ∀ z, D.atKey (.string (klF t)) z = .held (entV t)
  has : ∀ x, Maps.has D (.string x) = true → ∃ t ∈ us, klF t = x

theorem ascF_ext : ∀ {us vs : List En}, AscF us → AscF vs → (∀ t, t ∈ us ↔ t ∈ vs) → us = vs
  | [], [], _, _, _ => rfl
  | [], v :: vs, _, _, h => absurd ((h v).2 (.head _)) (by simp)
  | u :: us, [], _, _, h => absurd ((h u).1 (.head _)) (by simp)
  | u :: us, v :: vs, hu, hv, h => by
    obtain ⟨hu1, hu2⟩ := List.pairwise_cons.1 hu
    obtain ⟨hv1, hv2⟩ := List.pairwise_cons.1 hv
    have e : u = v := by
      rcases List.mem_cons.1 ((h u).1 (.head _)) with e | h1
      · exact e
      · rcases List.mem_cons.1 ((h v).2 (.head _)) with e | h2
        · exact e.symm
        · exact absurd (List.lt_trans (hv1 u h1) (hu1 v h2)) (List.lt_irrefl _)
    subst e
    congr 1
    refine ascF_ext hu2 hv2 fun t => ⟨fun ht => ?_, fun ht => ?_⟩
    · rcases List.mem_cons.1 ((h t).1 (.tail _ ht)) with e | h1
      · subst e
        exact absurd (hu1 t ht) (List.lt_irrefl _)
      · exact h1
    · rcases List.mem_cons.1 ((h t).2 (.tail _ ht)) with e | h1
      · subst e
        exact absurd (hv1 t ht) (List.lt_irrefl _)
      · exact h1

/-- a tag put among tags, as the model puts it -/
def putF : List En → En → List En
  | [], t => [t]
  | u :: us, t => if klF t ≤ klF u then t :: (u :: us).filter (fun s => decide (klF s ≠ klF t)) else u :: putF us t

theorem mem_putF (s t : En) : ∀ us : List En, s ∈ putF us t ↔ s = t ∨ (s ∈ us ∧ klF s ≠ klF t)
  | [] => by simp [putF]
  | u :: us => by
    unfold putF
    split
    · simp only [List.mem_cons, List.mem_filter, decide_eq_true_eq]
    · rename_i h
      have hlt : klF u < klF t := Classical.byContradiction h
      rw [List.mem_cons, mem_putF s t us, List.mem_cons]
      constructor
      · rintro (rfl | rfl | ⟨h1, h2⟩)
        · exact .inr ⟨.inl rfl, fun e => List.lt_irrefl _ (e ▸ hlt)⟩
        · exact .inl rfl
        · exact .inr ⟨.inr h1, h2⟩
      · rintro (rfl | ⟨rfl | h1, h2⟩)
        · exact .inr (.inl rfl)
        · exact .inl rfl
        · exact .inr (.inr ⟨h1, h2⟩)

theorem asc_putF (t : En) : ∀ {us : List En}, AscF us → AscF (putF us t)
  | [], _ => List.pairwise_singleton _ _
  | u :: us, h => by
    obtain ⟨h1, h2⟩ := List.pairwise_cons.1 h
    unfold putF
    split
    · rename_i hle
      refine List.pairwise_cons.2 ⟨fun s hs => ?_, h.filter _⟩
      simp only [List.mem_filter, decide_eq_true_eq] at hs
      refine lt_of_le_ne ?_ hs.2
      rcases List.mem_cons.1 hs.1 with rfl | hm
      · exact hle
      · exact List.le_trans hle (List.le_of_lt (h1 s hm))
    · rename_i hle
      have hlt : klF u < klF t := Classical.byContradiction hle
      refine List.pairwise_cons.2 ⟨fun s hs => ?_, asc_putF t h2⟩
      rcases (mem_putF s t us).1 hs with rfl | ⟨hm, _⟩
      · exact hlt
      · exact h1 s hm

theorem key_neF {x : List UInt8} {t : En} (h : x ≠ klF t) : Lit.string x ≠ keyL t.1 := fun e => h (Lit.string.inj e)

theorem TellsF.put {D : DataW Value} {us : List En} (h : TellsF D us) (hD : IsMap D) (t : En) : TellsF (D.put (keyL t.1) (.held (entV t))) (putF us t) := by
  refine ⟨asc_putF t h.asc, fun s hs z => ?_, fun x hx => ?_⟩
  · rcases (mem_putF s t us).1 hs with rfl | ⟨hm, hne⟩
    · exact atKey_put_same (k := keyL s.1) hD (show WideAt.IsKeyLit (keyL s.1) from trivial) _ _
    · rw [atKey_put_other (key_neF hne)]
      exact h.at_ s hm z
  · by_cases e : x = klF t
    · exact ⟨t, (mem_putF t t us).2 (.inl rfl), e.symm⟩
    · rw [has_put_other (key_neF e)] at hx
      obtain ⟨s, hs, hk⟩ := h.has x hx
      exact ⟨s, (mem_putF s t us).2 (.inr ⟨hs, by rw [hk]; exact e⟩), hk⟩

/-- tags without a key -/
def cutF (us : List En) (x : List UInt8) : List En := us.filter (fun s => decide (klF s ≠ x))

theorem TellsF.cut {D : DataW Value} {us : List En} (h : TellsF D us) (x : List UInt8) : TellsF (D.del (.string x)) (cutF us x) := by
  refine ⟨h.asc.filter _, fun s hs z => ?_, fun y hy => ?_⟩
  · simp only [cutF, List.mem_filter, decide_eq_true_eq] at hs
    rw [atKey_del_other (fun e => hs.2 (Lit.string.inj e))]
    exact h.at_ s hs.1 z
  · by_cases e : y = x
    · subst e
      rw [has_del_same] at hy
      cases hy
    · rw [has_del_other (fun e' => e (Lit.string.inj e'))] at hy
      obtain ⟨s, hs, hk⟩ := h.has y hy
      exact ⟨s, by simp only [cutF, List.mem_filter, decide_eq_true_eq]; exact ⟨hs, by rw [hk]; exact e⟩, hk⟩

theorem tellsF_fold : ∀ (ts : List En) (D : DataW Value) (us : List En), IsMap D → TellsF D us →
    IsMap (ts.foldl (fun D t => D.put (keyL t.1) (.held (entV t))) D) ∧ TellsF (ts.foldl (fun D t => D.put (keyL t.1) (.held (entV t))) D) (ts.foldl putF us)
  | [], D, us, h1, h2 => ⟨h1, h2⟩
  | t :: r, D, us, h1, h2 => tellsF_fold r _ _ (h1.put _ _) (h2.put h1 t)

theorem tellsF_none : TellsF (.map []) [] := ⟨List.Pairwise.nil, fun t ht => by simp at ht, fun x hx => by simp [Maps.has] at hx⟩

theorem mapF_isMap (ts : List En) : IsMap (mapF ts) := (tellsF_fold ts _ _ isMap_empty tellsF_none).1
/-- what the map of tags tells -/
def toldF (ts : List En) : List En := ts.foldl putF []
theorem tellsF_mapF (ts : List En) : TellsF (mapF ts) (toldF ts) := (tellsF_fold ts _ _ isMap_empty tellsF_none).2

theorem putF_last {us : List En} {t : En} (h : ∀ u ∈ us, klF u < klF t) : putF us t = us ++ [t] := by
  induction us with
  | nil => rfl
  | cons u us ih =>
    have h1 : ¬ klF t ≤ klF u := fun h2 => h2 (h u (.head _))
    unfold putF
    rw [if_neg h1, ih fun s hs => h s (.tail _ hs)]
    rfl

theorem foldF_asc : ∀ (ts us : List En), AscF (us ++ ts) → ts.foldl putF us = us ++ ts
  | [], us, _ => by simp
  | t :: r, us, h => by
    rw [List.foldl_cons, putF_last fun u hu => (List.pairwise_append.1 h).2.2 u hu t (.head _), foldF_asc r (us ++ [t]) (by simpa using h)]
    simp

/-- tags that are in order are toldF as they are -/
theorem toldF_asc {ts : List En} (h : AscF ts) : toldF ts = ts := by simpa [toldF] using foldF_asc ts [] (by simpa using h)
/-- what is toldF is in order -/
theorem ascF_told (ts : List En) : AscF (toldF ts) := (tellsF_mapF ts).asc

theorem toldF_len (ts : List En) : (toldF ts).length ≤ ts.length := by
  have put : ∀ (t : En) (us : List En), (putF us t).length ≤ us.length + 1 := by
    intro t us
    induction us with
    | nil => simp [putF]
    | cons u us ih =>
      unfold putF
      split
      · have := List.length_filter_le (fun s => decide (klF s ≠ klF t)) (u :: us)
        rw [List.length_cons]
        omega
      · simp only [List.length_cons]
        omega
  have all : ∀ (ts us : List En), (ts.foldl putF us).length ≤ us.length + ts.length := by
    intro ts
    induction ts with
    | nil => simp
    | cons t r ih =>
      intro us
      rw [List.foldl_cons, List.length_cons]
      have := ih (putF us t)
      have := put t us
      omega
  simpa [toldF] using all ts []

theorem toldF_mem {ts : List En} {s : En} (h : s ∈ toldF ts) : s ∈ ts := by
  have all : ∀ (ts us : List En), s ∈ ts.foldl putF us → s ∈ us ∨ s ∈ ts := by
    intro ts
    induction ts with
    | nil => exact fun us h => .inl h
    | cons t r ih =>
      intro us h
      rcases ih _ h with h1 | h1
      · rcases (mem_putF s t us).1 h1 with rfl | ⟨h2, _⟩
        · exact .inr (.head _)
        · exact .inl h2
      · exact .inr (.tail _ h1)
  rcases all ts [] h with h1 | h1
  · simp at h1
  · exact h1


end Go.Proofs.YtdchfologicbeaaGreat
