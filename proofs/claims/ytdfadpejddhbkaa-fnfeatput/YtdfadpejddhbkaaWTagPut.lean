/- Proved here: plain facts on a thing with a tag put: what is got of it, what is cut off it, what is put back. -/
import Derived.Test.YtdfadpejddhbkaaWTagCut
namespace Go.Proofs.Ytdfadpejddhbkaa
set_option linter.unusedVariables false
open Go.ChangeShapes Go.WideShapes Go.ChangeAt Go.RowKit

theorem putS_mem {ts : List Tg} {t : Tg} (h : Asc ts) (ht : t ∈ ts) : putS ts t = ts := by
  refine asc_ext (asc_putS t h) h fun s => ?_
  rw [mem_putS]
  constructor
  · rintro (rfl | ⟨h1, _⟩)
    · exact ht
    · exact h1
  · intro hs
    by_cases e : kl s = kl t
    · exact .inl (asc_one h hs ht e)
    · exact .inr ⟨hs, e⟩

theorem cutS_putS {ts : List Tg} {t : Tg} (h : Asc ts) : cutS (putS ts t) (kl t) = cutS ts (kl t) := by
  refine asc_ext (asc_cutS _ (asc_putS t h)) (asc_cutS _ h) fun s => ?_
  rw [mem_cutS, mem_cutS, mem_putS]
  constructor
  · rintro ⟨rfl | ⟨h1, _⟩, h2⟩
    · exact absurd rfl h2
    · exact ⟨h1, h2⟩
  · rintro ⟨h1, h2⟩
    exact ⟨.inr ⟨h1, h2⟩, h2⟩

theorem cutS_self {ts : List Tg} {key : ByteArray} (h : Asc ts) (hn : getB ts key = false) : cutS ts key.data.toList = ts := by
  refine asc_ext (asc_cutS _ h) h fun s => ?_
  rw [mem_cutS]
  refine ⟨fun q => q.1, fun hs => ⟨hs, fun e => ?_⟩⟩
  have h1 := (get_of_mem h hs).1
  rw [(kl_eq (x := s) (y := (key, key))).1 e, hn] at h1
  exact absurd h1 (by simp)

/-- what comes of a put that is taken -/
theorem put_facts {f : Fx} {key val : ByteArray} (h : fpOk f key val = true) : ∃ t : List Tg, fpAll f key val = (f.1, f.2.1, f.2.2.1, t) ∧ featOk f.1 f.2.1 f.2.2.1 t = true ∧ fgOk (f.1, f.2.1, f.2.2.1, t) key = true ∧ fgVal (f.1, f.2.1, f.2.2.1, t) key = val ∧
    (∀ j, j < f.2.2.2.length → tk f.2.2.2 j ≠ key → fgOk (f.1, f.2.1, f.2.2.1, t) (tk f.2.2.2 j) = true ∧ fgVal (f.1, f.2.1, f.2.2.1, t) (tk f.2.2.2 j) = tv f.2.2.2 j) ∧
    (fgOk f key = true → fpOk (f.1, f.2.1, f.2.2.1, t) key (fgVal f key) = true ∧ fpAll (f.1, f.2.1, f.2.2.1, t) key (fgVal f key) = f ∧ (f.2.2.2.length : Int) - 1 = ((fcAll (f.1, f.2.1, f.2.2.1, t) key).2.2.2.length : Int)) ∧
    (fgOk f key = false → fcAll (f.1, f.2.1, f.2.2.1, t) key = f) := by
  obtain ⟨id, k, ps, ts⟩ := f
  obtain ⟨e1, e2, e3, e4⟩ := fp_yes h
  have hh := fpB_iff.1 h
  have o1 : featOk id k ps ts = true := hh.1
  have o2 : featOk id k ps (putS ts (key, val)) = true := hh.2
  obtain ⟨ha, hw⟩ := tags_of_good (featOk_iff.1 o1).2.1
  have hp := asc_putS (key, val) ha
  obtain ⟨g1, g2⟩ := get_of_mem hp ((mem_putS (key, val) (key, val) ts).2 (.inl rfl))
  have hx : fgOk (id, k, ps, putS ts (key, val)) key = true := by
    show (featOk id k ps (putS ts (key, val)) && getB (putS ts (key, val)) key) = true
    rw [o2, g1]; rfl
  refine ⟨putS ts (key, val), ?_, o2, hx, ?_, fun j hj hne => ?_, fun ho => ?_, fun ho => ?_⟩
  · unfold fpAll
    rw [e1, e2, e3, e4]
  · show (if featOk id k ps (putS ts (key, val)) then getV (putS ts (key, val)) key else .empty) = val
    rw [if_pos o2, g2]
  · have hj' : j < ts.length := hj
    have hm : ts[j] ∈ putS ts (key, val) := (mem_putS _ _ _).2 (.inr ⟨List.getElem_mem hj', fun e => hne (by show tk ts j = key; rw [tk_get hj']; exact kl_eq.1 e)⟩)
    obtain ⟨q1, q2⟩ := get_of_mem hp hm
    rw [← tk_get hj'] at q1 q2
    rw [← tv_get hj'] at q2
    constructor
    · show (featOk id k ps (putS ts (key, val)) && getB (putS ts (key, val)) (tk ts j)) = true
      rw [o2, q1]; rfl
    · show (if featOk id k ps (putS ts (key, val)) then getV (putS ts (key, val)) (tk ts j) else .empty) = tv ts j
      rw [if_pos o2, q2]
  · have hb : getB ts key = true := by
      have : (featOk id k ps ts && getB ts key) = true := ho
      rw [Bool.and_eq_true] at this
      exact this.2
    obtain ⟨v, hv⟩ := get_mem_tag hb
    have hov : fgVal (id, k, ps, ts) key = v := by
      show (if featOk id k ps ts then getV ts key else .empty) = v
      rw [if_pos o1]
      exact (get_of_mem ha hv).2
    rw [hov]
    have hs : putS (putS ts (key, val)) (key, v) = ts := (putS_same (f := (key, val)) (g := (key, v)) ha rfl).trans (putS_mem ha hv)
    have b3 : fpB id k ps (putS ts (key, val)) key v = true := fpB_iff.2 ⟨o2, by rw [hs]; exact o1⟩
    obtain ⟨n1, n2, n3, n4⟩ := fp_yes b3
    refine ⟨b3, ?_, ?_⟩
    · unfold fpAll
      simp only []
      rw [n1, n2, n3, n4, hs]
    · rw [fcAll_yes hx]
      have hc := (cut_facts (x := (id, k, ps, ts)) (key := key) ho).2.2.1
      rw [fcAll_yes ho] at hc
      have hq : cutS (putS ts (key, val)) key.data.toList = cutS ts key.data.toList := cutS_putS (t := (key, val)) ha
      simp only [] at hc ⊢
      rw [hq]
      exact hc
  · rw [fcAll_yes hx]
    have hb : getB ts key = false := by
      have : (featOk id k ps ts && getB ts key) = false := ho
      rw [o1] at this
      simpa using this
    have hq : cutS (putS ts (key, val)) key.data.toList = cutS ts key.data.toList := cutS_putS (t := (key, val)) ha
    simp only []
    rw [hq, cutS_self ha hb]
theorem val_few {f : Fx} {key : ByteArray} (hf : FtFew f) (h : fgOk f key = true) : (fgVal f key).size ≤ 1048576 := by
  obtain ⟨id, k, ps, ts⟩ := f
  have h' : (featOk id k ps ts && getB ts key) = true := h
  rw [Bool.and_eq_true] at h'
  obtain ⟨ha, _⟩ := tags_of_good (featOk_iff.1 h'.1).2.1
  obtain ⟨v, hv⟩ := get_mem_tag h'.2
  have hov : fgVal (id, k, ps, ts) key = v := by
    show (if featOk id k ps ts then getV ts key else .empty) = v
    rw [if_pos h'.1]
    exact (get_of_mem ha hv).2
  rw [hov]
  obtain ⟨i, hi, e⟩ := List.getElem_of_mem hv
  have := (hf.2.2.2 i hi).2
  rw [tv_get hi, e] at this
  simp only [] at this
  omega
end Go.Proofs.Ytdfadpejddhbkaa
