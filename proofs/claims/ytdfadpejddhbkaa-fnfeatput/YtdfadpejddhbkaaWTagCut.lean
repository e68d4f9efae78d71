/- Proved here: plain facts on a thing with a tag cut off. -/
import Derived.Test.YtdfadpejddhbkaaWTwoMath
import Derived.Test.YtdfadpejddhbkaaWFeatCutI
import Derived.Test.YtdfadpejddhbkaaWFeatGet
namespace Go.Proofs.Ytdfadpejddhbkaa
set_option linter.unusedVariables false
open Go.ChangeShapes Go.WideShapes Go.ChangeAt Go.RowKit

theorem mem_cutS {s : Tg} {ts : List Tg} {x : List UInt8} : s ∈ cutS ts x ↔ s ∈ ts ∧ kl s ≠ x := by
  unfold cutS
  rw [List.mem_filter, decide_eq_true_eq]

theorem getB_cut (ts : List Tg) (key : ByteArray) : getB (cutS ts key.data.toList) key = false := by
  unfold getB
  rw [getT_none fun j hj e => ?_]
  · rfl
  · have := (mem_cutS.1 (List.getElem_mem hj)).2
    rw [tk_get hj] at e
    exact this (by unfold kl; rw [e])

theorem get_mem_tag {ts : List Tg} {key : ByteArray} (h : getB ts key = true) : ∃ v, (key, v) ∈ ts := by
  unfold getB at h
  cases hg : getT ts key with
  | none => rw [hg] at h; simp at h
  | some v => exact ⟨v, getT_some hg⟩

theorem get_of_mem {ts : List Tg} {t : Tg} (ha : Asc ts) (ht : t ∈ ts) : getB ts t.1 = true ∧ getV ts t.1 = t.2 := by
  unfold getB getV
  cases hg : getT ts t.1 with
  | none => exact absurd rfl (getT_miss hg t ht)
  | some v =>
    have e := asc_one ha (getT_some hg) ht rfl
    exact ⟨rfl, congrArg Prod.snd e⟩

theorem putS_len_new (t : Tg) : ∀ {us : List Tg}, (∀ u ∈ us, kl u ≠ kl t) → (putS us t).length = us.length + 1
  | [], _ => rfl
  | u :: us, h => by
    unfold putS
    split
    · rw [List.length_cons, List.filter_eq_self.2 fun s hs => by simpa using h s hs]
    · rw [List.length_cons, putS_len_new t fun s hs => h s (.tail _ hs), List.length_cons]

theorem asc_cutS {ts : List Tg} (x : List UInt8) (h : Asc ts) : Asc (cutS ts x) := List.Pairwise.filter _ h

theorem putS_back {ts : List Tg} {t : Tg} (h : Asc ts) (ht : t ∈ ts) : putS (cutS ts (kl t)) t = ts := by
  refine asc_ext (asc_putS t (asc_cutS _ h)) h fun s => ?_
  rw [mem_putS, mem_cutS]
  constructor
  · rintro (rfl | ⟨⟨h1, _⟩, _⟩)
    · exact ht
    · exact h1
  · intro hs
    by_cases e : kl s = kl t
    · exact .inl (asc_one h hs ht e)
    · exact .inr ⟨⟨hs, e⟩, e⟩

/-- what a thing is without a tag that it has -/
theorem feat_cut {id : ByteArray} {k : Int} {ps : List (Int × Int)} {ts : List Tg} {key : ByteArray} (h : fgB id k ps ts key = true) :
    featOk id k ps (cutS ts key.data.toList) = true ∧ fgB id k ps (cutS ts key.data.toList) key = false ∧ (ts.length : Int) - 1 = ((cutS ts key.data.toList).length : Int) ∧ ∀ j, j < ts.length → tk ts j ≠ key → fgB id k ps (cutS ts key.data.toList) (tk ts j) = true ∧ fgV id k ps (cutS ts key.data.toList) (tk ts j) = tv ts j := by
  unfold fgB at h
  rw [Bool.and_eq_true] at h
  obtain ⟨q0, q1, q2⟩ := featOk_iff.1 h.1
  obtain ⟨ha, hw⟩ := tags_of_good q1
  obtain ⟨v, hv⟩ := get_mem_tag h.2
  have hb : putS (cutS ts key.data.toList) (key, v) = ts := putS_back ha hv
  have hl := putS_len_new (key, v) (us := cutS ts key.data.toList) fun u hu => (mem_cutS.1 hu).2
  rw [hb] at hl
  have hok : featOk id k ps (cutS ts key.data.toList) = true := featOk_iff.2 ⟨q0, good_of_tags (asc_cutS _ ha) fun t ht => hw t (mem_cutS.1 ht).1, by omega⟩
  refine ⟨hok, ?_, by omega, fun j hj hne => ?_⟩
  · unfold fgB
    rw [getB_cut, Bool.and_false]
  · have hm : ts[j] ∈ cutS ts key.data.toList := mem_cutS.2 ⟨List.getElem_mem hj, fun e => hne (by rw [tk_get hj]; exact (kl_eq (x := ts[j]) (y := (key, v))).1 e)⟩
    obtain ⟨g1, g2⟩ := get_of_mem (asc_cutS _ ha) hm
    rw [← tk_get hj] at g1 g2
    rw [← tv_get hj] at g2
    unfold fgB fgV
    rw [hok, g1, if_pos rfl]
    exact ⟨rfl, g2⟩

theorem fc_yes {id : ByteArray} {k : Int} {ps : List (Int × Int)} {ts : List Tg} {key : ByteArray} (h : fgB id k ps ts key = true) : fcI id k ps ts key = id ∧ fcK id k ps ts key = k ∧ fcP id k ps ts key = ps ∧ fcT id k ps ts key = cutS ts key.data.toList := by
  unfold fcI fcK fcP fcT
  simp [h]
theorem fc_no {id : ByteArray} {k : Int} {ps : List (Int × Int)} {ts : List Tg} {key : ByteArray} (h : fgB id k ps ts key = false) : fcI id k ps ts key = ⟨#[]⟩ ∧ fcK id k ps ts key = 0 ∧ fcP id k ps ts key = [] ∧ fcT id k ps ts key = [] := by
  unfold fcI fcK fcP fcT
  simp [h]
def fcAll (x : Fx) (key : ByteArray) : Fx := (fcI x.1 x.2.1 x.2.2.1 x.2.2.2 key, fcK x.1 x.2.1 x.2.2.1 x.2.2.2 key, fcP x.1 x.2.1 x.2.2.1 x.2.2.2 key, fcT x.1 x.2.1 x.2.2.1 x.2.2.2 key)
def fgOk (x : Fx) (key : ByteArray) : Bool := fgB x.1 x.2.1 x.2.2.1 x.2.2.2 key
def fgVal (x : Fx) (key : ByteArray) : ByteArray := fgV x.1 x.2.1 x.2.2.1 x.2.2.2 key
theorem fcAll_no {x : Fx} {key : ByteArray} (h : fgOk x key = false) : fcAll x key = (⟨#[]⟩, 0, [], []) := by
  obtain ⟨e1, e2, e3, e4⟩ := fc_no h
  unfold fcAll
  rw [e1, e2, e3, e4]
theorem fcAll_yes {x : Fx} {key : ByteArray} (h : fgOk x key = true) : fcAll x key = (x.1, x.2.1, x.2.2.1, cutS x.2.2.2 key.data.toList) := by
  obtain ⟨e1, e2, e3, e4⟩ := fc_yes h
  unfold fcAll
  rw [e1, e2, e3, e4]
theorem fc_few {x : Fx} {key : ByteArray} (h : FtFew x) : FtFew (fcAll x key) := by
  cases hb : fgOk x key
  · rw [fcAll_no hb]
    exact ⟨Nat.zero_le _, Nat.zero_le _, Nat.zero_le _, fun j hj => absurd hj (Nat.not_lt_zero _)⟩
  · rw [fcAll_yes hb]
    refine ⟨h.1, h.2.1, Nat.le_trans (List.length_filter_le _ _) h.2.2.1, fun j hj => ?_⟩
    have hm := (mem_cutS.1 (List.getElem_mem hj)).1
    obtain ⟨i, hi, e⟩ := List.getElem_of_mem hm
    have := h.2.2.2 i hi
    rw [tk_get hi, tv_get hi, e] at this
    rw [tk_get hj, tv_get hj]
    exact this
/-- what the thing is without a tag that it has -/
theorem cut_facts {x : Fx} {key : ByteArray} (h : fgOk x key = true) :
    featOk (fcAll x key).1 (fcAll x key).2.1 (fcAll x key).2.2.1 (fcAll x key).2.2.2 = true ∧ fgOk (fcAll x key) key = false ∧ (x.2.2.2.length : Int) - 1 = ((fcAll x key).2.2.2.length : Int) ∧ ∀ j, j < x.2.2.2.length → tk x.2.2.2 j ≠ key → fgOk (fcAll x key) (tk x.2.2.2 j) = true ∧ fgVal (fcAll x key) (tk x.2.2.2 j) = tv x.2.2.2 j := by
  rw [fcAll_yes h]
  exact feat_cut h
theorem featGet_at (x : Fx) (hx : FtFew x) (key : ByteArray) (hk : key.size ≤ 1048576) (a : Option Addr) (c : Nat) (b : Option Addr) (d : Nat) (u : World) (hp : PtsAt u a x.2.2.1) (ht : TagsAt u b x.2.2.2) :
    Calls Try.prog 27 #[.agg #[.string x.1, .int .i64 x.2.1, .slice a x.2.2.1.length c, .slice b x.2.2.2.length d], .string key] u fun e w' => e = .returned (.tuple #[.string (fgVal x key), .bool (fgOk x key)]) ∧ Below u.heap.size u w' :=
  implFeatGet_any x.1 x.2.1 a c x.2.2.1 b d x.2.2.2 key u hp ht hx.1 hx.2.1 hx.2.2.1 hx.2.2.2 hk
theorem featGetS_at (x : Fx) (hx : FtFew x) (key : ByteArray) (a : Option Addr) (c : Nat) (b : Option Addr) (d : Nat) (u : World) (hp : PtsAt u a x.2.2.1) (ht : TagsAt u b x.2.2.2) :
    Calls Try.prog 28 #[.agg #[.string x.1, .int .i64 x.2.1, .slice a x.2.2.1.length c, .slice b x.2.2.2.length d], .string key] u fun e w' => e = .returned (.tuple #[.string (fgVal x key), .bool (fgOk x key)]) ∧ Below u.heap.size u w' :=
  specFeatGet_any x.1 x.2.1 a c x.2.2.1 b d x.2.2.2 key u hp ht hx.1 hx.2.1 hx.2.2.1 hx.2.2.2
theorem featCut_at (x : Fx) (hx : FtFew x) (key : ByteArray) (hk : key.size ≤ 1048576) (a : Option Addr) (c : Nat) (b : Option Addr) (d : Nat) (u : World) (hp : PtsAt u a x.2.2.1) (ht : TagsAt u b x.2.2.2) :
    Calls Try.prog 25 #[.agg #[.string x.1, .int .i64 x.2.1, .slice a x.2.2.1.length c, .slice b x.2.2.2.length d], .string key] u (PutAns u (fcAll x key).1 (fcAll x key).2.1 (fcAll x key).2.2.1 (fcAll x key).2.2.2 (fgOk x key)) :=
  implFeatCut_any x.1 x.2.1 a c x.2.2.1 b d x.2.2.2 key u hp ht hx.1 hx.2.1 hx.2.2.1 hx.2.2.2 hk
theorem featCutS_at (x : Fx) (hx : FtFew x) (key : ByteArray) (a : Option Addr) (c : Nat) (b : Option Addr) (d : Nat) (u : World) (hp : PtsAt u a x.2.2.1) (ht : TagsAt u b x.2.2.2) :
    Calls Try.prog 26 #[.agg #[.string x.1, .int .i64 x.2.1, .slice a x.2.2.1.length c, .slice b x.2.2.2.length d], .string key] u (PutAns u (fcAll x key).1 (fcAll x key).2.1 (fcAll x key).2.2.1 (fcAll x key).2.2.2 (fgOk x key)) :=
  specFeatCut_any x.1 x.2.1 a c x.2.2.1 b d x.2.2.2 key u hp ht hx.1 hx.2.1 hx.2.2.1 hx.2.2.2
end Go.Proofs.Ytdfadpejddhbkaa
