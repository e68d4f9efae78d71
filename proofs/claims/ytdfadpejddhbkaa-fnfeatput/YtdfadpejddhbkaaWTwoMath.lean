/- Proved here: plain facts on tags put twice: good tags, the order of two puts. -/
import Derived.Test.YtdfadpejddhbkaaWFeatPutI
import Derived.Test.YtdfadpejddhbkaaWFeatEq
namespace Go.Proofs.Ytdfadpejddhbkaa
set_option linter.unusedVariables false
open Go.ChangeShapes Go.WideShapes Go.ChangeAt Go.RowKit

theorem kl_eq {x y : Tg} : kl x = kl y ↔ x.1 = y.1 := by
  constructor
  · intro e
    have h := bytes_beq x.1 y.1
    rw [ByteArray.toList_eq, ByteArray.toList_eq] at h
    unfold kl at e
    rw [e] at h
    simpa using h.symm
  · intro e; unfold kl; rw [e]

theorem asc_one : ∀ {fs : List Tg}, Asc fs → ∀ {a b : Tg}, a ∈ fs → b ∈ fs → kl a = kl b → a = b
  | [], _, a, b, h, _, _ => by simp at h
  | x :: xs, hx, a, b, ha, hb, e => by
    obtain ⟨h1, h2⟩ := List.pairwise_cons.1 hx
    rcases List.mem_cons.1 ha with e1 | ha'
    · rcases List.mem_cons.1 hb with e2 | hb'
      · rw [e1, e2]
      · subst e1; exact absurd (h1 b hb') (by rw [e]; exact List.lt_irrefl _)
    · rcases List.mem_cons.1 hb with e2 | hb'
      · subst e2; exact absurd (h1 a ha') (by rw [e]; exact List.lt_irrefl _)
      · exact asc_one h2 ha' hb' e

theorem putS_same {s : List Tg} {f g : Tg} (h : Asc s) (e : kl f = kl g) : putS (putS s f) g = putS s g := by
  refine asc_ext (asc_putS g (asc_putS f h)) (asc_putS g h) fun x => ?_
  rw [mem_putS, mem_putS, mem_putS, e]
  constructor
  · rintro (rfl | ⟨rfl | ⟨h1, _⟩, h2⟩)
    · exact .inl rfl
    · exact absurd e h2
    · exact .inr ⟨h1, h2⟩
  · rintro (rfl | ⟨h1, h2⟩)
    · exact .inl rfl
    · exact .inr ⟨.inr ⟨h1, h2⟩, h2⟩

theorem putS_comm {s : List Tg} {f g : Tg} (h : Asc s) (e : kl f ≠ kl g) : putS (putS s f) g = putS (putS s g) f := by
  refine asc_ext (asc_putS g (asc_putS f h)) (asc_putS f (asc_putS g h)) fun x => ?_
  rw [mem_putS, mem_putS, mem_putS, mem_putS]
  constructor
  · rintro (rfl | ⟨rfl | ⟨h1, h3⟩, h2⟩)
    · exact .inr ⟨.inl rfl, fun q => e q.symm⟩
    · exact .inl rfl
    · exact .inr ⟨.inr ⟨h1, h2⟩, h3⟩
  · rintro (rfl | ⟨rfl | ⟨h1, h3⟩, h2⟩)
    · exact .inr ⟨.inl rfl, e⟩
    · exact .inl rfl
    · exact .inr ⟨.inr ⟨h1, h2⟩, h3⟩

theorem putS_len_ge (t : Tg) : ∀ {us : List Tg}, Asc us → us.length ≤ (putS us t).length
  | [], _ => Nat.zero_le _
  | u :: us, h => by
    obtain ⟨h1, h2⟩ := List.pairwise_cons.1 h
    unfold putS
    split
    · rename_i hle
      have hf : us.filter (fun s => decide (kl s ≠ kl t)) = us := List.filter_eq_self.2 fun s hs => by
        have := List.lt_of_le_of_lt hle (h1 s hs)
        simp only [decide_eq_true_eq]
        exact fun e => absurd this (by rw [e]; exact List.lt_irrefl _)
      rw [List.length_cons, List.length_cons, List.filter_cons, hf]
      split
      · simp
      · simp
    · have := putS_len_ge t h2
      simp only [List.length_cons]
      omega

theorem kb_kl {ts : List Tg} {i : Nat} (h : i < ts.length) : kb ts i = kl ts[i] := by simp [kb, kl, tk, h]
theorem tk_get {ts : List Tg} {i : Nat} (h : i < ts.length) : tk ts i = ts[i].1 := by simp [tk, h]
theorem tv_get {ts : List Tg} {i : Nat} (h : i < ts.length) : tv ts i = ts[i].2 := by simp [tv, h]

theorem tags_of_good {ts : List Tg} (h : tagsGood ts = true) : Asc ts ∧ ∀ t ∈ ts, wordOk t.1 = true ∧ wordOk t.2 = true := by
  have step : ∀ j, j + 1 < ts.length → kb ts j < kb ts (j + 1) := fun j hj => by
    have := tagsGood_at h hj
    simp [tagGood] at this
    exact this.2
  have all : ∀ d i, i + d + 1 < ts.length → kb ts i < kb ts (i + d + 1) := by
    intro d
    induction d with
    | zero => exact fun i hi => step i hi
    | succ d ih => exact fun i hi => List.lt_trans (ih i (by omega)) (step _ hi)
  refine ⟨List.pairwise_iff_getElem.2 fun i j hi hj hij => ?_, fun t ht => ?_⟩
  · rw [← kb_kl hi, ← kb_kl hj]
    have := all (j - i - 1) i (by omega)
    rwa [show i + (j - i - 1) + 1 = j by omega] at this
  · obtain ⟨i, hi, rfl⟩ := List.getElem_of_mem ht
    have := tagsGood_at h hi
    unfold tagGood at this
    rw [Bool.and_eq_true, Bool.and_eq_true, tk_get hi, tv_get hi] at this
    exact this.1

theorem good_of_tags {ts : List Tg} (h1 : Asc ts) (h2 : ∀ t ∈ ts, wordOk t.1 = true ∧ wordOk t.2 = true) : tagsGood ts = true := by
  refine tagsGood_of fun j hj => ?_
  have ho := h2 _ (List.getElem_mem hj)
  rw [← tk_get hj, ← tv_get hj] at ho
  by_cases h0 : 0 < j
  · have := List.pairwise_iff_getElem.1 h1 (j - 1) j (by omega) hj (by omega)
    rw [← kb_kl, ← kb_kl] at this
    have hn : ¬ kb ts j ≤ kb ts (j - 1) := fun hle => hle this
    simp [tagGood, ho, hn]
  · simp [tagGood, ho, h0]

theorem featOk_iff {id : ByteArray} {k : Int} {ps : List (Int × Int)} {ts : List Tg} : featOk id k ps ts = true ↔ (wordOk id = true ∧ shapeOk k ps = true) ∧ tagsGood ts = true ∧ ts.length ≤ 4 := by
  unfold featOk
  rw [Bool.and_eq_true, Bool.and_eq_true, Bool.and_eq_true, decide_eq_true_eq]

theorem fp_yes {id : ByteArray} {k : Int} {ps : List (Int × Int)} {ts : List Tg} {key val : ByteArray} (h : fpB id k ps ts key val = true) : fpI id k ps ts key val = id ∧ fpK id k ps ts key val = k ∧ fpP id k ps ts key val = ps ∧ fpT id k ps ts key val = putS ts (key, val) := by
  unfold fpI fpK fpP fpT
  simp [h]
theorem fp_no {id : ByteArray} {k : Int} {ps : List (Int × Int)} {ts : List Tg} {key val : ByteArray} (h : fpB id k ps ts key val = false) : fpI id k ps ts key val = ⟨#[]⟩ ∧ fpK id k ps ts key val = 0 ∧ fpP id k ps ts key val = [] ∧ fpT id k ps ts key val = [] := by
  unfold fpI fpK fpP fpT
  simp [h]
theorem fpB_iff {id : ByteArray} {k : Int} {ps : List (Int × Int)} {ts : List Tg} {key val : ByteArray} : fpB id k ps ts key val = true ↔ featOk id k ps ts = true ∧ featOk id k ps (putS ts (key, val)) = true := by
  unfold fpB
  rw [Bool.and_eq_true]

/-- what comes of a put, as one thing -/
def fpAll (x : ByteArray × Int × List (Int × Int) × List Tg) (key val : ByteArray) : ByteArray × Int × List (Int × Int) × List Tg :=
  (fpI x.1 x.2.1 x.2.2.1 x.2.2.2 key val, fpK x.1 x.2.1 x.2.2.1 x.2.2.2 key val, fpP x.1 x.2.1 x.2.2.1 x.2.2.2 key val, fpT x.1 x.2.1 x.2.2.1 x.2.2.2 key val)
def fpOk (x : ByteArray × Int × List (Int × Int) × List Tg) (key val : ByteArray) : Bool := fpB x.1 x.2.1 x.2.2.1 x.2.2.2 key val

theorem two_put_same {x : ByteArray × Int × List (Int × Int) × List Tg} {key v1 v2 : ByteArray} (h : fpOk x key v1 = true) : fpOk (fpAll x key v1) key v2 = fpOk x key v2 ∧ fpAll (fpAll x key v1) key v2 = fpAll x key v2 := by
  obtain ⟨id, k, ps, ts⟩ := x
  obtain ⟨e1, e2, e3, e4⟩ := fp_yes h
  obtain ⟨o1, o2⟩ := fpB_iff.1 h
  have ha := (tags_of_good (featOk_iff.1 o1).2.1).1
  have hs : putS (putS ts (key, v1)) (key, v2) = putS ts (key, v2) := putS_same ha rfl
  have hx : fpAll (id, k, ps, ts) key v1 = (id, k, ps, putS ts (key, v1)) := by
    unfold fpAll
    rw [e1, e2, e3, e4]
  have hb : fpB id k ps (putS ts (key, v1)) key v2 = fpB id k ps ts key v2 := by
    unfold fpB
    rw [o1, o2, hs]
  rw [hx]
  refine ⟨hb, ?_⟩
  unfold fpAll fpI fpK fpP fpT
  simp only []
  rw [hb, hs]

theorem two_put_diff {x : ByteArray × Int × List (Int × Int) × List Tg} {k1 v1 k2 v2 : ByteArray} (h : fpOk x k1 v1 = true) (hne : k1 ≠ k2) (ho : fpOk (fpAll x k1 v1) k2 v2 = true) :
    fpOk x k2 v2 = true ∧ fpOk (fpAll x k2 v2) k1 v1 = true ∧ fpAll (fpAll x k1 v1) k2 v2 = fpAll (fpAll x k2 v2) k1 v1 := by
  obtain ⟨id, k, ps, ts⟩ := x
  obtain ⟨e1, e2, e3, e4⟩ := fp_yes h
  obtain ⟨o1, o2⟩ := fpB_iff.1 h
  obtain ⟨q0, q1, q2⟩ := featOk_iff.1 o1
  obtain ⟨ha, hw⟩ := tags_of_good q1
  have hx : fpAll (id, k, ps, ts) k1 v1 = (id, k, ps, putS ts (k1, v1)) := by
    unfold fpAll
    rw [e1, e2, e3, e4]
  rw [hx] at ho ⊢
  obtain ⟨p1, p2⟩ := fpB_iff.1 ho
  simp only [] at p1 p2
  have g2 : (putS (putS ts (k1, v1)) (k2, v2)).length ≤ 4 := (featOk_iff.1 p2).2.2
  have g1 : tagsGood (putS (putS ts (k1, v1)) (k2, v2)) = true := (featOk_iff.1 p2).2.1
  have hc : putS (putS ts (k1, v1)) (k2, v2) = putS (putS ts (k2, v2)) (k1, v1) := putS_comm ha fun e => hne (kl_eq.1 e)
  have hl : (putS ts (k2, v2)).length ≤ (putS (putS ts (k2, v2)) (k1, v1)).length := putS_len_ge (k1, v1) (asc_putS (k2, v2) ha)
  rw [← hc] at hl
  have hg : tagsGood (putS ts (k2, v2)) = true := good_of_tags (asc_putS _ ha) fun t ht => by
    rcases (mem_putS _ _ _).1 ht with e | ⟨hm, _⟩
    · exact (tags_of_good g1).2 t ((mem_putS _ _ _).2 (.inl e))
    · exact hw t hm
  have h2 : featOk id k ps (putS ts (k2, v2)) = true := featOk_iff.2 ⟨q0, hg, by omega⟩
  have b2 : fpB id k ps ts k2 v2 = true := fpB_iff.2 ⟨o1, h2⟩
  obtain ⟨f1, f2, f3, f4⟩ := fp_yes b2
  have hz : fpAll (id, k, ps, ts) k2 v2 = (id, k, ps, putS ts (k2, v2)) := by
    unfold fpAll
    rw [f1, f2, f3, f4]
  have b3 : fpB id k ps (putS ts (k2, v2)) k1 v1 = true := fpB_iff.2 ⟨h2, by rw [← hc]; exact p2⟩
  rw [hz]
  refine ⟨b2, b3, ?_⟩
  obtain ⟨m1, m2, m3, m4⟩ := fp_yes ho
  obtain ⟨n1, n2, n3, n4⟩ := fp_yes b3
  simp only [] at m1 m2 m3 m4
  unfold fpAll
  simp only []
  rw [m1, m2, m3, m4, n1, n2, n3, n4, hc]

/-- a thing whose texts and lists are not too long -/
def FtFew (x : ByteArray × Int × List (Int × Int) × List Tg) : Prop := x.1.size ≤ 1048576 ∧ x.2.2.1.length ≤ 1048576 ∧ x.2.2.2.length ≤ 1048576 ∧ TagsLen x.2.2.2 1048576

theorem fp_few {x : ByteArray × Int × List (Int × Int) × List Tg} {key val : ByteArray} (h : FtFew x) (hk : key.size ≤ 1048576) (hv : val.size ≤ 1048576) : FtFew (fpAll x key val) := by
  obtain ⟨id, k, ps, ts⟩ := x
  obtain ⟨h1, h2, h3, h4⟩ := h
  cases hb : fpB id k ps ts key val
  · obtain ⟨e1, e2, e3, e4⟩ := fp_no hb
    unfold fpAll
    simp only []
    rw [e1, e2, e3, e4]
    exact ⟨Nat.zero_le _, Nat.zero_le _, Nat.zero_le _, fun j hj => absurd hj (Nat.not_lt_zero _)⟩
  · obtain ⟨e1, e2, e3, e4⟩ := fp_yes hb
    have hl := (featOk_iff.1 (fpB_iff.1 hb).2).2.2
    unfold fpAll
    simp only []
    rw [e1, e2, e3, e4]
    exact ⟨h1, h2, by simp only []; omega, putS_tk h4 (by omega) (by omega)⟩

abbrev Fx := ByteArray × Int × List (Int × Int) × List Tg
theorem featPut_at (x : Fx) (hx : FtFew x) (key val : ByteArray) (hk : key.size ≤ 1048576) (hv : val.size ≤ 1048576) (a : Option Addr) (c : Nat) (b : Option Addr) (d : Nat) (u : World) (hp : PtsAt u a x.2.2.1) (ht : TagsAt u b x.2.2.2) :
    Calls Try.prog 32 #[.agg #[.string x.1, .int .i64 x.2.1, .slice a x.2.2.1.length c, .slice b x.2.2.2.length d], .string key, .string val] u (PutAns u (fpAll x key val).1 (fpAll x key val).2.1 (fpAll x key val).2.2.1 (fpAll x key val).2.2.2 (fpOk x key val)) :=
  implFeatPut_all x.1 x.2.1 a c x.2.2.1 b d x.2.2.2 key val u hp ht hx.1 hx.2.1 hx.2.2.1 hx.2.2.2 hk hv
theorem featPutS_at (x : Fx) (hx : FtFew x) (key val : ByteArray) (hk : key.size ≤ 1048576) (hv : val.size ≤ 1048576) (a : Option Addr) (c : Nat) (b : Option Addr) (d : Nat) (u : World) (hp : PtsAt u a x.2.2.1) (ht : TagsAt u b x.2.2.2) :
    Calls Try.prog 33 #[.agg #[.string x.1, .int .i64 x.2.1, .slice a x.2.2.1.length c, .slice b x.2.2.2.length d], .string key, .string val] u (PutAns u (fpAll x key val).1 (fpAll x key val).2.1 (fpAll x key val).2.2.1 (fpAll x key val).2.2.2 (fpOk x key val)) :=
  specFeatPut_all x.1 x.2.1 a c x.2.2.1 b d x.2.2.2 key val u hp ht hx.1 hx.2.1 hx.2.2.1 hx.2.2.2 hk hv
theorem featSame_at (f : Fx) (hf : FtFew f) (a : Option Addr) (c : Nat) (b : Option Addr) (d : Nat) (a' : Option Addr) (c' : Nat) (b' : Option Addr) (d' : Nat) (u : World) (h1 : PtsAt u a f.2.2.1) (h2 : PtsAt u a' f.2.2.1) (h3 : TagsAt u b f.2.2.2) (h4 : TagsAt u b' f.2.2.2) :
    Calls Try.prog 29 #[.agg #[.string f.1, .int .i64 f.2.1, .slice a f.2.2.1.length c, .slice b f.2.2.2.length d], .agg #[.string f.1, .int .i64 f.2.1, .slice a' f.2.2.1.length c', .slice b' f.2.2.2.length d']] u fun e w' => e = .returned (.bool true) ∧ Below u.heap.size u w' :=
  (implFeatSame_any f.1 f.1 f.2.1 f.2.1 a a' c c' f.2.2.1 f.2.2.1 b b' d d' f.2.2.2 f.2.2.2 u h1 h2 h3 h4 hf.2.1 hf.2.1 hf.2.2.1 hf.2.2.1).mono fun e w' ⟨he, hb⟩ => ⟨by rw [he]; simp [featEq, shEq, ptsEq, tgsEq], hb⟩
end Go.Proofs.Ytdfadpejddhbkaa
