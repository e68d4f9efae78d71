/- Proved here: the three functions that hold two things against each other answer whether they are the same in all parts; rows of at most 1,048,576 points and tags. -/
import Derived.Test.YtdfadpejddhbkaaWFeat
namespace Go.Proofs.Ytdfadpejddhbkaa
set_option linter.unusedVariables false
open Go.ChangeShapes Go.WideShapes Go.ChangeAt Go.RowKit

/-- two shapes are one -/
def shEq (k k' : Int) (ps qs : List (Int × Int)) : Bool := decide (k = k') && ptsEq ps qs
/-- two things are one -/
def featEq (id id' : ByteArray) (k k' : Int) (ps qs : List (Int × Int)) (ts us : List Tg) : Bool := decide (id = id') && shEq k k' ps qs && tgsEq ts us

theorem featEq_id {id id' : ByteArray} {k k' : Int} {ps qs : List (Int × Int)} {ts us : List Tg} (h : ¬ id = id') : featEq id id' k k' ps qs ts us = false := by simp [featEq, h]
theorem featEq_sh {id id' : ByteArray} {k k' : Int} {ps qs : List (Int × Int)} {ts us : List Tg} (h : shEq k k' ps qs = false) : featEq id id' k k' ps qs ts us = false := by simp [featEq, h]
theorem featEq_tg {id id' : ByteArray} {k k' : Int} {ps qs : List (Int × Int)} {ts us : List Tg} (h1 : id = id') (h : shEq k k' ps qs = true) : featEq id id' k k' ps qs ts us = tgsEq ts us := by simp [featEq, h, h1]

set_option maxRecDepth 100000 in
set_option maxHeartbeats 2000000 in
theorem implFeatSame_any (id id' : ByteArray) (k k' : Int) (a a' : Option Addr) (cap cap' : Nat) (ps qs : List (Int × Int)) (c c' : Option Addr) (ca ca' : Nat) (ts us : List Tg) (w : World) (hp : PtsAt w a ps) (hq : PtsAt w a' qs) (ht : TagsAt w c ts) (hu : TagsAt w c' us) (hl : ps.length ≤ 1048576) (hl' : qs.length ≤ 1048576) (hm : ts.length ≤ 1048576) (hm' : us.length ≤ 1048576) :
    Calls Try.prog 29 #[.agg #[.string id, .int .i64 k, .slice a ps.length cap, .slice c ts.length ca], .agg #[.string id', .int .i64 k', .slice a' qs.length cap', .slice c' us.length ca']] w fun e w' => e = .returned (.bool (featEq id id' k k' ps qs ts us)) ∧ Below w.heap.size w w' := by
  have HP := Lib.hid hp
  have HQ := Lib.hid hq
  have HT := Lib.hid ht
  have HU := Lib.hid hu
  clear hp hq ht hu
  have B0 : Hid (∀ o o', Below w.heap.size w ((w.alloc o).alloc o')) := fun o o' => ((Below.refl _ _).alloc (Nat.le_refl _) _).alloc (by simp) _
  have e1 := bytes_beq id id'
  by_cases h1 : id = id'
  · rw [decide_eq_true h1] at e1
    have H1 := Lib.hid h1
    clear h1
    go_enter Try.func29, Try.ntmps29
    go_wp2_with fail
    refine (implShapeSame_any _ _ _ _ _ _ _ _ _ (HP.out.below (B0.out _ _)) (HQ.out.below (B0.out _ _)) hl hl').mono ?_
    rintro e w1 ⟨rfl, hb1⟩
    have c3 := cell_later hb1 (a := ⟨w.heap.size, 3, none⟩) (v := .slice c ts.length ca) (by simp [go_sem])
    have d3 := cell_later hb1 (a := ⟨w.heap.size + 1, 3, none⟩) (v := .slice c' us.length ca') (by simp [go_sem])
    have B1 : Hid (Below w.heap.size w w1) := (B0.out _ _).trans (hb1.mono (by simp; omega))
    clear hb1
    rw [show (decide (k = k') && ptsEq ps qs) = shEq k k' ps qs from rfl]
    by_cases h2 : shEq k k' ps qs = true
    · rw [h2]
      have H2 := Lib.hid (featEq_tg (ts := ts) (us := us) H1.out h2)
      clear h2
      go_wp2_with fail
      refine (slicesEqualT_any _ _ _ _ _ _ _ (HT.out.below B1.out) (HU.out.below B1.out) hm hm').mono ?_
      rintro e w2 ⟨rfl, n, rfl⟩
      have B2 : Hid (Below w.heap.size w (w1.drewN n)) := below_drewN B1.out n
      clear c3 d3
      go_wp2
      all_goals go_ret
      all_goals exact ⟨by rw [H2.out]; simp_all, B2.out⟩
    · have h2' : shEq k k' ps qs = false := by simpa using h2
      rw [h2']
      have H2 := Lib.hid (featEq_sh (id := id) (id' := id') (ts := ts) (us := us) h2')
      clear h2 h2' c3 d3
      go_wp2
      go_ret
      exact ⟨by rw [H2.out]; rfl, B1.out⟩
  · rw [decide_eq_false h1] at e1
    have H1 := Lib.hid (featEq_id (k := k) (k' := k') (ps := ps) (qs := qs) (ts := ts) (us := us) h1)
    clear h1
    go_enter Try.func29, Try.ntmps29
    go_wp2
    go_ret
    exact ⟨by rw [H1.out]; rfl, B0.out _ _⟩
end Go.Proofs.Ytdfadpejddhbkaa
