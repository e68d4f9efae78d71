/- Proved here: the two functions that ask whether a thing is one answer as the plain definition 'featOk' says; rows of at most 1,048,576 points and tags, texts of at most 1,048,576 bytes. -/
import Derived.Test.YtdfadpejddhbkaaWTagsOkI
import Derived.Test.YtdfadpejddhbkaaWSpecOk
import Derived.Test.YtdfadpejddhbkaaWImplOk
namespace Go.Proofs.Ytdfadpejddhbkaa
set_option linter.unusedVariables false
open Go.ChangeShapes Go.WideShapes Go.ChangeAt Go.RowKit

/-- a thing is one -/
def featOk (id : ByteArray) (k : Int) (ps : List (Int × Int)) (ts : List Tg) : Bool := wordOk id && shapeOk k ps && (tagsGood ts && decide (ts.length ≤ 4))

set_option maxRecDepth 100000 in
set_option maxHeartbeats 2000000 in
theorem specFeatOk_any (id : ByteArray) (k : Int) (a : Option Addr) (cap : Nat) (ps : List (Int × Int)) (c : Option Addr) (ca : Nat) (ts : List Tg) (w : World) (hp : PtsAt w a ps) (ht : TagsAt w c ts) (hi : id.size ≤ 1048576) (hl : ps.length ≤ 1048576) (hm : ts.length ≤ 1048576) (hx : TagsLen ts 1048576) :
    Calls Try.prog 50 #[.agg #[.string id, .int .i64 k, .slice a ps.length cap, .slice c ts.length ca]] w fun e w' => e = .returned (.bool (featOk id k ps ts)) ∧ Below w.heap.size w w' := by
  have HP := Lib.hid hp
  have HT := Lib.hid ht
  have HX := Lib.hid hx
  clear hp ht hx
  have A0 : Hid (∀ o, Below w.heap.size w (w.alloc o)) := fun o => (Below.refl _ _).alloc (Nat.le_refl _) _
  go_enter Try.func50, Try.ntmps50
  go_wp2_with fail
  refine (specWordOk_any _ _ hi).mono ?_
  rintro e w1 ⟨rfl, rfl⟩
  have c1 : (w.alloc (.cells #[.string id, .int .i64 k, .slice a ps.length cap, .slice c ts.length ca] 43)).cell? ⟨w.heap.size, 1, none⟩ = some (.int .i64 k) := by simp [go_sem]
  have c2 : (w.alloc (.cells #[.string id, .int .i64 k, .slice a ps.length cap, .slice c ts.length ca] 43)).cell? ⟨w.heap.size, 2, none⟩ = some (.slice a ps.length cap) := by simp [go_sem]
  have c3 : (w.alloc (.cells #[.string id, .int .i64 k, .slice a ps.length cap, .slice c ts.length ca] 43)).cell? ⟨w.heap.size, 3, none⟩ = some (.slice c ts.length ca) := by simp [go_sem]
  have B1 : Hid (Below w.heap.size w (w.alloc (.cells #[.string id, .int .i64 k, .slice a ps.length cap, .slice c ts.length ca] 43))) := A0.out _
  generalize (w.alloc (.cells #[.string id, .int .i64 k, .slice a ps.length cap, .slice c ts.length ca] 43)) = w1 at *
  by_cases h1 : wordOk id = true
  · rw [h1]
    go_wp2_with fail
    refine (specShapeOk_any _ _ _ _ _ (HP.out.below B1.out) hl).mono ?_
    rintro e w2 ⟨rfl, hb2⟩
    replace c3 := cell_later hb2 c3
    have B2 : Hid (Below w.heap.size w w2) := B1.out.trans (hb2.mono B1.out.size)
    clear hb2 c1 c2
    by_cases h2 : shapeOk k ps = true
    · rw [h2]
      have H2 : Hid (featOk id k ps ts = (tagsGood ts && decide (ts.length ≤ 4))) := by simp [Hid, featOk, h1, h2]
      clear h1 h2
      go_wp2_with fail
      refine (l2Tags_any _ _ _ _ (HT.out.below B2.out) hm HX.out).mono ?_
      rintro e w3 ⟨rfl, n, rfl⟩
      have B3 : Hid (Below w.heap.size w (w2.drewN n)) := below_drewN B2.out n
      clear c3
      go_wp2
      go_ret
      exact ⟨by rw [H2.out]; rfl, B3.out⟩
    · have h2' : shapeOk k ps = false := by simpa using h2
      have H2 : Hid (featOk id k ps ts = false) := by simp [Hid, featOk, h2']
      rw [h2']
      clear h1 h2 h2' c3
      go_wp2
      go_ret
      exact ⟨by rw [H2.out]; rfl, B2.out⟩
  · have h1' : wordOk id = false := by simpa using h1
    have H1 : Hid (featOk id k ps ts = false) := by simp [Hid, featOk, h1']
    rw [h1']
    clear h1 h1' c1 c2 c3
    go_wp2
    go_ret
    exact ⟨by rw [H1.out]; rfl, B1.out⟩

set_option maxRecDepth 100000 in
set_option maxHeartbeats 2000000 in
theorem implFeatOk_any (id : ByteArray) (k : Int) (a : Option Addr) (cap : Nat) (ps : List (Int × Int)) (c : Option Addr) (ca : Nat) (ts : List Tg) (w : World) (hp : PtsAt w a ps) (ht : TagsAt w c ts) (hi : id.size ≤ 1048576) (hl : ps.length ≤ 1048576) (hm : ts.length ≤ 1048576) (hx : TagsLen ts 1048576) :
    Calls Try.prog 30 #[.agg #[.string id, .int .i64 k, .slice a ps.length cap, .slice c ts.length ca]] w fun e w' => e = .returned (.bool (featOk id k ps ts)) ∧ Below w.heap.size w w' := by
  have HP := Lib.hid hp
  have HT := Lib.hid ht
  have HX := Lib.hid hx
  clear hp ht hx
  have A0 : Hid (∀ o, Below w.heap.size w (w.alloc o)) := fun o => (Below.refl _ _).alloc (Nat.le_refl _) _
  go_enter Try.func30, Try.ntmps30
  go_wp2_with fail
  refine (implWordOk_any _ _ hi).mono ?_
  rintro e w1 ⟨rfl, hb1⟩
  have c1 := cell_later hb1 (a := ⟨w.heap.size, 1, none⟩) (v := .int .i64 k) (by simp [go_sem])
  have c2 := cell_later hb1 (a := ⟨w.heap.size, 2, none⟩) (v := .slice a ps.length cap) (by simp [go_sem])
  have c3 := cell_later hb1 (a := ⟨w.heap.size, 3, none⟩) (v := .slice c ts.length ca) (by simp [go_sem])
  have B1 : Hid (Below w.heap.size w w1) := (A0.out _).trans (hb1.mono (by simp))
  clear hb1
  by_cases h1 : wordOk id = true
  · rw [h1]
    go_wp2_with fail
    refine (implShapeOk_any _ _ _ _ _ (HP.out.below B1.out)).mono ?_
    rintro e w2 ⟨rfl, hb2⟩
    replace c3 := cell_later hb2 c3
    have B2 : Hid (Below w.heap.size w w2) := B1.out.trans (hb2.mono B1.out.size)
    clear hb2 c1 c2
    by_cases h2 : shapeOk k ps = true
    · rw [h2]
      have H2 : Hid (featOk id k ps ts = (tagsGood ts && decide (ts.length ≤ 4))) := by simp [Hid, featOk, h1, h2]
      clear h1 h2
      go_wp2_with fail
      refine (implTagsOk_any _ _ _ _ (HT.out.below B2.out) hm HX.out).mono ?_
      rintro e w3 ⟨rfl, hb3⟩
      have B3 : Hid (Below w.heap.size w w3) := B2.out.trans (hb3.mono B2.out.size)
      clear hb3
      clear c3
      go_wp2
      go_ret
      exact ⟨by rw [H2.out]; rfl, B3.out⟩
    · have h2' : shapeOk k ps = false := by simpa using h2
      have H2 : Hid (featOk id k ps ts = false) := by simp [Hid, featOk, h2']
      rw [h2']
      clear h1 h2 h2' c3
      go_wp2
      go_ret
      exact ⟨by rw [H2.out]; rfl, B2.out⟩
  · have h1' : wordOk id = false := by simpa using h1
    have H1 : Hid (featOk id k ps ts = false) := by simp [Hid, featOk, h1']
    rw [h1']
    clear h1 h1' c1 c2 c3
    go_wp2
    go_ret
    exact ⟨by rw [H1.out]; rfl, B1.out⟩
end Go.Proofs.Ytdfadpejddhbkaa
