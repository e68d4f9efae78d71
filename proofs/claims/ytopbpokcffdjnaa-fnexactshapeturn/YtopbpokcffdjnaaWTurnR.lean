/- Proved here: the model's row begun at a place: the points from there on and then those ahead of it, in a row of its own; rows of at most 1,048,576 points, a place behind the first. -/
import Derived.Test.YtopbpokcffdjnaaWRev
import Derived.Test.YtopbpokcffdjnaaWMove
import Derived.Test.YtopbpokcffdjnaaWTurn
namespace Go.Proofs.Ytopbpokcffdjnaa
set_option linter.unusedVariables false
open Go.ChangeShapes Go.WideShapes Go.ChangeAt Go.RowKit Go.Deep

/-- a row begun at a place -/
def rowAt (ps : List (Int × Int)) (i : Nat) : List (Int × Int) := ps.drop i ++ ps.take i

theorem rowAt_len (ps : List (Int × Int)) {i : Nat} (h : i ≤ ps.length) : (rowAt ps i).length = ps.length := by
  unfold rowAt
  simp
  omega
theorem rowAt_zero (ps : List (Int × Int)) : rowAt ps 0 = ps := by simp [rowAt]
theorem flat_app (ps qs : List (Int × Int)) : flat (ps ++ qs) = flat ps ++ flat qs := by simp [flat]

theorem PtsAt.drop {w : World} {b off : Nat} {ps : List (Int × Int)} (h : PtsAt w (some ⟨b, off, none⟩) ps) (i : Nat) : PtsAt w (some ⟨b, off + i * 2, none⟩) (ps.drop i) := by
  intro j hj
  simp at hj
  obtain ⟨b', off', e, hlt, h1, h2⟩ := h (i + j) (by omega)
  obtain ⟨rfl, rfl⟩ : b = b' ∧ off = off' := by simpa using e
  refine ⟨b, off + i * 2, rfl, hlt, ?_, ?_⟩
  · rw [show off + i * 2 + j * 2 = off + (i + j) * 2 by omega, h1]
    simp [px]
  · rw [show off + i * 2 + j * 2 + 1 = off + (i + j) * 2 + 1 by omega, h2]
    simp [py]

theorem PtsAt.take {w : World} {a : Option Addr} {ps : List (Int × Int)} (h : PtsAt w a ps) (i : Nat) : PtsAt w a (ps.take i) := by
  intro j hj
  simp at hj
  have hj1 : j < i := by omega
  have hj2 : j < ps.length := by omega
  obtain ⟨b, off, rfl, hlt, h1, h2⟩ := h j hj2
  refine ⟨b, off, rfl, hlt, ?_, ?_⟩
  · rw [h1]
    simp [px, hj1, hj2]
  · rw [h2]
    simp [py, hj1, hj2]

set_option maxHeartbeats 2000000 in
theorem l1From_any (b off cap i : Nat) (ps : List (Int × Int)) (w : World) (hp : PtsAt w (some ⟨b, off, none⟩) ps) (hl : ps.length ≤ 1048576) (hcap : ps.length ≤ cap) (h0 : 0 < i) (hi : i < ps.length) :
    Calls Try.prog 51 #[.slice (some ⟨b, off, none⟩) ps.length cap, .int .i64 i] w (PtsAns w (rowAt ps i)) := by
  have HP := Lib.hid hp
  clear hp
  obtain ⟨i0, hi0, hz0, hz1, hz2⟩ := info_parts infoPt
  have HI := Lib.hid hi0
  have HZ0 := Lib.hid hz0
  have HZ1 := Lib.hid hz1
  have HZ2 := Lib.hid hz2
  clear hi0 hz0 hz1 hz2
  have e1 : i ≤ ps.length := by omega
  have e2 : ¬ cap = i := by omega
  have e3 : i ≤ cap := by omega
  go_enter Try.func51, Try.ntmps51
  go_wp2
  go_region_law (first
    | (have hq := HOW1.out; refine step_append_lies _ (by rfl) _ _ _ (by rfl) w.heap.size 28 i0 _ 2 16 Try.underlying23 HI.out HZ0.out HZ1.out HZ2.out rfl (by omega) (.slice (some ⟨gg, 0, none⟩) (ps.length - i) cap') (ps.length - i) (flat (ps.drop i)) (by rfl) hq ⟨b, off, none⟩ i cap (flat (ps.take i)) (by rfl) (by rw [flat_len, List.length_take]; omega) (news_pts ((HP.out.take i).below HBW.out)) (flat_one _) h0 (by unfold maxLen; omega) (by omega) (by have := HBW.out.size; omega) wa.heap.size rfl ?_; intro g2 cap2 wb hown2 hgrow2 hat2 hlt2; have HOW2 := Lib.hid hown2; have HG2 := Lib.hid hgrow2; clear hown2 hgrow2 hat2 hq)
    | (refine step_append_lies _ (by rfl) _ _ _ (by rfl) w.heap.size 28 i0 _ 2 16 Try.underlying23 HI.out HZ0.out HZ1.out HZ2.out rfl (by omega) (.slice (some ⟨w.heap.size, 0, none⟩) 0 0) 0 [] (by rfl) ((World.ownsRow_made w #[] 0 (Nat.le_refl _) (by unfold maxLen; omega) rfl).drew) ⟨b, off + i * 2, none⟩ (ps.length - i) (cap - i) (flat (ps.drop i)) (by rfl) (by rw [flat_len, List.length_drop]) (news_pts (((HP.out.drop i).below (((Below.refl _ _).alloc (Nat.le_refl _) _)).drew))) (flat_one _) (by omega) (by unfold maxLen; omega) (by omega) (by simp) (w.heap.size + 1) (by simp) ?_; intro gg cap' wa hown1 hgrow hat hlt'; rw [Nat.zero_add, List.nil_append] at hown1; have HOW1 := Lib.hid hown1; have HBW := Lib.hid (made_far hgrow rfl); clear hown1 hgrow hat))
  all_goals go_wp2
  all_goals go_ret
  all_goals
    have hown2 := HOW2.out
    rw [← flat_app] at hown2
    obtain ⟨a2, c2, e2', hpt, hso, hnew⟩ := owned_pts (ps := rowAt ps i) hown2 (by rw [rowAt_len _ e1]; omega)
    obtain ⟨rfl, _, rfl⟩ : some ⟨g2, 0, none⟩ = a2 ∧ _ ∧ cap2 = c2 := by simpa using e2'
    refine ⟨g2, cap2, by rw [rowAt_len _ e1]; rfl, hpt, hso, (hnew g2 rfl).1, hlt2, ?_⟩
    exact HBW.out.grown HG2.out HBW.out.size (fun j e => (HOW1.out.lt j e).1)
end Go.Proofs.Ytopbpokcffdjnaa
