/- Proved here: the library's Clone and Reverse of points, as the program calls them: a row of its own with the same points; the points the last first; rows of 1 to 1,048,576 points. -/
import Derived.Test.YtdfadpejddhbkaaWCopy
import Derived.BigRegion
import Derived.Deep.SlicePairs
namespace Go.Proofs.Ytdfadpejddhbkaa
set_option linter.unusedVariables false
open Go.ChangeShapes Go.WideShapes Go.ChangeAt Go.RowKit Go.Deep

/-- which point stands at a place behind i exchanges -/
def swapped (n i t : Nat) : Nat := if t < i ∨ n ≤ t + i then n - 1 - t else t

/-- a round's world -/
def Swapping (w : World) (b off : Nat) (ps : List (Int × Int)) (j : Nat) (wr : World) : Prop :=
  (∀ i, i < ps.length → wr.cell? ⟨b, off + i * 2, none⟩ = some (.int .i64 (px ps (swapped ps.length j i))) ∧ wr.cell? ⟨b, off + i * 2 + 1, none⟩ = some (.int .i64 (py ps (swapped ps.length j i)))) ∧
  (∀ x, wr.frozen? x = w.frozen? x) ∧ w.grownBy wr (some b) ∧ wr.heap.size = w.heap.size

theorem grown_drew {w w' : World} {r : Option Nat} (h : w.grownBy w' r) : w.grownBy w'.drew r := ⟨h.os, h.tape, h.output, h.size, h.block⟩

theorem swapping_step {w : World} {b off : Nat} {ps : List (Int × Int)} {j q : Nat} {wr : World} (hq : ps.length - 1 - j = q) (hj : 2 * j + 1 < ps.length) (h : Swapping w b off ps j wr) :
    Swapping w b off ps (j + 1) ((((wr.setCell ⟨b, off + j * 2, none⟩ (.int .i64 (px ps q))).setCell ⟨b, off + j * 2 + 1, none⟩ (.int .i64 (py ps q))).setCell ⟨b, off + q * 2, none⟩ (.int .i64 (px ps j))).setCell ⟨b, off + q * 2 + 1, none⟩ (.int .i64 (py ps j))).drew := by
  obtain ⟨hc, hf, hg, hs⟩ := h
  have far : ∀ (W : World) (o o' : Nat) (v : Value), o ≠ o' → (W.setCell ⟨b, o, none⟩ v).cell? ⟨b, o', none⟩ = W.cell? ⟨b, o', none⟩ := fun W o o' v hne => World.cell?_setCell_other W ⟨b, o, none⟩ ⟨b, o', none⟩ v (fun h => hne (congrArg Addr.off h))
  refine ⟨fun i hi => ?_, fun x => by show World.frozen? _ x = _; simp [World.frozen?_setCell, hf], ?_, by show (Array.size _) = _; simp [World.setCell, hs]⟩
  · obtain ⟨h1, h2⟩ := hc i hi
    show World.cell? (World.setCell _ _ _) _ = _ ∧ World.cell? (World.setCell _ _ _) _ = _
    by_cases e1 : i = j
    · subst e1
      have e : swapped ps.length (i + 1) i = q := by unfold swapped; rw [if_pos (by omega)]; exact hq
      rw [e]
      refine ⟨?_, ?_⟩
      · rw [far _ _ _ _ (by omega), far _ _ _ _ (by omega), far _ _ _ _ (by omega)]
        exact World.cell?_setCell_same _ _ _ h1
      · rw [far _ _ _ _ (by omega), far _ _ _ _ (by omega)]
        exact World.cell?_setCell_same _ _ _ ((far _ _ _ _ (by omega)).trans h2)
    · by_cases e2 : i = q
      · subst e2
        have e : swapped ps.length (j + 1) i = j := by unfold swapped; rw [if_pos (by omega)]; omega
        rw [e]
        refine ⟨?_, ?_⟩
        · rw [far _ _ _ _ (by omega)]
          exact World.cell?_setCell_same _ _ _ (((far _ _ _ _ (by omega)).trans (far _ _ _ _ (by omega))).trans h1)
        · exact World.cell?_setCell_same _ _ _ ((((far _ _ _ _ (by omega)).trans (far _ _ _ _ (by omega))).trans (far _ _ _ _ (by omega))).trans h2)
      · have e : swapped ps.length (j + 1) i = swapped ps.length j i := by
          unfold swapped
          by_cases c : i < j ∨ ps.length ≤ i + j
          · rw [if_pos c, if_pos (by omega)]
          · rw [if_neg c, if_neg (by omega)]
        rw [e]
        refine ⟨?_, ?_⟩
        · rw [far _ _ _ _ (by omega), far _ _ _ _ (by omega), far _ _ _ _ (by omega), far _ _ _ _ (by omega)]
          exact h1
        · rw [far _ _ _ _ (by omega), far _ _ _ _ (by omega), far _ _ _ _ (by omega), far _ _ _ _ (by omega)]
          exact h2
  · exact grown_drew (grown_set (grown_set (grown_set (grown_set hg (off + j * 2) (.int .i64 (px ps q))) (off + j * 2 + 1) (.int .i64 (py ps q))) (off + q * 2) (.int .i64 (px ps j))) (off + q * 2 + 1) (.int .i64 (py ps j)))

/-- when no pair is left to exchange, all stand the last first -/
theorem swapped_all {n j t : Nat} (h : n ≤ 2 * j + 1) (ht : t < n) : swapped n j t = n - 1 - t := by
  unfold swapped
  split
  · rfl
  · omega

theorem rev_at {ps : List (Int × Int)} {i : Nat} (h : i < ps.length) : px ps.reverse i = px ps (ps.length - 1 - i) ∧ py ps.reverse i = py ps (ps.length - 1 - i) := by
  have h2 : ps.length - 1 - i < ps.length := by omega
  simp [px, py, h, h2]

set_option maxHeartbeats 2000000 in
theorem reverse_some (b off cap : Nat) (ps : List (Int × Int)) (w : World) (hp : PtsAt w (some ⟨b, off, none⟩) ps) (hs : Soft w (some ⟨b, off, none⟩) ps.length) (hl : ps.length ≤ 1048576) (h0 : 0 < ps.length) :
    Calls Try.prog 37 #[.slice (some ⟨b, off, none⟩) ps.length cap] w fun e w' => e = .returned (.tuple #[]) ∧ ∃ j, ps.length ≤ 2 * j + 1 ∧ Swapping w b off ps j w' := by
  have HS := Lib.hid hs
  have H0 : Hid (Swapping w b off ps 0 w) := by
    refine ⟨fun i hi => ?_, fun _ => rfl, World.grownBy.refl _ _, rfl⟩
    obtain ⟨b', off', e, _, h1, h2⟩ := hp i hi
    obtain ⟨rfl, rfl⟩ : b = b' ∧ off = off' := by simpa using e
    have e1 : swapped ps.length 0 i = i := by unfold swapped; rw [if_neg (by omega)]
    rw [e1]
    exact ⟨h1, h2⟩
  clear hp hs
  go_enter Try.func37, Try.ntmps37
  go_wp2
  go_loopw [2, 3] (fun i k wr => ∃ j : Nat, 2 * j ≤ ps.length + 1 ∧ i = .int .i64 j ∧ k = .int .i64 ((ps.length : Int) - 1 - j) ∧ Swapping w b off ps j wr) (fun i _ _ => ps.length - (intOf i).toNat)
  case atStart => exact ⟨0, by omega, rfl, by simp, H0.out⟩
  case round =>
    clear H0
    obtain ⟨j, hj, rfl, rfl, hm⟩ := hrel
    by_cases hlt : 2 * j + 1 < ps.length
    · obtain ⟨d1, d2⟩ := hm.1 j (by omega)
      obtain ⟨d3, d4⟩ := hm.1 (ps.length - 1 - j) (by omega)
      obtain ⟨f1, f2⟩ := HS.out j (by omega) b off rfl
      obtain ⟨f3, f4⟩ := HS.out (ps.length - 1 - j) (by omega) b off rfl
      rw [← hm.2.1] at f1 f2 f3 f4
      have e1 : swapped ps.length j j = j := by unfold swapped; rw [if_neg (by omega)]
      have e2 : swapped ps.length j (ps.length - 1 - j) = ps.length - 1 - j := by unfold swapped; rw [if_neg (by omega)]
      rw [e1] at d1 d2
      rw [e2] at d3 d4
      clear e1 e2
      obtain ⟨q, hq⟩ : ∃ q, ps.length - 1 - j = q := ⟨_, rfl⟩
      rw [hq] at d3 d4 f3 f4
      have HM := Lib.hid hm
      have HQ := Lib.hid hq
      have k1 : (ps.length : Int) - 1 - (j : Int) = (q : Int) := by omega
      rw [k1]
      have k2 : (j : Int) < (q : Int) := by omega
      have k3 : (q : Int) < (ps.length : Int) := by omega
      have k4 : (j : Int) < (ps.length : Int) := by omega
      have K1 := Lib.hid k1
      clear hm hq k1
      go_wp2
      go_region
      all_goals go_wp2
      all_goals exact ⟨⟨j + 1, by omega, by go_num, congrArg (Value.int .i64) (by have := K1.out; omega), swapping_step HQ.out hlt HM.out⟩, by simp [intOf]; omega⟩
    · have HM := Lib.hid hm
      have k1 : ¬ (j : Int) < (ps.length : Int) - 1 - (j : Int) := by omega
      clear hm
      go_wp2
      go_end0
      exact ⟨rfl, j, by omega, HM.out⟩

theorem reverse_any (b off cap : Nat) (ps : List (Int × Int)) (w : World) (hp : PtsAt w (some ⟨b, off, none⟩) ps) (hs : Soft w (some ⟨b, off, none⟩) ps.length) (hl : ps.length ≤ 1048576) (h0 : 0 < ps.length) :
    Calls Try.prog 37 #[.slice (some ⟨b, off, none⟩) ps.length cap] w fun e w' => e = .returned (.tuple #[]) ∧ PtsAt w' (some ⟨b, off, none⟩) ps.reverse ∧ Soft w' (some ⟨b, off, none⟩) ps.reverse.length ∧ w.grownBy w' (some b) := by
  have hb : b < w.heap.size := by
    obtain ⟨b', off', e, h, _, _⟩ := hp 0 h0
    obtain ⟨rfl, rfl⟩ : b = b' ∧ off = off' := by simpa using e
    exact h
  refine (reverse_some b off cap ps w hp hs hl h0).mono fun e w' ⟨he, j, hj, hc, hf, hg, hsz⟩ => ⟨he, ?_, ?_, hg⟩
  · intro i hi
    have hi' : i < ps.length := by simpa using hi
    obtain ⟨h1, h2⟩ := hc i hi'
    rw [swapped_all hj hi'] at h1 h2
    rw [(rev_at hi').1, (rev_at hi').2]
    exact ⟨b, off, rfl, by omega, h1, h2⟩
  · intro i hi b' off' e
    rw [hf, hf]
    exact hs i (by simpa using hi) b' off' e
end Go.Proofs.Ytdfadpejddhbkaa
