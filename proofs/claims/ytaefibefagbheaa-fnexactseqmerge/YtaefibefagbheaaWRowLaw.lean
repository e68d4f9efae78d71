/- Proved here: a row whose memory lies apart from what is written is kept; no condition. -/
import Derived.Test.YtaefibefagbheaaWSeqRow
namespace Go.Proofs.Ytaefibefagbheaa
set_option linter.unusedVariables false
open Go.ChangeShapes Go.WideShapes Go.ChangeAt Go.RowKit

/-- a row's block lies between two numbers -/
def InB (a : Option Addr) (lo hi : Nat) : Prop := ∀ x, blk a = some x → lo ≤ x ∧ x < hi

theorem InB.ne {a c : Option Addr} {l h l' h' : Nat} (ha : InB a l h) (hc : InB c l' h') (hd : h ≤ l' ∨ h' ≤ l) {x : Nat} (hx : blk a = some x) : blk a ≠ blk c := fun e => by
  have := ha x hx
  have := hc x (e ▸ hx)
  omega

theorem PtsAt.apart {w w' : World} {a c : Option Addr} {ps : List (Int × Int)} {l h l' h' : Nat} (hp : PtsAt w a ps) (hg : w.grownBy w' (blk c)) (ha : InB a l h) (hc : InB c l' h') (hd : h ≤ l' ∨ h' ≤ l) : PtsAt w' a ps := by
  by_cases h0 : 0 < ps.length
  · obtain ⟨b, off, rfl, _⟩ := hp 0 h0
    exact hp.grown hg (.inr (ha.ne hc hd rfl))
  · exact hp.grown hg (.inl (by omega))

theorem Soft.apart {w w' : World} {a c : Option Addr} {ps : List (Int × Int)} {l h l' h' : Nat} (hs : Soft w a ps.length) (hp : PtsAt w a ps) (hg : w.grownBy w' (blk c)) (ha : InB a l h) (hc : InB c l' h') (hd : h ≤ l' ∨ h' ≤ l) : Soft w' a ps.length := by
  intro i hi b off e
  obtain ⟨b', off', e', hlt, _⟩ := hp i hi
  obtain ⟨rfl, rfl⟩ : b = b' ∧ off = off' := by rw [e] at e'; simpa using e'
  subst e
  have hne : some b ≠ blk c := ha.ne hc hd (x := b) rfl
  obtain ⟨h1, h2⟩ := hs i hi b off rfl
  exact ⟨(hg.frozen_far ⟨b, _, none⟩ hlt hne).trans h1, (hg.frozen_far ⟨b, _, none⟩ hlt hne).trans h2⟩

theorem zp_bd {a b : List (Int × Int)} : (zp (pairsOf a b)).length ≤ 1048576 := by
  rw [zp_len]
  unfold pairsOf
  split
  · next h =>
    rw [prs_len]
    have := lcs_le a b
    have := fewB_two h
    omega
  · simp
end Go.Proofs.Ytaefibefagbheaa
