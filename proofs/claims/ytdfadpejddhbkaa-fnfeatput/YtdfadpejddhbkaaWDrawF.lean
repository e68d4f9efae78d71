/- Proved here: the draws of a name, a key and a value are short texts, and turn nothing but the reader's place; codes of at most 2,000 bytes. -/
import Derived.Test.YtdfadpejddhbkaaWDrawPt
import Derived.Test.YtdfadpejddhbkaaWTag
namespace Go.Proofs.Ytdfadpejddhbkaa
set_option linter.unusedVariables false
open Go.ChangeShapes Go.WideShapes Go.ChangeAt Go.RowKit

/-- a list of short texts written out -/
def TextsAt (w : World) (L n : Nat) : Prop := ∀ i, i < n → ∃ z : ByteArray, w.cell? ⟨L, i, none⟩ = some (.string z) ∧ z.size ≤ 8

/-- what drawing a text leaves -/
def TextDrawn (w : World) (R : Nat) (a : Option Addr) (len cap : Nat) (p : Int) (e : Ending) (w' : World) : Prop :=
  ∃ s : ByteArray, e = .returned (.string s) ∧ s.size ≤ 8 ∧ Rd w' R a len cap (p + 1) ∧ w.grownBy w' (some R)

set_option maxRecDepth 100000 in
set_option maxHeartbeats 2000000 in
theorem of_any (R L n : Nat) (a : Option Addr) (len cap : Nat) (p : Int) (w : World) (h : Rd w R a len cap p) (hp : p ≤ 100000) (hl : len ≤ 2000) (hn : TextsAt w L n) (hne : L ≠ R) (h1 : 1 ≤ n) (h2 : n ≤ 100) :
    Calls Try.prog 56 #[.pointer (some ⟨R, 0, none⟩), .slice (some ⟨L, 0, none⟩) n n] w (TextDrawn w R a len cap p) := by
  have HR := Lib.hid h
  have HNS := Lib.hid hn
  clear h hn
  go_enter Try.func56, Try.ntmps56
  go_wp2_with fail
  refine (pick_any _ _ _ _ _ _ _ HR.out hp hl (by omega) (by omega)).mono ?_
  rintro e w1 ⟨x, rfl, hx0, hx1, hr, hg, hs⟩
  obtain ⟨X, rfl⟩ : ∃ X : Nat, x = (X : Int) := ⟨x.toNat, by omega⟩
  obtain ⟨z, hz, hz1⟩ := HNS.out X (by omega)
  have hz' : w1.cell? ⟨L, X, none⟩ = some (.string z) := (hg.cell_far _ (World.block_lt_of_cell? _ _ hz) (by simpa using hne)).trans hz
  have HP : Hid (Rd w1 R a len cap (p + 1) ∧ w.grownBy w1 (some R)) := ⟨hr, hg⟩
  clear hr hg hs hz
  go_wp2
  go_ret
  exact ⟨z, rfl, hz1, HP.out⟩


set_option maxRecDepth 100000 in
set_option maxHeartbeats 2000000 in
theorem l2Id_any (R : Nat) (a : Option Addr) (len cap : Nat) (p : Int) (w : World) (h : Rd w R a len cap p) (hp : p ≤ 100000) (hl : len ≤ 2000) :
    Calls Try.prog 69 #[.pointer (some ⟨R, 0, none⟩)] w (TextDrawn w R a len cap p) := by
  have HR := Lib.hid h
  have hRlt := h.lt
  clear h
  go_enter Try.func69, Try.ntmps69
  go_wp2_with fail
  refine (of_any _ _ 5 _ _ _ _ _ (HR.out.alloc _) (by omega) hl (fun i hi => ?_) (by omega) (by omega) (by omega)).mono ?_
  · have : i = 0 ∨ i = 1 ∨ i = 2 ∨ i = 3 ∨ i = 4 := by omega
    rcases this with rfl | rfl | rfl | rfl | rfl
    · exact ⟨⟨#[97]⟩, by simp [go_sem], by decide⟩
    · exact ⟨⟨#[98]⟩, by simp [go_sem], by decide⟩
    · exact ⟨⟨#[99]⟩, by simp [go_sem], by decide⟩
    · exact ⟨⟨#[100]⟩, by simp [go_sem], by decide⟩
    · exact ⟨⟨#[101]⟩, by simp [go_sem], by decide⟩
  rintro e w1 ⟨s, rfl, hs, hr, hg⟩
  have HP : Hid (Rd w1 R a len cap (p + 1) ∧ w.grownBy w1 (some R)) := ⟨hr, (World.grownBy_alloc w _ _).trans hg⟩
  clear hr hg
  go_wp2
  go_ret
  exact ⟨s, rfl, hs, HP.out⟩


set_option maxRecDepth 100000 in
set_option maxHeartbeats 2000000 in
theorem l2Key_any (R : Nat) (a : Option Addr) (len cap : Nat) (p : Int) (w : World) (h : Rd w R a len cap p) (hp : p ≤ 100000) (hl : len ≤ 2000) :
    Calls Try.prog 64 #[.pointer (some ⟨R, 0, none⟩)] w (TextDrawn w R a len cap p) := by
  have HR := Lib.hid h
  have hRlt := h.lt
  clear h
  go_enter Try.func64, Try.ntmps64
  go_wp2_with fail
  refine (of_any _ _ 4 _ _ _ _ _ (HR.out.alloc _) (by omega) hl (fun i hi => ?_) (by omega) (by omega) (by omega)).mono ?_
  · have : i = 0 ∨ i = 1 ∨ i = 2 ∨ i = 3 := by omega
    rcases this with rfl | rfl | rfl | rfl
    · exact ⟨⟨#[110, 97, 109, 101]⟩, by simp [go_sem], by decide⟩
    · exact ⟨⟨#[107, 105, 110, 100]⟩, by simp [go_sem], by decide⟩
    · exact ⟨⟨#[117, 115, 101]⟩, by simp [go_sem], by decide⟩
    · exact ⟨⟨#[116, 111, 110, 101]⟩, by simp [go_sem], by decide⟩
  rintro e w1 ⟨s, rfl, hs, hr, hg⟩
  have HP : Hid (Rd w1 R a len cap (p + 1) ∧ w.grownBy w1 (some R)) := ⟨hr, (World.grownBy_alloc w _ _).trans hg⟩
  clear hr hg
  go_wp2
  go_ret
  exact ⟨s, rfl, hs, HP.out⟩


set_option maxRecDepth 100000 in
set_option maxHeartbeats 2000000 in
theorem l2Val_any (R : Nat) (a : Option Addr) (len cap : Nat) (p : Int) (w : World) (h : Rd w R a len cap p) (hp : p ≤ 100000) (hl : len ≤ 2000) :
    Calls Try.prog 75 #[.pointer (some ⟨R, 0, none⟩)] w (TextDrawn w R a len cap p) := by
  have HR := Lib.hid h
  have hRlt := h.lt
  clear h
  go_enter Try.func75, Try.ntmps75
  go_wp2_with fail
  refine (of_any _ _ 5 _ _ _ _ _ (HR.out.alloc _) (by omega) hl (fun i hi => ?_) (by omega) (by omega) (by omega)).mono ?_
  · have : i = 0 ∨ i = 1 ∨ i = 2 ∨ i = 3 ∨ i = 4 := by omega
    rcases this with rfl | rfl | rfl | rfl | rfl
    · exact ⟨⟨#[97]⟩, by simp [go_sem], by decide⟩
    · exact ⟨⟨#[98]⟩, by simp [go_sem], by decide⟩
    · exact ⟨⟨#[111, 97, 107]⟩, by simp [go_sem], by decide⟩
    · exact ⟨⟨#[97, 115, 104]⟩, by simp [go_sem], by decide⟩
    · exact ⟨⟨#[114, 111, 97, 100]⟩, by simp [go_sem], by decide⟩
  rintro e w1 ⟨s, rfl, hs, hr, hg⟩
  have HP : Hid (Rd w1 R a len cap (p + 1) ∧ w.grownBy w1 (some R)) := ⟨hr, (World.grownBy_alloc w _ _).trans hg⟩
  clear hr hg
  go_wp2
  go_ret
  exact ⟨s, rfl, hs, HP.out⟩

end Go.Proofs.Ytdfadpejddhbkaa
