/- Proved here: the draw of a row of points is a row in memory of its own, no point far off, and turns nothing but the reader's place; codes of at most 2,000 bytes. -/
import Derived.Test.YtaefibefagbheaaWSeqLay
import Derived.Deep.RegionHeld3
import Derived.Deep.DeepCutAuto
import Derived.Deep.CutBlock
import Derived.Deep.QuietTactic
namespace Go.Proofs.Ytaefibefagbheaa
set_option linter.unusedVariables false
open Go.ChangeShapes Go.WideShapes Go.ChangeAt Go.RowKit

set_option maxRecDepth 100000 in
set_option maxHeartbeats 1000000 in
theorem l5Seq_any (R : Nat) (a : Option Addr) (len cap : Nat) (p : Int) (most : Nat) (w : World) (h : Rd w R a len cap p) (hp : p ≤ 80000) (hl : len ≤ 2000) (hm : most ≤ 20) :
    Calls Try.prog 39 #[.pointer (some ⟨R, 0, none⟩), .int .i64 (most : Int)] w (RowDrawn w R a len cap p most 41) := by
  have HR := Lib.hid h
  have hRlt := h.lt
  have HC : Hid (CodeLt a len w.heap.size) := h.codeBelow
  clear h
  have e1 : IntKind.i64.wrap ((most : Int) + 1) = (most : Int) + 1 := IntWalk.i64_in _ (by omega)
  go_enter Try.func39, Try.ntmps39
  go_wp2_with fail
  refine (pick_any _ _ _ _ _ _ _ (HR.out.alloc _) (by omega) hl (by omega) (by omega)).mono ?_
  rintro e w1 ⟨x, rfl, hx0, hx1, hr, hg, hs⟩
  obtain ⟨X, rfl⟩ : ∃ X : Nat, x = (X : Int) := ⟨x.toNat, by omega⟩
  have hX : X ≤ most := by omega
  have L0 : Hid (LayR w R [] w1 (.slice (some ⟨w.heap.size, 0, none⟩) 0 0)) := (LayR.lit (World.grownBy.refl w (some R)) hRlt).read hg
  have R0 := Lib.hid hr
  clear hr hg hs hx0 hx1 e1
  go_wp2
  go_loopw [5, 6] (fun v i wr => ∃ (j : Nat) (qs : List (Int × Int)) (p' : Int), j + qs.length = X ∧ i = .int .i64 j ∧ LayR w R qs wr v ∧ Near qs ∧ Rd wr R a len cap p' ∧ p' ≤ p + 1 + 2 * (qs.length : Int)) (fun _ i _ => (intOf i).toNat)
  case atStart => exact ⟨X, [], p + 1, by simp, rfl, L0.out, Near.nil, R0.out, by simp⟩
  case round =>
    obtain ⟨j, qs, p', hj, rfl, hL, hN, hr, hp'⟩ := hrel
    have HL := Lib.hid hL
    have HR1 := Lib.hid hr
    have HN := Lib.hid hN
    clear hL hr hN
    by_cases h0 : 0 < j
    · go_wp2_with fail
      refine (pick_any _ _ _ _ _ _ _ HR1.out (by omega) hl (by omega) (by omega)).mono ?_
      rintro e w2 ⟨x, rfl, hx0, hx1, hr, hg, hs⟩
      have HL2 := Lib.hid (HL.out.read hg)
      have HR2 := Lib.hid hr
      clear hr hg hs HL HR1
      go_wp2_with fail
      refine (pick_any _ _ _ _ _ _ _ HR2.out (by omega) hl (by omega) (by omega)).mono ?_
      rintro e w3 ⟨y, rfl, hy0, hy1, hr, hg, hs⟩
      have HL3 := Lib.hid (HL2.out.read hg)
      have HR3 := Lib.hid hr
      clear hr hg hs HL2 HR2
      go_wp2_with (at_builtin; refine wpList_layr (by rfl) _ _ (by rfl) (HL3.out.alloc _) (pts_one w3 x y 32) (by rfl) (by rfl) rfl (by simp; omega) ?_; intro r av cv W hr2 hL4 hG4 hA4)
      have HR4 : Hid (Rd W R a len cap (p' + 1 + 1)) := (HR3.out.alloc _).past hG4.out hRlt HC.out fun k e => (HL3.out.far e).1
      have hrl : r.length = qs.length + 1 := by rw [hr2.out]; simp
      have HN4 : Hid (Near r) := by rw [hr2.out]; exact HN.out.app (Near.one (by omega))
      clear HL3 HR3 hr2 hG4 hA4 HN
      go_wp2
      go_roundw
      case rel => exact ⟨j - 1, r, _, by omega, by go_num, hL4.out, HN4.out, HR4.out, by omega⟩
      case measure => simp [intOf]; omega
    · obtain ⟨av, cv, rfl, _, _, _⟩ := HL.out.form
      go_wp2
      go_ret
      exact ⟨av, cv, qs, p', rfl, HL.out, by omega, HN.out, HR1.out, by omega⟩
end Go.Proofs.Ytaefibefagbheaa
