/- Proved here: the program asks for the place of a version as the plain definition says; lists of at most 1,048,576. -/
import Derived.Test.YtdchfologicbeaaGreatWRepoOkS
import Derived.Test.YtdchfologicbeaaGreatWSheetOkI
import Derived.Deep.RegionHeld3
import Derived.Deep.DeepCutAuto
namespace Go.Proofs.YtdchfologicbeaaGreat
set_option linter.unusedVariables false
open Go.ChangeShapes Go.WideShapes Go.ChangeAt Go.RowKit

theorem isPlace_any (x n : Int) (w : World) :
    Calls Tryz.prog 123 #[.int .i64 x, .int .i64 n] w fun e w' => e = .returned (.bool (decide (0 ≤ x ∧ x < n))) ∧ w' = w := by
  by_cases h1 : 0 ≤ x
  · by_cases h2 : x < n
    · go_enter Tryz.func123, Tryz.ntmps123
      go_wp2
      go_ret
      exact ⟨by simp [h1, h2], rfl⟩
    · go_enter Tryz.func123, Tryz.ntmps123
      go_wp2
      go_ret
      exact ⟨by simp [h2], rfl⟩
  · go_enter Tryz.func123, Tryz.ntmps123
    go_wp2
    go_ret
    exact ⟨by simp; omega, rfl⟩

set_option maxRecDepth 100000 in
set_option maxHeartbeats 4000000 in
theorem commitPlace1_any (cp d : Cm) (b : Nat) (ua' sa' : Option Addr) (uc' sc' : Nat) (ua sa : Option Addr) (uc sc : Nat) (w : World) (hb : b < w.heap.size)
    (hc : BK w b #[.slice ua cp.1.length uc, .slice sa cp.2.1.length sc, .string cp.2.2] 132) (hi : IntsAt w ua cp.1) (hf : FeatsAt w sa cp.2.1) (hi' : IntsAt w ua' d.1) (hf' : FeatsAt w sa' d.2.1) (hl : CmLen cp 1048576) (hl' : CmLen d 1048576) :
    Calls Tryz.prog 203 #[.agg #[.slice ua' d.1.length uc', .slice sa' d.2.1.length sc', .string d.2.2], .pointer (some ⟨b, 0, none⟩)] w fun e w' => e = .returned (.bool (cmEq cp d)) ∧ Below w.heap.size w w' := by
  have HI := Lib.hid hi
  have HF := Lib.hid hf
  have HI' := Lib.hid hi'
  have HF' := Lib.hid hf'
  have A1 : Hid (∀ o n, Below w.heap.size w ((w.alloc o).drewN n)) := fun o n => below_drewN ((Below.refl _ _).alloc (Nat.le_refl _) _) n
  have q0 := hc.cell 0 rfl
  have q1 := hc.cell 1 rfl
  have q2 := hc.cell 2 rfl
  clear hi hf hi' hf' hc
  go_enter Tryz.func203, Tryz.ntmps203
  go_wp2_with fail
  refine (commitSame_any _ _ _ _ _ _ _ _ _ _ _ (HI.out.below (A1.out _ 0)) (HF.out.below (A1.out _ 0)) (HI'.out.below (A1.out _ 0)) (HF'.out.below (A1.out _ 0)) hl hl').mono ?_
  rintro e w1 ⟨rfl, hb1⟩
  have B1 : Hid (Below w.heap.size w w1) := (A1.out _ 0).trans (hb1.mono (by simp))
  clear hb1 q0 q1 q2
  go_wp2
  go_ret
  exact ⟨rfl, B1.out⟩

set_option maxRecDepth 100000 in
set_option maxHeartbeats 4000000 in
theorem indexFuncC_any (a : Option Addr) (cap : Nat) (cs : List Cm) (c : Cm) (b : Nat) (ua sa : Option Addr) (uc sc : Nat) (w : World) (hb : b < w.heap.size)
    (hc : BK w b #[.slice ua c.1.length uc, .slice sa c.2.1.length sc, .string c.2.2] 132) (hi : IntsAt w ua c.1) (hf : FeatsAt w sa c.2.1) (hcs : CommitsAt w a cs) (hl : cs.length ≤ 1048576) (hL : CmsLen cs 1048576) (hcl : CmLen c 1048576) :
    Calls Tryz.prog 202 #[.slice a cs.length cap, .func (Fn.func 203) #[] #[.pointer (some ⟨b, 0, none⟩)]] w fun e w' => (∃ r, e = .returned (.int .i64 r) ∧ FirstCm cs c r) ∧ Below w.heap.size w w' := by
  have HC := Lib.hid hcs
  have HL := Lib.hid hL
  have HI := Lib.hid hi
  have HF := Lib.hid hf
  have HCL := Lib.hid hcl
  have HK := Lib.hid hc
  clear hcs hL hi hf hcl hc
  go_enter Tryz.func202, Tryz.ntmps202
  go_wp2
  go_loopw [5, 8] (fun _ i wr => ∃ k : Nat, k ≤ cs.length ∧ i = .int .i64 k ∧ Below w.heap.size w wr ∧ ∀ j, j < k → mg cs j ≠ c) (fun _ i _ => cs.length - (intOf i).toNat)
  case atStart => exact ⟨0, Nat.zero_le _, rfl, Below.refl _ _, fun j h => absurd h (Nat.not_lt_zero _)⟩
  case round =>
    obtain ⟨k, hk, rfl, hbel, hall⟩ := hrel
    have HA := Lib.hid hall
    have HB := Lib.hid hbel
    have hsz := hbel.size
    clear hall
    by_cases hlt : k < cs.length
    · obtain ⟨b', off, ua', uc', sa', sc', e', hx⟩ := HC.out k hlt
      obtain ⟨zb, c0, c1, c2, hii, hff⟩ := hx.below hbel
      have D1 := Lib.hid hii
      have D2 := Lib.hid hff
      clear hbel hii hff hx
      subst e'
      go_wp2_with fail
      clear c0 c1 c2
      refine (commitPlace1_any c (mg cs k) b _ _ _ _ _ _ _ _ _ (by omega) (HK.out.later HB.out) (HI.out.below HB.out) (HF.out.below HB.out) D1.out D2.out HCL.out (HL.out k hlt)).mono ?_
      rintro e w1 ⟨rfl, hb1⟩
      have B1 : Hid (Below w.heap.size w w1) := HB.out.trans (hb1.mono hsz)
      clear hb1
      by_cases h : c = mg cs k
      · rw [show cmEq c (mg cs k) = true from cmEq_iff.2 h]
        have HG : Hid (FirstCm cs c k) := .inr ⟨k, rfl, hlt, h.symm, HA.out⟩
        clear h
        go_wp2
        go_ret
        exact ⟨⟨_, rfl, HG.out⟩, B1.out⟩
      · rw [show cmEq c (mg cs k) = false from cmEq_no h]
        have HG := Lib.hid h
        clear h
        go_wp2
        go_roundw
        case rel => exact ⟨k + 1, by omega, by go_num, B1.out, fun j hj => by by_cases e : j = k; (subst e; exact fun h => HG.out h.symm); exact HA.out j (by omega)⟩
        case measure => simp [intOf]; omega
    · obtain rfl : k = cs.length := by omega
      clear hbel
      go_wp2
      go_ret
      exact ⟨⟨_, rfl, .inl ⟨rfl, HA.out⟩⟩, HB.out⟩

set_option maxRecDepth 100000 in
set_option maxHeartbeats 4000000 in
theorem commitPlace_any (a : Option Addr) (cap : Nat) (cs : List Cm) (c : Cm) (ua sa : Option Addr) (uc sc : Nat) (w : World)
    (hi : IntsAt w ua c.1) (hf : FeatsAt w sa c.2.1) (hcs : CommitsAt w a cs) (hl : cs.length ≤ 1048576) (hL : CmsLen cs 1048576) (hcl : CmLen c 1048576) :
    Calls Tryz.prog 168 #[.slice a cs.length cap, .agg #[.slice ua c.1.length uc, .slice sa c.2.1.length sc, .string c.2.2]] w fun e w' => (∃ r, e = .returned (.int .i64 r) ∧ FirstCm cs c r) ∧ Below w.heap.size w w' := by
  have HC := Lib.hid hcs
  have HI := Lib.hid hi
  have HF := Lib.hid hf
  have HL := Lib.hid hL
  have HCL := Lib.hid hcl
  clear hcs hi hf hL hcl
  have A1 : Hid (∀ o, Below w.heap.size w (w.alloc o)) := fun o => (Below.refl _ _).alloc (Nat.le_refl _) _
  go_enter Tryz.func168, Tryz.ntmps168
  go_wp2_with fail
  refine (indexFuncC_any _ _ cs c w.heap.size ua sa uc sc _ (by simp) (BK.new _ _ _) (HI.out.below (A1.out _)) (HF.out.below (A1.out _)) (HC.out.below (A1.out _)) hl HL.out HCL.out).mono ?_
  rintro e w1 ⟨⟨r, rfl, hr⟩, hb1⟩
  have B1 : Hid (Below w.heap.size w w1) := (A1.out _).trans (hb1.mono (by simp))
  have R := Lib.hid hr
  clear hb1 hr
  go_wp2
  go_ret
  exact ⟨⟨_, rfl, R.out⟩, B1.out⟩
end Go.Proofs.YtdchfologicbeaaGreat
