/- Proved here: the program's ShapeArea and the model's both answer the plain sum 'shapeArea'; rows of at most 1,048,576 points. -/
import Derived.Test.YtdfadpejddhbkaaWImplOk
import Derived.Test.YtdfadpejddhbkaaWSpecOk
import Derived.Deep.RegionHeld3
namespace Go.Proofs.Ytdfadpejddhbkaa
set_option linter.unusedVariables false
open Go.ChangeShapes Go.WideShapes Go.ChangeAt Go.RowKit

/-- the place behind a place, round -/
def nxt (n i : Nat) : Nat := if i + 1 < n then i + 1 else 0
def term (ps : List (Int × Int)) (i : Nat) : Int := px ps i * py ps (nxt ps.length i) - px ps (nxt ps.length i) * py ps i
def areaTo (ps : List (Int × Int)) : Nat → Int
  | 0 => 0
  | n + 1 => areaTo ps n + term ps n
def shapeArea (k : Int) (ps : List (Int × Int)) : Int := if shapeOk k ps = true ∧ k = 3 then areaTo ps ps.length else 0

theorem mul_bd {x y : Int} (h1 : -1000 ≤ x) (h2 : x ≤ 1000) (h3 : -1000 ≤ y) (h4 : y ≤ 1000) : -1000000 ≤ x * y ∧ x * y ≤ 1000000 := by
  have hx : x.natAbs ≤ 1000 := by omega
  have hy : y.natAbs ≤ 1000 := by omega
  have := Nat.mul_le_mul hx hy
  rw [← Int.natAbs_mul] at this
  omega

theorem inR_bd {n : Int} (h : inR n = true) : -1000 ≤ n ∧ n ≤ 1000 := by
  simpa [inR] using h

theorem good_bd {ps : List (Int × Int)} (h : ptsGood ps = true) {i : Nat} (hi : i < ps.length) : (-1000 ≤ px ps i ∧ px ps i ≤ 1000) ∧ (-1000 ≤ py ps i ∧ py ps i ≤ 1000) := by
  have := ptsGood_at h hi
  unfold ptGood at this
  simp only [Bool.and_eq_true] at this
  exact ⟨inR_bd this.1.1, inR_bd this.1.2⟩

theorem nxt_lt {n i : Nat} (h : i < n) : nxt n i < n := by unfold nxt; split <;> omega

theorem areaTo_bd {ps : List (Int × Int)} (h : ptsGood ps = true) : ∀ n, n ≤ ps.length → -2000000 * (n : Int) ≤ areaTo ps n ∧ areaTo ps n ≤ 2000000 * (n : Int)
  | 0, _ => by simp [areaTo]
  | n + 1, hn => by
    have ih := areaTo_bd h n (by omega)
    have g1 := good_bd h (i := n) (by omega)
    have g2 := good_bd h (i := nxt ps.length n) (nxt_lt (by omega))
    have m1 := mul_bd g1.1.1 g1.1.2 g2.2.1 g2.2.2
    have m2 := mul_bd g2.1.1 g2.1.2 g1.2.1 g1.2.2
    simp only [areaTo, term]
    omega

theorem shapeOk_parts {k : Int} {ps : List (Int × Int)} (h : shapeOk k ps = true) : ps.length ≤ 6 ∧ kindHolds k ps = true ∧ ptsGood ps = true := by
  unfold shapeOk at h
  simp only [Bool.and_eq_true, decide_eq_true_eq] at h
  exact ⟨h.1.1, h.1.2, h.2⟩

set_option maxHeartbeats 1000000 in
theorem area_ring (a : Option Addr) (cap : Nat) (ps : List (Int × Int)) (w : World) (hp : PtsAt w a ps) (hl : ps.length ≤ 6) (hg : ptsGood ps = true) :
    Calls Try.prog 126 #[.agg #[], .slice a ps.length cap] w fun e w' => e = .returned (.int .i64 (areaTo ps ps.length)) ∧ Below w.heap.size w w' := by
  have HP := Lib.hid hp
  have HG := Lib.hid hg
  clear hp hg
  go_enter Try.func126, Try.ntmps126
  go_wp2
  go_loopw [5, 6, 7, 8, 11] (fun s _ _ _ i wr => ∃ k : Nat, k ≤ ps.length ∧ i = .int .i64 k ∧ s = .int .i64 (areaTo ps k) ∧ Below w.heap.size w wr) (fun _ _ _ _ i _ => ps.length - (intOf i).toNat)
  case atStart => exact ⟨0, Nat.zero_le _, rfl, rfl, (Below.refl _ _).alloc (Nat.le_refl _) _⟩
  case round =>
    obtain ⟨k, hk, rfl, rfl, hbel⟩ := hrel
    have HB := Lib.hid hbel
    have hsz := hbel.size
    by_cases hlt : k < ps.length
    · obtain ⟨b, off, rfl, hb, hc1, hc2⟩ := HP.out k hlt
      obtain ⟨b', off', he, _, hd1, hd2⟩ := HP.out (nxt ps.length k) (nxt_lt hlt)
      obtain ⟨rfl, rfl⟩ : b = b' ∧ off = off' := by simpa using he
      clear he
      rw [← hbel.cell (p := ⟨b, _, none⟩) hb] at hc1 hc2 hd1 hd2
      have hlt2 : b < wr.heap.size := by omega
      have bd := areaTo_bd HG.out k (by omega)
      have g1 := good_bd HG.out (i := k) (by omega)
      have g2 := good_bd HG.out (i := nxt ps.length k) (nxt_lt hlt)
      have m1 := mul_bd g1.1.1 g1.1.2 g2.2.1 g2.2.2
      have m2 := mul_bd g2.1.1 g2.1.2 g1.2.1 g1.2.2
      have HS : Hid (areaTo ps (k + 1) = areaTo ps k + (px ps k * py ps (nxt ps.length k) - px ps (nxt ps.length k) * py ps k)) := rfl
      obtain ⟨bd1, bd2⟩ := bd
      obtain ⟨m11, m12⟩ := m1
      obtain ⟨m21, m22⟩ := m2
      clear g1 g2 hbel
      by_cases hn : k + 1 < ps.length
      · have e1 : nxt ps.length k = k + 1 := by simp [nxt, hn]
        rw [e1] at hd1 hd2 HS m11 m12 m21 m22
        have hmod : ((k : Int) + 1) % (ps.length : Int) = (k : Int) + 1 := Int.emod_eq_of_lt (by omega) (by omega)
        clear e1
        go_wp2
        go_roundw
        case rel => exact ⟨k + 1, by omega, by go_num, by rw [HS.out], (HB.out.alloc hsz _).alloc (by simp; omega) _⟩
        case measure => simp [intOf]; omega
      · have e1 : nxt ps.length k = 0 := by simp [nxt, hn]
        rw [e1] at hd1 hd2 HS m11 m12 m21 m22
        simp only [Nat.zero_mul, Nat.add_zero] at hd1 hd2
        have hmod : ((k : Int) + 1) % (ps.length : Int) = 0 := by rw [show (ps.length : Int) = (k : Int) + 1 by omega]; exact Int.emod_self
        have hpos : (0 : Int) < (ps.length : Int) := by omega
        clear e1
        go_wp2
        go_roundw
        case rel => exact ⟨k + 1, by omega, by go_num, by rw [HS.out], (HB.out.alloc hsz _).alloc (by simp; omega) _⟩
        case measure => simp [intOf]; omega
    · obtain rfl : k = ps.length := by omega
      clear hbel
      go_wp2
      go_ret
      exact ⟨rfl, HB.out⟩

theorem m_area_dot (w : World) : (method 255 105 (.agg #[]) "loop.example/townland/impl.area").run Try.prog w = .ok (116, .agg #[]) w := by kernel_rfl
theorem m_area_line (w : World) : (method 255 106 (.agg #[]) "loop.example/townland/impl.area").run Try.prog w = .ok (121, .agg #[]) w := by kernel_rfl
theorem m_area_ring (w : World) : (method 255 107 (.agg #[]) "loop.example/townland/impl.area").run Try.prog w = .ok (126, .agg #[]) w := by kernel_rfl

theorem area_dot (a : Option Addr) (n cap : Nat) (w : World) : Calls Try.prog 116 #[.agg #[], .slice a n cap] w fun e w' => e = .returned (.int .i64 0) ∧ Below w.heap.size w w' := by
  go_enter Try.func116, Try.ntmps116
  go_wp2
  go_ret
  exact ⟨rfl, (Below.refl _ _).alloc (Nat.le_refl _) _⟩

theorem area_line (a : Option Addr) (n cap : Nat) (w : World) : Calls Try.prog 121 #[.agg #[], .slice a n cap] w fun e w' => e = .returned (.int .i64 0) ∧ Below w.heap.size w w' := by
  go_enter Try.func121, Try.ntmps121
  go_wp2
  go_ret
  exact ⟨rfl, (Below.refl _ _).alloc (Nat.le_refl _) _⟩

theorem kind_cases {k : Int} {ps : List (Int × Int)} (h : shapeOk k ps = true) : k = 1 ∨ k = 2 ∨ k = 3 := by
  have := (shapeOk_parts h).2.1
  unfold kindHolds at this
  by_cases h1 : k = 1
  · exact .inl h1
  · by_cases h2 : k = 2
    · exact .inr (.inl h2)
    · by_cases h3 : k = 3
      · exact .inr (.inr h3)
      · simp [h1, h2, h3] at this

set_option maxHeartbeats 1000000 in
theorem implShapeArea_any (k : Int) (a : Option Addr) (cap : Nat) (ps : List (Int × Int)) (w : World) (hp : PtsAt w a ps) :
    Calls Try.prog 13 #[.agg #[.int .i64 k, .slice a ps.length cap]] w fun e w' => e = .returned (.int .i64 (shapeArea k ps)) ∧ Below w.heap.size w w' := by
  have HP := Lib.hid hp
  clear hp
  have m1 := m_area_dot
  have m2 := m_area_line
  have m3 := m_area_ring
  by_cases hok : shapeOk k ps = true
  · have parts := shapeOk_parts hok
    have HL := Lib.hid parts.1
    have HG := Lib.hid parts.2.2
    clear parts
    rcases kind_cases hok with rfl | rfl | rfl
    · have HV : Hid (okKind 1 ps = .iface 105 (.agg #[])) := by simp [Hid, okKind, hok, kindVal]
      have HS : Hid (shapeArea 1 ps = 0) := by simp [Hid, shapeArea]
      go_enter Try.func13, Try.ntmps13
      go_wp2_with fail
      refine (kindOfOk_any _ _ _ _ _ (HP.out.below ((Below.refl _ _).alloc (Nat.le_refl _) _))).mono ?_
      rintro e w1 ⟨rfl, hb1⟩
      rw [HV.out]
      have c1 := cell_later hb1 (a := ⟨w.heap.size, 1, none⟩) (v := .slice a ps.length cap) (by simp [go_sem])
      have B1 : Hid (Below w.heap.size w w1) := ((Below.refl _ _).alloc (Nat.le_refl _) _).trans (hb1.mono (by simp))
      clear hb1
      go_wp2_with fail
      refine (area_dot _ _ _ _).mono ?_
      rintro e w2 ⟨rfl, hb2⟩
      have B2 : Hid (Below w.heap.size w w2) := B1.out.trans (hb2.mono B1.out.size)
      clear hb2
      go_wp2
      go_ret
      exact ⟨by rw [HS.out]; rfl, B2.out⟩
    · have HV : Hid (okKind 2 ps = .iface 106 (.agg #[])) := by simp [Hid, okKind, hok, kindVal]
      have HS : Hid (shapeArea 2 ps = 0) := by simp [Hid, shapeArea]
      go_enter Try.func13, Try.ntmps13
      go_wp2_with fail
      refine (kindOfOk_any _ _ _ _ _ (HP.out.below ((Below.refl _ _).alloc (Nat.le_refl _) _))).mono ?_
      rintro e w1 ⟨rfl, hb1⟩
      rw [HV.out]
      have c1 := cell_later hb1 (a := ⟨w.heap.size, 1, none⟩) (v := .slice a ps.length cap) (by simp [go_sem])
      have B1 : Hid (Below w.heap.size w w1) := ((Below.refl _ _).alloc (Nat.le_refl _) _).trans (hb1.mono (by simp))
      clear hb1
      go_wp2_with fail
      refine (area_line _ _ _ _).mono ?_
      rintro e w2 ⟨rfl, hb2⟩
      have B2 : Hid (Below w.heap.size w w2) := B1.out.trans (hb2.mono B1.out.size)
      clear hb2
      go_wp2
      go_ret
      exact ⟨by rw [HS.out]; rfl, B2.out⟩
    · have HV : Hid (okKind 3 ps = .iface 107 (.agg #[])) := by simp [Hid, okKind, hok, kindVal]
      have HS : Hid (shapeArea 3 ps = areaTo ps ps.length) := by simp [Hid, shapeArea, hok]
      go_enter Try.func13, Try.ntmps13
      go_wp2_with fail
      refine (kindOfOk_any _ _ _ _ _ (HP.out.below ((Below.refl _ _).alloc (Nat.le_refl _) _))).mono ?_
      rintro e w1 ⟨rfl, hb1⟩
      rw [HV.out]
      have c1 := cell_later hb1 (a := ⟨w.heap.size, 1, none⟩) (v := .slice a ps.length cap) (by simp [go_sem])
      have B1 : Hid (Below w.heap.size w w1) := ((Below.refl _ _).alloc (Nat.le_refl _) _).trans (hb1.mono (by simp))
      clear hb1
      go_wp2_with fail
      refine (area_ring _ _ _ _ (HP.out.below B1.out) HL.out HG.out).mono ?_
      rintro e w2 ⟨rfl, hb2⟩
      have B2 : Hid (Below w.heap.size w w2) := B1.out.trans (hb2.mono B1.out.size)
      clear hb2
      go_wp2
      go_ret
      exact ⟨by rw [HS.out]; rfl, B2.out⟩
  · have hok' : shapeOk k ps = false := by simpa using hok
    have HS : Hid (shapeArea k ps = 0) := by simp [Hid, shapeArea, hok']
    clear hok
    go_enter Try.func13, Try.ntmps13
    go_wp2_with fail
    refine (kindOfOk_any _ _ _ _ _ (HP.out.below ((Below.refl _ _).alloc (Nat.le_refl _) _))).mono ?_
    rintro e w1 ⟨rfl, hb1⟩
    have B1 : Hid (Below w.heap.size w w1) := ((Below.refl _ _).alloc (Nat.le_refl _) _).trans (hb1.mono (by simp))
    clear hb1
    go_wp2
    go_ret
    exact ⟨by rw [HS.out]; rfl, B1.out⟩

set_option maxHeartbeats 1000000 in
theorem specShapeArea_yes (a : Option Addr) (cap : Nat) (ps : List (Int × Int)) (w : World) (hp : PtsAt w a ps) (hok : shapeOk 3 ps = true) :
    Calls Try.prog 14 #[.agg #[.int .i64 3, .slice a ps.length cap]] w fun e w' => e = .returned (.int .i64 (shapeArea 3 ps)) ∧ Below w.heap.size w w' := by
  have HP := Lib.hid hp
  clear hp
  have parts := shapeOk_parts hok
  have hl := parts.1
  have HG := Lib.hid parts.2.2
  have HS : Hid (shapeArea 3 ps = areaTo ps ps.length) := by simp [Hid, shapeArea, hok]
  clear parts
  go_enter Try.func14, Try.ntmps14
  go_wp2
  go_loopw [3, 4, 5, 6] (fun s i _ _ wr => ∃ k : Nat, k ≤ ps.length ∧ i = .int .i64 k ∧ s = .int .i64 (areaTo ps k) ∧ Below w.heap.size w wr ∧ wr.cell? ⟨w.heap.size, 0, none⟩ = some (.int .i64 3) ∧ wr.cell? ⟨w.heap.size, 1, none⟩ = some (.slice a ps.length cap)) (fun _ i _ _ _ => ps.length - (intOf i).toNat)
  case atStart => exact ⟨0, Nat.zero_le _, rfl, rfl, (Below.refl _ _).alloc (Nat.le_refl _) _, by simp [go_sem], by simp [go_sem]⟩
  case round =>
    obtain ⟨k, hk, rfl, rfl, hbel, c0, c1⟩ := hrel
    have HB := Lib.hid hbel
    clear hbel
    by_cases hlt : k < ps.length
    · go_wp2_with fail
      refine (specShapeOk_any _ _ _ _ _ (HP.out.below HB.out) (by omega)).mono ?_
      rintro e w1 ⟨rfl, hb1⟩
      replace c0 := cell_later hb1 c0
      replace c1 := cell_later hb1 c1
      have hbel := HB.out.trans (hb1.mono HB.out.size)
      clear HB hb1
      have HB := Lib.hid hbel
      have hsz := hbel.size
      obtain ⟨b, off, rfl, hb, hc1, hc2⟩ := HP.out k hlt
      obtain ⟨b', off', he, _, hd1, hd2⟩ := HP.out (nxt ps.length k) (nxt_lt hlt)
      obtain ⟨rfl, rfl⟩ : b = b' ∧ off = off' := by simpa using he
      clear he
      rw [← hbel.cell (p := ⟨b, _, none⟩) hb] at hc1 hc2 hd1 hd2
      have hlt2 : b < w1.heap.size := by omega
      have hlt3 : w.heap.size < w1.heap.size := World.block_lt_of_cell? _ _ c0
      have bd := areaTo_bd HG.out k (by omega)
      have g1 := good_bd HG.out (i := k) (by omega)
      have g2 := good_bd HG.out (i := nxt ps.length k) (nxt_lt hlt)
      have m1 := mul_bd g1.1.1 g1.1.2 g2.2.1 g2.2.2
      have m2 := mul_bd g2.1.1 g2.1.2 g1.2.1 g1.2.2
      have HS1 : Hid (areaTo ps (k + 1) = areaTo ps k + px ps k * py ps (nxt ps.length k) - px ps (nxt ps.length k) * py ps k) := by
        show areaTo ps k + term ps k = _
        unfold term
        omega
      obtain ⟨bd1, bd2⟩ := bd
      obtain ⟨m11, m12⟩ := m1
      obtain ⟨m21, m22⟩ := m2
      clear g1 g2 hbel
      have hwr : IntKind.i64.wrap ((k : Int) + 1) = (k : Int) + 1 := IntWalk.i64_in _ (by omega)
      by_cases hn : k + 1 < ps.length
      · have e1 : nxt ps.length k = k + 1 := by simp [nxt, hn]
        rw [e1] at hd1 hd2 HS1 m11 m12 m21 m22
        have hne : ¬ ps = [] := by rintro rfl; simp at hlt
        have hi0 : (0 : Int) ≤ (k : Int) + 1 := by omega
        have hi1 : (k : Int) + 1 < (ps.length : Int) := by omega
        have hi2 : ((k : Int) + 1).toNat = k + 1 := by omega
        have hmod : ((k : Int) + 1).tmod (ps.length : Int) = (k : Int) + 1 := by rw [Int.tmod_eq_emod_of_nonneg (by omega)]; exact Int.emod_eq_of_lt (by omega) (by omega)
        clear e1
        go_wp2
        have q1 : (w1.alloc (.cells #[.int .i64 (px ps k), .int .i64 (py ps k)] 32)).cell? ⟨w.heap.size, 1, none⟩ = some (.slice (some ⟨b, off, none⟩) ps.length cap) := by simp [go_sem, c1, hlt3]
        have q2 : (w1.alloc (.cells #[.int .i64 (px ps k), .int .i64 (py ps k)] 32)).cell? ⟨b, off + (k + 1) * 2, none⟩ = some (.int .i64 (px ps (k + 1))) := by simp [go_sem, hd1, hlt2]
        have q3 : (w1.alloc (.cells #[.int .i64 (px ps k), .int .i64 (py ps k)] 32)).cell? ⟨b, off + (k + 1) * 2 + 1, none⟩ = some (.int .i64 (py ps (k + 1))) := by simp [go_sem, hd2, hlt2]
        have q4 : (w1.alloc (.cells #[.int .i64 (px ps k), .int .i64 (py ps k)] 32)).cell? ⟨w1.heap.size, 0, none⟩ = some (.int .i64 (px ps k)) := by simp [go_sem]
        have q5 : (w1.alloc (.cells #[.int .i64 (px ps k), .int .i64 (py ps k)] 32)).cell? ⟨w1.heap.size, 1, none⟩ = some (.int .i64 (py ps k)) := by simp [go_sem]
        have q0 : (w1.alloc (.cells #[.int .i64 (px ps k), .int .i64 (py ps k)] 32)).cell? ⟨w.heap.size, 0, none⟩ = some (.int .i64 3) := by simp [go_sem, c0, hlt3]
        have HB2 := Lib.hid (HB.out.alloc hsz (.cells #[.int .i64 (px ps k), .int .i64 (py ps k)] 32))
        generalize (w1.alloc (.cells #[.int .i64 (px ps k), .int .i64 (py ps k)] 32)) = W2 at *
        clear c0 c1 hd1 hd2 hc1 hc2 HB
        have hsz2 := HB2.out.size
        have y1 : w1.heap.size < W2.heap.size := World.block_lt_of_cell? _ _ q4
        have y2 : w.heap.size < W2.heap.size := World.block_lt_of_cell? _ _ q1
        go_region_held3 (fun w' => w'.cell? ⟨w.heap.size, 1, none⟩ = some (.slice (some ⟨b, off, none⟩) ps.length cap) ∧ w'.cell? ⟨b, off + (k + 1) * 2, none⟩ = some (.int .i64 (px ps (k + 1))) ∧ w'.cell? ⟨b, off + (k + 1) * 2 + 1, none⟩ = some (.int .i64 (py ps (k + 1)))) (go_keep) (fail)
        go_wp2
        exact ⟨⟨k + 1, by omega, by go_num, by rw [HS1.out], (HB2.out.alloc hsz2 _).drew, by simp [go_sem, q0, y2], by simp [go_sem, q1, y2]⟩, by simp [intOf]; omega⟩
      · have e1 : nxt ps.length k = 0 := by simp [nxt, hn]
        rw [e1] at hd1 hd2 HS1 m11 m12 m21 m22
        simp only [Nat.zero_mul, Nat.add_zero] at hd1 hd2
        have hne : ¬ ps = [] := by rintro rfl; simp at hlt
        have hmod : ((k : Int) + 1).tmod (ps.length : Int) = 0 := by rw [show (ps.length : Int) = (k : Int) + 1 by omega]; exact Int.tmod_self
        have hpos : (0 : Int) < (ps.length : Int) := by omega
        have hposN : 0 < ps.length := by omega
        clear e1
        go_wp2
        have q1 : (w1.alloc (.cells #[.int .i64 (px ps k), .int .i64 (py ps k)] 32)).cell? ⟨w.heap.size, 1, none⟩ = some (.slice (some ⟨b, off, none⟩) ps.length cap) := by simp [go_sem, c1, hlt3]
        have q2 : (w1.alloc (.cells #[.int .i64 (px ps k), .int .i64 (py ps k)] 32)).cell? ⟨b, off, none⟩ = some (.int .i64 (px ps (0))) := by simp [go_sem, hd1, hlt2]
        have q3 : (w1.alloc (.cells #[.int .i64 (px ps k), .int .i64 (py ps k)] 32)).cell? ⟨b, off + 1, none⟩ = some (.int .i64 (py ps (0))) := by simp [go_sem, hd2, hlt2]
        have q4 : (w1.alloc (.cells #[.int .i64 (px ps k), .int .i64 (py ps k)] 32)).cell? ⟨w1.heap.size, 0, none⟩ = some (.int .i64 (px ps k)) := by simp [go_sem]
        have q5 : (w1.alloc (.cells #[.int .i64 (px ps k), .int .i64 (py ps k)] 32)).cell? ⟨w1.heap.size, 1, none⟩ = some (.int .i64 (py ps k)) := by simp [go_sem]
        have q0 : (w1.alloc (.cells #[.int .i64 (px ps k), .int .i64 (py ps k)] 32)).cell? ⟨w.heap.size, 0, none⟩ = some (.int .i64 3) := by simp [go_sem, c0, hlt3]
        have HB2 := Lib.hid (HB.out.alloc hsz (.cells #[.int .i64 (px ps k), .int .i64 (py ps k)] 32))
        generalize (w1.alloc (.cells #[.int .i64 (px ps k), .int .i64 (py ps k)] 32)) = W2 at *
        clear c0 c1 hd1 hd2 hc1 hc2 HB
        have hsz2 := HB2.out.size
        have y1 : w1.heap.size < W2.heap.size := World.block_lt_of_cell? _ _ q4
        have y2 : w.heap.size < W2.heap.size := World.block_lt_of_cell? _ _ q1
        go_region_held3 (fun w' => w'.cell? ⟨w.heap.size, 1, none⟩ = some (.slice (some ⟨b, off, none⟩) ps.length cap) ∧ w'.cell? ⟨b, off, none⟩ = some (.int .i64 (px ps (0))) ∧ w'.cell? ⟨b, off + 1, none⟩ = some (.int .i64 (py ps (0)))) (go_keep) (fail)
        go_wp2
        exact ⟨⟨k + 1, by omega, by go_num, by rw [HS1.out], (HB2.out.alloc hsz2 _).drew, by simp [go_sem, q0, y2], by simp [go_sem, q1, y2]⟩, by simp [intOf]; omega⟩
    · obtain rfl : k = ps.length := by omega
      go_wp2
      go_ret
      exact ⟨by rw [HS.out]; rfl, HB.out⟩

set_option maxHeartbeats 1000000 in
theorem specShapeArea_no (k : Int) (a : Option Addr) (cap : Nat) (ps : List (Int × Int)) (w : World) (hp : PtsAt w a ps) (hl : ps.length ≤ 1048576) (hno : shapeOk k ps = false ∨ (k == 3) = false) :
    Calls Try.prog 14 #[.agg #[.int .i64 k, .slice a ps.length cap]] w fun e w' => e = .returned (.int .i64 (shapeArea k ps)) ∧ Below w.heap.size w w' := by
  have HP := Lib.hid hp
  clear hp
  have HS : Hid (shapeArea k ps = 0) := by
    show _ = _
    unfold shapeArea
    rw [if_neg]
    rintro ⟨h1, rfl⟩
    rcases hno with h | h
    · rw [h] at h1; cases h1
    · simp at h
  by_cases h0 : 0 < ps.length
  · have h0' : (0 : Int) < (ps.length : Int) := by omega
    by_cases hok : shapeOk k ps = true
    · have hk : (k == 3) = false := by
        rcases hno with h | h
        · rw [h] at hok; cases hok
        · exact h
      clear hno
      go_enter Try.func14, Try.ntmps14
      go_wp2
      refine wp_loop_rounds 1 ?_
      rw [rounds_succ]
      go_wp2_with fail
      refine (specShapeOk_any _ _ _ _ _ (HP.out.below ((Below.refl _ _).alloc (Nat.le_refl _) _)) hl).mono ?_
      rintro e w1 ⟨rfl, hb1⟩
      have c0 := cell_later hb1 (a := ⟨w.heap.size, 0, none⟩) (v := .int .i64 k) (by simp [go_sem])
      have B1 : Hid (Below w.heap.size w w1) := ((Below.refl _ _).alloc (Nat.le_refl _) _).trans (hb1.mono (by simp))
      clear hb1
      go_wp2
      go_ret
      exact ⟨by rw [HS.out]; rfl, B1.out⟩
    · have hok' : shapeOk k ps = false := by simpa using hok
      clear hno hok
      go_enter Try.func14, Try.ntmps14
      go_wp2
      refine wp_loop_rounds 1 ?_
      rw [rounds_succ]
      go_wp2_with fail
      refine (specShapeOk_any _ _ _ _ _ (HP.out.below ((Below.refl _ _).alloc (Nat.le_refl _) _)) hl).mono ?_
      rintro e w1 ⟨rfl, hb1⟩
      have B1 : Hid (Below w.heap.size w w1) := ((Below.refl _ _).alloc (Nat.le_refl _) _).trans (hb1.mono (by simp))
      clear hb1
      go_wp2
      go_ret
      exact ⟨by rw [HS.out]; rfl, B1.out⟩
  · have h0' : ¬ (0 : Int) < (ps.length : Int) := by omega
    clear hno
    go_enter Try.func14, Try.ntmps14
    go_wp2
    refine wp_loop_rounds 1 ?_
    rw [rounds_succ]
    go_wp2
    go_ret
    exact ⟨by rw [HS.out]; rfl, (Below.refl _ _).alloc (Nat.le_refl _) _⟩

theorem specShapeArea_any (k : Int) (a : Option Addr) (cap : Nat) (ps : List (Int × Int)) (w : World) (hp : PtsAt w a ps) (hl : ps.length ≤ 1048576) :
    Calls Try.prog 14 #[.agg #[.int .i64 k, .slice a ps.length cap]] w fun e w' => e = .returned (.int .i64 (shapeArea k ps)) ∧ Below w.heap.size w w' := by
  by_cases h3 : k = 3
  · subst h3
    by_cases hok : shapeOk 3 ps = true
    · exact specShapeArea_yes a cap ps w hp hok
    · exact specShapeArea_no 3 a cap ps w hp hl (.inl (by simpa using hok))
  · exact specShapeArea_no k a cap ps w hp hl (.inr (by simpa using h3))
end Go.Proofs.Ytdfadpejddhbkaa
