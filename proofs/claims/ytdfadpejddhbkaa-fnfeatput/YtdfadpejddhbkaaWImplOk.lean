/- Proved here: the program's own way of asking whether a shape is one answers as the plain definition 'shapeOk' says, and so does the model's; rows of at most 1,048,576 points. -/
import Derived.Test.YtdfadpejddhbkaaWKind
namespace Go.Proofs.Ytdfadpejddhbkaa
set_option linter.unusedVariables false
open Go.ChangeShapes Go.WideShapes Go.ChangeAt Go.RowKit

theorem inReach_pt (n : Int) (w : World) : Calls Try.prog 42 #[.int .i64 n, .int .i64 1000] w fun e w' => e = .returned (.bool (inR n)) ∧ w = w' :=
  (inReach_any n 1000 w (by omega) (by omega)).mono fun _ _ ⟨he, hw⟩ => ⟨by rw [he]; rfl, hw.symm⟩

set_option maxHeartbeats 1000000 in
theorem rowOk_any (a : Option Addr) (cap : Nat) (ps : List (Int × Int)) (w : World) (hp : PtsAt w a ps) (hl : ps.length ≤ 1048576) :
    Calls Try.prog 61 #[.slice a ps.length cap] w fun e w' => e = .returned (.bool (ptsGood ps)) ∧ Below w.heap.size w w' := by
  have HP := Lib.hid hp
  clear hp
  go_enter Try.func61, Try.ntmps61
  go_wp2
  go_loopw [3, 4, 7] (fun _ _ i wr => ∃ k : Nat, k ≤ ps.length ∧ i = .int .i64 k ∧ Below w.heap.size w wr ∧ ∀ j, j < k → ptGood ps j = true) (fun _ _ i _ => ps.length - (intOf i).toNat)
  case atStart => exact ⟨0, Nat.zero_le _, rfl, Below.refl _ _, fun j h => absurd h (Nat.not_lt_zero _)⟩
  case round =>
    obtain ⟨k, hk, rfl, hbel, hall⟩ := hrel
    have HA := Lib.hid hall
    have HB := Lib.hid hbel
    have hsz := hbel.size
    clear hall
    by_cases hlt : k < ps.length
    · obtain ⟨b, off, rfl, hb, hc1, hc2⟩ := HP.out k hlt
      rw [← hbel.cell (p := ⟨b, _, none⟩) hb] at hc1 hc2
      have hlt2 : b < wr.heap.size := by omega
      have hn := run_ptEql
      have HB' : Hid (Below w.heap.size w (wr.alloc (.cells #[.int .i64 (px ps k), .int .i64 (py ps k)] 32))) := hbel.alloc hsz _
      by_cases hx : inR (px ps k) = true
      · by_cases hy : inR (py ps k) = true
        · by_cases h0 : k = 0
          · subst h0
            clear hbel
            simp only [Nat.zero_mul, Nat.add_zero] at hc1 hc2
            have HS : Hid (ptGood ps 0 = true) := by simp [Hid, ptGood, hx, hy]
            go_wp2_with (go_at_call 42; refine (inReach_pt _ _).mono ?_; rintro e w' ⟨rfl, rfl⟩)
            go_quiet (fail)
            go_wp2
            go_roundw
            case rel => exact ⟨1, by omega, rfl, below_drewN HB'.out _, fun j hj => by obtain rfl : j = 0 := (by omega); exact HS.out⟩
            case measure => simp [intOf]; omega
          · obtain ⟨b', off', he, _, hd1, hd2⟩ := HP.out (k - 1) (by omega)
            obtain ⟨rfl, rfl⟩ : b = b' ∧ off = off' := by simpa using he
            clear he
            rw [← hbel.cell (p := ⟨b, _, none⟩) hb] at hd1 hd2
            clear hbel
            obtain ⟨j, rfl⟩ : ∃ j, k = j + 1 := ⟨k - 1, by omega⟩
            simp only [Nat.add_sub_cancel] at hd1 hd2
            have hg : decide ((0 : Int) < ((j + 1 : Nat) : Int)) = true := by simp
            have hw1 : IntKind.i64.wrap (((j + 1 : Nat) : Int) - 1) = (j : Int) := by rw [IntWalk.i64_in _ (by omega)]; omega
            by_cases hq : ptEq (px ps (j + 1), py ps (j + 1)) (px ps j, py ps j) = true
            · have HS : Hid (ptGood ps (j + 1) = false) := by simp [Hid, ptGood, hq]
              go_wp2_with (go_at_call 42; refine (inReach_pt _ _).mono ?_; rintro e w' ⟨rfl, rfl⟩)
              go_quiet (fail)
              go_wp2
              go_ret
              exact ⟨by rw [ptsGood_not hlt HS.out]; rfl, below_drewN HB'.out _⟩
            · have hq' : ptEq (px ps (j + 1), py ps (j + 1)) (px ps j, py ps j) = false := by simpa using hq
              have HS : Hid (ptGood ps (j + 1) = true) := by simp [Hid, ptGood, hx, hy, hq']
              clear hq
              go_wp2_with (go_at_call 42; refine (inReach_pt _ _).mono ?_; rintro e w' ⟨rfl, rfl⟩)
              go_quiet (fail)
              go_wp2
              go_roundw
              case rel => exact ⟨j + 1 + 1, by omega, by go_num, below_drewN HB'.out _, fun i hi => by by_cases e : i = j + 1; (subst e; exact HS.out); exact HA.out i (by omega)⟩
              case measure => simp [intOf]; omega
        · have hy' : inR (py ps k) = false := by simpa using hy
          have HS : Hid (ptGood ps k = false) := by simp [Hid, ptGood, hy']
          clear hy hbel
          go_wp2_with (go_at_call 42; refine (inReach_pt _ _).mono ?_; rintro e w' ⟨rfl, rfl⟩)
          go_ret
          exact ⟨by rw [ptsGood_not hlt HS.out]; rfl, HB'.out⟩
      · have hx' : inR (px ps k) = false := by simpa using hx
        have HS : Hid (ptGood ps k = false) := by simp [Hid, ptGood, hx']
        clear hx hbel
        go_wp2_with (go_at_call 42; refine (inReach_pt _ _).mono ?_; rintro e w' ⟨rfl, rfl⟩)
        go_ret
        exact ⟨by rw [ptsGood_not hlt HS.out]; rfl, HB'.out⟩
    · obtain rfl : k = ps.length := by omega
      have HT := Lib.hid (ptsGood_of HA.out)
      clear hbel
      go_wp2
      go_ret
      exact ⟨by rw [HT.out]; rfl, HB.out⟩
set_option maxHeartbeats 400000 in
theorem holds_dot (a : Option Addr) (cap : Nat) (ps : List (Int × Int)) (w : World) :
    Calls Try.prog 117 #[.agg #[], .slice a ps.length cap] w fun e w' => e = .returned (.bool (kindHolds 1 ps)) ∧ Below w.heap.size w w' := by
  go_enter Try.func117, Try.ntmps117
  go_wp2
  go_ret
  refine ⟨?_, (Below.refl _ _).alloc (Nat.le_refl _) _⟩
  have : ((ps.length : Int) == 1) = kindHolds 1 ps := by
    rw [Bool.eq_iff_iff]
    simp [kindHolds]
    omega
  rw [← this]
  rfl

set_option maxHeartbeats 400000 in
theorem holds_line (a : Option Addr) (cap : Nat) (ps : List (Int × Int)) (w : World) :
    Calls Try.prog 122 #[.agg #[], .slice a ps.length cap] w fun e w' => e = .returned (.bool (kindHolds 2 ps)) ∧ Below w.heap.size w w' := by
  go_enter Try.func122, Try.ntmps122
  go_wp2
  go_ret
  refine ⟨?_, (Below.refl _ _).alloc (Nat.le_refl _) _⟩
  have : decide ((2 : Int) ≤ (ps.length : Int)) = kindHolds 2 ps := by
    rw [Bool.eq_iff_iff]
    simp [kindHolds]
    omega
  rw [← this]
  rfl

set_option maxHeartbeats 400000 in
theorem holds_ring (a : Option Addr) (cap : Nat) (ps : List (Int × Int)) (w : World) (hp : PtsAt w a ps) (hl : ps.length ≤ 1048576) :
    Calls Try.prog 127 #[.agg #[], .slice a ps.length cap] w fun e w' => e = .returned (.bool (kindHolds 3 ps)) ∧ Below w.heap.size w w' := by
  have hn := run_ptNeq
  by_cases h3 : 3 ≤ ps.length
  · obtain ⟨b, off, rfl, hb, hc1, hc2⟩ := hp 0 (by omega)
    obtain ⟨b', off', he, _, hd1, hd2⟩ := hp (ps.length - 1) (by omega)
    obtain ⟨rfl, rfl⟩ : b = b' ∧ off = off' := by simpa using he
    clear he hp
    have HK : Hid (kindHolds 3 ps = !ptEq (px ps 0, py ps 0) (px ps (ps.length - 1), py ps (ps.length - 1))) := by simp [Hid, kindHolds, h3]
    obtain ⟨m, hm⟩ : ∃ m, ps.length = m + 1 := ⟨ps.length - 1, by omega⟩
    rw [hm] at hd1 hd2 HK ⊢
    simp only [Nat.add_sub_cancel, Nat.zero_mul, Nat.add_zero] at hc1 hc2 hd1 hd2 HK
    have hg : decide ((3 : Int) ≤ (m : Int) + 1) = true := by simp; omega
    have hw1 : IntKind.i64.wrap (m : Int) = (m : Int) := by rw [IntWalk.i64_in _ (by omega)]
    have hz : (0 : Int) < (m : Int) + 1 := by omega
    clear hm h3
    go_enter Try.func127, Try.ntmps127
    go_wp2
    go_quiet (fail)
    go_wp2
    go_ret
    exact ⟨by rw [HK.out]; rfl, below_drewN ((Below.refl _ _).alloc (Nat.le_refl _) _) _⟩
  · have HK : Hid (kindHolds 3 ps = false) := by simp [Hid, kindHolds, h3]
    have hg : decide ((3 : Int) ≤ (ps.length : Int)) = false := by simp; omega
    clear h3 hp
    go_enter Try.func127, Try.ntmps127
    go_wp2
    go_quiet (fail)
    go_wp2
    go_ret
    exact ⟨by rw [HK.out]; rfl, below_drewN ((Below.refl _ _).alloc (Nat.le_refl _) _) _⟩

theorem m_holds_dot (w : World) : (method 255 105 (.agg #[]) "loop.example/townland/impl.holds").run Try.prog w = .ok (117, .agg #[]) w := by kernel_rfl
theorem m_holds_line (w : World) : (method 255 106 (.agg #[]) "loop.example/townland/impl.holds").run Try.prog w = .ok (122, .agg #[]) w := by kernel_rfl
theorem m_holds_ring (w : World) : (method 255 107 (.agg #[]) "loop.example/townland/impl.holds").run Try.prog w = .ok (127, .agg #[]) w := by kernel_rfl

/-- what 'kindOfOk' answers -/
def okKind (k : Int) (ps : List (Int × Int)) : Value := if shapeOk k ps then kindVal k else .nilIface

theorem kindVal1 : kindVal 1 = .iface 105 (.agg #[]) := rfl
theorem kindVal2 : kindVal 2 = .iface 106 (.agg #[]) := rfl
theorem kindVal3 : kindVal 3 = .iface 107 (.agg #[]) := rfl

set_option maxHeartbeats 1000000 in
theorem kindOfOk_dot (a : Option Addr) (cap : Nat) (ps : List (Int × Int)) (w : World) (hp : PtsAt w a ps) (hl : ps.length ≤ 6) :
    Calls Try.prog 39 #[.agg #[.int .i64 1, .slice a ps.length cap]] w fun e w' => e = .returned (.tuple #[okKind 1 ps, .bool (shapeOk 1 ps)]) ∧ Below w.heap.size w w' := by
  have HP := Lib.hid hp
  clear hp
  have hm := m_holds_dot
  have hg : decide ((6 : Int) < (ps.length : Int)) = false := by simp; omega
  have B0 : Hid (Below w.heap.size w (w.alloc (.cells #[.int .i64 1, .slice a ps.length cap] 25))) := (Below.refl _ _).alloc (Nat.le_refl _) _
  go_enter Try.func39, Try.ntmps39
  go_wp2_with fail
  refine (kindOfNumber_dot _ _ rfl).mono ?_
  rintro e w1 ⟨rfl, hb1⟩
  have c1 := cell_later hb1 (a := ⟨w.heap.size, 1, none⟩) (v := .slice a ps.length cap) (by simp [go_sem])
  have B1 : Hid (Below w.heap.size w w1) := B0.out.trans (hb1.mono (by simp))
  clear hb1 B0
  go_wp2_with fail
  refine (holds_dot _ _ _ _).mono ?_
  rintro e w2 ⟨rfl, hb2⟩
  replace c1 := cell_later hb2 c1
  have B2 : Hid (Below w.heap.size w w2) := B1.out.trans (hb2.mono B1.out.size)
  clear hb2 B1
  by_cases hk : kindHolds 1 ps = true
  · go_wp2_with fail
    refine (rowOk_any _ _ _ _ (HP.out.below B2.out) (by omega)).mono ?_
    rintro e w3 ⟨rfl, hb3⟩
    have B3 : Hid (Below w.heap.size w w3) := B2.out.trans (hb3.mono B2.out.size)
    clear hb3 B2
    by_cases hr : ptsGood ps = true
    · have H1 : Hid (shapeOk 1 ps = true) := by simp [Hid, shapeOk, hk, hr, hl]
      go_wp2
      go_ret2
      exact ⟨by rw [okKind, H1.out, if_pos rfl, kindVal1]; rfl, B3.out⟩
    · have hr' : ptsGood ps = false := by simpa using hr
      have H1 : Hid (shapeOk 1 ps = false) := by simp [Hid, shapeOk, hr']
      clear hr
      go_wp2
      go_ret2
      exact ⟨by rw [okKind, H1.out, if_neg (by simp)]; rfl, B3.out⟩
  · have hk' : kindHolds 1 ps = false := by simpa using hk
    have H1 : Hid (shapeOk 1 ps = false) := by simp [Hid, shapeOk, hk']
    clear hk
    go_wp2
    go_ret2
    exact ⟨by rw [okKind, H1.out, if_neg (by simp)]; rfl, B2.out⟩

set_option maxHeartbeats 1000000 in
theorem kindOfOk_line (a : Option Addr) (cap : Nat) (ps : List (Int × Int)) (w : World) (hp : PtsAt w a ps) (hl : ps.length ≤ 6) :
    Calls Try.prog 39 #[.agg #[.int .i64 2, .slice a ps.length cap]] w fun e w' => e = .returned (.tuple #[okKind 2 ps, .bool (shapeOk 2 ps)]) ∧ Below w.heap.size w w' := by
  have HP := Lib.hid hp
  clear hp
  have hm := m_holds_line
  have hg : decide ((6 : Int) < (ps.length : Int)) = false := by simp; omega
  have B0 : Hid (Below w.heap.size w (w.alloc (.cells #[.int .i64 2, .slice a ps.length cap] 25))) := (Below.refl _ _).alloc (Nat.le_refl _) _
  go_enter Try.func39, Try.ntmps39
  go_wp2_with fail
  refine (kindOfNumber_line _ _ rfl rfl).mono ?_
  rintro e w1 ⟨rfl, hb1⟩
  have c1 := cell_later hb1 (a := ⟨w.heap.size, 1, none⟩) (v := .slice a ps.length cap) (by simp [go_sem])
  have B1 : Hid (Below w.heap.size w w1) := B0.out.trans (hb1.mono (by simp))
  clear hb1 B0
  go_wp2_with fail
  refine (holds_line _ _ _ _).mono ?_
  rintro e w2 ⟨rfl, hb2⟩
  replace c1 := cell_later hb2 c1
  have B2 : Hid (Below w.heap.size w w2) := B1.out.trans (hb2.mono B1.out.size)
  clear hb2 B1
  by_cases hk : kindHolds 2 ps = true
  · go_wp2_with fail
    refine (rowOk_any _ _ _ _ (HP.out.below B2.out) (by omega)).mono ?_
    rintro e w3 ⟨rfl, hb3⟩
    have B3 : Hid (Below w.heap.size w w3) := B2.out.trans (hb3.mono B2.out.size)
    clear hb3 B2
    by_cases hr : ptsGood ps = true
    · have H1 : Hid (shapeOk 2 ps = true) := by simp [Hid, shapeOk, hk, hr, hl]
      go_wp2
      go_ret2
      exact ⟨by rw [okKind, H1.out, if_pos rfl, kindVal2]; rfl, B3.out⟩
    · have hr' : ptsGood ps = false := by simpa using hr
      have H1 : Hid (shapeOk 2 ps = false) := by simp [Hid, shapeOk, hr']
      clear hr
      go_wp2
      go_ret2
      exact ⟨by rw [okKind, H1.out, if_neg (by simp)]; rfl, B3.out⟩
  · have hk' : kindHolds 2 ps = false := by simpa using hk
    have H1 : Hid (shapeOk 2 ps = false) := by simp [Hid, shapeOk, hk']
    clear hk
    go_wp2
    go_ret2
    exact ⟨by rw [okKind, H1.out, if_neg (by simp)]; rfl, B2.out⟩

set_option maxHeartbeats 1000000 in
theorem kindOfOk_ring (a : Option Addr) (cap : Nat) (ps : List (Int × Int)) (w : World) (hp : PtsAt w a ps) (hl : ps.length ≤ 6) :
    Calls Try.prog 39 #[.agg #[.int .i64 3, .slice a ps.length cap]] w fun e w' => e = .returned (.tuple #[okKind 3 ps, .bool (shapeOk 3 ps)]) ∧ Below w.heap.size w w' := by
  have HP := Lib.hid hp
  clear hp
  have hm := m_holds_ring
  have hg : decide ((6 : Int) < (ps.length : Int)) = false := by simp; omega
  have B0 : Hid (Below w.heap.size w (w.alloc (.cells #[.int .i64 3, .slice a ps.length cap] 25))) := (Below.refl _ _).alloc (Nat.le_refl _) _
  go_enter Try.func39, Try.ntmps39
  go_wp2_with fail
  refine (kindOfNumber_ring _ _ rfl rfl rfl).mono ?_
  rintro e w1 ⟨rfl, hb1⟩
  have c1 := cell_later hb1 (a := ⟨w.heap.size, 1, none⟩) (v := .slice a ps.length cap) (by simp [go_sem])
  have B1 : Hid (Below w.heap.size w w1) := B0.out.trans (hb1.mono (by simp))
  clear hb1 B0
  go_wp2_with fail
  refine (holds_ring _ _ _ _ (HP.out.below B1.out) (by omega)).mono ?_
  rintro e w2 ⟨rfl, hb2⟩
  replace c1 := cell_later hb2 c1
  have B2 : Hid (Below w.heap.size w w2) := B1.out.trans (hb2.mono B1.out.size)
  clear hb2 B1
  by_cases hk : kindHolds 3 ps = true
  · go_wp2_with fail
    refine (rowOk_any _ _ _ _ (HP.out.below B2.out) (by omega)).mono ?_
    rintro e w3 ⟨rfl, hb3⟩
    have B3 : Hid (Below w.heap.size w w3) := B2.out.trans (hb3.mono B2.out.size)
    clear hb3 B2
    by_cases hr : ptsGood ps = true
    · have H1 : Hid (shapeOk 3 ps = true) := by simp [Hid, shapeOk, hk, hr, hl]
      go_wp2
      go_ret2
      exact ⟨by rw [okKind, H1.out, if_pos rfl, kindVal3]; rfl, B3.out⟩
    · have hr' : ptsGood ps = false := by simpa using hr
      have H1 : Hid (shapeOk 3 ps = false) := by simp [Hid, shapeOk, hr']
      clear hr
      go_wp2
      go_ret2
      exact ⟨by rw [okKind, H1.out, if_neg (by simp)]; rfl, B3.out⟩
  · have hk' : kindHolds 3 ps = false := by simpa using hk
    have H1 : Hid (shapeOk 3 ps = false) := by simp [Hid, shapeOk, hk']
    clear hk
    go_wp2
    go_ret2
    exact ⟨by rw [okKind, H1.out, if_neg (by simp)]; rfl, B2.out⟩

set_option maxHeartbeats 1000000 in
theorem kindOfOk_long (k : Int) (a : Option Addr) (cap : Nat) (ps : List (Int × Int)) (w : World) (hl : ¬ ps.length ≤ 6) :
    Calls Try.prog 39 #[.agg #[.int .i64 k, .slice a ps.length cap]] w fun e w' => e = .returned (.tuple #[okKind k ps, .bool (shapeOk k ps)]) ∧ Below w.heap.size w w' := by
  have hg : decide ((6 : Int) < (ps.length : Int)) = true := by simp; omega
  have H1 : Hid (shapeOk k ps = false) := by simp [Hid, shapeOk, hl]
  clear hl
  go_enter Try.func39, Try.ntmps39
  go_wp2
  go_ret2
  exact ⟨by rw [okKind, H1.out, if_neg (by simp)]; rfl, (Below.refl _ _).alloc (Nat.le_refl _) _⟩

set_option maxHeartbeats 1000000 in
theorem kindOfOk_other (k : Int) (a : Option Addr) (cap : Nat) (ps : List (Int × Int)) (w : World) (hl : ps.length ≤ 6) (h1 : (1 == k) = false) (h2 : (2 == k) = false) (h3 : (3 == k) = false) :
    Calls Try.prog 39 #[.agg #[.int .i64 k, .slice a ps.length cap]] w fun e w' => e = .returned (.tuple #[okKind k ps, .bool (shapeOk k ps)]) ∧ Below w.heap.size w w' := by
  have hg : decide ((6 : Int) < (ps.length : Int)) = false := by simp; omega
  have H1 : Hid (shapeOk k ps = false) := by
    have e1 : k ≠ 1 := by rintro rfl; simp at h1
    have e2 : k ≠ 2 := by rintro rfl; simp at h2
    have e3 : k ≠ 3 := by rintro rfl; simp at h3
    simp [Hid, shapeOk, kindHolds, e1, e2, e3]
  go_enter Try.func39, Try.ntmps39
  go_wp2_with fail
  refine (kindOfNumber_none _ _ h1 h2 h3).mono ?_
  rintro e w1 ⟨rfl, hb1⟩
  have B1 : Hid (Below w.heap.size w w1) := ((Below.refl _ _).alloc (Nat.le_refl _) _).trans (hb1.mono (by simp))
  clear hb1
  go_wp2
  go_ret2
  exact ⟨by rw [okKind, H1.out, if_neg (by simp)]; rfl, B1.out⟩

theorem kindOfOk_any (k : Int) (a : Option Addr) (cap : Nat) (ps : List (Int × Int)) (w : World) (hp : PtsAt w a ps) :
    Calls Try.prog 39 #[.agg #[.int .i64 k, .slice a ps.length cap]] w fun e w' => e = .returned (.tuple #[okKind k ps, .bool (shapeOk k ps)]) ∧ Below w.heap.size w w' := by
  by_cases hl : ps.length ≤ 6
  · by_cases h1 : k = 1
    · subst h1
      exact kindOfOk_dot a cap ps w hp hl
    · by_cases h2 : k = 2
      · subst h2
        exact kindOfOk_line a cap ps w hp hl
      · by_cases h3 : k = 3
        · subst h3
          exact kindOfOk_ring a cap ps w hp hl
        · exact kindOfOk_other k a cap ps w hl (by simp; omega) (by simp; omega) (by simp; omega)
  · exact kindOfOk_long k a cap ps w hl

set_option maxHeartbeats 1000000 in
theorem implShapeOk_any (k : Int) (a : Option Addr) (cap : Nat) (ps : List (Int × Int)) (w : World) (hp : PtsAt w a ps) :
    Calls Try.prog 17 #[.agg #[.int .i64 k, .slice a ps.length cap]] w fun e w' => e = .returned (.bool (shapeOk k ps)) ∧ Below w.heap.size w w' := by
  have HP := Lib.hid hp
  clear hp
  go_enter Try.func17, Try.ntmps17
  go_wp2_with fail
  refine (kindOfOk_any _ _ _ _ _ (HP.out.below ((Below.refl _ _).alloc (Nat.le_refl _) _))).mono ?_
  rintro e w1 ⟨rfl, hb1⟩
  have B1 : Hid (Below w.heap.size w w1) := ((Below.refl _ _).alloc (Nat.le_refl _) _).trans (hb1.mono (by simp))
  clear hb1
  go_wp2
  go_ret
  exact ⟨rfl, B1.out⟩

end Go.Proofs.Ytdfadpejddhbkaa
