/- Proved here: the law FnShapeArea answers true at every code, and leaves it as it was; no condition. -/
import Derived.Test.YtopbpokcffdjnaaWDrawTop
import Derived.Test.YtopbpokcffdjnaaWArea
namespace Go.Proofs.Ytopbpokcffdjnaa
set_option linter.unusedVariables false
open Go.ChangeShapes Go.WideShapes Go.ChangeAt Go.RowKit

/-- the triangles round the first point -/
def cross (ps : List (Int × Int)) (m : Nat) : Int := (px ps m - px ps 0) * (py ps (m + 1) - py ps 0) - (px ps (m + 1) - px ps 0) * (py ps m - py ps 0)
def fan (ps : List (Int × Int)) : Nat → Int
  | 0 => 0
  | m + 1 => fan ps m + cross ps m

theorem fan_area (ps : List (Int × Int)) : ∀ m, m < ps.length → fan ps m = areaTo ps m + px ps m * py ps 0 - px ps 0 * py ps m
  | 0, _ => by simp [fan, areaTo]
  | m + 1, h => by
    have ih := fan_area ps m (by omega)
    have hn : nxt ps.length m = m + 1 := by simp [nxt, h]
    simp only [fan, areaTo, term, hn, cross, Int.sub_mul, Int.mul_sub]
    rw [ih]
    omega

theorem fan_all {ps : List (Int × Int)} (h : 0 < ps.length) : fan ps (ps.length - 1) = areaTo ps ps.length := by
  obtain ⟨n, hn⟩ : ∃ n, ps.length = n + 1 := ⟨ps.length - 1, by omega⟩
  rw [fan_area ps (ps.length - 1) (by omega), hn]
  simp only [Nat.add_sub_cancel, areaTo, term]
  have hx : nxt ps.length n = 0 := by simp [nxt, hn]
  rw [hx]
  omega

theorem cross_zero (ps : List (Int × Int)) : cross ps 0 = 0 := by simp [cross]

theorem mul_bd2 {x y : Int} (h1 : -2000 ≤ x) (h2 : x ≤ 2000) (h3 : -2000 ≤ y) (h4 : y ≤ 2000) : -4000000 ≤ x * y ∧ x * y ≤ 4000000 := by
  have hx : x.natAbs ≤ 2000 := by omega
  have hy : y.natAbs ≤ 2000 := by omega
  have := Nat.mul_le_mul hx hy
  rw [← Int.natAbs_mul] at this
  omega

theorem cross_bd {ps : List (Int × Int)} (h : ptsGood ps = true) {m : Nat} (hm : m + 1 < ps.length) :
    (-4000000 ≤ (px ps m - px ps 0) * (py ps (m + 1) - py ps 0) ∧ (px ps m - px ps 0) * (py ps (m + 1) - py ps 0) ≤ 4000000) ∧ (-4000000 ≤ (px ps (m + 1) - px ps 0) * (py ps m - py ps 0) ∧ (px ps (m + 1) - px ps 0) * (py ps m - py ps 0) ≤ 4000000) := by
  have g0 := good_bd h (i := 0) (by omega)
  have g1 := good_bd h (i := m) (by omega)
  have g2 := good_bd h (i := m + 1) hm
  exact ⟨mul_bd2 (by omega) (by omega) (by omega) (by omega), mul_bd2 (by omega) (by omega) (by omega) (by omega)⟩

theorem fan_bd {ps : List (Int × Int)} (h : ptsGood ps = true) : ∀ m, m < ps.length → -8000000 * (m : Int) ≤ fan ps m ∧ fan ps m ≤ 8000000 * (m : Int)
  | 0, _ => by simp [fan]
  | m + 1, hm => by
    have ih := fan_bd h m (by omega)
    have c := cross_bd h (m := m) hm
    simp only [fan, cross]
    omega

set_option maxRecDepth 100000 in
set_option maxHeartbeats 4000000 in
theorem fnShapeArea_walk (a : Option Addr) (n cap : Nat) (w : World) (h : CodeAt w a n) (hl : n ≤ 1048576) (hc : n ≤ cap) :
    Calls Try.prog 4 #[.slice a n cap] w fun e w' => e = .returned (.bool true) ∧ Below w.heap.size w w' := by
  have HC := Lib.hid h
  clear h
  have hg : ¬ (1048576 : Int) < (n : Int) := by omega
  go_enter Try.func4, Try.ntmps4
  go_wp2_with fail
  refine (drawShapeArea_any _ _ _ _ HC.out hl hc).mono ?_
  rintro e w1 ⟨k, g, c2, ps, rfl, hpt, hlen, hb1⟩
  have HP1 := Lib.hid hpt
  have B1 := Lib.hid hb1
  clear hpt hb1
  go_wp2_with fail
  refine (implShapeArea_any _ _ _ _ _ (HP1.out.below ((Below.refl _ _).alloc (Nat.le_refl _) _))).mono ?_
  rintro e w2 ⟨rfl, hb2⟩
  have hb12 : Below w1.heap.size w1 w2 := ((Below.refl _ _).alloc (Nat.le_refl _) _).trans (hb2.mono (by simp))
  have d0 := cell_later hb2 (a := ⟨w1.heap.size, 0, none⟩) (v := .int .i64 k) (by simp [go_sem])
  have d1 := cell_later hb2 (a := ⟨w1.heap.size, 1, none⟩) (v := .slice (some ⟨g, 0, none⟩) ps.length c2) (by simp [go_sem])
  have HP2 := Lib.hid (HP1.out.below hb12)
  have B2 : Hid (Below w.heap.size w w2) := B1.out.trans (hb12.mono B1.out.size)
  clear hb2 hb12 HP1 B1
  go_wp2_with fail
  refine (specShapeArea_any _ _ _ _ _ HP2.out (by omega)).mono ?_
  rintro e w3 ⟨rfl, hb3⟩
  replace d0 := cell_later hb3 d0
  replace d1 := cell_later hb3 d1
  have HP3 := Lib.hid (HP2.out.below hb3)
  have B3 : Hid (Below w.heap.size w w3) := B2.out.trans (hb3.mono B2.out.size)
  have ne1 : (shapeArea k ps != shapeArea k ps) = false := by simp
  clear hb3 HP2 B2
  go_wp2_with fail
  refine (specShapeOk_any _ _ _ _ _ HP3.out (by omega)).mono ?_
  rintro e w4 ⟨rfl, hb4⟩
  replace d0 := cell_later hb4 d0
  replace d1 := cell_later hb4 d1
  have HP4 := Lib.hid (HP3.out.below hb4)
  have B4 : Hid (Below w.heap.size w w4) := B3.out.trans (hb4.mono B3.out.size)
  clear hb4 HP3 B3
  by_cases hok : shapeOk k ps = true
  · by_cases hk : k = 3
    · subst hk
      have HS : Hid (shapeArea 3 ps = areaTo ps ps.length) := by simp [Hid, shapeArea, hok]
      have parts := shapeOk_parts hok
      have hpos := ok_pos hok
      have hl6 := parts.1
      have HG := Lib.hid parts.2.2
      obtain ⟨b, off, e, hb, r1, r2⟩ := HP4.out 0 hpos
      obtain ⟨rfl, rfl⟩ : g = b ∧ 0 = off := by simpa using e
      simp only [Nat.zero_mul, Nat.add_zero] at r1 r2
      have hpos' : (0 : Int) < (ps.length : Int) := by omega
      have h3 : 3 ≤ ps.length := by
        have := parts.2.1
        simp [kindHolds] at this
        omega
      clear parts e ne1
      have HS2 : Hid (∃ S, S = shapeArea 3 ps ∧ S = areaTo ps ps.length) := ⟨_, rfl, HS.out⟩
      clear HS
      obtain ⟨S, hS1, hS2⟩ := HS2.out
      rw [← hS1]
      have HS := Lib.hid hS2
      clear hS1 hS2 HS2
      go_wp2
      go_loopw [5, 7, 8, 9] (fun s i _ _ wr => ∃ j : Nat, 1 ≤ j ∧ j < ps.length ∧ i = .int .i64 j ∧ s = .int .i64 (fan ps j) ∧ Below w4.heap.size w4 wr ∧ wr.cell? ⟨w4.heap.size, 0, none⟩ = some (.int .i64 (px ps 0)) ∧ wr.cell? ⟨w4.heap.size, 1, none⟩ = some (.int .i64 (py ps 0))) (fun _ i _ _ _ => ps.length - (intOf i).toNat)
      case atStart => exact ⟨1, Nat.le_refl _, by omega, rfl, by simp [fan, cross_zero], (Below.refl _ _).alloc (Nat.le_refl _) _, by simp [go_sem], by simp [go_sem]⟩
      case round =>
        obtain ⟨j, hj1, hj2, rfl, rfl, hbel, p0, p1⟩ := hrel
        have d1' := cell_later hbel d1
        have zr : w4.heap.size < wr.heap.size := World.block_lt_of_cell? _ _ p0
        have zs : w1.heap.size < w4.heap.size := World.block_lt_of_cell? _ _ d0
        have zg : g < wr.heap.size := by omega
        have zw : w1.heap.size < wr.heap.size := by omega
        by_cases hlt : j + 1 < ps.length
        · obtain ⟨b', off', e', _, u1, u2⟩ := HP4.out j (by omega)
          obtain ⟨rfl, rfl⟩ : g = b' ∧ 0 = off' := by simpa using e'
          obtain ⟨b'', off'', e'', _, v1, v2⟩ := HP4.out (j + 1) (by omega)
          obtain ⟨rfl, rfl⟩ : g = b'' ∧ 0 = off'' := by simpa using e''
          clear e' e''
          simp only [Nat.zero_add] at u1 u2 v1 v2
          rw [← hbel.cell (p := ⟨g, _, none⟩) hb] at u1 u2 v1 v2
          have fb := fan_bd HG.out j (by omega)
          have cb := cross_bd HG.out (m := j) hlt
          have gb0 := good_bd HG.out (i := 0) (by omega)
          have gb1 := good_bd HG.out (i := j) (by omega)
          have gb2 := good_bd HG.out (i := j + 1) hlt
          have HF : Hid (fan ps (j + 1) = fan ps j + (px ps j - px ps 0) * (py ps (j + 1) - py ps 0) - (px ps (j + 1) - px ps 0) * (py ps j - py ps 0)) := by
            show fan ps j + cross ps j = _
            unfold cross
            omega
          obtain ⟨fb1, fb2⟩ := fb
          obtain ⟨⟨cb1, cb2⟩, cb3, cb4⟩ := cb
          obtain ⟨⟨x1, x2⟩, x3, x4⟩ := gb0
          obtain ⟨⟨x5, x6⟩, x7, x8⟩ := gb1
          obtain ⟨⟨x9, x10⟩, x11, x12⟩ := gb2
          have HB := Lib.hid hbel
          have hsz := hbel.size
          have hl1 : (j : Int) + 1 < (ps.length : Int) := by omega
          clear hbel
          go_wp2
          go_roundw
          case rel => exact ⟨j + 1, by omega, hlt, by go_num, by rw [HF.out], (HB.out.alloc hsz _).alloc (by simp; omega) _, by simp [go_sem, p0, zr], by simp [go_sem, p1, zr]⟩
          case measure => simp [intOf]; omega
        · have hj : j = ps.length - 1 := by omega
          have HF : Hid (fan ps j = S) := by
            show _ = _
            rw [HS.out, hj]
            exact fan_all hpos
          have HB := Lib.hid hbel
          have e3 : (fan ps j == S) = true := by rw [beq_iff_eq]; exact HF.out
          have hl1 : ¬ (j : Int) + 1 < (ps.length : Int) := by omega
          clear hbel hj
          go_wp2
          go_ret
          exact ⟨rfl, B4.out.trans (HB.out.mono B4.out.size)⟩
    · have e1 : (k != 3) = true := by simpa using hk
      have HS : shapeArea k ps = 0 := by simp [shapeArea, hk]
      clear hk
      go_wp2
      go_ret
      exact ⟨rfl, B4.out⟩
  · have hok' : shapeOk k ps = false := by simpa using hok
    have HS : shapeArea k ps = 0 := by simp [shapeArea, hok']
    clear hok
    go_wp2
    go_ret
    exact ⟨rfl, B4.out⟩

set_option maxHeartbeats 400000 in
theorem fnShapeArea_large (a : Option Addr) (n cap : Nat) (w : World) (hn : 1048576 < n) :
    Calls Try.prog 4 #[.slice a n cap] w fun e w' => e = .returned (.bool true) ∧ Below w.heap.size w w' := by
  have hg : (1048576 : Int) < (n : Int) := by omega
  go_enter Try.func4, Try.ntmps4
  go_wp2
  go_ret
  exact ⟨rfl, Below.refl _ _⟩

theorem fnShapeArea_all (a : Option Addr) (n cap : Nat) (w : World) (h : CodeAt w a n) (hc : n ≤ cap) (_ : n ≤ maxLen) :
    Calls Try.prog 4 #[.slice a n cap] w fun e w' => e = .returned (.bool true) ∧ Below w.heap.size w w' := by
  by_cases h1 : n ≤ 1048576
  · exact fnShapeArea_walk a n cap w h h1 hc
  · exact fnShapeArea_large a n cap w (by omega)

set_option maxRecDepth 100000 in
theorem fnShapeArea_lifted (os : Os) (started : os.Started) (H : Type) (enc : TypeId × Value → H) :
    ReturnsInHanded {} Try.checked os 4 .any (Rows.fnShapeAreaSpec.pre6 enc Try.prog Try.f4 Rows.fnShapeAreaRow.domain false) (Rows.fnShapeAreaSpec.post enc Try.prog Try.f4 false true false false) := by
  refine returnsInHanded_of_change (C := Try.checked) own started (by kernel_rfl) Try.func4
    (ChangeSpec.witness6 (enc := enc) (C := Try.checked) false ⟨#[], #[.slice none 0 0], []⟩ 8 (by kernel_rfl) (by kernel_rfl) (by kernel_rfl) (by kernel_rfl)) ?_
  intro W base args ds gs before hval0 hW _ _
  have hval : ∀ (j : Nat) t v, Try.f4.params[j]? = some t → args[j]? = some v → Value.okWide Try.prog W .any base t v := hval0
  have hW' := hW
  obtain ⟨p, q, hA0, hV, rfl, _, _⟩ := hW
  have hA : DataW.TrodAll enc Try.prog W 0 (fun _ => true) true Try.f4.params.toList args.toList ds p := hA0
  rw [Try.params4] at hA hval
  obtain ⟨v0, vs0, d0, ds0, p0, q0, hargs, rfl, rfl, h0, r0⟩ := trodAll_cons hA
  obtain ⟨rfl, rfl, rfl⟩ := trodAll_nil r0
  obtain rfl : args = #[v0] := by cases args; simp_all
  obtain ⟨rfl, rfl⟩ := trodVars_none hV
  have k0 := h0
  have lt0 : ∀ x ∈ p0, x.block < W.heap.size := by obtain ⟨m, hm⟩ := k0; exact DataW.trod_lt m _ _ _ hm
  obtain ⟨a0, n0, c0, rfl, f0, g0, m0⟩ := open_code (hval 0 22 v0 rfl rfl) h0
  clear hA0 hval0
  refine (fnShapeArea_all a0 n0 c0 W f0 g0 m0).mono fun e W' ⟨he, bel⟩ => ?_
  subst he
  exact ⟨_, rfl, _, _, _, [], _, [], hW', trodAll_mk1 (shut_bool Try.underlying4 _), (trodAll_cons_mk (Below.trod laidOut (by kernel_rfl) (of_decide_eq_true (by kernel_rfl)) k0 bel lt0) trodAll_mk0), rfl, bel.frame _, fun h => by cases h⟩

theorem fnShapeArea_over : Rows.fnShapeAreaRow.holds Try.pinned (OpenSpec.ofChange Rows.fnShapeAreaSpec) :=
  OpenClaim.holds_of_wide 4 Try.f4 rfl rfl rfl rfl rfl rfl rfl ⟨rfl, rfl, rfl, rfl, rfl⟩ rfl rfl rfl rfl rfl (by kernel_rfl) Try.func4 (by kernel_rfl)
    (of_decide_eq_true (by kernel_rfl)) (by unfold Func.isWrapper; first | (rw [if_pos (by decide +kernel)]; kernel_rfl) | (rw [if_neg (by decide +kernel)]; exact ⟨rfl, rfl⟩))
    (fun os started H enc _ => fnShapeArea_lifted os started H enc)

/-- the given statement -/
theorem fnShapeArea_holds : Rows.FnShapeAreaSaid := fnShapeArea_over

end Go.Proofs.Ytopbpokcffdjnaa
