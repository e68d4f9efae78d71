/- Proved here: the law FnShapeBox answers true at every code, and leaves it as it was; no condition. -/
import Derived.Test.YtopbpokcffdjnaaWDrawTop
import Derived.Test.YtopbpokcffdjnaaWBox
namespace Go.Proofs.Ytopbpokcffdjnaa
set_option linter.unusedVariables false
open Go.ChangeShapes Go.WideShapes Go.ChangeAt Go.RowKit

theorem lo_le (f : Nat → Int) (g : Nat → Int) (hs : ∀ n, g (n + 1) = min (g n) (f n)) : ∀ n i, i < n → g n ≤ f i
  | 0, i, h => absurd h (Nat.not_lt_zero _)
  | n + 1, i, h => by
    have e := hs n
    by_cases hi : i = n
    · subst hi; omega
    · have := lo_le f g hs n i (by omega); omega

theorem hi_ge (f : Nat → Int) (g : Nat → Int) (hs : ∀ n, g (n + 1) = max (g n) (f n)) : ∀ n i, i < n → f i ≤ g n
  | 0, i, h => absurd h (Nat.not_lt_zero _)
  | n + 1, i, h => by
    have e := hs n
    by_cases hi : i = n
    · subst hi; omega
    · have := hi_ge f g hs n i (by omega); omega

theorem lo_at (f : Nat → Int) (g : Nat → Int) (h0 : g 0 = f 0) (hs : ∀ n, g (n + 1) = min (g n) (f n)) : ∀ n, ∃ i, i < n + 1 ∧ f i = g (n + 1)
  | 0 => ⟨0, by omega, by rw [hs, h0]; omega⟩
  | n + 1 => by
    obtain ⟨i, hi, e⟩ := lo_at f g h0 hs n
    have e2 := hs (n + 1)
    by_cases c : g (n + 1) ≤ f (n + 1)
    · exact ⟨i, by omega, by omega⟩
    · exact ⟨n + 1, by omega, by omega⟩

theorem hi_at (f : Nat → Int) (g : Nat → Int) (h0 : g 0 = f 0) (hs : ∀ n, g (n + 1) = max (g n) (f n)) : ∀ n, ∃ i, i < n + 1 ∧ f i = g (n + 1)
  | 0 => ⟨0, by omega, by rw [hs, h0]; omega⟩
  | n + 1 => by
    obtain ⟨i, hi, e⟩ := hi_at f g h0 hs n
    have e2 := hs (n + 1)
    by_cases c : f (n + 1) ≤ g (n + 1)
    · exact ⟨i, by omega, by omega⟩
    · exact ⟨n + 1, by omega, by omega⟩

/-- the sides that are met, as a number -/
def val (b1 b2 b3 b4 : Bool) : Int := (if b1 then 1 else 0) + (if b2 then 2 else 0) + (if b3 then 4 else 0) + (if b4 then 8 else 0)
theorem or1 (b1 b2 b3 b4 : Bool) : bits .or .i64 (val b1 b2 b3 b4) 1 = val true b2 b3 b4 := by cases b1 <;> cases b2 <;> cases b3 <;> cases b4 <;> decide
theorem or2 (b1 b2 b3 b4 : Bool) : bits .or .i64 (val b1 b2 b3 b4) 2 = val b1 true b3 b4 := by cases b1 <;> cases b2 <;> cases b3 <;> cases b4 <;> decide
theorem or4 (b1 b2 b3 b4 : Bool) : bits .or .i64 (val b1 b2 b3 b4) 4 = val b1 b2 true b4 := by cases b1 <;> cases b2 <;> cases b3 <;> cases b4 <;> decide
theorem or8 (b1 b2 b3 b4 : Bool) : bits .or .i64 (val b1 b2 b3 b4) 8 = val b1 b2 b3 true := by cases b1 <;> cases b2 <;> cases b3 <;> cases b4 <;> decide

/-- is a number among the first so many -/
def met (f : Nat → Int) (x : Int) (j : Nat) : Bool := (List.range j).any fun i => f i == x
theorem met_step (f : Nat → Int) (x : Int) (j : Nat) : met f x (j + 1) = (met f x j || (f j == x)) := by
  unfold met
  rw [List.range_succ, List.any_append]
  simp
theorem met_all {f : Nat → Int} {x : Int} {n i : Nat} (hi : i < n) (h : f i = x) : met f x n = true := by
  unfold met
  rw [List.any_eq_true]
  exact ⟨i, by simpa using hi, by simpa using h⟩

set_option maxRecDepth 100000 in
set_option maxHeartbeats 8000000 in
theorem fnShapeBox_walk (a : Option Addr) (n cap : Nat) (w : World) (h : CodeAt w a n) (hl : n ≤ 1048576) (hc : n ≤ cap) :
    Calls Try.prog 3 #[.slice a n cap] w fun e w' => e = .returned (.bool true) ∧ Below w.heap.size w w' := by
  have HC := Lib.hid h
  clear h
  have hg : ¬ (1048576 : Int) < (n : Int) := by omega
  have hneq := run_ptNeq
  have heq := run_ptEql
  go_enter Try.func3, Try.ntmps3
  go_wp2_with fail
  refine (drawShapeBox_any _ _ _ _ HC.out hl hc).mono ?_
  rintro e w1 ⟨k, g, c2, ps, rfl, hpt, hlen, hb1⟩
  have HP1 := Lib.hid hpt
  have B1 := Lib.hid hb1
  clear hpt hb1
  go_wp2_with fail
  refine (implShapeBox_any _ _ _ _ _ (HP1.out.below ((Below.refl _ _).alloc (Nat.le_refl _) _))).mono ?_
  rintro e w2 ⟨rfl, hb2⟩
  have hb12 : Below w1.heap.size w1 w2 := ((Below.refl _ _).alloc (Nat.le_refl _) _).trans (hb2.mono (by simp))
  have d0 := cell_later hb2 (a := ⟨w1.heap.size, 0, none⟩) (v := .int .i64 k) (by simp [go_sem])
  have d1 := cell_later hb2 (a := ⟨w1.heap.size, 1, none⟩) (v := .slice (some ⟨g, 0, none⟩) ps.length c2) (by simp [go_sem])
  have HP2 := Lib.hid (HP1.out.below hb12)
  have B2 : Hid (Below w.heap.size w w2) := B1.out.trans (hb12.mono B1.out.size)
  obtain ⟨lx, hlx⟩ : ∃ x, x = boxLX k ps := ⟨_, rfl⟩
  obtain ⟨ly, hly⟩ : ∃ x, x = boxLY k ps := ⟨_, rfl⟩
  obtain ⟨hx, hhx⟩ : ∃ x, x = boxHX k ps := ⟨_, rfl⟩
  obtain ⟨hy, hhy⟩ : ∃ x, x = boxHY k ps := ⟨_, rfl⟩
  rw [← hlx, ← hly, ← hhx, ← hhy]
  have HLX := Lib.hid hlx
  have HLY := Lib.hid hly
  have HHX := Lib.hid hhx
  have HHY := Lib.hid hhy
  have z1 : w1.heap.size < w2.heap.size := World.block_lt_of_cell? _ _ d0
  clear hb2 hb12 HP1 B1 hlx hly hhx hhy
  go_wp2_with fail
  refine (specShapeBox_any _ _ _ _ _ (HP2.out.below (((Below.refl _ _).alloc (Nat.le_refl _) _).alloc (by simp) _)) (by omega)).mono ?_
  rintro e w3 ⟨rfl, hb3⟩
  rw [← HLX.out, ← HLY.out, ← HHX.out, ← HHY.out]
  have hb23 : Below w2.heap.size w2 w3 := (((Below.refl _ _).alloc (Nat.le_refl _) _).alloc (by simp) _).trans (hb3.mono (by simp; omega))
  have p0 := cell_later hb3 (a := ⟨w2.heap.size, 0, none⟩) (v := .int .i64 lx) (by simp [go_sem])
  have p1 := cell_later hb3 (a := ⟨w2.heap.size, 1, none⟩) (v := .int .i64 ly) (by simp [go_sem])
  have p2 := cell_later hb3 (a := ⟨w2.heap.size + 1, 0, none⟩) (v := .int .i64 hx) (by simp [go_sem])
  have p3 := cell_later hb3 (a := ⟨w2.heap.size + 1, 1, none⟩) (v := .int .i64 hy) (by simp [go_sem])
  replace d0 := cell_later hb23 d0
  replace d1 := cell_later hb23 d1
  have HP3 := Lib.hid (HP2.out.below hb23)
  have B3 : Hid (Below w.heap.size w w3) := B2.out.trans (hb23.mono B2.out.size)
  have z2 : w1.heap.size < w3.heap.size := World.block_lt_of_cell? _ _ d0
  have z3 : w2.heap.size < w3.heap.size := World.block_lt_of_cell? _ _ p0
  have z4 : w2.heap.size + 1 < w3.heap.size := World.block_lt_of_cell? _ _ p2
  have q1 : ptEq (lx, ly) (lx, ly) = true := by simp [ptEq]
  have q2 : ptEq (hx, hy) (hx, hy) = true := by simp [ptEq]
  clear hb3 hb23 HP2 B2
  go_wp2_with fail
  refine (specShapeOk_any _ _ _ _ _ (HP3.out.below (((Below.refl _ _).alloc (Nat.le_refl _) _).alloc (by simp) _)) (by omega)).mono ?_
  rintro e w4 ⟨rfl, hb4⟩
  have hb34 : Below w3.heap.size w3 w4 := (((Below.refl _ _).alloc (Nat.le_refl _) _).alloc (by simp) _).trans (hb4.mono (by simp; omega))
  replace d0 := cell_later hb34 d0
  replace d1 := cell_later hb34 d1
  replace p0 := cell_later hb34 p0
  replace p1 := cell_later hb34 p1
  replace p2 := cell_later hb34 p2
  replace p3 := cell_later hb34 p3
  have HP4 := Lib.hid (HP3.out.below hb34)
  have B4 : Hid (Below w.heap.size w w4) := B3.out.trans (hb34.mono B3.out.size)
  clear hb4 hb34 HP3 B3 q1 q2
  by_cases hok : shapeOk k ps = true
  · have hpos := ok_pos hok
    have ex : lx = loX ps ps.length ∧ ly = loY ps ps.length ∧ hx = hiX ps ps.length ∧ hy = hiY ps ps.length := by
      refine ⟨?_, ?_, ?_, ?_⟩
      · rw [HLX.out]; simp [boxLX, hok]
      · rw [HLY.out]; simp [boxLY, hok]
      · rw [HHX.out]; simp [boxHX, hok]
      · rw [HHY.out]; simp [boxHY, hok]
    have HEX := Lib.hid ex
    have HB1 : Hid (∀ i, i < ps.length → lx ≤ px ps i ∧ ly ≤ py ps i ∧ px ps i ≤ hx ∧ py ps i ≤ hy) := fun i hi => by
      obtain ⟨e1, e2, e3, e4⟩ := HEX.out
      rw [e1, e2, e3, e4]
      exact ⟨lo_le (px ps) (loX ps) (fun _ => rfl) _ i hi, lo_le (py ps) (loY ps) (fun _ => rfl) _ i hi, hi_ge (px ps) (hiX ps) (fun _ => rfl) _ i hi, hi_ge (py ps) (hiY ps) (fun _ => rfl) _ i hi⟩
    have HB2 : Hid (val (met (px ps) lx ps.length) (met (px ps) hx ps.length) (met (py ps) ly ps.length) (met (py ps) hy ps.length) = 15) := by
      obtain ⟨e1, e2, e3, e4⟩ := HEX.out
      obtain ⟨m, hm⟩ : ∃ m, ps.length = m + 1 := ⟨ps.length - 1, by omega⟩
      rw [e1, e2, e3, e4, hm]
      obtain ⟨i1, h1, g1⟩ := lo_at (px ps) (loX ps) rfl (fun _ => rfl) m
      obtain ⟨i2, h2, g2⟩ := lo_at (py ps) (loY ps) rfl (fun _ => rfl) m
      obtain ⟨i3, h3, g3⟩ := hi_at (px ps) (hiX ps) rfl (fun _ => rfl) m
      obtain ⟨i4, h4, g4⟩ := hi_at (py ps) (hiY ps) rfl (fun _ => rfl) m
      show val _ _ _ _ = 15
      rw [met_all h1 g1, met_all h2 g2, met_all h3 g3, met_all h4 g4]
      rfl
    clear ex HEX HLX HLY HHX HHY
    have o1 := or1
    have o2 := or2
    have o4 := or4
    have o8 := or8
    go_wp2
    go_loopw [8, 9, 10] (fun s i _ wr => ∃ j : Nat, j ≤ ps.length ∧ i = .int .i64 j ∧ s = .int .i64 (val (met (px ps) lx j) (met (px ps) hx j) (met (py ps) ly j) (met (py ps) hy j)) ∧ Below w4.heap.size w4 wr) (fun _ i _ _ => ps.length - (intOf i).toNat)
    case atStart => exact ⟨0, Nat.zero_le _, rfl, rfl, Below.refl _ _⟩
    case round =>
      obtain ⟨j, hj, rfl, rfl, hbel⟩ := hrel
      replace d1 := cell_later hbel d1
      replace p0 := cell_later hbel p0
      replace p1 := cell_later hbel p1
      replace p2 := cell_later hbel p2
      replace p3 := cell_later hbel p3
      have y1 : w1.heap.size < wr.heap.size := World.block_lt_of_cell? _ _ d1
      have y2 : w2.heap.size < wr.heap.size := World.block_lt_of_cell? _ _ p0
      have y3 : w2.heap.size + 1 < wr.heap.size := World.block_lt_of_cell? _ _ p2
      have HB := Lib.hid hbel
      have hsz := hbel.size
      by_cases hlt : j < ps.length
      · obtain ⟨b', off', e', hg4, u1, u2⟩ := HP4.out j hlt
        obtain ⟨rfl, rfl⟩ : g = b' ∧ 0 = off' := by simpa using e'
        simp only [Nat.zero_add] at u1 u2
        rw [← hbel.cell (p := ⟨g, _, none⟩) hg4] at u1 u2
        obtain ⟨i1, i2, i3, i4⟩ := HB1.out j hlt
        have M1 := Lib.hid (met_step (px ps) lx j)
        have M2 := Lib.hid (met_step (px ps) hx j)
        have M3 := Lib.hid (met_step (py ps) ly j)
        have M4 := Lib.hid (met_step (py ps) hy j)
        have yg : g < wr.heap.size := by omega
        clear hbel e' d0
        generalize met (px ps) lx j = b1 at *
        generalize met (px ps) hx j = b2 at *
        generalize met (py ps) ly j = b3 at *
        generalize met (py ps) hy j = b4 at *
        generalize px ps j = x at *
        generalize py ps j = y at *
        cases c1 : (x == lx) <;> cases c2 : (x == hx) <;> cases c3 : (y == ly) <;> cases c4 : (y == hy)
        all_goals
          go_wp2
          go_roundw
          case rel =>
            refine ⟨j + 1, by omega, by go_num, ?_, HB.out.alloc hsz _⟩
            rw [M1.out, M2.out, M3.out, M4.out, c1, c2, c3, c4]
            simp
          case measure => simp [intOf]; omega
      · obtain rfl : j = ps.length := by omega
        have HV := HB2.out
        clear hbel
        rw [HV]
        go_wp2
        go_ret
        exact ⟨rfl, B4.out.trans (HB.out.mono B4.out.size)⟩
  · have hok' : shapeOk k ps = false := by simpa using hok
    obtain rfl : lx = 0 := by rw [HLX.out]; simp [boxLX, hok']
    obtain rfl : ly = 0 := by rw [HLY.out]; simp [boxLY, hok']
    obtain rfl : hx = 0 := by rw [HHX.out]; simp [boxHX, hok']
    obtain rfl : hy = 0 := by rw [HHY.out]; simp [boxHY, hok']
    have q3 : ptEq (0, 0) (0, 0) = true := by simp [ptEq]
    clear hok HLX HLY HHX HHY
    go_wp2
    go_ret
    exact ⟨rfl, B4.out⟩

set_option maxHeartbeats 400000 in
theorem fnShapeBox_large (a : Option Addr) (n cap : Nat) (w : World) (hn : 1048576 < n) :
    Calls Try.prog 3 #[.slice a n cap] w fun e w' => e = .returned (.bool true) ∧ Below w.heap.size w w' := by
  have hg : (1048576 : Int) < (n : Int) := by omega
  go_enter Try.func3, Try.ntmps3
  go_wp2
  go_ret
  exact ⟨rfl, Below.refl _ _⟩

theorem fnShapeBox_all (a : Option Addr) (n cap : Nat) (w : World) (h : CodeAt w a n) (hc : n ≤ cap) (_ : n ≤ maxLen) :
    Calls Try.prog 3 #[.slice a n cap] w fun e w' => e = .returned (.bool true) ∧ Below w.heap.size w w' := by
  by_cases h1 : n ≤ 1048576
  · exact fnShapeBox_walk a n cap w h h1 hc
  · exact fnShapeBox_large a n cap w (by omega)

set_option maxRecDepth 100000 in
theorem fnShapeBox_lifted (os : Os) (started : os.Started) (H : Type) (enc : TypeId × Value → H) :
    ReturnsInHanded {} Try.checked os 3 .any (Rows.fnShapeBoxSpec.pre6 enc Try.prog Try.f3 Rows.fnShapeBoxRow.domain false) (Rows.fnShapeBoxSpec.post enc Try.prog Try.f3 false true false false) := by
  refine returnsInHanded_of_change (C := Try.checked) own started (by kernel_rfl) Try.func3
    (ChangeSpec.witness6 (enc := enc) (C := Try.checked) false ⟨#[], #[.slice none 0 0], []⟩ 8 (by kernel_rfl) (by kernel_rfl) (by kernel_rfl) (by kernel_rfl)) ?_
  intro W base args ds gs before hval0 hW _ _
  have hval : ∀ (j : Nat) t v, Try.f3.params[j]? = some t → args[j]? = some v → Value.okWide Try.prog W .any base t v := hval0
  have hW' := hW
  obtain ⟨p, q, hA0, hV, rfl, _, _⟩ := hW
  have hA : DataW.TrodAll enc Try.prog W 0 (fun _ => true) true Try.f3.params.toList args.toList ds p := hA0
  rw [Try.params3] at hA hval
  obtain ⟨v0, vs0, d0, ds0, p0, q0, hargs, rfl, rfl, h0, r0⟩ := trodAll_cons hA
  obtain ⟨rfl, rfl, rfl⟩ := trodAll_nil r0
  obtain rfl : args = #[v0] := by cases args; simp_all
  obtain ⟨rfl, rfl⟩ := trodVars_none hV
  have k0 := h0
  have lt0 : ∀ x ∈ p0, x.block < W.heap.size := by obtain ⟨m, hm⟩ := k0; exact DataW.trod_lt m _ _ _ hm
  obtain ⟨a0, n0, c0, rfl, f0, g0, m0⟩ := open_code (hval 0 22 v0 rfl rfl) h0
  clear hA0 hval0
  refine (fnShapeBox_all a0 n0 c0 W f0 g0 m0).mono fun e W' ⟨he, bel⟩ => ?_
  subst he
  exact ⟨_, rfl, _, _, _, [], _, [], hW', trodAll_mk1 (shut_bool Try.underlying4 _), (trodAll_cons_mk (Below.trod laidOut (by kernel_rfl) (of_decide_eq_true (by kernel_rfl)) k0 bel lt0) trodAll_mk0), rfl, bel.frame _, fun h => by cases h⟩

theorem fnShapeBox_over : Rows.fnShapeBoxRow.holds Try.pinned (OpenSpec.ofChange Rows.fnShapeBoxSpec) :=
  OpenClaim.holds_of_wide 3 Try.f3 rfl rfl rfl rfl rfl rfl rfl ⟨rfl, rfl, rfl, rfl, rfl⟩ rfl rfl rfl rfl rfl (by kernel_rfl) Try.func3 (by kernel_rfl)
    (of_decide_eq_true (by kernel_rfl)) (by unfold Func.isWrapper; first | (rw [if_pos (by decide +kernel)]; kernel_rfl) | (rw [if_neg (by decide +kernel)]; exact ⟨rfl, rfl⟩))
    (fun os started H enc _ => fnShapeBox_lifted os started H enc)

/-- the given statement -/
theorem fnShapeBox_holds : Rows.FnShapeBoxSaid := fnShapeBox_over

end Go.Proofs.Ytopbpokcffdjnaa
