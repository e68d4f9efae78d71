/- Proved here: the model and the program ask whether a list of changes is right as the plain definition 'diffOk' says; lists of at most 1,048,576. -/
import Derived.Test.YtelimcknhaflfaaGreatWL4One
namespace Go.Proofs.YtelimcknhaflfaaGreat
set_option linter.unusedVariables false
open Go.ChangeShapes Go.WideShapes Go.ChangeAt Go.RowKit

/-- the bytes of a change's name, by its place -/
def cb (ds : List Ch) (i : Nat) : List UInt8 := (cid ds i).data.toList
/-- a change of a list is right -/
def chOkAt (ds : List Ch) (i : Nat) : Bool := chOk (cid ds i) (chd ds i) (cwf ds i) (chs ds i) (cnf ds i)
/-- a change is right, and its name behind the one ahead of it -/
def chGood (ds : List Ch) (i : Nat) : Bool := chOkAt ds i && !(decide (0 < i) && decide (cb ds i ≤ cb ds (i - 1)))
def chsGood (ds : List Ch) : Bool := (List.range ds.length).all (chGood ds)
/-- changes are right -/
def diffOk (ds : List Ch) : Bool := chsGood ds && decide (ds.length ≤ 16)

theorem chsGood_of {ds : List Ch} (h : ∀ j, j < ds.length → chGood ds j = true) : chsGood ds = true := by
  unfold chsGood
  rw [List.all_eq_true]
  intro j hj
  exact h j (by simpa using hj)

theorem chsGood_not {ds : List Ch} {j : Nat} (hj : j < ds.length) (h : chGood ds j = false) : chsGood ds = false := by
  unfold chsGood
  rw [List.all_eq_false]
  exact ⟨j, by simpa using hj, by simp [h]⟩

theorem chsGood_at {ds : List Ch} (h : chsGood ds = true) {j : Nat} (hj : j < ds.length) : chGood ds j = true := by
  unfold chsGood at h
  rw [List.all_eq_true] at h
  exact h j (by simpa using hj)

theorem diffOk_not {ds : List Ch} {j : Nat} (hj : j < ds.length) (h : chGood ds j = false) : diffOk ds = false := by
  unfold diffOk
  rw [chsGood_not hj h]
  rfl

set_option maxRecDepth 100000 in
set_option maxHeartbeats 8000000 in
theorem specDiffOk_any (a : Option Addr) (cap : Nat) (ds : List Ch) (w : World) (hp : ChangesAt w a ds) (hl : ds.length ≤ 1048576) (ht : ChLen ds 1048576) :
    Calls Tryz.prog 40 #[.slice a ds.length cap] w fun e w' => e = .returned (.bool (diffOk ds)) ∧ Below w.heap.size w w' := by
  have HP := Lib.hid hp
  have HL := Lib.hid ht
  clear hp ht
  go_enter Tryz.func40, Tryz.ntmps40
  go_wp2
  go_loopw [3] (fun i wr => ∃ k : Nat, k ≤ ds.length ∧ i = .int .i64 k ∧ Below w.heap.size w wr ∧ ∀ j, j < k → chGood ds j = true) (fun i _ => ds.length - (intOf i).toNat)
  case atStart => exact ⟨0, Nat.zero_le _, rfl, Below.refl _ _, fun j h => absurd h (Nat.not_lt_zero _)⟩
  case round =>
    obtain ⟨k, hk, rfl, hbel, hall⟩ := hrel
    have HA := Lib.hid hall
    have HB := Lib.hid hbel
    have hsz := hbel.size
    clear hall
    by_cases hlt : k < ds.length
    · obtain ⟨b, off, pa, pc, ta, tc, qa, qc, ua, uc, rfl, hx⟩ := HP.out k hlt
      obtain ⟨hb, c0, c1, c2, c3, c4, c5, c6, c7, c8, c9, c10, hpp, htt, hqq, huu⟩ := hx.below hbel
      have hb0 := hx.lt
      clear hx
      obtain ⟨l1, l2, l3⟩ := HL.out k hlt
      have D1 := Lib.hid hpp
      have D2 := Lib.hid htt
      have D3 := Lib.hid hqq
      have D4 := Lib.hid huu
      have L2 := Lib.hid l2
      have L3 := Lib.hid l3
      clear hbel hpp htt hqq huu l2 l3
      have B0 : Hid (∀ u, Below wr.heap.size wr u → Calls Tryz.prog 72 #[.agg #[.string (cid ds k), .bool (chd ds k), .string (cwf ds k).1, .int .i64 (cwf ds k).2.1, .slice pa (cwf ds k).2.2.1.length pc, .slice ta (cwf ds k).2.2.2.length tc, .bool (chs ds k), .string (cnf ds k).1, .int .i64 (cnf ds k).2.1, .slice qa (cnf ds k).2.2.1.length qc, .slice ua (cnf ds k).2.2.2.length uc]] u fun e w' => e = .returned (.bool (chOkAt ds k)) ∧ Below u.heap.size u w') := fun u hu =>
        l4One_any _ _ _ _ _ _ _ _ _ _ _ _ _ _ (D1.out.below hu) (D2.out.below hu) (D3.out.below hu) (D4.out.below hu) (by omega) L2.out L3.out
      clear D1 D2 D3 D4 L2 L3
      by_cases hx : chOkAt ds k = true
      · by_cases h0 : k = 0
        · subst h0
          simp only [Nat.zero_mul, Nat.add_zero] at c0 c1 c2 c3 c4 c5 c6 c7 c8 c9 c10
          have HS : Hid (chGood ds 0 = true) := by simp [Hid, chGood, hx]
          have HC := B0
          rw [hx] at HC
          clear B0 hx
          have q0 : ∀ x : Kept wr, x.1.cell? ⟨b, off, none⟩ = some (.string (cid ds 0)) := fun x => x.cell c0
          have q1 : ∀ x : Kept wr, x.1.cell? ⟨b, off + 1, none⟩ = some (.bool (chd ds 0)) := fun x => x.cell c1
          have q2 : ∀ x : Kept wr, x.1.cell? ⟨b, off + 2, none⟩ = some (.string (cwf ds 0).1) := fun x => x.cell c2
          have q3 : ∀ x : Kept wr, x.1.cell? ⟨b, off + 3, none⟩ = some (.int .i64 (cwf ds 0).2.1) := fun x => x.cell c3
          have q4 : ∀ x : Kept wr, x.1.cell? ⟨b, off + 4, none⟩ = some (.slice pa (cwf ds 0).2.2.1.length pc) := fun x => x.cell c4
          have q5 : ∀ x : Kept wr, x.1.cell? ⟨b, off + 5, none⟩ = some (.slice ta (cwf ds 0).2.2.2.length tc) := fun x => x.cell c5
          have q6 : ∀ x : Kept wr, x.1.cell? ⟨b, off + 6, none⟩ = some (.bool (chs ds 0)) := fun x => x.cell c6
          have q7 : ∀ x : Kept wr, x.1.cell? ⟨b, off + 7, none⟩ = some (.string (cnf ds 0).1) := fun x => x.cell c7
          have q8 : ∀ x : Kept wr, x.1.cell? ⟨b, off + 8, none⟩ = some (.int .i64 (cnf ds 0).2.1) := fun x => x.cell c8
          have q9 : ∀ x : Kept wr, x.1.cell? ⟨b, off + 9, none⟩ = some (.slice qa (cnf ds 0).2.2.1.length qc) := fun x => x.cell c9
          have q10 : ∀ x : Kept wr, x.1.cell? ⟨b, off + 10, none⟩ = some (.slice ua (cnf ds 0).2.2.2.length uc) := fun x => x.cell c10
          clear c0 c1 c2 c3 c4 c5 c6 c7 c8 c9 c10
          go_wp2
          refine wp_region_kept (by kernel_rfl) (by kernel_rfl) ?_
          repeat (go_big_quiet_step (exact Kept.calls _ (HC.out _ (Subtype.property _))))
          refine wpQuiet_nil ?_
          rintro wn ⟨x, e⟩
          have hbn : Below wr.heap.size wr wn := by rw [e]; exact x.2
          clear e x
          have B : Hid (Below w.heap.size w wn) := HB.out.trans (hbn.mono hsz)
          clear hbn q0 q1 q2 q3 q4 q5 q6 q7 q8 q9 q10
          go_wp2
          go_roundw
          case rel => exact ⟨1, by omega, by go_num, B.out, fun i hi => by obtain rfl : i = 0 := (by omega); exact HS.out⟩
          case measure => simp [intOf]; omega
        · obtain ⟨b', off', _, _, _, _, _, _, _, _, he, hy⟩ := HP.out (k - 1) (by omega)
          obtain ⟨rfl, rfl⟩ : b = b' ∧ off = off' := by simpa using he
          clear he
          have d0 := (hy.below HB.out).c0
          clear hy
          obtain ⟨j, rfl⟩ : ∃ j, k = j + 1 := ⟨k - 1, by omega⟩
          simp only [Nat.add_sub_cancel] at d0
          have hg : decide ((0 : Int) < ((j + 1 : Nat) : Int)) = true := by simp
          have hw1 : IntKind.i64.wrap (((j + 1 : Nat) : Int) - 1) = (j : Int) := by rw [IntWalk.i64_in _ (by omega)]; omega
          have HC := B0
          rw [hx] at HC
          clear B0
          by_cases hq : cb ds (j + 1) < cb ds j
          · have HS : Hid (chGood ds (j + 1) = false) := by
              have : cb ds (j + 1) ≤ cb ds j := List.le_of_lt hq
              simp [Hid, chGood, this]
            have e1 := less_of hq
            have e3 := less_not (List.lt_asymm hq)
            clear hq hx
            have q0 : ∀ x : Kept wr, x.1.cell? ⟨b, off + (j + 1) * 11, none⟩ = some (.string (cid ds (j + 1))) := fun x => x.cell c0
            have q1 : ∀ x : Kept wr, x.1.cell? ⟨b, off + (j + 1) * 11 + 1, none⟩ = some (.bool (chd ds (j + 1))) := fun x => x.cell c1
            have q2 : ∀ x : Kept wr, x.1.cell? ⟨b, off + (j + 1) * 11 + 2, none⟩ = some (.string (cwf ds (j + 1)).1) := fun x => x.cell c2
            have q3 : ∀ x : Kept wr, x.1.cell? ⟨b, off + (j + 1) * 11 + 3, none⟩ = some (.int .i64 (cwf ds (j + 1)).2.1) := fun x => x.cell c3
            have q4 : ∀ x : Kept wr, x.1.cell? ⟨b, off + (j + 1) * 11 + 4, none⟩ = some (.slice pa (cwf ds (j + 1)).2.2.1.length pc) := fun x => x.cell c4
            have q5 : ∀ x : Kept wr, x.1.cell? ⟨b, off + (j + 1) * 11 + 5, none⟩ = some (.slice ta (cwf ds (j + 1)).2.2.2.length tc) := fun x => x.cell c5
            have q6 : ∀ x : Kept wr, x.1.cell? ⟨b, off + (j + 1) * 11 + 6, none⟩ = some (.bool (chs ds (j + 1))) := fun x => x.cell c6
            have q7 : ∀ x : Kept wr, x.1.cell? ⟨b, off + (j + 1) * 11 + 7, none⟩ = some (.string (cnf ds (j + 1)).1) := fun x => x.cell c7
            have q8 : ∀ x : Kept wr, x.1.cell? ⟨b, off + (j + 1) * 11 + 8, none⟩ = some (.int .i64 (cnf ds (j + 1)).2.1) := fun x => x.cell c8
            have q9 : ∀ x : Kept wr, x.1.cell? ⟨b, off + (j + 1) * 11 + 9, none⟩ = some (.slice qa (cnf ds (j + 1)).2.2.1.length qc) := fun x => x.cell c9
            have q10 : ∀ x : Kept wr, x.1.cell? ⟨b, off + (j + 1) * 11 + 10, none⟩ = some (.slice ua (cnf ds (j + 1)).2.2.2.length uc) := fun x => x.cell c10
            have q11 : ∀ x : Kept wr, x.1.cell? ⟨b, off + j * 11, none⟩ = some (.string (cid ds j)) := fun x => x.cell d0
            clear d0
            clear c0 c1 c2 c3 c4 c5 c6 c7 c8 c9 c10
            go_wp2
            refine wp_region_kept (by kernel_rfl) (by kernel_rfl) ?_
            repeat (go_big_quiet_step (exact Kept.calls _ (HC.out _ (Subtype.property _))))
            refine wpQuiet_nil ?_
            rintro wn ⟨x, e⟩
            have hbn : Below wr.heap.size wr wn := by rw [e]; exact x.2
            clear e x
            have B : Hid (Below w.heap.size w wn) := HB.out.trans (hbn.mono hsz)
            clear hbn q0 q1 q2 q3 q4 q5 q6 q7 q8 q9 q10 q11
            go_wp2
            go_ret
            exact ⟨by rw [diffOk_not hlt HS.out]; rfl, B.out⟩
          · have e1 := less_not hq
            by_cases hr : cb ds (j + 1) = cb ds j
            · have HS : Hid (chGood ds (j + 1) = false) := by
                have : cb ds (j + 1) ≤ cb ds j := by rw [hr]; exact List.le_refl _
                simp [Hid, chGood, this]
              have e2 := beq_of hr
              have e4 := beq_of hr.symm
              have e3 := less_not (x := cid ds j) (y := cid ds (j + 1)) (fun h => hq (by have h2 := h; unfold cb at hr; rw [hr] at h2; exact absurd h2 (List.lt_irrefl _)))
              clear hq hr hx
              have q0 : ∀ x : Kept wr, x.1.cell? ⟨b, off + (j + 1) * 11, none⟩ = some (.string (cid ds (j + 1))) := fun x => x.cell c0
              have q1 : ∀ x : Kept wr, x.1.cell? ⟨b, off + (j + 1) * 11 + 1, none⟩ = some (.bool (chd ds (j + 1))) := fun x => x.cell c1
              have q2 : ∀ x : Kept wr, x.1.cell? ⟨b, off + (j + 1) * 11 + 2, none⟩ = some (.string (cwf ds (j + 1)).1) := fun x => x.cell c2
              have q3 : ∀ x : Kept wr, x.1.cell? ⟨b, off + (j + 1) * 11 + 3, none⟩ = some (.int .i64 (cwf ds (j + 1)).2.1) := fun x => x.cell c3
              have q4 : ∀ x : Kept wr, x.1.cell? ⟨b, off + (j + 1) * 11 + 4, none⟩ = some (.slice pa (cwf ds (j + 1)).2.2.1.length pc) := fun x => x.cell c4
              have q5 : ∀ x : Kept wr, x.1.cell? ⟨b, off + (j + 1) * 11 + 5, none⟩ = some (.slice ta (cwf ds (j + 1)).2.2.2.length tc) := fun x => x.cell c5
              have q6 : ∀ x : Kept wr, x.1.cell? ⟨b, off + (j + 1) * 11 + 6, none⟩ = some (.bool (chs ds (j + 1))) := fun x => x.cell c6
              have q7 : ∀ x : Kept wr, x.1.cell? ⟨b, off + (j + 1) * 11 + 7, none⟩ = some (.string (cnf ds (j + 1)).1) := fun x => x.cell c7
              have q8 : ∀ x : Kept wr, x.1.cell? ⟨b, off + (j + 1) * 11 + 8, none⟩ = some (.int .i64 (cnf ds (j + 1)).2.1) := fun x => x.cell c8
              have q9 : ∀ x : Kept wr, x.1.cell? ⟨b, off + (j + 1) * 11 + 9, none⟩ = some (.slice qa (cnf ds (j + 1)).2.2.1.length qc) := fun x => x.cell c9
              have q10 : ∀ x : Kept wr, x.1.cell? ⟨b, off + (j + 1) * 11 + 10, none⟩ = some (.slice ua (cnf ds (j + 1)).2.2.2.length uc) := fun x => x.cell c10
              have q11 : ∀ x : Kept wr, x.1.cell? ⟨b, off + j * 11, none⟩ = some (.string (cid ds j)) := fun x => x.cell d0
              clear d0
              clear c0 c1 c2 c3 c4 c5 c6 c7 c8 c9 c10
              go_wp2
              refine wp_region_kept (by kernel_rfl) (by kernel_rfl) ?_
              repeat (go_big_quiet_step (exact Kept.calls _ (HC.out _ (Subtype.property _))))
              refine wpQuiet_nil ?_
              rintro wn ⟨x, e⟩
              have hbn : Below wr.heap.size wr wn := by rw [e]; exact x.2
              clear e x
              have B : Hid (Below w.heap.size w wn) := HB.out.trans (hbn.mono hsz)
              clear hbn q0 q1 q2 q3 q4 q5 q6 q7 q8 q9 q10 q11
              go_wp2
              go_ret
              exact ⟨by rw [diffOk_not hlt HS.out]; rfl, B.out⟩
            · have HS : Hid (chGood ds (j + 1) = true) := by
                have : ¬ cb ds (j + 1) ≤ cb ds j := fun h => hq (lt_of_le_ne h (fun e => hr e.symm))
                simp [Hid, chGood, hx, this]
              have e2 := beq_not hr
              have e4 := beq_not (fun e => hr e.symm)
              have e3 : Op.bytesLess (cid ds j).toList (cid ds (j + 1)).toList = true := less_of (lt_of_le_ne hq hr)
              clear hq hr hx
              have q0 : ∀ x : Kept wr, x.1.cell? ⟨b, off + (j + 1) * 11, none⟩ = some (.string (cid ds (j + 1))) := fun x => x.cell c0
              have q1 : ∀ x : Kept wr, x.1.cell? ⟨b, off + (j + 1) * 11 + 1, none⟩ = some (.bool (chd ds (j + 1))) := fun x => x.cell c1
              have q2 : ∀ x : Kept wr, x.1.cell? ⟨b, off + (j + 1) * 11 + 2, none⟩ = some (.string (cwf ds (j + 1)).1) := fun x => x.cell c2
              have q3 : ∀ x : Kept wr, x.1.cell? ⟨b, off + (j + 1) * 11 + 3, none⟩ = some (.int .i64 (cwf ds (j + 1)).2.1) := fun x => x.cell c3
              have q4 : ∀ x : Kept wr, x.1.cell? ⟨b, off + (j + 1) * 11 + 4, none⟩ = some (.slice pa (cwf ds (j + 1)).2.2.1.length pc) := fun x => x.cell c4
              have q5 : ∀ x : Kept wr, x.1.cell? ⟨b, off + (j + 1) * 11 + 5, none⟩ = some (.slice ta (cwf ds (j + 1)).2.2.2.length tc) := fun x => x.cell c5
              have q6 : ∀ x : Kept wr, x.1.cell? ⟨b, off + (j + 1) * 11 + 6, none⟩ = some (.bool (chs ds (j + 1))) := fun x => x.cell c6
              have q7 : ∀ x : Kept wr, x.1.cell? ⟨b, off + (j + 1) * 11 + 7, none⟩ = some (.string (cnf ds (j + 1)).1) := fun x => x.cell c7
              have q8 : ∀ x : Kept wr, x.1.cell? ⟨b, off + (j + 1) * 11 + 8, none⟩ = some (.int .i64 (cnf ds (j + 1)).2.1) := fun x => x.cell c8
              have q9 : ∀ x : Kept wr, x.1.cell? ⟨b, off + (j + 1) * 11 + 9, none⟩ = some (.slice qa (cnf ds (j + 1)).2.2.1.length qc) := fun x => x.cell c9
              have q10 : ∀ x : Kept wr, x.1.cell? ⟨b, off + (j + 1) * 11 + 10, none⟩ = some (.slice ua (cnf ds (j + 1)).2.2.2.length uc) := fun x => x.cell c10
              have q11 : ∀ x : Kept wr, x.1.cell? ⟨b, off + j * 11, none⟩ = some (.string (cid ds j)) := fun x => x.cell d0
              clear d0
              clear c0 c1 c2 c3 c4 c5 c6 c7 c8 c9 c10
              go_wp2
              refine wp_region_kept (by kernel_rfl) (by kernel_rfl) ?_
              repeat (go_big_quiet_step (exact Kept.calls _ (HC.out _ (Subtype.property _))))
              refine wpQuiet_nil ?_
              rintro wn ⟨x, e⟩
              have hbn : Below wr.heap.size wr wn := by rw [e]; exact x.2
              clear e x
              have B : Hid (Below w.heap.size w wn) := HB.out.trans (hbn.mono hsz)
              clear hbn q0 q1 q2 q3 q4 q5 q6 q7 q8 q9 q10 q11
              go_wp2
              go_roundw
              case rel => exact ⟨j + 1 + 1, by omega, by go_num, B.out, fun i hi => by by_cases e : i = j + 1; (subst e; exact HS.out); exact HA.out i (by omega)⟩
              case measure => simp [intOf]; omega
      · have hx' : chOkAt ds k = false := by simpa using hx
        have HS : Hid (chGood ds k = false) := by simp [Hid, chGood, hx']
        have HC := B0
        rw [hx'] at HC
        clear B0 hx hx'
        have q0 : ∀ x : Kept wr, x.1.cell? ⟨b, off + k * 11, none⟩ = some (.string (cid ds k)) := fun x => x.cell c0
        have q1 : ∀ x : Kept wr, x.1.cell? ⟨b, off + k * 11 + 1, none⟩ = some (.bool (chd ds k)) := fun x => x.cell c1
        have q2 : ∀ x : Kept wr, x.1.cell? ⟨b, off + k * 11 + 2, none⟩ = some (.string (cwf ds k).1) := fun x => x.cell c2
        have q3 : ∀ x : Kept wr, x.1.cell? ⟨b, off + k * 11 + 3, none⟩ = some (.int .i64 (cwf ds k).2.1) := fun x => x.cell c3
        have q4 : ∀ x : Kept wr, x.1.cell? ⟨b, off + k * 11 + 4, none⟩ = some (.slice pa (cwf ds k).2.2.1.length pc) := fun x => x.cell c4
        have q5 : ∀ x : Kept wr, x.1.cell? ⟨b, off + k * 11 + 5, none⟩ = some (.slice ta (cwf ds k).2.2.2.length tc) := fun x => x.cell c5
        have q6 : ∀ x : Kept wr, x.1.cell? ⟨b, off + k * 11 + 6, none⟩ = some (.bool (chs ds k)) := fun x => x.cell c6
        have q7 : ∀ x : Kept wr, x.1.cell? ⟨b, off + k * 11 + 7, none⟩ = some (.string (cnf ds k).1) := fun x => x.cell c7
        have q8 : ∀ x : Kept wr, x.1.cell? ⟨b, off + k * 11 + 8, none⟩ = some (.int .i64 (cnf ds k).2.1) := fun x => x.cell c8
        have q9 : ∀ x : Kept wr, x.1.cell? ⟨b, off + k * 11 + 9, none⟩ = some (.slice qa (cnf ds k).2.2.1.length qc) := fun x => x.cell c9
        have q10 : ∀ x : Kept wr, x.1.cell? ⟨b, off + k * 11 + 10, none⟩ = some (.slice ua (cnf ds k).2.2.2.length uc) := fun x => x.cell c10
        clear c0 c1 c2 c3 c4 c5 c6 c7 c8 c9 c10
        go_wp2
        refine wp_region_kept (by kernel_rfl) (by kernel_rfl) ?_
        repeat (go_big_quiet_step (exact Kept.calls _ (HC.out _ (Subtype.property _))))
        refine wpQuiet_nil ?_
        rintro wn ⟨x, e⟩
        have hbn : Below wr.heap.size wr wn := by rw [e]; exact x.2
        clear e x
        have B : Hid (Below w.heap.size w wn) := HB.out.trans (hbn.mono hsz)
        clear hbn q0 q1 q2 q3 q4 q5 q6 q7 q8 q9 q10
        go_wp2
        go_ret
        exact ⟨by rw [diffOk_not hlt HS.out]; rfl, B.out⟩
    · obtain rfl : k = ds.length := by omega
      have HT := Lib.hid (chsGood_of HA.out)
      clear hbel
      go_wp2
      go_ret
      exact ⟨by unfold diffOk; rw [HT.out]; simp; omega, HB.out⟩
    
end Go.Proofs.YtelimcknhaflfaaGreat
