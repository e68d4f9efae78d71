/- Proved here: the model's way of asking whether things are a map answers as the plain definition 'sheetOk' says; lists of at most 1,048,576 things, points and tags, texts of at most 1,048,576 bytes. -/
import Derived.Test.YtdfadpejddhbkaaGreatWFeatOk
import Derived.Test.YtdfadpejddhbkaaGreatWSheetEq
import Derived.Test.YtdfadpejddhbkaaGreatWQuietB
import Derived.BigQuiet
namespace Go.Proofs.YtdfadpejddhbkaaGreat
set_option linter.unusedVariables false
open Go.ChangeShapes Go.WideShapes Go.ChangeAt Go.RowKit

/-- the bytes of a thing's name, by its place -/
def fb (fs : List Ft) (i : Nat) : List UInt8 := (fid fs i).data.toList
/-- a thing is one -/
def ftOk (fs : List Ft) (i : Nat) : Bool := featOk (fid fs i) (fkd fs i) (fps fs i) (fts fs i)
/-- a thing is one, and its name behind the one ahead of it -/
def featGood (fs : List Ft) (i : Nat) : Bool := ftOk fs i && !(decide (0 < i) && decide (fb fs i ≤ fb fs (i - 1)))
def featsGood (fs : List Ft) : Bool := (List.range fs.length).all (featGood fs)
/-- things are a map -/
def sheetOk (fs : List Ft) : Bool := featsGood fs && decide (fs.length ≤ 8)

theorem featsGood_of {fs : List Ft} (h : ∀ j, j < fs.length → featGood fs j = true) : featsGood fs = true := by
  unfold featsGood
  rw [List.all_eq_true]
  intro j hj
  exact h j (by simpa using hj)

theorem featsGood_not {fs : List Ft} {j : Nat} (hj : j < fs.length) (h : featGood fs j = false) : featsGood fs = false := by
  unfold featsGood
  rw [List.all_eq_false]
  exact ⟨j, by simpa using hj, by simp [h]⟩

theorem featsGood_at {fs : List Ft} (h : featsGood fs = true) {j : Nat} (hj : j < fs.length) : featGood fs j = true := by
  unfold featsGood at h
  rw [List.all_eq_true] at h
  exact h j (by simpa using hj)

theorem sheetOk_not {fs : List Ft} {j : Nat} (hj : j < fs.length) (h : featGood fs j = false) : sheetOk fs = false := by
  unfold sheetOk
  rw [featsGood_not hj h]
  rfl

set_option maxRecDepth 100000 in
set_option maxHeartbeats 4000000 in
theorem specSheetOk_any (a : Option Addr) (cap : Nat) (fs : List Ft) (w : World) (hp : FeatsAt w a fs) (hl : fs.length ≤ 1048576) (ht : FeatsLen fs 1048576) :
    Calls Tryz.prog 58 #[.slice a fs.length cap] w fun e w' => e = .returned (.bool (sheetOk fs)) ∧ Below w.heap.size w w' := by
  have HP := Lib.hid hp
  have HL := Lib.hid ht
  clear hp ht
  go_enter Tryz.func58, Tryz.ntmps58
  go_wp2
  go_loopw [3] (fun i wr => ∃ k : Nat, k ≤ fs.length ∧ i = .int .i64 k ∧ Below w.heap.size w wr ∧ ∀ j, j < k → featGood fs j = true) (fun i _ => fs.length - (intOf i).toNat)
  case atStart => exact ⟨0, Nat.zero_le _, rfl, Below.refl _ _, fun j h => absurd h (Nat.not_lt_zero _)⟩
  case round =>
    obtain ⟨k, hk, rfl, hbel, hall⟩ := hrel
    have HA := Lib.hid hall
    have HB := Lib.hid hbel
    have hsz := hbel.size
    clear hall
    by_cases hlt : k < fs.length
    · obtain ⟨b, off, pa, pc, ta, tc, rfl, hb, hc1, hc2, hc3, hc4, hpp, htt⟩ := HP.out k hlt
      obtain ⟨l1, l2, l3, l4⟩ := HL.out k hlt
      rw [← hbel.cell (p := ⟨b, _, none⟩) hb] at hc1 hc2 hc3 hc4
      have D1 := Lib.hid (hpp.below hbel)
      have D2 := Lib.hid (htt.below hbel)
      have L4 := Lib.hid l4
      clear hbel hpp htt l4
      have B0 : Hid (∀ u, Below wr.heap.size wr u → Calls Tryz.prog 74 #[.agg #[.string (fid fs k), .int .i64 (fkd fs k), .slice pa (fps fs k).length pc, .slice ta (fts fs k).length tc]] u fun e w' => e = .returned (.bool (ftOk fs k)) ∧ Below u.heap.size u w') := fun u hu =>
        specFeatOk_any _ _ _ _ _ _ _ _ _ (D1.out.below hu) (D2.out.below hu) (by omega) (by omega) (by omega) L4.out
      clear D1 D2 L4
      by_cases hx : ftOk fs k = true
      · by_cases h0 : k = 0
        · subst h0
          simp only [Nat.zero_mul, Nat.add_zero] at hc1 hc2 hc3 hc4
          have HS : Hid (featGood fs 0 = true) := by simp [Hid, featGood, hx]
          have HC := B0
          rw [hx] at HC
          clear B0 hx
          have q1 : ∀ x : Kept wr, x.1.cell? ⟨b, off, none⟩ = some (.string (fid fs 0)) := fun x => x.cell hc1
          have q2 : ∀ x : Kept wr, x.1.cell? ⟨b, off + 1, none⟩ = some (.int .i64 (fkd fs 0)) := fun x => x.cell hc2
          have q3 : ∀ x : Kept wr, x.1.cell? ⟨b, off + 2, none⟩ = some (.slice pa (fps fs 0).length pc) := fun x => x.cell hc3
          have q4 : ∀ x : Kept wr, x.1.cell? ⟨b, off + 3, none⟩ = some (.slice ta (fts fs 0).length tc) := fun x => x.cell hc4
          clear hc1 hc2 hc3 hc4
          go_wp2
          refine wp_region_kept (by kernel_rfl) (by kernel_rfl) ?_
          repeat (go_big_quiet_step (exact Kept.calls _ (HC.out _ (Subtype.property _))))
          refine wpQuiet_nil ?_
          rintro wn ⟨x, e⟩
          have hbn : Below wr.heap.size wr wn := by rw [e]; exact x.2
          clear e x
          have B : Hid (Below w.heap.size w wn) := HB.out.trans (hbn.mono hsz)
          clear hbn q1 q2 q3 q4
          go_wp2
          go_roundw
          case rel => exact ⟨1, by omega, by go_num, B.out, fun i hi => by by_cases e : i = 0; (subst e; exact HS.out); exact HA.out i (by omega)⟩
          case measure => simp [intOf]; omega
        · obtain ⟨b', off', _, _, _, _, he, _, hd1, _⟩ := HP.out (k - 1) (by omega)
          obtain ⟨rfl, rfl⟩ : b = b' ∧ off = off' := by simpa using he
          clear he
          rw [← HB.out.cell (p := ⟨b, _, none⟩) hb] at hd1
          obtain ⟨j, rfl⟩ : ∃ j, k = j + 1 := ⟨k - 1, by omega⟩
          simp only [Nat.add_sub_cancel] at hd1
          have hg : decide ((0 : Int) < ((j + 1 : Nat) : Int)) = true := by simp
          have hw1 : IntKind.i64.wrap (((j + 1 : Nat) : Int) - 1) = (j : Int) := by rw [IntWalk.i64_in _ (by omega)]; omega
          have HC := B0
          rw [hx] at HC
          clear B0
          by_cases hq : fb fs (j + 1) < fb fs j
          · have HS : Hid (featGood fs (j + 1) = false) := by
              have : fb fs (j + 1) ≤ fb fs j := List.le_of_lt hq
              simp [Hid, featGood, this]
            have e1 := less_of hq
            clear hq hx
            have q1 : ∀ x : Kept wr, x.1.cell? ⟨b, off + (j + 1) * 4, none⟩ = some (.string (fid fs (j + 1))) := fun x => x.cell hc1
            have q2 : ∀ x : Kept wr, x.1.cell? ⟨b, off + (j + 1) * 4 + 1, none⟩ = some (.int .i64 (fkd fs (j + 1))) := fun x => x.cell hc2
            have q3 : ∀ x : Kept wr, x.1.cell? ⟨b, off + (j + 1) * 4 + 2, none⟩ = some (.slice pa (fps fs (j + 1)).length pc) := fun x => x.cell hc3
            have q4 : ∀ x : Kept wr, x.1.cell? ⟨b, off + (j + 1) * 4 + 3, none⟩ = some (.slice ta (fts fs (j + 1)).length tc) := fun x => x.cell hc4
            have q5 : ∀ x : Kept wr, x.1.cell? ⟨b, off + j * 4, none⟩ = some (.string (fid fs j)) := fun x => x.cell hd1
            clear hc1 hc2 hc3 hc4
            clear hd1
            go_wp2
            refine wp_region_kept (by kernel_rfl) (by kernel_rfl) ?_
            repeat (go_big_quiet_step (exact Kept.calls _ (HC.out _ (Subtype.property _))))
            refine wpQuiet_nil ?_
            rintro wn ⟨x, e⟩
            have hbn : Below wr.heap.size wr wn := by rw [e]; exact x.2
            clear e x
            have B : Hid (Below w.heap.size w wn) := HB.out.trans (hbn.mono hsz)
            clear hbn q1 q2 q3 q4
            go_wp2
            go_ret
            exact ⟨by rw [sheetOk_not hlt HS.out]; rfl, B.out⟩
          · have e1 := less_not hq
            by_cases hr : fb fs (j + 1) = fb fs j
            · have HS : Hid (featGood fs (j + 1) = false) := by
                have : fb fs (j + 1) ≤ fb fs j := by rw [hr]; exact List.le_refl _
                simp [Hid, featGood, this]
              have e2 := beq_of hr
              clear hq hr hx
              have q1 : ∀ x : Kept wr, x.1.cell? ⟨b, off + (j + 1) * 4, none⟩ = some (.string (fid fs (j + 1))) := fun x => x.cell hc1
              have q2 : ∀ x : Kept wr, x.1.cell? ⟨b, off + (j + 1) * 4 + 1, none⟩ = some (.int .i64 (fkd fs (j + 1))) := fun x => x.cell hc2
              have q3 : ∀ x : Kept wr, x.1.cell? ⟨b, off + (j + 1) * 4 + 2, none⟩ = some (.slice pa (fps fs (j + 1)).length pc) := fun x => x.cell hc3
              have q4 : ∀ x : Kept wr, x.1.cell? ⟨b, off + (j + 1) * 4 + 3, none⟩ = some (.slice ta (fts fs (j + 1)).length tc) := fun x => x.cell hc4
              have q5 : ∀ x : Kept wr, x.1.cell? ⟨b, off + j * 4, none⟩ = some (.string (fid fs j)) := fun x => x.cell hd1
              clear hc1 hc2 hc3 hc4
              clear hd1
              go_wp2
              refine wp_region_kept (by kernel_rfl) (by kernel_rfl) ?_
              repeat (go_big_quiet_step (exact Kept.calls _ (HC.out _ (Subtype.property _))))
              refine wpQuiet_nil ?_
              rintro wn ⟨x, e⟩
              have hbn : Below wr.heap.size wr wn := by rw [e]; exact x.2
              clear e x
              have B : Hid (Below w.heap.size w wn) := HB.out.trans (hbn.mono hsz)
              clear hbn q1 q2 q3 q4
              go_wp2
              go_ret
              exact ⟨by rw [sheetOk_not hlt HS.out]; rfl, B.out⟩
            · have HS : Hid (featGood fs (j + 1) = true) := by
                have : ¬ fb fs (j + 1) ≤ fb fs j := fun h => hq (lt_of_le_ne h (fun e => hr e.symm))
                simp [Hid, featGood, hx, this]
              have e2 := beq_not hr
              clear hq hr hx
              have q1 : ∀ x : Kept wr, x.1.cell? ⟨b, off + (j + 1) * 4, none⟩ = some (.string (fid fs (j + 1))) := fun x => x.cell hc1
              have q2 : ∀ x : Kept wr, x.1.cell? ⟨b, off + (j + 1) * 4 + 1, none⟩ = some (.int .i64 (fkd fs (j + 1))) := fun x => x.cell hc2
              have q3 : ∀ x : Kept wr, x.1.cell? ⟨b, off + (j + 1) * 4 + 2, none⟩ = some (.slice pa (fps fs (j + 1)).length pc) := fun x => x.cell hc3
              have q4 : ∀ x : Kept wr, x.1.cell? ⟨b, off + (j + 1) * 4 + 3, none⟩ = some (.slice ta (fts fs (j + 1)).length tc) := fun x => x.cell hc4
              have q5 : ∀ x : Kept wr, x.1.cell? ⟨b, off + j * 4, none⟩ = some (.string (fid fs j)) := fun x => x.cell hd1
              clear hc1 hc2 hc3 hc4
              clear hd1
              go_wp2
              refine wp_region_kept (by kernel_rfl) (by kernel_rfl) ?_
              repeat (go_big_quiet_step (exact Kept.calls _ (HC.out _ (Subtype.property _))))
              refine wpQuiet_nil ?_
              rintro wn ⟨x, e⟩
              have hbn : Below wr.heap.size wr wn := by rw [e]; exact x.2
              clear e x
              have B : Hid (Below w.heap.size w wn) := HB.out.trans (hbn.mono hsz)
              clear hbn q1 q2 q3 q4
              go_wp2
              go_roundw
              case rel => exact ⟨j + 1 + 1, by omega, by go_num, B.out, fun i hi => by by_cases e : i = (j + 1); (subst e; exact HS.out); exact HA.out i (by omega)⟩
              case measure => simp [intOf]; omega
      · have hx' : ftOk fs k = false := by simpa using hx
        have HS : Hid (featGood fs k = false) := by simp [Hid, featGood, hx']
        have HC := B0
        rw [hx'] at HC
        clear B0 hx hx'
        have q1 : ∀ x : Kept wr, x.1.cell? ⟨b, off + k * 4, none⟩ = some (.string (fid fs k)) := fun x => x.cell hc1
        have q2 : ∀ x : Kept wr, x.1.cell? ⟨b, off + k * 4 + 1, none⟩ = some (.int .i64 (fkd fs k)) := fun x => x.cell hc2
        have q3 : ∀ x : Kept wr, x.1.cell? ⟨b, off + k * 4 + 2, none⟩ = some (.slice pa (fps fs k).length pc) := fun x => x.cell hc3
        have q4 : ∀ x : Kept wr, x.1.cell? ⟨b, off + k * 4 + 3, none⟩ = some (.slice ta (fts fs k).length tc) := fun x => x.cell hc4
        clear hc1 hc2 hc3 hc4
        go_wp2
        refine wp_region_kept (by kernel_rfl) (by kernel_rfl) ?_
        repeat (go_big_quiet_step (exact Kept.calls _ (HC.out _ (Subtype.property _))))
        refine wpQuiet_nil ?_
        rintro wn ⟨x, e⟩
        have hbn : Below wr.heap.size wr wn := by rw [e]; exact x.2
        clear e x
        have B : Hid (Below w.heap.size w wn) := HB.out.trans (hbn.mono hsz)
        clear hbn q1 q2 q3 q4
        go_wp2
        go_ret
        exact ⟨by rw [sheetOk_not hlt HS.out]; rfl, B.out⟩
    · obtain rfl : k = fs.length := by omega
      have HT := Lib.hid (featsGood_of HA.out)
      clear hbel
      go_wp2
      go_ret
      exact ⟨by unfold sheetOk; rw [HT.out]; simp; omega, HB.out⟩
end Go.Proofs.YtdfadpejddhbkaaGreat
