/- Proved here: the model writes a shape as the plain function 'shapeT' says; rows of at most 1,048,576 points. -/
import Derived.Test.YtelimcknhaflfaaGreatDoorWItoa
import Derived.Test.YtelimcknhaflfaaGreatDoorWSpecOk
import Derived.Test.YtelimcknhaflfaaGreatDoorWImplOk
namespace Go.Proofs.YtelimcknhaflfaaGreatDoor
set_option linter.unusedVariables false
open Go.ChangeShapes Go.WideShapes Go.ChangeAt Go.RowKit

/-- the word of a kind -/
def kindT (k : Int) : ByteArray := if k = 1 then ⟨#[0x64, 0x6f, 0x74]⟩ else if k = 2 then ⟨#[0x6c, 0x69, 0x6e, 0x65]⟩ else ⟨#[0x72, 0x69, 0x6e, 0x67]⟩

/-- the word of a kind and the first points -/
def textTo (k : Int) (ps : List (Int × Int)) : Nat → ByteArray
  | 0 => kindT k
  | j + 1 => textTo k ps j ++ (⟨#[32]⟩ ++ ptT (px ps j) (py ps j))

/-- a shape, as a text -/
def shapeT (k : Int) (ps : List (Int × Int)) : ByteArray := if shapeOk k ps then textTo k ps ps.length else ⟨#[]⟩

theorem shapeT_ok {k : Int} {ps : List (Int × Int)} (h : shapeOk k ps = true) : shapeT k ps = textTo k ps ps.length := by rw [shapeT, if_pos h]
theorem shapeT_bad {k : Int} {ps : List (Int × Int)} (h : shapeOk k ps = false) : shapeT k ps = ⟨#[]⟩ := by rw [shapeT, if_neg (by simp [h])]

theorem kindT_size (k : Int) : (kindT k).size ≤ 4 := by
  unfold kindT
  split
  · decide
  · split <;> decide

theorem ok_pts {k : Int} {ps : List (Int × Int)} (h : shapeOk k ps = true) {j : Nat} (hj : j < ps.length) : -1000 ≤ px ps j ∧ px ps j ≤ 1000 ∧ -1000 ≤ py ps j ∧ py ps j ≤ 1000 := by
  have h2 : ptsGood ps = true := by
    unfold shapeOk at h
    simp only [Bool.and_eq_true] at h
    exact h.2
  have h3 := ptsGood_at h2 hj
  simp only [ptGood, inR, Bool.and_eq_true, decide_eq_true_eq] at h3
  exact ⟨h3.1.1.1, h3.1.1.2, h3.1.2.1, h3.1.2.2⟩

theorem ok_len {k : Int} {ps : List (Int × Int)} (h : shapeOk k ps = true) : ps.length ≤ 6 := by
  unfold shapeOk at h
  simp only [Bool.and_eq_true, decide_eq_true_eq] at h
  exact h.1.1

theorem ok_kind {k : Int} {ps : List (Int × Int)} (h : shapeOk k ps = true) : k = 1 ∨ k = 2 ∨ k = 3 := by
  unfold shapeOk at h
  simp only [Bool.and_eq_true, decide_eq_true_eq] at h
  have := h.1.2
  unfold kindHolds at this
  by_cases h1 : k = 1
  · exact .inl h1
  · by_cases h2 : k = 2
    · exact .inr (.inl h2)
    · by_cases h3 : k = 3
      · exact .inr (.inr h3)
      · simp [h1, h2, h3] at this

theorem textTo_size {k : Int} {ps : List (Int × Int)} (h : shapeOk k ps = true) (j : Nat) (hj : j ≤ ps.length) : (textTo k ps j).size ≤ 4 + j * 44 := by
  induction j with
  | zero => simpa [textTo] using kindT_size k
  | succ j ih =>
    have ih := ih (by omega)
    obtain ⟨h0, h1, h2, h3⟩ := ok_pts h (j := j) (by omega)
    have a := dec_size _ h0 h1
    have b := dec_size _ h2 h3
    have s1 : (⟨#[32]⟩ : ByteArray).size = 1 := rfl
    have s2 : (⟨#[44]⟩ : ByteArray).size = 1 := rfl
    simp only [textTo, ptT, ByteArray.size_append, s1, s2]
    omega

theorem textTo_next (k : Int) (ps : List (Int × Int)) (j : Nat) : textTo k ps j ++ ⟨#[32]⟩ ++ dec (px ps j) ++ ⟨#[44]⟩ ++ dec (py ps j) = textTo k ps (j + 1) := by
  simp only [textTo, ptT, ByteArray.append_assoc]

set_option maxHeartbeats 1000000 in
theorem l1Word_any (k : Int) (w : World) (hk : k = 1 ∨ k = 2 ∨ k = 3) :
    Calls Tryz.prog 44 #[.int .i64 k] w fun e w' => e = .returned (.string (kindT k)) ∧ Below w.heap.size w w' := by
  rcases hk with rfl | rfl | rfl
  all_goals
    go_enter Tryz.func44, Tryz.ntmps44
    go_wp2
    go_ret
    exact ⟨rfl, (Below.refl _ _).alloc (Nat.le_refl _) _⟩

set_option maxRecDepth 100000 in
set_option maxHeartbeats 2000000 in
theorem specShapeText_any (k : Int) (a : Option Addr) (cap : Nat) (ps : List (Int × Int)) (w : World) (hp : PtsAt w a ps) (hl : ps.length ≤ 1048576) :
    Calls Tryz.prog 28 #[.agg #[.int .i64 k, .slice a ps.length cap]] w fun e w' => e = .returned (.string (shapeT k ps)) ∧ Below w.heap.size w w' := by
  have HP := Lib.hid hp
  clear hp
  by_cases hok : shapeOk k ps = true
  · have HO := Lib.hid hok
    have HK := Lib.hid (ok_kind hok)
    have HT := Lib.hid (shapeT_ok hok)
    have hl6 := ok_len hok
    have B0 : Hid (Below w.heap.size w (w.alloc (.cells #[.int .i64 k, .slice a ps.length cap] 41))) := (Below.refl _ _).alloc (Nat.le_refl _) _
    go_enter Tryz.func28, Tryz.ntmps28
    go_wp2_with fail
    refine (specShapeOk_any _ _ _ _ _ (HP.out.below B0.out) hl).mono ?_
    rintro e w1 ⟨rfl, hb1⟩
    have c0 := cell_later hb1 (a := ⟨w.heap.size, 0, none⟩) (v := .int .i64 k) (by simp [go_sem])
    have c1 := cell_later hb1 (a := ⟨w.heap.size, 1, none⟩) (v := .slice a ps.length cap) (by simp [go_sem])
    have B1 : Hid (Below w.heap.size w w1) := B0.out.trans (hb1.mono (by simp))
    clear hb1 B0
    go_wp2_with fail
    refine (l1Word_any _ _ HK.out).mono ?_
    rintro e w2 ⟨rfl, hb2⟩
    replace c0 := cell_later hb2 c0
    replace c1 := cell_later hb2 c1
    have B2 : Hid (Below w.heap.size w w2) := B1.out.trans (hb2.mono B1.out.size)
    clear hb2 B1
    go_wp2
    go_loopw [3, 4] (fun s3 s4 wr => ∃ j : Nat, j ≤ ps.length ∧ s3 = .string (textTo k ps j) ∧ s4 = .int .i64 j ∧ Below w2.heap.size w2 wr) (fun _ s4 _ => ps.length - (intOf s4).toNat)
    case atStart => exact ⟨0, Nat.zero_le _, rfl, rfl, Below.refl _ _⟩
    case round =>
      obtain ⟨j, hj, rfl, rfl, hbel⟩ := hrel
      replace c1 := cell_later hbel c1
      have B3 : Hid (Below w.heap.size w wr) := B2.out.trans (hbel.mono B2.out.size)
      have BR := Lib.hid hbel
      by_cases hlt : j < ps.length
      · obtain ⟨b, off, rfl, hb, hx, hy⟩ := HP.out.below B3.out j hlt
        obtain ⟨hx0, hx1, hy0, hy1⟩ := ok_pts HO.out hlt
        have sx := dec_size _ hx0 hx1
        have sy := dec_size _ hy0 hy1
        have st := textTo_size HO.out j hj
        have sc : (⟨#[44]⟩ : ByteArray).size = 1 := rfl
        have sb : (⟨#[32]⟩ : ByteArray).size = 1 := rfl
        have nb1 : ¬ 9223372036854775807 < (textTo k ps j).size + 1 := by omega
        have nb2 : ¬ 9223372036854775807 < (textTo k ps j).size + 1 + (dec (px ps j)).size := by omega
        have nb3 : ¬ 9223372036854775807 < (textTo k ps j).size + 1 + (dec (px ps j)).size + 1 := by omega
        have nb4 : ¬ 9223372036854775807 < (textTo k ps j).size + 1 + (dec (px ps j)).size + 1 + (dec (py ps j)).size := by omega
        have HN := Lib.hid (textTo_next k ps j)
        clear hbel hok
        go_upto_region 7 with (fail)
        go_region_held3 (fun wy => wy.cell? ⟨w.heap.size, 1, none⟩ = some (.slice (some ⟨b, off, none⟩) ps.length cap) ∧ wy.cell? ⟨b, off + j * 2, none⟩ = some (.int .i64 (px ps j)) ∧ wy.cell? ⟨b, off + j * 2 + 1, none⟩ = some (.int .i64 (py ps j)) ∧ Below wr.heap.size wr wy)
          (first
            | assumption
            | exact ⟨c1, hx, hy, (Below.refl _ _).drew⟩
            | (go_split_ands
               rename_i hS0 hS1 hS2 hS3
               exact ⟨cell_later hbn hS0, cell_later hbn hS1, cell_later hbn hS2, hS3.trans (hbn.mono hS3.size)⟩))
          (first
            | (go_at_call_of 45 (Value.int IntKind.i64 (px ps j))
               refine (l12Dec_any (px ps j) _ hx0 hx1).mono ?_
               rintro e wn ⟨rfl, hbn⟩)
            | (go_at_call_of 45 (Value.int IntKind.i64 (py ps j))
               refine (l12Dec_any (py ps j) _ hy0 hy1).mono ?_
               rintro e wn ⟨rfl, hbn⟩))
        all_goals
          go_split_ands
          rename_i hS0 hS1 hS2 hS3
          have B : Hid (Below w2.heap.size w2 _) := BR.out.trans (hS3.mono BR.out.size)
          clear hS3 hS0 hS1 hS2
          go_wp2
          go_roundw
          case rel => exact ⟨j + 1, by omega, congrArg Value.string HN.out, by go_num, B.out⟩
          case measure => simp [intOf]; omega
      · obtain rfl : j = ps.length := by omega
        go_wp2
        go_ret
        exact ⟨congrArg (fun x => Ending.returned (.string x)) HT.out.symm, B3.out⟩
  · have hok' : shapeOk k ps = false := by simpa using hok
    have HT := Lib.hid (shapeT_bad hok')
    have HO := Lib.hid hok'
    clear hok
    go_enter Tryz.func28, Tryz.ntmps28
    go_wp2_with fail
    refine (specShapeOk_any _ _ _ _ _ (HP.out.below ((Below.refl _ _).alloc (Nat.le_refl _) _)) hl).mono ?_
    rintro e w1 ⟨rfl, hb1⟩
    have B1 : Hid (Below w.heap.size w w1) := ((Below.refl _ _).alloc (Nat.le_refl _) _).trans (hb1.mono (by simp))
    clear hb1
    go_wp2
    go_ret
    exact ⟨congrArg (fun x => Ending.returned (.string x)) HT.out.symm, B1.out⟩
end Go.Proofs.YtelimcknhaflfaaGreatDoor
