/- Proved here: the program writes a shape as the plain function 'shapeT' says; the library's table being as its text lays it. -/
import Derived.Test.YtelimcknhaflfaaGreatDoorWText
namespace Go.Proofs.YtelimcknhaflfaaGreatDoor
set_option linter.unusedVariables false
open Go.ChangeShapes Go.WideShapes Go.ChangeAt Go.RowKit

theorem m_word_dot (w : World) : (method 263 107 (.agg #[]) "loop.example/townland/impl.word").run Tryz.prog w = .ok (127, .agg #[]) w := by kernel_rfl
theorem m_word_line (w : World) : (method 263 108 (.agg #[]) "loop.example/townland/impl.word").run Tryz.prog w = .ok (132, .agg #[]) w := by kernel_rfl
theorem m_word_ring (w : World) : (method 263 109 (.agg #[]) "loop.example/townland/impl.word").run Tryz.prog w = .ok (137, .agg #[]) w := by kernel_rfl

theorem okKind_ok {k : Int} {ps : List (Int × Int)} (h : shapeOk k ps = true) : okKind k ps = kindVal k := by rw [okKind, if_pos h]

theorem getD2 (p q r : Value) : (#[p, q, r] : Array Value).getD 2 undef = r := rfl

theorem tt_next (k : Int) (ps : List (Int × Int)) (j : Nat) : textTo k ps j ++ (⟨#[32]⟩ ++ ptT (px ps j) (py ps j)) = textTo k ps (j + 1) := rfl

theorem ptT_size {x y : Int} (hx0 : -1000 ≤ x) (hx1 : x ≤ 1000) (hy0 : -1000 ≤ y) (hy1 : y ≤ 1000) : (ptT x y).size ≤ 43 := by
  have a := dec_size _ hx0 hx1
  have b := dec_size _ hy0 hy1
  have s2 : (⟨#[44]⟩ : ByteArray).size = 1 := rfl
  simp only [ptT, ByteArray.size_append, s2]
  omega

set_option maxRecDepth 100000 in
set_option maxHeartbeats 4000000 in
theorem implShapeText_dot (a : Option Addr) (cap : Nat) (ps : List (Int × Int)) (w : World) (hp : PtsAt w a ps) (ht : Tab w) (hok : shapeOk 1 ps = true) :
    Calls Tryz.prog 35 #[.agg #[.int .i64 1, .slice a ps.length cap]] w fun e w' => e = .returned (.string (shapeT 1 ps)) ∧ Below w.heap.size w w' := by
  have HP := Lib.hid hp
  have HA := Lib.hid ht
  clear hp ht
  have hm1 := m_word_dot
  have HO := Lib.hid hok
  have HT := Lib.hid (shapeT_ok hok)
  have HV : okKind 1 ps = kindVal 1 := okKind_ok hok
  have hl6 := ok_len hok
  rw [kindVal1] at HV
  have B0 : Hid (Below w.heap.size w (w.alloc (.cells #[.int .i64 1, .slice a ps.length cap] 41))) := (Below.refl _ _).alloc (Nat.le_refl _) _
  go_enter Tryz.func35, Tryz.ntmps35
  go_wp2_with fail
  refine (kindOfOk_any _ _ _ _ _ (HP.out.below B0.out)).mono ?_
  rintro e w1 ⟨rfl, hb1⟩
  rw [HV]
  have c1 := cell_later hb1 (a := ⟨w.heap.size, 1, none⟩) (v := .slice a ps.length cap) (by simp [go_sem])
  have B1 : Hid (Below w.heap.size w w1) := B0.out.trans (hb1.mono (by simp))
  have z1 : w.heap.size < w1.heap.size := World.block_lt_of_cell? _ _ c1
  clear hb1 B0
  go_wp2
  simp only [getD2]
  go_loopw [5, 7, 20] (fun s5 _ s20 wr => ∃ j : Nat, j ≤ ps.length ∧ s5 = .string (textTo 1 ps j) ∧ s20 = .int .i64 j ∧ Below w1.heap.size w1 wr) (fun _ _ s20 _ => ps.length - (intOf s20).toNat)
  case atStart => exact ⟨0, Nat.zero_le _, rfl, rfl, (Below.refl _ _).alloc (Nat.le_refl _) _⟩
  case round =>
    obtain ⟨j, hj, rfl, rfl, hbel⟩ := hrel
    have B3 : Hid (Below w.heap.size w wr) := B1.out.trans (hbel.mono B1.out.size)
    have BR := Lib.hid hbel
    by_cases hlt : j < ps.length
    · obtain ⟨b, off, rfl, hb, hx, hy⟩ := HP.out.below B3.out j hlt
      obtain ⟨hx0, hx1, hy0, hy1⟩ := ok_pts HO.out hlt
      have sp := ptT_size hx0 hx1 hy0 hy1
      have st := textTo_size HO.out j hj
      have sb : (⟨#[32]⟩ : ByteArray).size = 1 := rfl
      have nb1 : ¬ 9223372036854775807 < 1 + (ptT (px ps j) (py ps j)).size := by omega
      have nb2 : ¬ 9223372036854775807 < (textTo 1 ps j).size + (1 + (ptT (px ps j) (py ps j)).size) := by omega
      clear hbel hok
      go_upto_region 8 with (fail)
      have A0 : Below wr.heap.size wr (wr.alloc (.cells #[.int .i64 (px ps j), .int .i64 (py ps j)] 75)) := (Below.refl _ _).alloc (Nat.le_refl _) _
      have d0 : (wr.alloc (.cells #[.int .i64 (px ps j), .int .i64 (py ps j)] 75)).cell? ⟨wr.heap.size, 0, none⟩ = some (.int .i64 (px ps j)) := by simp [go_sem]
      have d1 : (wr.alloc (.cells #[.int .i64 (px ps j), .int .i64 (py ps j)] 75)).cell? ⟨wr.heap.size, 1, none⟩ = some (.int .i64 (py ps j)) := by simp [go_sem]
      have TW := Lib.hid (HA.out.below (B3.out.trans (A0.mono B3.out.size)))
      have AW := Lib.hid (BR.out.trans (A0.mono BR.out.size))
      clear A0
      generalize (wr.alloc (.cells #[.int .i64 (px ps j), .int .i64 (py ps j)] 75)) = W at *
      go_wp2_with fail
      refine (ptText_any (px ps j) (py ps j) _ hx0 hx1 hy0 hy1 TW.out).mono ?_
      rintro e wn ⟨rfl, hbn⟩
      have B : Hid (Below w1.heap.size w1 wn) := AW.out.trans (hbn.mono AW.out.size)
      clear hbn
      go_wp2
      go_roundw
      case rel => exact ⟨j + 1, by omega, rfl, by go_num, B.out⟩
      case measure => simp [intOf]; omega
    · obtain rfl : j = ps.length := by omega
      go_wp2
      go_ret
      exact ⟨congrArg (fun x => Ending.returned (.string x)) HT.out.symm, B3.out⟩

set_option maxRecDepth 100000 in
set_option maxHeartbeats 4000000 in
theorem implShapeText_line (a : Option Addr) (cap : Nat) (ps : List (Int × Int)) (w : World) (hp : PtsAt w a ps) (ht : Tab w) (hok : shapeOk 2 ps = true) :
    Calls Tryz.prog 35 #[.agg #[.int .i64 2, .slice a ps.length cap]] w fun e w' => e = .returned (.string (shapeT 2 ps)) ∧ Below w.heap.size w w' := by
  have HP := Lib.hid hp
  have HA := Lib.hid ht
  clear hp ht
  have hm1 := m_word_line
  have HO := Lib.hid hok
  have HT := Lib.hid (shapeT_ok hok)
  have HV : okKind 2 ps = kindVal 2 := okKind_ok hok
  have hl6 := ok_len hok
  rw [kindVal2] at HV
  have B0 : Hid (Below w.heap.size w (w.alloc (.cells #[.int .i64 2, .slice a ps.length cap] 41))) := (Below.refl _ _).alloc (Nat.le_refl _) _
  go_enter Tryz.func35, Tryz.ntmps35
  go_wp2_with fail
  refine (kindOfOk_any _ _ _ _ _ (HP.out.below B0.out)).mono ?_
  rintro e w1 ⟨rfl, hb1⟩
  rw [HV]
  have c1 := cell_later hb1 (a := ⟨w.heap.size, 1, none⟩) (v := .slice a ps.length cap) (by simp [go_sem])
  have B1 : Hid (Below w.heap.size w w1) := B0.out.trans (hb1.mono (by simp))
  have z1 : w.heap.size < w1.heap.size := World.block_lt_of_cell? _ _ c1
  clear hb1 B0
  go_wp2
  simp only [getD2]
  go_loopw [5, 7, 20] (fun s5 _ s20 wr => ∃ j : Nat, j ≤ ps.length ∧ s5 = .string (textTo 2 ps j) ∧ s20 = .int .i64 j ∧ Below w1.heap.size w1 wr) (fun _ _ s20 _ => ps.length - (intOf s20).toNat)
  case atStart => exact ⟨0, Nat.zero_le _, rfl, rfl, (Below.refl _ _).alloc (Nat.le_refl _) _⟩
  case round =>
    obtain ⟨j, hj, rfl, rfl, hbel⟩ := hrel
    have B3 : Hid (Below w.heap.size w wr) := B1.out.trans (hbel.mono B1.out.size)
    have BR := Lib.hid hbel
    by_cases hlt : j < ps.length
    · obtain ⟨b, off, rfl, hb, hx, hy⟩ := HP.out.below B3.out j hlt
      obtain ⟨hx0, hx1, hy0, hy1⟩ := ok_pts HO.out hlt
      have sp := ptT_size hx0 hx1 hy0 hy1
      have st := textTo_size HO.out j hj
      have sb : (⟨#[32]⟩ : ByteArray).size = 1 := rfl
      have nb1 : ¬ 9223372036854775807 < 1 + (ptT (px ps j) (py ps j)).size := by omega
      have nb2 : ¬ 9223372036854775807 < (textTo 2 ps j).size + (1 + (ptT (px ps j) (py ps j)).size) := by omega
      clear hbel hok
      go_upto_region 8 with (fail)
      have A0 : Below wr.heap.size wr (wr.alloc (.cells #[.int .i64 (px ps j), .int .i64 (py ps j)] 75)) := (Below.refl _ _).alloc (Nat.le_refl _) _
      have d0 : (wr.alloc (.cells #[.int .i64 (px ps j), .int .i64 (py ps j)] 75)).cell? ⟨wr.heap.size, 0, none⟩ = some (.int .i64 (px ps j)) := by simp [go_sem]
      have d1 : (wr.alloc (.cells #[.int .i64 (px ps j), .int .i64 (py ps j)] 75)).cell? ⟨wr.heap.size, 1, none⟩ = some (.int .i64 (py ps j)) := by simp [go_sem]
      have TW := Lib.hid (HA.out.below (B3.out.trans (A0.mono B3.out.size)))
      have AW := Lib.hid (BR.out.trans (A0.mono BR.out.size))
      clear A0
      generalize (wr.alloc (.cells #[.int .i64 (px ps j), .int .i64 (py ps j)] 75)) = W at *
      go_wp2_with fail
      refine (ptText_any (px ps j) (py ps j) _ hx0 hx1 hy0 hy1 TW.out).mono ?_
      rintro e wn ⟨rfl, hbn⟩
      have B : Hid (Below w1.heap.size w1 wn) := AW.out.trans (hbn.mono AW.out.size)
      clear hbn
      go_wp2
      go_roundw
      case rel => exact ⟨j + 1, by omega, rfl, by go_num, B.out⟩
      case measure => simp [intOf]; omega
    · obtain rfl : j = ps.length := by omega
      go_wp2
      go_ret
      exact ⟨congrArg (fun x => Ending.returned (.string x)) HT.out.symm, B3.out⟩

set_option maxRecDepth 100000 in
set_option maxHeartbeats 4000000 in
theorem implShapeText_ring (a : Option Addr) (cap : Nat) (ps : List (Int × Int)) (w : World) (hp : PtsAt w a ps) (ht : Tab w) (hok : shapeOk 3 ps = true) :
    Calls Tryz.prog 35 #[.agg #[.int .i64 3, .slice a ps.length cap]] w fun e w' => e = .returned (.string (shapeT 3 ps)) ∧ Below w.heap.size w w' := by
  have HP := Lib.hid hp
  have HA := Lib.hid ht
  clear hp ht
  have hm1 := m_word_ring
  have HO := Lib.hid hok
  have HT := Lib.hid (shapeT_ok hok)
  have HV : okKind 3 ps = kindVal 3 := okKind_ok hok
  have hl6 := ok_len hok
  rw [kindVal3] at HV
  have B0 : Hid (Below w.heap.size w (w.alloc (.cells #[.int .i64 3, .slice a ps.length cap] 41))) := (Below.refl _ _).alloc (Nat.le_refl _) _
  go_enter Tryz.func35, Tryz.ntmps35
  go_wp2_with fail
  refine (kindOfOk_any _ _ _ _ _ (HP.out.below B0.out)).mono ?_
  rintro e w1 ⟨rfl, hb1⟩
  rw [HV]
  have c1 := cell_later hb1 (a := ⟨w.heap.size, 1, none⟩) (v := .slice a ps.length cap) (by simp [go_sem])
  have B1 : Hid (Below w.heap.size w w1) := B0.out.trans (hb1.mono (by simp))
  have z1 : w.heap.size < w1.heap.size := World.block_lt_of_cell? _ _ c1
  clear hb1 B0
  go_wp2
  simp only [getD2]
  go_loopw [5, 7, 20] (fun s5 _ s20 wr => ∃ j : Nat, j ≤ ps.length ∧ s5 = .string (textTo 3 ps j) ∧ s20 = .int .i64 j ∧ Below w1.heap.size w1 wr) (fun _ _ s20 _ => ps.length - (intOf s20).toNat)
  case atStart => exact ⟨0, Nat.zero_le _, rfl, rfl, (Below.refl _ _).alloc (Nat.le_refl _) _⟩
  case round =>
    obtain ⟨j, hj, rfl, rfl, hbel⟩ := hrel
    have B3 : Hid (Below w.heap.size w wr) := B1.out.trans (hbel.mono B1.out.size)
    have BR := Lib.hid hbel
    by_cases hlt : j < ps.length
    · obtain ⟨b, off, rfl, hb, hx, hy⟩ := HP.out.below B3.out j hlt
      obtain ⟨hx0, hx1, hy0, hy1⟩ := ok_pts HO.out hlt
      have sp := ptT_size hx0 hx1 hy0 hy1
      have st := textTo_size HO.out j hj
      have sb : (⟨#[32]⟩ : ByteArray).size = 1 := rfl
      have nb1 : ¬ 9223372036854775807 < 1 + (ptT (px ps j) (py ps j)).size := by omega
      have nb2 : ¬ 9223372036854775807 < (textTo 3 ps j).size + (1 + (ptT (px ps j) (py ps j)).size) := by omega
      clear hbel hok
      go_upto_region 8 with (fail)
      have A0 : Below wr.heap.size wr (wr.alloc (.cells #[.int .i64 (px ps j), .int .i64 (py ps j)] 75)) := (Below.refl _ _).alloc (Nat.le_refl _) _
      have d0 : (wr.alloc (.cells #[.int .i64 (px ps j), .int .i64 (py ps j)] 75)).cell? ⟨wr.heap.size, 0, none⟩ = some (.int .i64 (px ps j)) := by simp [go_sem]
      have d1 : (wr.alloc (.cells #[.int .i64 (px ps j), .int .i64 (py ps j)] 75)).cell? ⟨wr.heap.size, 1, none⟩ = some (.int .i64 (py ps j)) := by simp [go_sem]
      have TW := Lib.hid (HA.out.below (B3.out.trans (A0.mono B3.out.size)))
      have AW := Lib.hid (BR.out.trans (A0.mono BR.out.size))
      clear A0
      generalize (wr.alloc (.cells #[.int .i64 (px ps j), .int .i64 (py ps j)] 75)) = W at *
      go_wp2_with fail
      refine (ptText_any (px ps j) (py ps j) _ hx0 hx1 hy0 hy1 TW.out).mono ?_
      rintro e wn ⟨rfl, hbn⟩
      have B : Hid (Below w1.heap.size w1 wn) := AW.out.trans (hbn.mono AW.out.size)
      clear hbn
      go_wp2
      go_roundw
      case rel => exact ⟨j + 1, by omega, rfl, by go_num, B.out⟩
      case measure => simp [intOf]; omega
    · obtain rfl : j = ps.length := by omega
      go_wp2
      go_ret
      exact ⟨congrArg (fun x => Ending.returned (.string x)) HT.out.symm, B3.out⟩

theorem implShapeText_ok (k : Int) (a : Option Addr) (cap : Nat) (ps : List (Int × Int)) (w : World) (hp : PtsAt w a ps) (ht : Tab w) (hok : shapeOk k ps = true) :
    Calls Tryz.prog 35 #[.agg #[.int .i64 k, .slice a ps.length cap]] w fun e w' => e = .returned (.string (shapeT k ps)) ∧ Below w.heap.size w w' := by
  rcases ok_kind hok with rfl | rfl | rfl
  · exact implShapeText_dot a cap ps w hp ht hok
  · exact implShapeText_line a cap ps w hp ht hok
  · exact implShapeText_ring a cap ps w hp ht hok

set_option maxHeartbeats 1000000 in
theorem implShapeText_any (k : Int) (a : Option Addr) (cap : Nat) (ps : List (Int × Int)) (w : World) (hp : PtsAt w a ps) (ht : Tab w) :
    Calls Tryz.prog 35 #[.agg #[.int .i64 k, .slice a ps.length cap]] w fun e w' => e = .returned (.string (shapeT k ps)) ∧ Below w.heap.size w w' := by
  by_cases hok : shapeOk k ps = true
  · exact implShapeText_ok k a cap ps w hp ht hok
  · have HP := Lib.hid hp
    clear hp ht
    have hok' : shapeOk k ps = false := by simpa using hok
    have HT := Lib.hid (shapeT_bad hok')
    clear hok
    go_enter Tryz.func35, Tryz.ntmps35
    go_wp2_with fail
    refine (kindOfOk_any _ _ _ _ _ (HP.out.below ((Below.refl _ _).alloc (Nat.le_refl _) _))).mono ?_
    rintro e w1 ⟨rfl, hb1⟩
    have B1 : Hid (Below w.heap.size w w1) := ((Below.refl _ _).alloc (Nat.le_refl _) _).trans (hb1.mono (by simp))
    clear hb1
    go_wp2
    go_ret
    exact ⟨congrArg (fun x => Ending.returned (.string x)) HT.out.symm, B1.out⟩
end Go.Proofs.YtelimcknhaflfaaGreatDoor
