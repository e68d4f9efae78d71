/- Proved here: the model and the program write a thing as the plain function 'featT' says; texts, points and tags of at most 1,048,576, for the program the library's table being as its text lays it. -/
import Derived.Test.YtelimcknhaflfaaGreatDoorWTextI
import Derived.Test.YtelimcknhaflfaaGreatDoorWFeatOk
import Derived.Test.YtelimcknhaflfaaGreatDoorWBox4
namespace Go.Proofs.YtelimcknhaflfaaGreatDoor
set_option linter.unusedVariables false
open Go.ChangeShapes Go.WideShapes Go.ChangeAt Go.RowKit

/-- a thing's name, its shape and the first tags -/
def featTo (id : ByteArray) (k : Int) (ps : List (Int × Int)) (ts : List Tg) : Nat → ByteArray
  | 0 => id ++ ⟨#[32]⟩ ++ shapeT k ps
  | j + 1 => featTo id k ps ts j ++ (⟨#[32]⟩ ++ tk ts j ++ ⟨#[61]⟩ ++ tv ts j)

/-- a thing, as a text -/
def featT (id : ByteArray) (k : Int) (ps : List (Int × Int)) (ts : List Tg) : ByteArray := if featOk id k ps ts then featTo id k ps ts ts.length else ⟨#[]⟩

theorem featT_ok {id : ByteArray} {k : Int} {ps : List (Int × Int)} {ts : List Tg} (h : featOk id k ps ts = true) : featT id k ps ts = featTo id k ps ts ts.length := by rw [featT, if_pos h]
theorem featT_bad {id : ByteArray} {k : Int} {ps : List (Int × Int)} {ts : List Tg} (h : featOk id k ps ts = false) : featT id k ps ts = ⟨#[]⟩ := by rw [featT, if_neg (by simp [h])]

theorem featOk_shape {id : ByteArray} {k : Int} {ps : List (Int × Int)} {ts : List Tg} (h : featOk id k ps ts = true) : shapeOk k ps = true ∧ ts.length ≤ 4 := by
  simp [featOk] at h
  exact ⟨h.1.2, h.2.2⟩

theorem shapeT_size (k : Int) (ps : List (Int × Int)) : (shapeT k ps).size ≤ 268 := by
  by_cases h : shapeOk k ps = true
  · rw [shapeT_ok h]
    have := textTo_size h ps.length (Nat.le_refl _)
    have := ok_len h
    omega
  · rw [shapeT_bad (by simpa using h)]
    decide

theorem featTo_size {id : ByteArray} (k : Int) (ps : List (Int × Int)) {ts : List Tg} (hi : id.size ≤ 1048576) (hx : TagsLen ts 1048576) (j : Nat) (hj : j ≤ ts.length) : (featTo id k ps ts j).size ≤ 1048845 + j * 2097154 := by
  have s1 : (⟨#[32]⟩ : ByteArray).size = 1 := rfl
  have s2 : (⟨#[61]⟩ : ByteArray).size = 1 := rfl
  induction j with
  | zero =>
    have := shapeT_size k ps
    simp only [featTo, ByteArray.size_append, s1]
    omega
  | succ j ih =>
    have ih := ih (by omega)
    obtain ⟨h0, h1⟩ := hx j (by omega)
    simp only [featTo, ByteArray.size_append, s1, s2]
    omega

theorem featTo_next (id : ByteArray) (k : Int) (ps : List (Int × Int)) (ts : List Tg) (j : Nat) : featTo id k ps ts j ++ ⟨#[32]⟩ ++ tk ts j ++ ⟨#[61]⟩ ++ tv ts j = featTo id k ps ts (j + 1) := by
  simp only [featTo, ByteArray.append_assoc]

set_option maxRecDepth 100000 in
set_option maxHeartbeats 2000000 in
theorem specFeatText_any (id : ByteArray) (k : Int) (a : Option Addr) (cap : Nat) (ps : List (Int × Int)) (c : Option Addr) (ca : Nat) (ts : List Tg) (w : World) (hp : PtsAt w a ps) (ht : TagsAt w c ts) (hi : id.size ≤ 1048576) (hl : ps.length ≤ 1048576) (hm : ts.length ≤ 1048576) (hx : TagsLen ts 1048576) :
    Calls Tryz.prog 18 #[.agg #[.string id, .int .i64 k, .slice a ps.length cap, .slice c ts.length ca]] w fun e w' => e = .returned (.string (featT id k ps ts)) ∧ Below w.heap.size w w' := by
  have HP := Lib.hid hp
  have HT := Lib.hid ht
  have HX := Lib.hid hx
  clear hp ht hx
  have A0 : Hid (∀ o, Below w.heap.size w (w.alloc o)) := fun o => (Below.refl _ _).alloc (Nat.le_refl _) _
  by_cases hok : featOk id k ps ts = true
  · have HO := Lib.hid (featT_ok hok)
    have hl4 := (featOk_shape hok).2
    go_enter Tryz.func18, Tryz.ntmps18
    go_wp2_with fail
    refine (specFeatOk_any _ _ _ _ _ _ _ _ _ (HP.out.below (A0.out _)) (HT.out.below (A0.out _)) hi hl hm HX.out).mono ?_
    rintro e w1 ⟨rfl, hb1⟩
    have C1 : Hid (Box4 w1 w.heap.size (.string id) (.int .i64 k) (.slice a ps.length cap) (.slice c ts.length ca)) := (Box4.new w _ _ _ _ _).later hb1
    have B1 : Hid (Below w.heap.size w w1) := (A0.out _).trans (hb1.mono (by simp))
    clear hb1
    have sh := shapeT_size k ps
    have sb : (⟨#[32]⟩ : ByteArray).size = 1 := rfl
    have nb1 : ¬ 9223372036854775807 < id.size + 1 := by omega
    have nb2 : ¬ 9223372036854775807 < id.size + 1 + (shapeT k ps).size := by omega
    go_upto_region 3 with (fail)
    go_cut [3] (fun s3 wx => s3 = .string (featTo id k ps ts 0) ∧ Below w1.heap.size w1 wx)
    case first =>
      obtain ⟨c0, c1, c2, c3⟩ := C1.out
      go_region_held3 (fun wy => wy.cell? ⟨w.heap.size, 0, none⟩ = some (.string id) ∧ wy.cell? ⟨w.heap.size, 1, none⟩ = some (.int .i64 k) ∧ wy.cell? ⟨w.heap.size, 2, none⟩ = some (.slice a ps.length cap) ∧ Below w1.heap.size w1 wy)
        (first
          | assumption
          | exact ⟨c0, c1, c2, (Below.refl _ _).drew⟩
          | (go_split_ands
             rename_i hS0 hS1 hS2 hS3
             exact ⟨cell_later hbn hS0, cell_later hbn hS1, cell_later hbn hS2, hS3.trans (hbn.mono hS3.size)⟩))
        (first
          | (go_at_call 28
             refine (specShapeText_any k a cap ps _ ?_ hl).mono ?_
             · (go_split_ands; exact HP.out.below (B1.out.trans (Below.mono (by assumption) B1.out.size)))
             rintro e wn ⟨rfl, hbn⟩))
      all_goals (go_wp2_with fail; go_meet; go_split_ands; exact ⟨rfl, by assumption⟩)
    case rest =>
      obtain ⟨rfl, hB⟩ := hcut
      have C2 := Lib.hid (C1.out.later hB)
      have B2 : Hid (Below w.heap.size w wc) := B1.out.trans (hB.mono B1.out.size)
      clear hB C1 B1 nb1 nb2
      go_wp2
      go_loopw [3, 4] (fun s3 s4 wr => ∃ j : Nat, j ≤ ts.length ∧ s3 = .string (featTo id k ps ts j) ∧ s4 = .int .i64 j ∧ Below wc.heap.size wc wr) (fun _ s4 _ => ts.length - (intOf s4).toNat)
      case atStart => exact ⟨0, Nat.zero_le _, rfl, rfl, Below.refl _ _⟩
      case round =>
        obtain ⟨j, hj, rfl, rfl, hbel⟩ := hrel
        obtain ⟨c0, c1, c2, c3⟩ := C2.out.later hbel
        have B3 : Hid (Below w.heap.size w wr) := B2.out.trans (hbel.mono B2.out.size)
        have BR := Lib.hid hbel
        clear hbel
        by_cases hlt : j < ts.length
        · obtain ⟨b, off, rfl, hb, hx, hy⟩ := HT.out.below B3.out j hlt
          obtain ⟨hx1, hy1⟩ := HX.out j hlt
          have st := featTo_size k ps hi HX.out j hj
          have se : (⟨#[61]⟩ : ByteArray).size = 1 := rfl
          have nb1 : ¬ 9223372036854775807 < (featTo id k ps ts j).size + 1 := by omega
          have nb2 : ¬ 9223372036854775807 < (featTo id k ps ts j).size + 1 + (tk ts j).size := by omega
          have nb3 : ¬ 9223372036854775807 < (featTo id k ps ts j).size + 1 + (tk ts j).size + 1 := by omega
          have nb4 : ¬ 9223372036854775807 < (featTo id k ps ts j).size + 1 + (tk ts j).size + 1 + (tv ts j).size := by omega
          have HN := Lib.hid (featTo_next id k ps ts j)
          clear hok st hx1 hy1 sh
          go_wp2
          go_quiet (fail)
          go_wp2
          go_roundw
          case rel => exact ⟨j + 1, by omega, congrArg Value.string HN.out, by go_num, below_drewN BR.out _⟩
          case measure => simp [intOf]; omega
        · obtain rfl : j = ts.length := by omega
          go_wp2
          go_ret
          exact ⟨congrArg (fun x => Ending.returned (.string x)) HO.out.symm, B3.out⟩
  · have hok' : featOk id k ps ts = false := by simpa using hok
    have HO := Lib.hid (featT_bad hok')
    clear hok
    go_enter Tryz.func18, Tryz.ntmps18
    go_wp2_with fail
    refine (specFeatOk_any _ _ _ _ _ _ _ _ _ (HP.out.below (A0.out _)) (HT.out.below (A0.out _)) hi hl hm HX.out).mono ?_
    rintro e w1 ⟨rfl, hb1⟩
    have B1 : Hid (Below w.heap.size w w1) := (A0.out _).trans (hb1.mono (by simp))
    clear hb1
    go_wp2
    go_ret
    exact ⟨congrArg (fun x => Ending.returned (.string x)) HO.out.symm, B1.out⟩
set_option maxRecDepth 100000 in
set_option maxHeartbeats 2000000 in
theorem implFeatText_any (id : ByteArray) (k : Int) (a : Option Addr) (cap : Nat) (ps : List (Int × Int)) (c : Option Addr) (ca : Nat) (ts : List Tg) (w : World) (hp : PtsAt w a ps) (ht : TagsAt w c ts) (htab : Tab w) (hi : id.size ≤ 1048576) (hl : ps.length ≤ 1048576) (hm : ts.length ≤ 1048576) (hx : TagsLen ts 1048576) :
    Calls Tryz.prog 21 #[.agg #[.string id, .int .i64 k, .slice a ps.length cap, .slice c ts.length ca]] w fun e w' => e = .returned (.string (featT id k ps ts)) ∧ Below w.heap.size w w' := by
  have HP := Lib.hid hp
  have HT := Lib.hid ht
  have HX := Lib.hid hx
  have HA := Lib.hid htab
  clear hp ht hx htab
  have A0 : Hid (∀ o, Below w.heap.size w (w.alloc o)) := fun o => (Below.refl _ _).alloc (Nat.le_refl _) _
  by_cases hok : featOk id k ps ts = true
  · have HO := Lib.hid (featT_ok hok)
    have hl4 := (featOk_shape hok).2
    go_enter Tryz.func21, Tryz.ntmps21
    go_wp2_with fail
    refine (implFeatOk_any _ _ _ _ _ _ _ _ _ (HP.out.below (A0.out _)) (HT.out.below (A0.out _)) hi hl hm HX.out).mono ?_
    rintro e w1 ⟨rfl, hb1⟩
    have C1 : Hid (Box4 w1 w.heap.size (.string id) (.int .i64 k) (.slice a ps.length cap) (.slice c ts.length ca)) := (Box4.new w _ _ _ _ _).later hb1
    have B1 : Hid (Below w.heap.size w w1) := (A0.out _).trans (hb1.mono (by simp))
    clear hb1
    have sh := shapeT_size k ps
    have sb : (⟨#[32]⟩ : ByteArray).size = 1 := rfl
    have nb1 : ¬ 9223372036854775807 < id.size + 1 := by omega
    have nb2 : ¬ 9223372036854775807 < id.size + 1 + (shapeT k ps).size := by omega
    go_upto_region 3 with (fail)
    go_cut [3] (fun s3 wx => s3 = .string (featTo id k ps ts 0) ∧ Below w1.heap.size w1 wx)
    case first =>
      obtain ⟨c0, c1, c2, c3⟩ := C1.out
      go_region_held3 (fun wy => wy.cell? ⟨w.heap.size, 0, none⟩ = some (.string id) ∧ wy.cell? ⟨w.heap.size, 1, none⟩ = some (.int .i64 k) ∧ wy.cell? ⟨w.heap.size, 2, none⟩ = some (.slice a ps.length cap) ∧ Below w1.heap.size w1 wy)
        (first
          | assumption
          | exact ⟨c0, c1, c2, (Below.refl _ _).drew⟩
          | (go_split_ands
             rename_i hS0 hS1 hS2 hS3
             exact ⟨cell_later hbn hS0, cell_later hbn hS1, cell_later hbn hS2, hS3.trans (hbn.mono hS3.size)⟩))
        (first
          | (go_at_call 35
             refine (implShapeText_any k a cap ps _ ?_ ?_).mono ?_
             · (go_split_ands; exact HP.out.below (B1.out.trans (Below.mono (by assumption) B1.out.size)))
             · (go_split_ands; exact HA.out.below (B1.out.trans (Below.mono (by assumption) B1.out.size)))
             rintro e wn ⟨rfl, hbn⟩))
      all_goals (go_wp2_with fail; go_meet; go_split_ands; exact ⟨rfl, by assumption⟩)
    case rest =>
      obtain ⟨rfl, hB⟩ := hcut
      have C2 := Lib.hid (C1.out.later hB)
      have B2 : Hid (Below w.heap.size w wc) := B1.out.trans (hB.mono B1.out.size)
      clear hB C1 B1 nb1 nb2
      obtain ⟨c0, c1, c2, c3⟩ := C2.out
      go_wp2
      clear c0 c1 c2 c3
      go_loopw [3, 5, 19] (fun s3 _ s19 wr => ∃ j : Nat, j ≤ ts.length ∧ s3 = .string (featTo id k ps ts j) ∧ s19 = .int .i64 j ∧ Below wc.heap.size wc wr) (fun _ _ s19 _ => ts.length - (intOf s19).toNat)
      case atStart => exact ⟨0, Nat.zero_le _, rfl, rfl, Below.refl _ _⟩
      case round =>
        obtain ⟨j, hj, rfl, rfl, hbel⟩ := hrel
        have B3 : Hid (Below w.heap.size w wr) := B2.out.trans (hbel.mono B2.out.size)
        have BR := Lib.hid hbel
        clear hbel
        by_cases hlt : j < ts.length
        · obtain ⟨b, off, rfl, hb, hx, hy⟩ := HT.out.below B3.out j hlt
          obtain ⟨hx1, hy1⟩ := HX.out j hlt
          have st := featTo_size k ps hi HX.out j hj
          have se : (⟨#[61]⟩ : ByteArray).size = 1 := rfl
          have nb1 : ¬ 9223372036854775807 < 1 + (tk ts j).size := by omega
          have nb2 : ¬ 9223372036854775807 < 1 + (tk ts j).size + 1 := by omega
          have nb3 : ¬ 9223372036854775807 < 1 + (tk ts j).size + 1 + (tv ts j).size := by omega
          have nb4 : ¬ 9223372036854775807 < (featTo id k ps ts j).size + (1 + (tk ts j).size + 1 + (tv ts j).size) := by omega
          have B4 : Hid (Below wc.heap.size wc (wr.alloc (.cells #[.string (tk ts j), .string (tv ts j)] 62))) := BR.out.alloc BR.out.size _
          clear hok st hx1 hy1 sh
          go_wp2
          go_roundw
          case rel => exact ⟨j + 1, by omega, rfl, by go_num, B4.out⟩
          case measure => simp [intOf]; omega
        · obtain rfl : j = ts.length := by omega
          go_wp2
          go_ret
          exact ⟨congrArg (fun x => Ending.returned (.string x)) HO.out.symm, B3.out⟩
  · have hok' : featOk id k ps ts = false := by simpa using hok
    have HO := Lib.hid (featT_bad hok')
    clear hok
    go_enter Tryz.func21, Tryz.ntmps21
    go_wp2_with fail
    refine (implFeatOk_any _ _ _ _ _ _ _ _ _ (HP.out.below (A0.out _)) (HT.out.below (A0.out _)) hi hl hm HX.out).mono ?_
    rintro e w1 ⟨rfl, hb1⟩
    have B1 : Hid (Below w.heap.size w w1) := (A0.out _).trans (hb1.mono (by simp))
    clear hb1
    go_wp2
    go_ret
    exact ⟨congrArg (fun x => Ending.returned (.string x)) HO.out.symm, B1.out⟩
end Go.Proofs.YtelimcknhaflfaaGreatDoor
