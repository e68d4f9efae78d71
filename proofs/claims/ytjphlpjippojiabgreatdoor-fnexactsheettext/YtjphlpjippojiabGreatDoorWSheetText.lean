/- Proved here: both functions that write a map as a text write what 'sheetT' says; lists of at most 1,048,576 things, points and tags, texts of at most 1,048,576 bytes. -/
import Derived.Test.YtjphlpjippojiabGreatDoorWFeatText
import Derived.Test.YtjphlpjippojiabGreatDoorWSheetOkI
namespace Go.Proofs.YtjphlpjippojiabGreatDoor
set_option linter.unusedVariables false
open Go.ChangeShapes Go.WideShapes Go.ChangeAt Go.RowKit

/-- a thing of a list, as a text -/
def ftT (fs : List Ft) (j : Nat) : ByteArray := featT (fid fs j) (fkd fs j) (fps fs j) (fts fs j)
/-- the lines of the first things -/
def sheetTo (fs : List Ft) : Nat → ByteArray
  | 0 => ⟨#[]⟩
  | j + 1 => sheetTo fs j ++ (ftT fs j ++ ⟨#[10]⟩)
/-- a map, as a text -/
def sheetT (fs : List Ft) : ByteArray := if sheetOk fs then sheetTo fs fs.length else ⟨#[]⟩

theorem sheetT_ok {fs : List Ft} (h : sheetOk fs = true) : sheetT fs = sheetTo fs fs.length := by rw [sheetT, if_pos h]
theorem sheetT_bad {fs : List Ft} (h : sheetOk fs = false) : sheetT fs = ⟨#[]⟩ := by rw [sheetT, if_neg (by simp [h])]

theorem sheetOk_len {fs : List Ft} (h : sheetOk fs = true) : fs.length ≤ 8 := by
  simp [sheetOk] at h
  exact h.2

theorem ftT_size {fs : List Ft} (hL : FeatsLen fs 1048576) {j : Nat} (hj : j < fs.length) : (ftT fs j).size ≤ 9437461 := by
  unfold ftT
  obtain ⟨h1, h2, h3, h4⟩ := hL j hj
  cases h : featOk (fid fs j) (fkd fs j) (fps fs j) (fts fs j)
  · rw [featT_bad h]
    exact Nat.zero_le _
  · rw [featT_ok h]
    have h5 := (featOk_shape h).2
    have := featTo_size (fkd fs j) (fps fs j) (by omega : (fid fs j).size ≤ 1048576) h4 (fts fs j).length (Nat.le_refl _)
    omega

theorem sheetTo_size {fs : List Ft} (hL : FeatsLen fs 1048576) : ∀ j, j ≤ fs.length → (sheetTo fs j).size ≤ j * 9437462
  | 0, _ => Nat.zero_le _
  | j + 1, hj => by
    have ih := sheetTo_size hL j (by omega)
    have h1 := ftT_size hL (show j < fs.length by omega)
    have sb : (⟨#[10]⟩ : ByteArray).size = 1 := rfl
    unfold sheetTo
    rw [ByteArray.size_append, ByteArray.size_append]
    omega

theorem sheetTo_next (fs : List Ft) (j : Nat) : sheetTo fs j ++ ftT fs j ++ ⟨#[10]⟩ = sheetTo fs (j + 1) := by
  show _ = sheetTo fs j ++ (ftT fs j ++ ⟨#[10]⟩)
  rw [ByteArray.append_assoc]

set_option maxRecDepth 100000 in
set_option maxHeartbeats 4000000 in
theorem specSheetText_any (a : Option Addr) (cap : Nat) (fs : List Ft) (w : World) (hp : FeatsAt w a fs) (hl : fs.length ≤ 1048576) (ht : FeatsLen fs 1048576) :
    Calls Tryz.prog 6 #[.slice a fs.length cap] w fun e w' => e = .returned (.string (sheetT fs)) ∧ Below w.heap.size w w' := by
  have HP := Lib.hid hp
  have HL := Lib.hid ht
  clear hp ht
  by_cases hok : sheetOk fs = true
  · have HO := Lib.hid (sheetT_ok hok)
    have hl8 := sheetOk_len hok
    go_enter Tryz.func6, Tryz.ntmps6
    go_wp2
    go_loopw [3, 4] (fun s i wr => ∃ k : Nat, k ≤ fs.length ∧ s = .string (sheetTo fs k) ∧ i = .int .i64 k ∧ Below w.heap.size w wr) (fun _ i _ => fs.length - (intOf i).toNat)
    case atStart => exact ⟨0, Nat.zero_le _, rfl, rfl, Below.refl _ _⟩
    case round =>
      obtain ⟨k, hk, rfl, rfl, hbel⟩ := hrel
      have HB := Lib.hid hbel
      have hsz := hbel.size
      by_cases hlt : k < fs.length
      · have HC : Hid (∀ u, Below wr.heap.size wr u → Calls Tryz.prog 15 #[.slice a fs.length cap] u fun e w' => e = .returned (.bool true) ∧ Below u.heap.size u w') := fun u hu => by
          have := specSheetOk_any a cap fs u ((HP.out.below hbel).below hu) hl HL.out
          rwa [hok] at this
        clear hbel
        go_wp2_with fail
        refine (HC.out _ (Below.refl _ _)).mono ?_
        rintro e w1 ⟨rfl, hb1⟩
        have B1 : Hid (Below w.heap.size w w1) := HB.out.trans (hb1.mono hsz)
        clear hb1 HC
        obtain ⟨b, off, pa, pc, ta, tc, rfl, hb, hc1, hc2, hc3, hc4, hpp, htt⟩ := HP.out.below B1.out k hlt
        obtain ⟨l1, l2, l3, l4⟩ := HL.out k hlt
        have HF : Hid (∀ u, Below w1.heap.size w1 u → Calls Tryz.prog 16 #[.agg #[.string (fid fs k), .int .i64 (fkd fs k), .slice pa (fps fs k).length pc, .slice ta (fts fs k).length tc]] u fun e w' => e = .returned (.string (ftT fs k)) ∧ Below u.heap.size u w') := fun u hu =>
          specFeatText_any _ _ _ _ _ _ _ _ _ (hpp.below hu) (htt.below hu) (by omega) (by omega) (by omega) l4
        clear hpp htt l4
        have sz1 := sheetTo_size HL.out k hk
        have sz2 := ftT_size HL.out hlt
        have sb : (⟨#[10]⟩ : ByteArray).size = 1 := rfl
        have nb1 : ¬ 9223372036854775807 < (sheetTo fs k).size + (ftT fs k).size := by omega
        have nb2 : ¬ 9223372036854775807 < (sheetTo fs k).size + (ftT fs k).size + 1 := by omega
        have HN := Lib.hid (sheetTo_next fs k)
        clear sz1 sz2 hok
        go_wp2_with fail
        refine (HF.out _ (Below.refl _ _)).mono ?_
        rintro e w2 ⟨rfl, hb2⟩
        have B2 : Hid (Below w.heap.size w w2) := B1.out.trans (hb2.mono B1.out.size)
        clear hb2 hc1 hc2 hc3 hc4
        go_wp2
        go_roundw
        case rel => exact ⟨k + 1, by omega, congrArg Value.string HN.out, by go_num, B2.out⟩
        case measure => simp [intOf]; omega
      · obtain rfl : k = fs.length := by omega
        clear hbel
        go_wp2
        go_ret
        exact ⟨congrArg (fun x => Ending.returned (.string x)) HO.out.symm, HB.out⟩
  · have hok' : sheetOk fs = false := by simpa using hok
    have HO := Lib.hid (sheetT_bad hok')
    have HC : Hid (∀ u, Below w.heap.size w u → Calls Tryz.prog 15 #[.slice a fs.length cap] u fun e w' => e = .returned (.bool false) ∧ Below u.heap.size u w') := fun u hu => by
      have := specSheetOk_any a cap fs u (HP.out.below hu) hl HL.out
      rwa [hok'] at this
    clear hok hok'
    by_cases h0 : 0 < fs.length
    · go_enter Tryz.func6, Tryz.ntmps6
      go_wp2
      go_loopw [3, 4] (fun s i wr => s = .string ⟨#[]⟩ ∧ i = .int .i64 0 ∧ Below w.heap.size w wr) (fun _ i _ => fs.length - (intOf i).toNat)
      case atStart => exact ⟨rfl, rfl, Below.refl _ _⟩
      case round =>
        obtain ⟨rfl, rfl, hbel⟩ := hrel
        have HB := Lib.hid hbel
        have hsz := hbel.size
        clear hbel
        go_wp2_with fail
        refine (HC.out _ HB.out).mono ?_
        rintro e w1 ⟨rfl, hb1⟩
        have B1 : Hid (Below w.heap.size w w1) := HB.out.trans (hb1.mono hsz)
        clear hb1
        go_wp2
        go_ret
        exact ⟨congrArg (fun x => Ending.returned (.string x)) HO.out.symm, B1.out⟩
    · go_enter Tryz.func6, Tryz.ntmps6
      go_wp2
      go_loopw [3, 4] (fun s i wr => s = .string ⟨#[]⟩ ∧ i = .int .i64 0 ∧ Below w.heap.size w wr) (fun _ i _ => fs.length - (intOf i).toNat)
      case atStart => exact ⟨rfl, rfl, Below.refl _ _⟩
      case round =>
        obtain ⟨rfl, rfl, hbel⟩ := hrel
        have HB := Lib.hid hbel
        clear hbel
        go_wp2
        go_ret
        exact ⟨congrArg (fun x => Ending.returned (.string x)) HO.out.symm, HB.out⟩

set_option maxRecDepth 100000 in
set_option maxHeartbeats 4000000 in
theorem implSheetText_any (a : Option Addr) (cap : Nat) (fs : List Ft) (w : World) (hp : FeatsAt w a fs) (htab : Tab w) (hl : fs.length ≤ 1048576) (ht : FeatsLen fs 1048576) :
    Calls Tryz.prog 8 #[.slice a fs.length cap] w fun e w' => e = .returned (.string (sheetT fs)) ∧ Below w.heap.size w w' := by
  have HP := Lib.hid hp
  have HL := Lib.hid ht
  have HTab := Lib.hid htab
  clear hp ht htab
  by_cases hok : sheetOk fs = true
  · have HO := Lib.hid (sheetT_ok hok)
    have hl8 := sheetOk_len hok
    go_enter Tryz.func8, Tryz.ntmps8
    go_wp2_with fail
    refine (implSheetOk_any _ _ _ _ HP.out hl HL.out).mono ?_
    rintro e w1 ⟨rfl, hb1⟩
    rw [hok]
    have B1 := Lib.hid hb1
    clear hb1 hok
    go_wp2
    go_loopw [3, 5, 11] (fun s _ i wr => ∃ k : Nat, k ≤ fs.length ∧ s = .string (sheetTo fs k) ∧ i = .int .i64 k ∧ Below w.heap.size w wr) (fun _ _ i _ => fs.length - (intOf i).toNat)
    case atStart => exact ⟨0, Nat.zero_le _, rfl, rfl, B1.out⟩
    case round =>
      obtain ⟨k, hk, rfl, rfl, hbel⟩ := hrel
      have HB := Lib.hid hbel
      have hsz := hbel.size
      by_cases hlt : k < fs.length
      · obtain ⟨b, off, pa, pc, ta, tc, rfl, hb, hc1, hc2, hc3, hc4, hpp, htt⟩ := HP.out.below hbel k hlt
        obtain ⟨l1, l2, l3, l4⟩ := HL.out k hlt
        have HF : Hid (∀ u, Below wr.heap.size wr u → Calls Tryz.prog 19 #[.agg #[.string (fid fs k), .int .i64 (fkd fs k), .slice pa (fps fs k).length pc, .slice ta (fts fs k).length tc]] u fun e w' => e = .returned (.string (ftT fs k)) ∧ Below u.heap.size u w') := fun u hu =>
          implFeatText_any _ _ _ _ _ _ _ _ _ (hpp.below hu) (htt.below hu) ((HTab.out.below HB.out).below hu) (by omega) (by omega) (by omega) l4
        clear hpp htt l4 hbel
        have sz1 := sheetTo_size HL.out k hk
        have sz2 := ftT_size HL.out hlt
        have sb : (⟨#[10]⟩ : ByteArray).size = 1 := rfl
        have nb1 : ¬ 9223372036854775807 < (ftT fs k).size + 1 := by omega
        have nb2 : ¬ 9223372036854775807 < (sheetTo fs k).size + ((ftT fs k).size + 1) := by omega
        clear sz1 sz2
        have A0 : Hid (∀ o, Below wr.heap.size wr (wr.alloc o)) := fun o => (Below.refl _ _).alloc (Nat.le_refl _) _
        go_wp2_with fail
        refine (HF.out _ (A0.out _)).mono ?_
        rintro e w2 ⟨rfl, hb2⟩
        have B2 : Hid (Below w.heap.size w w2) := HB.out.trans (((A0.out _).trans (hb2.mono (by simp))).mono hsz)
        clear hb2 A0 hc1 hc2 hc3 hc4
        go_wp2
        go_roundw
        case rel => exact ⟨k + 1, by omega, rfl, by go_num, B2.out⟩
        case measure => simp [intOf]; omega
      · obtain rfl : k = fs.length := by omega
        clear hbel
        go_wp2
        go_ret
        exact ⟨congrArg (fun x => Ending.returned (.string x)) HO.out.symm, HB.out⟩
  · have hok' : sheetOk fs = false := by simpa using hok
    have HO := Lib.hid (sheetT_bad hok')
    clear hok
    go_enter Tryz.func8, Tryz.ntmps8
    go_wp2_with fail
    refine (implSheetOk_any _ _ _ _ HP.out hl HL.out).mono ?_
    rintro e w1 ⟨rfl, hb1⟩
    rw [hok']
    have B1 := Lib.hid hb1
    clear hb1 hok'
    go_wp2
    go_ret
    exact ⟨congrArg (fun x => Ending.returned (.string x)) HO.out.symm, B1.out⟩
end Go.Proofs.YtjphlpjippojiabGreatDoor
