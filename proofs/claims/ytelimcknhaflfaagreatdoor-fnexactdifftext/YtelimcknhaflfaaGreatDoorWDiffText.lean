/- Proved here: both functions that write changes as a text write what 'diffT' says; lists of at most 1,048,576 changes, points and tags, texts of at most 1,048,576 bytes. -/
import Derived.Test.YtelimcknhaflfaaGreatDoorWFeatText
import Derived.Test.YtelimcknhaflfaaGreatDoorWDiffOkI
namespace Go.Proofs.YtelimcknhaflfaaGreatDoor
set_option linter.unusedVariables false
open Go.ChangeShapes Go.WideShapes Go.ChangeAt Go.RowKit

/-- one side of a change, as a text -/
def sideT (h : Bool) (f : Ft) : ByteArray := if h then featT f.1 f.2.1 f.2.2.1 f.2.2.2 else ⟨#[45]⟩
/-- a change of a list, as a line -/
def chT (ds : List Ch) (j : Nat) : ByteArray := cid ds j ++ ⟨#[58, 32]⟩ ++ sideT (chd ds j) (cwf ds j) ++ ⟨#[32, 62, 32]⟩ ++ sideT (chs ds j) (cnf ds j) ++ ⟨#[10]⟩
/-- the lines of the first changes -/
def diffTo (ds : List Ch) : Nat → ByteArray
  | 0 => ⟨#[]⟩
  | j + 1 => diffTo ds j ++ chT ds j
/-- changes, as a text -/
def diffT (ds : List Ch) : ByteArray := if diffOk ds then diffTo ds ds.length else ⟨#[]⟩

theorem diffT_ok {ds : List Ch} (h : diffOk ds = true) : diffT ds = diffTo ds ds.length := by rw [diffT, if_pos h]
theorem diffT_bad {ds : List Ch} (h : diffOk ds = false) : diffT ds = ⟨#[]⟩ := by rw [diffT, if_neg (by simp [h])]

theorem diffOk_len {ds : List Ch} (h : diffOk ds = true) : ds.length ≤ 16 := by
  simp [diffOk] at h
  exact h.2

theorem sideT_size {f : Ft} (h : Bool) (hL : FtLen f 1048576) : (sideT h f).size ≤ 9437461 := by
  unfold sideT
  obtain ⟨h1, h2, h3, h4⟩ := hL
  cases h
  · exact (by decide : (1 : Nat) ≤ 9437461)
  · simp only [if_true]
    cases h : featOk f.1 f.2.1 f.2.2.1 f.2.2.2
    · rw [featT_bad h]
      exact Nat.zero_le _
    · rw [featT_ok h]
      have h5 := (featOk_shape h).2
      have := featTo_size f.2.1 f.2.2.1 (by omega : f.1.size ≤ 1048576) h4 f.2.2.2.length (Nat.le_refl _)
      omega

theorem chT_size {ds : List Ch} (hL : ChLen ds 1048576) {j : Nat} (hj : j < ds.length) : (chT ds j).size = (cid ds j).size + 2 + (sideT (chd ds j) (cwf ds j)).size + 3 + (sideT (chs ds j) (cnf ds j)).size + 1 := by
  unfold chT
  have s2 : (⟨#[58, 32]⟩ : ByteArray).size = 2 := rfl
  have s3 : (⟨#[32, 62, 32]⟩ : ByteArray).size = 3 := rfl
  have s1 : (⟨#[10]⟩ : ByteArray).size = 1 := rfl
  rw [ByteArray.size_append, ByteArray.size_append, ByteArray.size_append, ByteArray.size_append, ByteArray.size_append, s1, s2, s3]

theorem diffTo_size {ds : List Ch} (hL : ChLen ds 1048576) : ∀ j, j ≤ ds.length → (diffTo ds j).size ≤ j * 19923504
  | 0, _ => Nat.zero_le _
  | j + 1, hj => by
    have ih := diffTo_size hL j (by omega)
    obtain ⟨h1, h2, h3⟩ := hL j (by omega)
    have e1 := sideT_size (chd ds j) h2
    have e2 := sideT_size (chs ds j) h3
    have h4 := chT_size hL (show j < ds.length by omega)
    unfold diffTo
    rw [ByteArray.size_append]
    omega

theorem diffTo_next (ds : List Ch) (j : Nat) : diffTo ds j ++ cid ds j ++ ⟨#[58, 32]⟩ ++ sideT (chd ds j) (cwf ds j) ++ ⟨#[32, 62, 32]⟩ ++ sideT (chs ds j) (cnf ds j) ++ ⟨#[10]⟩ = diffTo ds (j + 1) := by
  show _ = diffTo ds j ++ chT ds j
  unfold chT
  simp only [ByteArray.append_assoc]

set_option maxRecDepth 100000 in
set_option maxHeartbeats 4000000 in
theorem l4Word_any (h : Bool) (f : Ft) (pa : Option Addr) (pc : Nat) (ta : Option Addr) (tc : Nat) (w : World) (hp : PtsAt w pa f.2.2.1) (ht : TagsAt w ta f.2.2.2) (lf : FtLen f 1048576) :
    Calls Tryz.prog 11 #[.agg #[.string f.1, .int .i64 f.2.1, .slice pa f.2.2.1.length pc, .slice ta f.2.2.2.length tc], .bool h] w fun e w' => e = .returned (.string (sideT h f)) ∧ Below w.heap.size w w' := by
  have HP := Lib.hid hp
  have HT := Lib.hid ht
  obtain ⟨l1, l2, l3, l4⟩ := lf
  have L4 := Lib.hid l4
  clear hp ht l4
  cases h
  · go_enter Tryz.func11, Tryz.ntmps11
    go_wp2
    go_ret
    exact ⟨rfl, by first | exact Below.refl _ _ | exact (Below.refl _ _).alloc (Nat.le_refl _) _⟩
  · go_enter Tryz.func11, Tryz.ntmps11
    go_wp2_with fail
    first
      | refine (specFeatText_any _ _ _ _ _ _ _ _ _ HP.out HT.out (by omega) (by omega) (by omega) L4.out).mono ?_
      | refine (specFeatText_any _ _ _ _ _ _ _ _ _ (HP.out.below ((Below.refl _ _).alloc (Nat.le_refl _) _)) (HT.out.below ((Below.refl _ _).alloc (Nat.le_refl _) _)) (by omega) (by omega) (by omega) L4.out).mono ?_
    rintro e w1 ⟨rfl, hb⟩
    have B : Hid (Below w.heap.size w w1) := by first | exact hb | exact ((Below.refl _ _).alloc (Nat.le_refl _) _).trans (hb.mono (by simp))
    clear hb
    go_wp2
    go_ret
    exact ⟨rfl, B.out⟩

set_option maxRecDepth 100000 in
set_option maxHeartbeats 4000000 in
theorem sideText_any (h : Bool) (f : Ft) (pa : Option Addr) (pc : Nat) (ta : Option Addr) (tc : Nat) (w : World) (hp : PtsAt w pa f.2.2.1) (ht : TagsAt w ta f.2.2.2) (htab : Tab w) (lf : FtLen f 1048576) :
    Calls Tryz.prog 14 #[.bool h, .agg #[.string f.1, .int .i64 f.2.1, .slice pa f.2.2.1.length pc, .slice ta f.2.2.2.length tc]] w fun e w' => e = .returned (.string (sideT h f)) ∧ Below w.heap.size w w' := by
  have HP := Lib.hid hp
  have HT := Lib.hid ht
  have HB := Lib.hid htab
  obtain ⟨l1, l2, l3, l4⟩ := lf
  have L4 := Lib.hid l4
  clear hp ht l4 htab
  cases h
  · go_enter Tryz.func14, Tryz.ntmps14
    go_wp2
    go_ret
    exact ⟨rfl, by first | exact Below.refl _ _ | exact (Below.refl _ _).alloc (Nat.le_refl _) _⟩
  · go_enter Tryz.func14, Tryz.ntmps14
    go_wp2_with fail
    first
      | refine (implFeatText_any _ _ _ _ _ _ _ _ _ HP.out HT.out HB.out (by omega) (by omega) (by omega) L4.out).mono ?_
      | refine (implFeatText_any _ _ _ _ _ _ _ _ _ (HP.out.below ((Below.refl _ _).alloc (Nat.le_refl _) _)) (HT.out.below ((Below.refl _ _).alloc (Nat.le_refl _) _)) (HB.out.below ((Below.refl _ _).alloc (Nat.le_refl _) _)) (by omega) (by omega) (by omega) L4.out).mono ?_
    rintro e w1 ⟨rfl, hb⟩
    have B : Hid (Below w.heap.size w w1) := by first | exact hb | exact ((Below.refl _ _).alloc (Nat.le_refl _) _).trans (hb.mono (by simp))
    clear hb
    go_wp2
    go_ret
    exact ⟨rfl, B.out⟩

set_option maxRecDepth 100000 in
set_option maxHeartbeats 8000000 in
theorem specDiffText_any (a : Option Addr) (cap : Nat) (ds : List Ch) (w : World) (hp : ChangesAt w a ds) (hl : ds.length ≤ 1048576) (ht : ChLen ds 1048576) :
    Calls Tryz.prog 5 #[.slice a ds.length cap] w fun e w' => e = .returned (.string (diffT ds)) ∧ Below w.heap.size w w' := by
  have HP := Lib.hid hp
  have HL := Lib.hid ht
  clear hp ht
  by_cases hok : diffOk ds = true
  · have HO := Lib.hid (diffT_ok hok)
    have hl8 := diffOk_len hok
    go_enter Tryz.func5, Tryz.ntmps5
    go_wp2
    go_loopw [3, 4] (fun s i wr => ∃ k : Nat, k ≤ ds.length ∧ s = .string (diffTo ds k) ∧ i = .int .i64 k ∧ Below w.heap.size w wr) (fun _ i _ => ds.length - (intOf i).toNat)
    case atStart => exact ⟨0, Nat.zero_le _, rfl, rfl, Below.refl _ _⟩
    case round =>
      obtain ⟨k, hk, rfl, rfl, hbel⟩ := hrel
      have HB := Lib.hid hbel
      have hsz := hbel.size
      by_cases hlt : k < ds.length
      · have HC : Hid (∀ u, Below wr.heap.size wr u → Calls Tryz.prog 10 #[.slice a ds.length cap] u fun e w' => e = .returned (.bool true) ∧ Below u.heap.size u w') := fun u hu => by
          have := specDiffOk_any a cap ds u ((HP.out.below hbel).below hu) hl HL.out
          rwa [hok] at this
        clear hbel
        go_wp2_with fail
        refine (HC.out _ (Below.refl _ _)).mono ?_
        rintro e w1 ⟨rfl, hb1⟩
        have B1 : Hid (Below w.heap.size w w1) := HB.out.trans (hb1.mono hsz)
        clear hb1 HC
        have hz1 := B1.out.size
        obtain ⟨b, off, pa, pc, ta, tc, qa, qc, ua, uc, rfl, hx⟩ := HP.out k hlt
        obtain ⟨hb, c0, c1, c2, c3, c4, c5, c6, c7, c8, c9, c10, hpp, htt, hqq, huu⟩ := hx.below B1.out
        obtain ⟨l1, l2, l3⟩ := HL.out k hlt
        have L2 := Lib.hid l2
        have L3 := Lib.hid l3
        have HW : Hid (∀ u, Below w1.heap.size w1 u → Calls Tryz.prog 11 #[.agg #[.string (cwf ds k).1, .int .i64 (cwf ds k).2.1, .slice pa (cwf ds k).2.2.1.length pc, .slice ta (cwf ds k).2.2.2.length tc], .bool (chd ds k)] u fun e w' => e = .returned (.string (sideT (chd ds k) (cwf ds k))) ∧ Below u.heap.size u w') := fun u hu => l4Word_any _ _ _ _ _ _ _ (hpp.below hu) (htt.below hu) l2
        have HN : Hid (∀ u, Below w1.heap.size w1 u → Calls Tryz.prog 11 #[.agg #[.string (cnf ds k).1, .int .i64 (cnf ds k).2.1, .slice qa (cnf ds k).2.2.1.length qc, .slice ua (cnf ds k).2.2.2.length uc], .bool (chs ds k)] u fun e w' => e = .returned (.string (sideT (chs ds k) (cnf ds k))) ∧ Below u.heap.size u w') := fun u hu => l4Word_any _ _ _ _ _ _ _ (hqq.below hu) (huu.below hu) l3
        clear hpp htt hqq huu hx l2 l3 hok
        have sz1 := diffTo_size HL.out k hk
        have sz2 := sideT_size (chd ds k) L2.out
        have sz3 := sideT_size (chs ds k) L3.out
        have s2 : (⟨#[58, 32]⟩ : ByteArray).size = 2 := rfl
        have s3 : (⟨#[32, 62, 32]⟩ : ByteArray).size = 3 := rfl
        have s1 : (⟨#[10]⟩ : ByteArray).size = 1 := rfl
        have nb0 : ¬ 9223372036854775807 < (diffTo ds k).size + (cid ds k).size := by omega
        have nb1 : ¬ 9223372036854775807 < (diffTo ds k).size + (cid ds k).size + 2 := by omega
        have nb2 : ¬ 9223372036854775807 < (diffTo ds k).size + (cid ds k).size + 2 + (sideT (chd ds k) (cwf ds k)).size := by omega
        have nb3 : ¬ 9223372036854775807 < (diffTo ds k).size + (cid ds k).size + 2 + (sideT (chd ds k) (cwf ds k)).size + 3 := by omega
        have nb4 : ¬ 9223372036854775807 < (diffTo ds k).size + (cid ds k).size + 2 + (sideT (chd ds k) (cwf ds k)).size + 3 + (sideT (chs ds k) (cnf ds k)).size := by omega
        have nb5 : ¬ 9223372036854775807 < (diffTo ds k).size + (cid ds k).size + 2 + (sideT (chd ds k) (cwf ds k)).size + 3 + (sideT (chs ds k) (cnf ds k)).size + 1 := by omega
        clear sz1 sz2 sz3
        have HX := Lib.hid (diffTo_next ds k)
        generalize sideT (chd ds k) (cwf ds k) = tw at *
        generalize sideT (chs ds k) (cnf ds k) = tn at *
        generalize diffTo ds k = txt at *
        have q0 : ∀ x : Kept w1, x.1.cell? ⟨b, off + k * 11, none⟩ = some (.string (cid ds k)) := fun x => x.cell c0
        have q1 : ∀ x : Kept w1, x.1.cell? ⟨b, off + k * 11 + 1, none⟩ = some (.bool (chd ds k)) := fun x => x.cell c1
        have q2 : ∀ x : Kept w1, x.1.cell? ⟨b, off + k * 11 + 2, none⟩ = some (.string (cwf ds k).1) := fun x => x.cell c2
        have q3 : ∀ x : Kept w1, x.1.cell? ⟨b, off + k * 11 + 3, none⟩ = some (.int .i64 (cwf ds k).2.1) := fun x => x.cell c3
        have q4 : ∀ x : Kept w1, x.1.cell? ⟨b, off + k * 11 + 4, none⟩ = some (.slice pa (cwf ds k).2.2.1.length pc) := fun x => x.cell c4
        have q5 : ∀ x : Kept w1, x.1.cell? ⟨b, off + k * 11 + 5, none⟩ = some (.slice ta (cwf ds k).2.2.2.length tc) := fun x => x.cell c5
        have q6 : ∀ x : Kept w1, x.1.cell? ⟨b, off + k * 11 + 6, none⟩ = some (.bool (chs ds k)) := fun x => x.cell c6
        have q7 : ∀ x : Kept w1, x.1.cell? ⟨b, off + k * 11 + 7, none⟩ = some (.string (cnf ds k).1) := fun x => x.cell c7
        have q8 : ∀ x : Kept w1, x.1.cell? ⟨b, off + k * 11 + 8, none⟩ = some (.int .i64 (cnf ds k).2.1) := fun x => x.cell c8
        have q9 : ∀ x : Kept w1, x.1.cell? ⟨b, off + k * 11 + 9, none⟩ = some (.slice qa (cnf ds k).2.2.1.length qc) := fun x => x.cell c9
        have q10 : ∀ x : Kept w1, x.1.cell? ⟨b, off + k * 11 + 10, none⟩ = some (.slice ua (cnf ds k).2.2.2.length uc) := fun x => x.cell c10
        clear c0 c1 c2 c3 c4 c5 c6 c7 c8 c9 c10
        go_wp2
        refine wp_region_kept (by kernel_rfl) (by kernel_rfl) ?_
        repeat (go_big_quiet_step (first | exact Kept.calls _ (HW.out _ (Subtype.property _)) | exact Kept.calls _ (HN.out _ (Subtype.property _))))
        refine wpQuiet_nil ?_
        rintro wn ⟨x, e⟩
        have hbn : Below w1.heap.size w1 wn := by rw [e]; exact x.2
        clear e x
        have B : Hid (Below w.heap.size w wn) := B1.out.trans (hbn.mono hz1)
        clear hbn q0 q1 q2 q3 q4 q5 q6 q7 q8 q9 q10
        go_wp2
        go_roundw
        case rel => exact ⟨k + 1, by omega, congrArg Value.string HX.out, by go_num, B.out⟩
        case measure => simp [intOf]; omega
      · obtain rfl : k = ds.length := by omega
        clear hbel
        go_wp2
        go_ret
        exact ⟨congrArg (fun x => Ending.returned (.string x)) HO.out.symm, HB.out⟩
  · have hok' : diffOk ds = false := by simpa using hok
    have HO := Lib.hid (diffT_bad hok')
    have HC : Hid (∀ u, Below w.heap.size w u → Calls Tryz.prog 10 #[.slice a ds.length cap] u fun e w' => e = .returned (.bool false) ∧ Below u.heap.size u w') := fun u hu => by
      have := specDiffOk_any a cap ds u (HP.out.below hu) hl HL.out
      rwa [hok'] at this
    clear hok hok'
    by_cases h0 : 0 < ds.length
    · go_enter Tryz.func5, Tryz.ntmps5
      go_wp2
      go_loopw [3, 4] (fun s i wr => s = .string ⟨#[]⟩ ∧ i = .int .i64 0 ∧ Below w.heap.size w wr) (fun _ i _ => ds.length - (intOf i).toNat)
      case atStart => exact ⟨rfl, rfl, Below.refl _ _⟩
      case round =>
        obtain ⟨rfl, rfl, hbel⟩ := hrel
        have HB := Lib.hid hbel
        have hsz := hbel.size
        clear hbel
        go_wp2_with fail
        refine (HC.out _ HB.out).mono ?_
        rintro e w1 ⟨rfl, hb1⟩
        have B1 : Hid (Below w.heap.size w w1) := HB.out.trans (hb1.mono hsz)
        clear hb1
        go_wp2
        go_ret
        exact ⟨congrArg (fun x => Ending.returned (.string x)) HO.out.symm, B1.out⟩
    · go_enter Tryz.func5, Tryz.ntmps5
      go_wp2
      go_loopw [3, 4] (fun s i wr => s = .string ⟨#[]⟩ ∧ i = .int .i64 0 ∧ Below w.heap.size w wr) (fun _ i _ => ds.length - (intOf i).toNat)
      case atStart => exact ⟨rfl, rfl, Below.refl _ _⟩
      case round =>
        obtain ⟨rfl, rfl, hbel⟩ := hrel
        have HB := Lib.hid hbel
        have hsz := hbel.size
        clear hbel
        go_wp2
        go_ret
        exact ⟨congrArg (fun x => Ending.returned (.string x)) HO.out.symm, HB.out⟩

set_option maxRecDepth 100000 in
set_option maxHeartbeats 8000000 in
theorem implDiffText_any (a : Option Addr) (cap : Nat) (ds : List Ch) (w : World) (hp : ChangesAt w a ds) (htab : Tab w) (hl : ds.length ≤ 1048576) (ht : ChLen ds 1048576) :
    Calls Tryz.prog 7 #[.slice a ds.length cap] w fun e w' => e = .returned (.string (diffT ds)) ∧ Below w.heap.size w w' := by
  have HP := Lib.hid hp
  have HL := Lib.hid ht
  have HTab := Lib.hid htab
  clear hp ht htab
  by_cases hok : diffOk ds = true
  · have HO := Lib.hid (diffT_ok hok)
    have hl8 := diffOk_len hok
    go_enter Tryz.func7, Tryz.ntmps7
    go_wp2_with fail
    refine (implDiffOk_any _ _ _ _ HP.out hl HL.out).mono ?_
    rintro e w1 ⟨rfl, hb1⟩
    rw [hok]
    have B1 := Lib.hid hb1
    clear hb1 hok
    go_wp2
    go_loopw [3, 5, 11] (fun s _ i wr => ∃ k : Nat, k ≤ ds.length ∧ s = .string (diffTo ds k) ∧ i = .int .i64 k ∧ Below w.heap.size w wr) (fun _ _ i _ => ds.length - (intOf i).toNat)
    case atStart => exact ⟨0, Nat.zero_le _, rfl, rfl, B1.out⟩
    case round =>
      obtain ⟨k, hk, rfl, rfl, hbel⟩ := hrel
      have HB := Lib.hid hbel
      have hsz := hbel.size
      by_cases hlt : k < ds.length
      · obtain ⟨b, off, pa, pc, ta, tc, qa, qc, ua, uc, rfl, hx⟩ := HP.out k hlt
        obtain ⟨hb, c0, c1, c2, c3, c4, c5, c6, c7, c8, c9, c10, hpp, htt, hqq, huu⟩ := hx.below hbel
        obtain ⟨l1, l2, l3⟩ := HL.out k hlt
        have L2 := Lib.hid l2
        have L3 := Lib.hid l3
        have HW : Hid (∀ u, Below wr.heap.size wr u → Calls Tryz.prog 14 #[.bool (chd ds k), .agg #[.string (cwf ds k).1, .int .i64 (cwf ds k).2.1, .slice pa (cwf ds k).2.2.1.length pc, .slice ta (cwf ds k).2.2.2.length tc]] u fun e w' => e = .returned (.string (sideT (chd ds k) (cwf ds k))) ∧ Below u.heap.size u w') := fun u hu => sideText_any _ _ _ _ _ _ _ (hpp.below hu) (htt.below hu) ((HTab.out.below HB.out).below hu) l2
        have HN : Hid (∀ u, Below wr.heap.size wr u → Calls Tryz.prog 14 #[.bool (chs ds k), .agg #[.string (cnf ds k).1, .int .i64 (cnf ds k).2.1, .slice qa (cnf ds k).2.2.1.length qc, .slice ua (cnf ds k).2.2.2.length uc]] u fun e w' => e = .returned (.string (sideT (chs ds k) (cnf ds k))) ∧ Below u.heap.size u w') := fun u hu => sideText_any _ _ _ _ _ _ _ (hqq.below hu) (huu.below hu) ((HTab.out.below HB.out).below hu) l3
        clear hbel hpp htt hqq huu hx l2 l3
        have sz1 := diffTo_size HL.out k hk
        have sz2 := sideT_size (chd ds k) L2.out
        have sz3 := sideT_size (chs ds k) L3.out
        have s2 : (⟨#[58, 32]⟩ : ByteArray).size = 2 := rfl
        have s3 : (⟨#[32, 62, 32]⟩ : ByteArray).size = 3 := rfl
        have s1 : (⟨#[10]⟩ : ByteArray).size = 1 := rfl
        have nb0 : ¬ 9223372036854775807 < (cid ds k).size + 2 := by omega
        have nb1 : ¬ 9223372036854775807 < (cid ds k).size + 2 + (sideT (chd ds k) (cwf ds k)).size := by omega
        have nb2 : ¬ 9223372036854775807 < (cid ds k).size + 2 + (sideT (chd ds k) (cwf ds k)).size + 3 := by omega
        have nb3 : ¬ 9223372036854775807 < (cid ds k).size + 2 + (sideT (chd ds k) (cwf ds k)).size + 3 + (sideT (chs ds k) (cnf ds k)).size := by omega
        have nb4 : ¬ 9223372036854775807 < (cid ds k).size + 2 + (sideT (chd ds k) (cwf ds k)).size + 3 + (sideT (chs ds k) (cnf ds k)).size + 1 := by omega
        have nb5 : ¬ 9223372036854775807 < (diffTo ds k).size + ((cid ds k).size + 2 + (sideT (chd ds k) (cwf ds k)).size + 3 + (sideT (chs ds k) (cnf ds k)).size + 1) := by omega
        clear sz1 sz2 sz3
        have A0 : Hid (∀ o, Below wr.heap.size wr (wr.alloc o)) := fun o => (Below.refl _ _).alloc (Nat.le_refl _) _
        have HX : Hid (diffTo ds k ++ (cid ds k ++ ⟨#[58, 32]⟩ ++ sideT (chd ds k) (cwf ds k) ++ ⟨#[32, 62, 32]⟩ ++ sideT (chs ds k) (cnf ds k) ++ ⟨#[10]⟩) = diffTo ds (k + 1)) := rfl
        generalize sideT (chd ds k) (cwf ds k) = tw at *
        generalize sideT (chs ds k) (cnf ds k) = tn at *
        generalize diffTo ds k = txt at *
        go_wp2
        generalize hwo : wr.alloc _ = wo
        have BO : Hid (Below wr.heap.size wr wo) := by rw [← hwo]; exact A0.out _
        have q0 : ∀ x : Kept wo, x.1.cell? ⟨wr.heap.size, 0, none⟩ = some (.string (cid ds k)) := fun x => x.cell (by rw [← hwo]; simp [go_sem])
        have q1 : ∀ x : Kept wo, x.1.cell? ⟨wr.heap.size, 1, none⟩ = some (.bool (chd ds k)) := fun x => x.cell (by rw [← hwo]; simp [go_sem])
        have q2 : ∀ x : Kept wo, x.1.cell? ⟨wr.heap.size, 2, none⟩ = some (.string (cwf ds k).1) := fun x => x.cell (by rw [← hwo]; simp [go_sem])
        have q3 : ∀ x : Kept wo, x.1.cell? ⟨wr.heap.size, 3, none⟩ = some (.int .i64 (cwf ds k).2.1) := fun x => x.cell (by rw [← hwo]; simp [go_sem])
        have q4 : ∀ x : Kept wo, x.1.cell? ⟨wr.heap.size, 4, none⟩ = some (.slice pa (cwf ds k).2.2.1.length pc) := fun x => x.cell (by rw [← hwo]; simp [go_sem])
        have q5 : ∀ x : Kept wo, x.1.cell? ⟨wr.heap.size, 5, none⟩ = some (.slice ta (cwf ds k).2.2.2.length tc) := fun x => x.cell (by rw [← hwo]; simp [go_sem])
        have q6 : ∀ x : Kept wo, x.1.cell? ⟨wr.heap.size, 6, none⟩ = some (.bool (chs ds k)) := fun x => x.cell (by rw [← hwo]; simp [go_sem])
        have q7 : ∀ x : Kept wo, x.1.cell? ⟨wr.heap.size, 7, none⟩ = some (.string (cnf ds k).1) := fun x => x.cell (by rw [← hwo]; simp [go_sem])
        have q8 : ∀ x : Kept wo, x.1.cell? ⟨wr.heap.size, 8, none⟩ = some (.int .i64 (cnf ds k).2.1) := fun x => x.cell (by rw [← hwo]; simp [go_sem])
        have q9 : ∀ x : Kept wo, x.1.cell? ⟨wr.heap.size, 9, none⟩ = some (.slice qa (cnf ds k).2.2.1.length qc) := fun x => x.cell (by rw [← hwo]; simp [go_sem])
        have q10 : ∀ x : Kept wo, x.1.cell? ⟨wr.heap.size, 10, none⟩ = some (.slice ua (cnf ds k).2.2.2.length uc) := fun x => x.cell (by rw [← hwo]; simp [go_sem])
        clear c0 c1 c2 c3 c4 c5 c6 c7 c8 c9 c10 hwo
        have HW2 := Lib.hid (fun u (hu : Below wo.heap.size wo u) => HW.out u (BO.out.trans (hu.mono BO.out.size)))
        have HN2 := Lib.hid (fun u (hu : Below wo.heap.size wo u) => HN.out u (BO.out.trans (hu.mono BO.out.size)))
        refine wp_region_kept (by kernel_rfl) (by kernel_rfl) ?_
        repeat (go_big_quiet_step (first | exact Kept.calls _ (HW2.out _ (Subtype.property _)) | exact Kept.calls _ (HN2.out _ (Subtype.property _))))
        refine wpQuiet_nil ?_
        rintro wn ⟨x, e⟩
        have hbn : Below wo.heap.size wo wn := by rw [e]; exact x.2
        clear e x
        have B : Hid (Below w.heap.size w wn) := HB.out.trans ((BO.out.mono hsz).trans (hbn.mono (Nat.le_trans hsz BO.out.size)))
        clear hbn q0 q1 q2 q3 q4 q5 q6 q7 q8 q9 q10
        go_wp2
        go_roundw
        case rel => exact ⟨k + 1, by omega, congrArg Value.string HX.out, by go_num, B.out⟩
        case measure => simp [intOf]; omega
      · obtain rfl : k = ds.length := by omega
        clear hbel
        go_wp2
        go_ret
        exact ⟨congrArg (fun x => Ending.returned (.string x)) HO.out.symm, HB.out⟩
  · have hok' : diffOk ds = false := by simpa using hok
    have HO := Lib.hid (diffT_bad hok')
    clear hok
    go_enter Tryz.func7, Tryz.ntmps7
    go_wp2_with fail
    refine (implDiffOk_any _ _ _ _ HP.out hl HL.out).mono ?_
    rintro e w1 ⟨rfl, hb1⟩
    rw [hok']
    have B1 := Lib.hid hb1
    clear hb1 hok'
    go_wp2
    go_ret
    exact ⟨congrArg (fun x => Ending.returned (.string x)) HO.out.symm, B1.out⟩
end Go.Proofs.YtelimcknhaflfaaGreatDoor
