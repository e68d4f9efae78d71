/- Proved here: the model's way of asking whether tags are right answers as the plain definition 'tagsGood' says; rows of at most 1,048,576 tags of at most 1,048,576 bytes. -/
import Derived.Test.YtdfadpejddhbkaaWTells
import Derived.Test.YtdfadpejddhbkaaWWord
import Derived.Test.YtdfadpejddhbkaaWOk
namespace Go.Proofs.Ytdfadpejddhbkaa
set_option linter.unusedVariables false
open Go.ChangeShapes Go.WideShapes Go.ChangeAt Go.RowKit Go.Maps Go.Sort

/-- the bytes of a tag's key, by its place -/
def kb (ts : List Tg) (i : Nat) : List UInt8 := (tk ts i).data.toList
/-- a tag is one, and its key behind the one ahead of it -/
def tagGood (ts : List Tg) (i : Nat) : Bool := wordOk (tk ts i) && wordOk (tv ts i) && !(decide (0 < i) && decide (kb ts i ≤ kb ts (i - 1)))
def tagsGood (ts : List Tg) : Bool := (List.range ts.length).all (tagGood ts)

theorem tagsGood_of {ts : List Tg} (h : ∀ j, j < ts.length → tagGood ts j = true) : tagsGood ts = true := by
  unfold tagsGood
  rw [List.all_eq_true]
  intro j hj
  exact h j (by simpa using hj)

theorem tagsGood_not {ts : List Tg} {j : Nat} (hj : j < ts.length) (h : tagGood ts j = false) : tagsGood ts = false := by
  unfold tagsGood
  rw [List.all_eq_false]
  exact ⟨j, by simpa using hj, by simp [h]⟩

theorem tagsGood_at {ts : List Tg} (h : tagsGood ts = true) {j : Nat} (hj : j < ts.length) : tagGood ts j = true := by
  unfold tagsGood at h
  rw [List.all_eq_true] at h
  exact h j (by simpa using hj)

theorem less_of {x y : ByteArray} (h : x.data.toList < y.data.toList) : Op.bytesLess x.toList y.toList = true := by
  rw [bytesLess_eq, ByteArray.toList_eq, ByteArray.toList_eq]
  exact decide_eq_true h
theorem less_not {x y : ByteArray} (h : ¬ x.data.toList < y.data.toList) : Op.bytesLess x.toList y.toList = false := by
  rw [bytesLess_eq, ByteArray.toList_eq, ByteArray.toList_eq]
  exact decide_eq_false h
theorem beq_not {x y : ByteArray} (h : x.data.toList ≠ y.data.toList) : (x.toList == y.toList) = false := by
  rw [bytes_beq]
  exact decide_eq_false fun e => h (by rw [e])
theorem beq_of {x y : ByteArray} (h : x.data.toList = y.data.toList) : (x.toList == y.toList) = true := by
  rw [ByteArray.toList_eq, ByteArray.toList_eq, h]
  simp

set_option maxHeartbeats 2000000 in
theorem l2Tags_any (a : Option Addr) (cap : Nat) (ts : List Tg) (w : World) (hp : TagsAt w a ts) (hl : ts.length ≤ 1048576) (ht : TagsLen ts 1048576) :
    Calls Try.prog 67 #[.slice a ts.length cap] w fun e w' => e = .returned (.bool (tagsGood ts && decide (ts.length ≤ 4))) ∧ ∃ n, w' = w.drewN n := by
  have HP := Lib.hid hp
  have HL := Lib.hid ht
  clear hp ht
  go_enter Try.func67, Try.ntmps67
  go_wp2
  go_loopw [3] (fun i wr => ∃ k n : Nat, k ≤ ts.length ∧ i = .int .i64 k ∧ wr = w.drewN n ∧ ∀ j, j < k → tagGood ts j = true) (fun i _ => ts.length - (intOf i).toNat)
  case atStart => exact ⟨0, 0, Nat.zero_le _, rfl, rfl, fun j h => absurd h (Nat.not_lt_zero _)⟩
  case round =>
    obtain ⟨k, n, hk, rfl, rfl, hall⟩ := hrel
    have HA := Lib.hid hall
    clear hall
    by_cases hlt : k < ts.length
    · obtain ⟨b, off, rfl, hb, hc1, hc2⟩ := HP.out k hlt
      have HLK := HL.out k hlt
      obtain ⟨l1, l2⟩ := HLK
      have l1' : (tk ts k).size ≤ 1048576 := by omega
      have l2' : (tv ts k).size ≤ 1048576 := by omega
      clear l1 l2
      by_cases hx : wordOk (tk ts k) = true
      · by_cases hy : wordOk (tv ts k) = true
        · by_cases h0 : k = 0
          · subst h0
            simp only [Nat.zero_mul, Nat.add_zero] at hc1 hc2
            have HS : Hid (tagGood ts 0 = true) := by simp [Hid, tagGood, hx, hy]
            go_wp2
            go_quiet ((go_at_call 66; exact quiet_add_same (specWordOk_any _ _ (by assumption))))
            go_wp2
            go_roundw
            case rel => exact ⟨1, _, by omega, rfl, rfl, fun j hj => by obtain rfl : j = 0 := (by omega); exact HS.out⟩
            case measure => simp [intOf]; omega
          · obtain ⟨b', off', he, _, hd1, hd2⟩ := HP.out (k - 1) (by omega)
            obtain ⟨rfl, rfl⟩ : b = b' ∧ off = off' := by simpa using he
            clear he
            obtain ⟨j, rfl⟩ : ∃ j, k = j + 1 := ⟨k - 1, by omega⟩
            simp only [Nat.add_sub_cancel] at hd1 hd2
            have hg : decide ((0 : Int) < ((j + 1 : Nat) : Int)) = true := by simp
            have hw1 : IntKind.i64.wrap (((j + 1 : Nat) : Int) - 1) = (j : Int) := by rw [IntWalk.i64_in _ (by omega)]; omega
            by_cases hq : kb ts (j + 1) < kb ts j
            · have HS : Hid (tagGood ts (j + 1) = false) := by
                have : kb ts (j + 1) ≤ kb ts j := List.le_of_lt hq
                simp [Hid, tagGood, this]
              have e1 := less_of hq
              clear hq
              go_wp2
              go_quiet ((go_at_call 66; exact quiet_add_same (specWordOk_any _ _ (by assumption))))
              go_wp2
              go_ret
              exact ⟨by rw [tagsGood_not hlt HS.out]; rfl, _, World.drewN_drewN _ _ _⟩
            · have e1 := less_not hq
              by_cases hr : kb ts (j + 1) = kb ts j
              · have HS : Hid (tagGood ts (j + 1) = false) := by
                  have : kb ts (j + 1) ≤ kb ts j := by rw [hr]; exact List.le_refl _
                  simp [Hid, tagGood, this]
                have e2 := beq_of hr
                clear hq hr
                go_wp2
                go_quiet ((go_at_call 66; exact quiet_add_same (specWordOk_any _ _ (by assumption))))
                go_wp2
                go_ret
                exact ⟨by rw [tagsGood_not hlt HS.out]; rfl, _, World.drewN_drewN _ _ _⟩
              · have HS : Hid (tagGood ts (j + 1) = true) := by
                  have : ¬ kb ts (j + 1) ≤ kb ts j := fun h => hq (lt_of_le_ne h (fun e => hr e.symm))
                  simp [Hid, tagGood, hx, hy, this]
                have e2 := beq_not hr
                clear hq hr
                go_wp2
                go_quiet ((go_at_call 66; exact quiet_add_same (specWordOk_any _ _ (by assumption))))
                go_wp2
                go_roundw
                case rel => exact ⟨j + 1 + 1, _, by omega, by go_num, rfl, fun i hi => by by_cases e : i = j + 1; (subst e; exact HS.out); exact HA.out i (by omega)⟩
                case measure => simp [intOf]; omega
        · have hy' : wordOk (tv ts k) = false := by simpa using hy
          have HS : Hid (tagGood ts k = false) := by simp [Hid, tagGood, hy']
          clear hy
          go_wp2
          go_quiet ((go_at_call 66; exact quiet_add_same (specWordOk_any _ _ (by assumption))))
          go_wp2
          go_ret
          exact ⟨by rw [tagsGood_not hlt HS.out]; rfl, _, World.drewN_drewN _ _ _⟩
      · have hx' : wordOk (tk ts k) = false := by simpa using hx
        have HS : Hid (tagGood ts k = false) := by simp [Hid, tagGood, hx']
        clear hx
        go_wp2
        go_quiet ((go_at_call 66; exact quiet_add_same (specWordOk_any _ _ (by assumption))))
        go_wp2
        go_ret
        exact ⟨by rw [tagsGood_not hlt HS.out]; rfl, _, World.drewN_drewN _ _ _⟩
    · obtain rfl : k = ts.length := by omega
      have HT := Lib.hid (tagsGood_of HA.out)
      go_wp2
      go_ret
      exact ⟨by rw [HT.out]; simp; omega, n, rfl⟩
end Go.Proofs.Ytdfadpejddhbkaa
