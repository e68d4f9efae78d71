/- Proved here: lists of the same texts are told the same; a list of texts in memory of its own is marked and asked for its marks; lists of at most 1,048,576 texts. -/
import Derived.Test.YtjphlpjippojiabGreatWMarkTagM
import Derived.Test.YtjphlpjippojiabGreatWByName
import Derived.Test.YtjphlpjippojiabGreatWMarkList
namespace Go.Proofs.YtjphlpjippojiabGreat
set_option linter.unusedVariables false
open Go.ChangeShapes Go.WideShapes Go.ChangeAt Go.RowKit

set_option maxRecDepth 100000 in
set_option maxHeartbeats 4000000 in
theorem eqStringS_same (a a' : Option Addr) (cap cap' : Nat) (xs : List ByteArray) (w : World) (hp : StrsAt w a xs) (hq : StrsAt w a' xs) (hl : xs.length ≤ 1048576) :
    Calls Tryz.prog 9 #[.slice a xs.length cap, .slice a' xs.length cap'] w fun e w' => e = .returned (.bool true) ∧ Below w.heap.size w w' := by
  have HP := Lib.hid hp
  have HQ := Lib.hid hq
  clear hp hq
  have hne : ((xs.length : Int) != (xs.length : Int)) = false := by simp
  go_enter Tryz.func9, Tryz.ntmps9
  go_wp2
  go_loopw [5] (fun i wr => ∃ j : Nat, j ≤ xs.length ∧ i = .int .i64 j ∧ Below w.heap.size w wr) (fun i _ => xs.length - (intOf i).toNat)
  case atStart => exact ⟨0, Nat.zero_le _, rfl, Below.refl _ _⟩
  case round =>
    obtain ⟨j, hj, rfl, hbel⟩ := hrel
    have HB := Lib.hid hbel
    by_cases hlt : j < xs.length
    · obtain ⟨b, off, rfl, hb, d1⟩ := HP.out j hlt
      obtain ⟨b', off', rfl, hb', d2⟩ := HQ.out j hlt
      rw [← hbel.cell (p := ⟨b, _, none⟩) hb] at d1
      rw [← hbel.cell (p := ⟨b', _, none⟩) hb'] at d2
      clear hbel
      have e1 : ((sx xs j).toList == (sx xs j).toList) = true := by simp
      go_wp2
      go_quiet (fail)
      go_wp2
      go_roundw
      case rel => exact ⟨j + 1, by omega, by go_num, below_drewN HB.out nq⟩
      case measure => simp [intOf]; omega
    · obtain rfl : j = xs.length := by omega
      clear hbel
      go_wp2
      go_ret
      exact ⟨rfl, HB.out⟩

/-- the marks of texts from k on -/
def markS (k : Int) (n : Nat) : List ByteArray := (List.range n).map fun (i : Nat) => markT (k + (i : Int))
theorem markS_len (k : Int) (n : Nat) : (markS k n).length = n := by simp [markS]
theorem markS_at (k : Int) {n i : Nat} (h : i < n) : sx (markS k n) i = markT (k + (i : Int)) := by simp [sx, markS, h]

/-- how far the marks are written -/
def mkStr (xs : List ByteArray) (k : Int) (j x : Nat) : ByteArray := if x < j then markT (k + (x : Int)) else sx xs x
theorem mkStr_step (xs : List ByteArray) (k : Int) (j x : Nat) : (if x = j then markT (k + (j : Int)) else mkStr xs k j x) = mkStr xs k (j + 1) x := by
  unfold mkStr
  by_cases h1 : x = j
  · subst h1
    rw [if_pos rfl, if_pos (by omega)]
  · rw [if_neg h1]
    by_cases h3 : x < j
    · rw [if_pos h3, if_pos (by omega)]
    · rw [if_neg h3, if_neg (by omega)]

/-- an owned row of texts may be written -/
theorem owned_markW {w : World} {base : Nat} {e : TypeId} {g cap : Nat} {xs : List ByteArray} (k : Int) (h : w.ownsRow base e 1 (.slice (some ⟨g, 0, none⟩) xs.length cap) xs.length (xs.map .string)) : MarkW w g 0 xs.length (mkStr xs k 0) w := by
  obtain ⟨h1, ⟨h2, _⟩ | ⟨g', cap', cur, e', hb, hg, hc, hm, hs, hx⟩⟩ := h
  · simp at h2
  · obtain ⟨rfl, rfl⟩ : g = g' ∧ cap = cap' := by simpa using e'
    refine ⟨fun x hx' => ?_, fun x hx' => by simp [World.frozen?, hg], World.grownBy.refl _ _, (Array.getElem?_eq_some_iff.1 hg).1⟩
    have hv : (xs.map Value.string)[x]? = some (.string (sx xs x)) := by simp [hx', sx]
    rw [← hx, List.getElem?_take, if_pos (by omega)] at hv
    simp only [World.cell?, hg, Option.isSome_none, Bool.false_eq_true, if_false, Nat.zero_add, mkStr, Nat.not_lt_zero]
    simpa using hv

set_option maxRecDepth 100000 in
set_option maxHeartbeats 2000000 in
theorem markStringS_some (b cap : Nat) (xs : List ByteArray) (k : Int) (w : World) (hM : MarkW w b 0 xs.length (mkStr xs k 0) w) (hl : xs.length ≤ 1048576) (h0 : 0 ≤ k) (h4 : k ≤ 4) :
    Calls Tryz.prog 12 #[.slice (some ⟨b, 0, none⟩) xs.length cap, .int .i64 k] w fun e w' => e = .returned (.int .i64 (k + (xs.length : Int))) ∧ StrsAt w' (some ⟨b, 0, none⟩) (markS k xs.length) ∧ w.grownBy w' (some b) := by
  have H0 := Lib.hid hM
  clear hM
  go_enter Tryz.func12, Tryz.ntmps12
  go_wp2
  go_loopw [1, 5] (fun q i wr => ∃ j : Nat, j ≤ xs.length ∧ i = .int .i64 j ∧ q = .int .i64 (k + (j : Int)) ∧ MarkW w b 0 xs.length (mkStr xs k j) wr) (fun _ i _ => xs.length - (intOf i).toNat)
  case atStart => exact ⟨0, Nat.zero_le _, rfl, by simp, H0.out⟩
  case round =>
    clear H0
    obtain ⟨j, hj, rfl, rfl, hm⟩ := hrel
    have HM := Lib.hid hm
    clear hm
    by_cases hlt : j < xs.length
    · go_wp2_with fail
      refine (markText_any _ _ (by omega)).mono ?_
      rintro e w1 ⟨rfl, hb1⟩
      have M1 := Lib.hid (HM.out.below hb1)
      have d1 := M1.out.cell j (by omega)
      have f1 := M1.out.soft j (by omega)
      have M3 : Hid (MarkW w b 0 xs.length (mkStr xs k (j + 1)) (w1.setCell ⟨b, 0 + j, none⟩ (.string (markT (k + (j : Int)))))) :=
        (M1.out.set (y := j) (markT (k + (j : Int))) (by omega)).congr fun x _ => mkStr_step xs k j x
      simp only [Nat.zero_add] at d1 f1 M3
      clear hb1
      go_wp2
      go_roundw
      case rel => exact ⟨j + 1, by omega, by go_num, by simp; omega, M3.out⟩
      case measure => simp [intOf]; omega
    · obtain rfl : j = xs.length := by omega
      go_wp2
      go_ret
      refine ⟨rfl, fun i hi => ?_, HM.out.grown⟩
      rw [markS_len] at hi
      refine ⟨b, 0, rfl, HM.out.lt, ?_⟩
      have := HM.out.cell i hi
      unfold mkStr at this
      rw [if_pos hi] at this
      rw [markS_at k hi]
      exact this

set_option maxRecDepth 100000 in
theorem markStringS_nil (a : Option Addr) (cap : Nat) (k : Int) (w : World) :
    Calls Tryz.prog 12 #[.slice a 0 cap, .int .i64 k] w fun e w' => e = .returned (.int .i64 k) ∧ w = w' := by
  go_enter Tryz.func12, Tryz.ntmps12
  go_wp2
  refine wp_loop_rounds 1 ?_
  rw [rounds_succ]
  go_wp2
  go_ret
  exact ⟨rfl, rfl⟩

/-- a list of texts in a row of its own, marked -/
theorem markStringS_own (lo : Nat) (a : Option Addr) (cap : Nat) (xs : List ByteArray) (k : Int) (w : World) (h : w.ownsRow lo 9 1 (.slice a xs.length cap) xs.length (xs.map .string)) (hl : xs.length ≤ 1048576) (h0 : 0 ≤ k) (h4 : k ≤ 4) :
    Calls Tryz.prog 12 #[.slice a xs.length cap, .int .i64 k] w fun e w' => e = .returned (.int .i64 (k + (xs.length : Int))) ∧ StrsAt w' a (markS k xs.length) ∧ Turned w w' (fun x => lo ≤ x ∧ x < w.heap.size) := by
  have h' := h
  obtain ⟨h1, ⟨h2, h3⟩ | ⟨g, cap', cur, e, hb, hg, _⟩⟩ := h'
  · have e : xs = [] := List.eq_nil_of_length_eq_zero h3
    subst e
    refine (markStringS_nil a cap k w).mono fun e w' ⟨he, hw⟩ => ?_
    subst hw
    exact ⟨by rw [he]; simp, fun i hi => absurd hi (by simp [markS]), Turned.refl _ _⟩
  · obtain ⟨rfl, rfl⟩ : a = some ⟨g, 0, none⟩ ∧ cap = cap' := by simpa using e
    refine (markStringS_some g cap xs k w (owned_markW k h) hl h0 h4).mono fun e w' ⟨he, hs, hgr⟩ => ⟨he, hs, Turned.of_grown hgr fun x hx => ?_⟩
    obtain rfl : g = x := by simpa using hx
    exact ⟨hb, (Array.getElem?_eq_some_iff.1 hg).1⟩

set_option maxRecDepth 100000 in
set_option maxHeartbeats 4000000 in
theorem heldStringS_any (a : Option Addr) (cap n : Nat) (k : Int) (w : World) (hp : StrsAt w a (markS k n)) (hl : n ≤ 1048576) (h0 : 0 ≤ k) (h4 : k ≤ 4) :
    Calls Tryz.prog 13 #[.slice a n cap, .int .i64 k] w fun e w' => e = .returned (.int .i64 (k + (n : Int))) ∧ Below w.heap.size w w' := by
  have HP := Lib.hid hp
  clear hp
  go_enter Tryz.func13, Tryz.ntmps13
  go_wp2
  go_loopw [1, 5] (fun q i wr => ∃ j : Nat, j ≤ n ∧ i = .int .i64 j ∧ q = .int .i64 (k + (j : Int)) ∧ Below w.heap.size w wr) (fun _ i _ => n - (intOf i).toNat)
  case atStart => exact ⟨0, Nat.zero_le _, rfl, by simp, Below.refl _ _⟩
  case round =>
    obtain ⟨j, hj, rfl, rfl, hbel⟩ := hrel
    have HB := Lib.hid hbel
    by_cases hlt : j < n
    · obtain ⟨b, off, rfl, hb, d1⟩ := HP.out j (by rw [markS_len]; exact hlt)
      rw [markS_at k hlt] at d1
      rw [← hbel.cell (p := ⟨b, _, none⟩) hb] at d1
      clear hbel
      have e1 : ((markT (k + (j : Int))).toList == (markT (k + (j : Int))).toList) = true := by simp
      go_upto_region 4 with (fail)
      go_cut [18] (fun s18 wx => s18 = .bool false ∧ Below wr.heap.size wr wx)
      case first =>
        go_region_held3 (fun w' => w'.cell? ⟨b, off + j, none⟩ = some (.string (markT (k + (j : Int)))) ∧ Below wr.heap.size wr w')
          (first
            | exact ⟨d1, (Below.refl _ _).drew⟩
            | (go_split_ands
               rename_i hS0 hS1
               exact ⟨cell_later hbn hS0, hS1.trans (hbn.mono hS1.size)⟩))
          (first
            | (go_at_call 21
               refine (markText_any _ _ (by omega)).mono ?_
               rintro e wn ⟨rfl, hbn⟩))
        all_goals (go_wp2_with fail; go_meet; go_split_ands; exact ⟨by simp, by assumption⟩)
      case rest =>
        obtain ⟨rfl, hB⟩ := hcut
        have B1 := Lib.hid (HB.out.trans (hB.mono HB.out.size))
        clear hB d1 e1
        go_wp2
        go_roundw
        case rel => exact ⟨j + 1, by omega, by go_num, by simp; omega, B1.out⟩
        case measure => simp [intOf]; omega
    · obtain rfl : j = n := by omega
      clear hbel
      go_wp2
      go_ret
      exact ⟨rfl, HB.out⟩
end Go.Proofs.YtjphlpjippojiabGreat
