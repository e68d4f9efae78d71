/- Proved here: marking tags writes the marks into their own row and nothing else, and asking for the marks finds them; rows of at most 1,048,576 tags that may be written. -/
import Derived.Test.YtdfadpejddhbkaaGreatWMarkText
import Derived.Test.YtdfadpejddhbkaaGreatWMark
import Derived.Deep.RegionHeld3
import Derived.Deep.DeepCutAuto
namespace Go.Proofs.YtdfadpejddhbkaaGreat
set_option linter.unusedVariables false
open Go.ChangeShapes Go.WideShapes Go.ChangeAt Go.RowKit

/-- the marks of tags from k on -/
def marksT (k : Int) (n : Nat) : List Tg := (List.range n).map fun (i : Nat) => (markT (k + 2 * (i : Int)), markT (k + 2 * (i : Int) + 1))
theorem marksT_len (k : Int) (n : Nat) : (marksT k n).length = n := by simp [marksT]
theorem marksT_k (k : Int) {n i : Nat} (h : i < n) : tk (marksT k n) i = markT (k + 2 * (i : Int)) := by simp [tk, marksT, h]
theorem marksT_v (k : Int) {n i : Nat} (h : i < n) : tv (marksT k n) i = markT (k + 2 * (i : Int) + 1) := by simp [tv, marksT, h]

/-- a row of texts that may be written, all else as it was -/
structure MarkW (w : World) (b off m : Nat) (c : Nat → ByteArray) (wr : World) : Prop where
  cell : ∀ x, x < m → wr.cell? ⟨b, off + x, none⟩ = some (.string (c x))
  soft : ∀ x, x < m → wr.frozen? ⟨b, off + x, none⟩ = false
  grown : w.grownBy wr (some b)
  lt : b < wr.heap.size

theorem MarkW.below {w wr w1 : World} {b off m : Nat} {c : Nat → ByteArray} (h : MarkW w b off m c wr) (hb : Below wr.heap.size wr w1) : MarkW w b off m c w1 :=
  ⟨fun x hx => cell_later hb (h.cell x hx), fun x hx => (hb.frozen (p := ⟨b, _, none⟩) h.lt).trans (h.soft x hx), h.grown.trans ⟨hb.os, hb.tape, hb.output, hb.size, fun k hk _ => hb.block k hk⟩, Nat.lt_of_lt_of_le h.lt hb.size⟩

theorem MarkW.set {w wr : World} {b off m : Nat} {c : Nat → ByteArray} (h : MarkW w b off m c wr) {y : Nat} (s : ByteArray) (hy : y < m) : MarkW w b off m (fun x => if x = y then s else c x) (wr.setCell ⟨b, off + y, none⟩ (.string s)) := by
  refine ⟨fun x hx => ?_, fun x hx => by rw [World.frozen?_setCell]; exact h.soft x hx, grown_set h.grown _ _, by simpa [World.setCell] using h.lt⟩
  by_cases e : x = y
  · subst e
    rw [if_pos rfl]
    exact World.cell?_setCell_same _ _ _ (h.cell x hx)
  · rw [if_neg e, World.cell?_setCell_other _ _ _ _ (by simp <;> omega)]
    exact h.cell x hx

theorem MarkW.congr {w wr : World} {b off m : Nat} {c d : Nat → ByteArray} (h : MarkW w b off m c wr) (e : ∀ x, x < m → c x = d x) : MarkW w b off m d wr :=
  ⟨fun x hx => by rw [h.cell x hx, e x hx], h.soft, h.grown, h.lt⟩

/-- the text at a cell -/
def txt (ts : List Tg) (x : Nat) : ByteArray := if x % 2 = 0 then tk ts (x / 2) else tv ts (x / 2)
/-- how far the marks are written -/
def mkTo (ts : List Tg) (k : Int) (j x : Nat) : ByteArray := if x < j * 2 then markT (k + (x : Int)) else txt ts x

theorem mkTo_step (ts : List Tg) (k : Int) (j x : Nat) : (if x = j * 2 + 1 then markT (k + 2 * (j : Int) + 1) else if x = j * 2 then markT (k + 2 * (j : Int)) else mkTo ts k j x) = mkTo ts k (j + 1) x := by
  unfold mkTo
  by_cases h1 : x = j * 2 + 1
  · subst h1
    rw [if_pos rfl, if_pos (by omega)]
    congr 1
    omega
  · rw [if_neg h1]
    by_cases h2 : x = j * 2
    · subst h2
      rw [if_pos rfl, if_pos (by omega)]
      congr 1
      omega
    · rw [if_neg h2]
      by_cases h3 : x < j * 2
      · rw [if_pos h3, if_pos (by omega)]
      · rw [if_neg h3, if_neg (by omega)]

theorem MarkW.start {w : World} {b off : Nat} {ts : List Tg} (k : Int) (hp : TagsAt w (some ⟨b, off, none⟩) ts) (hs : Soft w (some ⟨b, off, none⟩) ts.length) (h0 : 0 < ts.length) : MarkW w b off (ts.length * 2) (mkTo ts k 0) w := by
  have hlt : b < w.heap.size := by
    obtain ⟨b', off', e, hlt, _⟩ := hp 0 h0
    obtain ⟨rfl, rfl⟩ : b = b' ∧ off = off' := by simpa using e
    exact hlt
  refine ⟨fun x hx => ?_, fun x hx => ?_, World.grownBy.refl _ _, hlt⟩
  · obtain ⟨b', off', e, _, h1, h2⟩ := hp (x / 2) (by omega)
    obtain ⟨rfl, rfl⟩ : b = b' ∧ off = off' := by simpa using e
    unfold mkTo txt
    rw [if_neg (by omega)]
    by_cases hx2 : x % 2 = 0
    · rw [if_pos hx2, show off + x = off + x / 2 * 2 by omega]
      exact h1
    · rw [if_neg hx2, show off + x = off + x / 2 * 2 + 1 by omega]
      exact h2
  · obtain ⟨h1, h2⟩ := hs (x / 2) (by omega) b off rfl
    by_cases hx2 : x % 2 = 0
    · rw [show off + x = off + x / 2 * 2 by omega]
      exact h1
    · rw [show off + x = off + x / 2 * 2 + 1 by omega]
      exact h2

set_option maxHeartbeats 2000000 in
theorem markTagS_some (b off cap : Nat) (ts : List Tg) (k : Int) (w : World) (hp : TagsAt w (some ⟨b, off, none⟩) ts) (hs : Soft w (some ⟨b, off, none⟩) ts.length) (hl : ts.length ≤ 1048576) (hn : 0 < ts.length) (h0 : 0 ≤ k) (h4 : k ≤ 1152921504606846976) :
    Calls Tryz.prog 108 #[.slice (some ⟨b, off, none⟩) ts.length cap, .int .i64 k] w fun e w' => e = .returned (.int .i64 (k + 2 * (ts.length : Int))) ∧ MarkW w b off (ts.length * 2) (mkTo ts k ts.length) w' := by
  have H0 := Lib.hid (MarkW.start k hp hs hn)
  clear hp hs
  go_enter Tryz.func108, Tryz.ntmps108
  go_wp2
  go_loopw [1, 5] (fun q i wr => ∃ j : Nat, j ≤ ts.length ∧ i = .int .i64 j ∧ q = .int .i64 (k + 2 * (j : Int)) ∧ MarkW w b off (ts.length * 2) (mkTo ts k j) wr) (fun _ i _ => ts.length - (intOf i).toNat)
  case atStart => exact ⟨0, Nat.zero_le _, rfl, by simp, H0.out⟩
  case round =>
    clear H0
    obtain ⟨j, hj, rfl, rfl, hm⟩ := hrel
    have HM := Lib.hid hm
    clear hm
    by_cases hlt : j < ts.length
    · go_wp2_with fail
      refine (markText_any _ _ (by omega)).mono ?_
      rintro e w1 ⟨rfl, hb1⟩
      have M1 := Lib.hid (HM.out.below hb1)
      have d1 := M1.out.cell (j * 2) (by omega)
      have f1 := M1.out.soft (j * 2) (by omega)
      clear hb1
      go_wp2_with fail
      clear d1 f1
      refine (markText_any _ _ (by omega)).mono ?_
      rintro e w2 ⟨rfl, hb2⟩
      have M2 := Lib.hid ((M1.out.set (y := j * 2) (markT (k + 2 * (j : Int))) (by omega)).below hb2)
      have d2 := M2.out.cell (j * 2 + 1) (by omega)
      have f2 := M2.out.soft (j * 2 + 1) (by omega)
      rw [← Nat.add_assoc] at d2 f2
      have M3 : Hid (MarkW w b off (ts.length * 2) (mkTo ts k (j + 1)) (w2.setCell ⟨b, off + j * 2 + 1, none⟩ (.string (markT (k + 2 * (j : Int) + 1))))) :=
        (M2.out.set (y := j * 2 + 1) (markT (k + 2 * (j : Int) + 1)) (by omega)).congr fun x _ => mkTo_step ts k j x
      clear hb2
      go_wp2
      go_roundw
      case rel => exact ⟨j + 1, by omega, by go_num, by simp; omega, M3.out⟩
      case measure => simp [intOf]; omega
    · obtain rfl : j = ts.length := by omega
      go_wp2
      go_ret
      exact ⟨rfl, HM.out⟩

set_option maxHeartbeats 1000000 in
theorem markTagS_nil (a : Option Addr) (cap : Nat) (k : Int) (w : World) :
    Calls Tryz.prog 108 #[.slice a 0 cap, .int .i64 k] w fun e w' => e = .returned (.int .i64 k) ∧ w = w' := by
  go_enter Tryz.func108, Tryz.ntmps108
  go_wp2
  refine wp_loop_rounds 1 ?_
  rw [rounds_succ]
  go_wp2
  go_ret
  exact ⟨rfl, rfl⟩

/-- what marking tags leaves: the marks, and all else as it was -/
def MarkedT (w : World) (a : Option Addr) (n : Nat) (k : Int) (w' : World) : Prop := TagsAt w' a (marksT k n) ∧ Soft w' a n ∧ w.grownBy w' (blk a)

theorem markTagS_any (a : Option Addr) (cap : Nat) (ts : List Tg) (k : Int) (w : World) (hp : TagsAt w a ts) (hs : Soft w a ts.length) (hl : ts.length ≤ 1048576) (h0 : 0 ≤ k) (h4 : k ≤ 1152921504606846976) :
    Calls Tryz.prog 108 #[.slice a ts.length cap, .int .i64 k] w fun e w' => e = .returned (.int .i64 (k + 2 * (ts.length : Int))) ∧ MarkedT w a ts.length k w' := by
  by_cases h : 0 < ts.length
  · obtain ⟨b, off, rfl, hb, _, _⟩ := hp 0 h
    refine (markTagS_some b off cap ts k w hp hs hl h h0 h4).mono fun e w' ⟨he, hm⟩ => ⟨he, ?_, ?_, hm.grown⟩
    · intro i hi
      rw [marksT_len] at hi
      have h1 := hm.cell (i * 2) (by omega)
      have h2 := hm.cell (i * 2 + 1) (by omega)
      unfold mkTo at h1 h2
      rw [if_pos (by omega)] at h1 h2
      rw [marksT_k k hi, marksT_v k hi]
      refine ⟨b, off, rfl, hm.lt, ?_, ?_⟩
      · rw [h1]
        congr 3
        omega
      · rw [Nat.add_assoc, h2]
        congr 3
        omega
    · intro i hi b' off' e
      obtain ⟨rfl, rfl⟩ : b = b' ∧ off = off' := by simpa using e
      exact ⟨hm.soft _ (by omega), by rw [Nat.add_assoc]; exact hm.soft _ (by omega)⟩
  · have h' : ts.length = 0 := by omega
    rw [h']
    refine (markTagS_nil a cap k w).mono fun e w' ⟨he, hw⟩ => ⟨by rw [he]; simp, ?_⟩
    subst hw
    exact ⟨TagsAt.nil w a, fun i hi => absurd hi (Nat.not_lt_zero _), World.grownBy.refl _ _⟩

set_option maxRecDepth 100000 in
set_option maxHeartbeats 4000000 in
theorem heldTagS_any (a : Option Addr) (cap n : Nat) (k : Int) (w : World) (hp : TagsAt w a (marksT k n)) (hl : n ≤ 1048576) (h0 : 0 ≤ k) (h4 : k ≤ 1152921504606846976) :
    Calls Tryz.prog 184 #[.slice a n cap, .int .i64 k] w fun e w' => e = .returned (.int .i64 (k + 2 * (n : Int))) ∧ Below w.heap.size w w' := by
  have HP := Lib.hid hp
  clear hp
  go_enter Tryz.func184, Tryz.ntmps184
  go_wp2
  go_loopw [1, 5] (fun q i wr => ∃ j : Nat, j ≤ n ∧ i = .int .i64 j ∧ q = .int .i64 (k + 2 * (j : Int)) ∧ Below w.heap.size w wr) (fun _ i _ => n - (intOf i).toNat)
  case atStart => exact ⟨0, Nat.zero_le _, rfl, by simp, Below.refl _ _⟩
  case round =>
    obtain ⟨j, hj, rfl, rfl, hbel⟩ := hrel
    have HB := Lib.hid hbel
    by_cases hlt : j < n
    · obtain ⟨b, off, rfl, hb, d1, d2⟩ := HP.out j (by rw [marksT_len]; exact hlt)
      rw [marksT_k k hlt] at d1
      rw [marksT_v k hlt] at d2
      rw [← hbel.cell (p := ⟨b, _, none⟩) hb] at d1 d2
      clear hbel
      have e1 : ((markT (k + 2 * (j : Int))).toList == (markT (k + 2 * (j : Int))).toList) = true := by simp
      have e2 : ((markT (k + 2 * (j : Int) + 1)).toList == (markT (k + 2 * (j : Int) + 1)).toList) = true := by simp
      go_upto_region 4 with (fail)
      go_cut [19] (fun s19 wx => s19 = .bool false ∧ Below wr.heap.size wr wx)
      case first =>
        go_region_held3 (fun w' => w'.cell? ⟨b, off + j * 2, none⟩ = some (.string (markT (k + 2 * (j : Int)))) ∧ Below wr.heap.size wr w')
          (first
            | exact ⟨d1, (Below.refl _ _).drew⟩
            | (go_split_ands
               rename_i hS0 hS1
               exact ⟨cell_later hbn hS0, hS1.trans (hbn.mono hS1.size)⟩))
          (first
            | (go_at_call 106
               refine (markText_any _ _ (by omega)).mono ?_
               rintro e wn ⟨rfl, hbn⟩))
        all_goals (go_wp2_with fail; go_meet; go_split_ands; exact ⟨by simp, by assumption⟩)
      case rest =>
        obtain ⟨rfl, hB⟩ := hcut
        replace d2 := cell_later hB d2
        have B1 := Lib.hid (HB.out.trans (hB.mono HB.out.size))
        clear hB d1 e1
        go_upto_region 7 with (fail)
        go_cut [29] (fun s29 wx => s29 = .bool false ∧ Below w.heap.size w wx)
        case first =>
          go_region_held3 (fun w' => w'.cell? ⟨b, off + j * 2 + 1, none⟩ = some (.string (markT (k + 2 * (j : Int) + 1))) ∧ Below w.heap.size w w')
            (first
              | exact ⟨d2, B1.out.drew⟩
              | (go_split_ands
                 rename_i hS0 hS1
                 exact ⟨cell_later hbn hS0, hS1.trans (hbn.mono hS1.size)⟩))
            (first
              | (go_at_call 106
                 refine (markText_any _ _ (by omega)).mono ?_
                 rintro e wn ⟨rfl, hbn⟩))
          all_goals (go_wp2_with fail; go_meet; go_split_ands; exact ⟨by simp, by assumption⟩)
        case rest =>
          obtain ⟨rfl, hB⟩ := hcut
          have B2 := Lib.hid hB
          clear hB d2 e2
          go_wp2
          go_roundw
          case rel => exact ⟨j + 1, by omega, by go_num, by simp; omega, B2.out⟩
          case measure => simp [intOf]; omega
    · obtain rfl : j = n := by omega
      clear hbel
      go_wp2
      go_ret
      exact ⟨rfl, HB.out⟩
end Go.Proofs.YtdfadpejddhbkaaGreat
