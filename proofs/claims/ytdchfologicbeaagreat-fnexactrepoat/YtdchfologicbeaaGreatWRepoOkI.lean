/- Proved here: the program asks whether versions and branches are right just as the plain definition says; lists of at most 1,048,576. -/
import Derived.Test.YtdchfologicbeaaGreatWRepoPlace
namespace Go.Proofs.YtdchfologicbeaaGreat
set_option linter.unusedVariables false
open Go.ChangeShapes Go.WideShapes Go.ChangeAt Go.RowKit

theorem isPlace_is {x n : Int} {b : Bool} (h : decide (0 ≤ x ∧ x < n) = b) (w : World) :
    Calls Tryz.prog 123 #[.int .i64 x, .int .i64 n] w fun e w' => e = .returned (.bool b) ∧ w' = w := by
  subst h
  exact isPlace_any x n w

set_option maxRecDepth 100000 in
set_option maxHeartbeats 4000000 in
theorem upOk_any (a : Option Addr) (cap : Nat) (up : List Int) (k : Nat) (w : World) (hp : IntsAt w a up) (hl : up.length ≤ 1048576) (hk : k ≤ 1048576) :
    Calls Tryz.prog 167 #[.slice a up.length cap, .int .i64 k] w fun e w' => e = .returned (.bool (upB up k)) ∧ ∃ n, w' = w.drewN n := by
  have HP := Lib.hid hp
  clear hp
  have hcase : up.length = 0 ∨ up.length = 1 ∨ up.length = 2 ∨ 2 < up.length := by omega
  generalize hn : up.length = n at hcase ⊢
  have HN := Lib.hid hn
  rcases hcase with rfl | rfl | rfl | q
  · clear hn
    by_cases hz : k = 0
    · have HF : Hid (upB up k = true) := upB_true ⟨fun i hi => absurd hi (by have := HN.out; omega), by have := HN.out; omega, by have := HN.out; omega, fun h => absurd h (by have := HN.out; omega)⟩
      have e : ((k : Int) == 0) = true := by simp [hz]
      clear hz
      go_enter Tryz.func167, Tryz.ntmps167
      go_wp2
      go_ret
      exact ⟨by rw [HF.out]; rfl, 0, rfl⟩
    · have HF : Hid (upB up k = false) := upB_false fun h => by have := h.2.2.1.2 (by omega); have := HN.out; omega
      have e : ((k : Int) == 0) = false := by simp [hz]
      clear hz
      go_enter Tryz.func167, Tryz.ntmps167
      go_wp2
      go_ret
      exact ⟨by rw [HF.out]; rfl, 0, rfl⟩
  · obtain ⟨b, off, rfl, hb, c0⟩ := HP.out 0 (by omega)
    simp only [Nat.add_zero] at c0
    clear hn
    have HF : Hid (decide (0 ≤ ix up 0 ∧ ix up 0 < k) = upB up k) := by
      rw [Hid, Bool.eq_iff_iff, upB_iff, decide_eq_true_iff]
      have := HN.out
      exact ⟨fun h => ⟨fun i hi => by obtain rfl : i = 0 := by omega
                                      exact h, by omega, by omega, fun h => absurd h (by omega)⟩, fun h => h.1 0 (by omega)⟩
    go_enter Tryz.func167, Tryz.ntmps167
    go_wp2_with fail
    refine (isPlace_is HF.out _).mono ?_
    rintro e w1 ⟨rfl, rfl⟩
    go_wp2
    go_ret
    exact ⟨rfl, 0, rfl⟩
  · obtain ⟨b, off, rfl, hb, c0⟩ := HP.out 0 (by omega)
    obtain ⟨b', off', e, hb', c1⟩ := HP.out 1 (by omega)
    obtain ⟨rfl, rfl⟩ : b = b' ∧ off = off' := by simpa using e
    simp only [Nat.add_zero] at c0
    clear hn
    have HF : Hid (∀ p0 p1 p5 : Bool, decide (0 ≤ ix up 0 ∧ ix up 0 < k) = p0 → decide (0 ≤ ix up 1 ∧ ix up 1 < k) = p1 → (ix up 0 != ix up 1) = p5 → upB up k = (p5 && p0 && p1)) := by
      rintro p0 p1 p5 rfl rfl rfl
      rw [Bool.eq_iff_iff, upB_iff]
      have := HN.out
      simp only [Bool.and_eq_true, decide_eq_true_iff, bne_iff_ne, ne_eq]
      constructor
      · exact fun h => ⟨⟨h.2.2.2 this, h.1 0 (by omega)⟩, h.1 1 (by omega)⟩
      · rintro ⟨⟨h1, h2⟩, h3⟩
        exact ⟨fun i hi => by
          have hi' : i = 0 ∨ i = 1 := by omega
          rcases hi' with rfl | rfl
          · exact h2
          · exact h3, by omega, by omega, fun _ => h1⟩
    generalize e5 : (ix up 0 != ix up 1) = p5
    generalize e0 : decide (0 ≤ ix up 0 ∧ ix up 0 < (k : Int)) = p0
    generalize e1 : decide (0 ≤ ix up 1 ∧ ix up 1 < (k : Int)) = p1
    replace HF := Lib.hid (HF.out _ _ _ e0 e1 e5)
    generalize ix up 0 = x0 at e0 e5 c0
    generalize ix up 1 = x1 at e1 e5 c1
    cases p5
    · go_enter Tryz.func167, Tryz.ntmps167
      go_wp2
      go_quiet (fail)
      go_wp2
      go_ret
      exact ⟨by rw [HF.out]; rfl, _, rfl⟩
    · cases p0
      · go_enter Tryz.func167, Tryz.ntmps167
        go_wp2
        go_quiet ((go_at_call 123; exact (isPlace_is e0 _).mono fun _ _ h => ⟨h.1, _, h.2⟩))
        go_wp2
        go_ret
        exact ⟨by rw [HF.out]; rfl, _, rfl⟩
      · go_enter Tryz.func167, Tryz.ntmps167
        go_wp2
        go_quiet ((go_at_call 123; first | (with_reducible exact (isPlace_is e0 _).mono fun _ _ h => ⟨h.1, _, h.2⟩) | (with_reducible exact (isPlace_is e1 _).mono fun _ _ h => ⟨h.1, _, h.2⟩)))
        go_wp2
        go_ret
        exact ⟨by rw [HF.out]; rfl, _, rfl⟩
  · clear hn
    have HF : Hid (upB up k = false) := upB_false fun h => by have := h.2.1; have := HN.out; omega
    have b0 : ((n : Int) == 0) = false := by simp; omega
    have b1 : ((n : Int) == 1) = false := by simp; omega
    have b2 : ((n : Int) == 2) = false := by simp; omega
    clear q
    go_enter Tryz.func167, Tryz.ntmps167
    go_wp2
    go_ret
    exact ⟨by rw [HF.out]; rfl, 0, rfl⟩

/-- the first branches are right -/
def HeadsGood (hs : List Hd) (n : Nat) : Prop := 1 ≤ hs.length ∧ hs.length ≤ 4 ∧ ∀ i, i < hs.length → HdGood hs n i

open Classical in
noncomputable def headsB (hs : List Hd) (n : Nat) : Bool := decide (HeadsGood hs n)

set_option maxRecDepth 100000 in
set_option maxHeartbeats 4000000 in
theorem headsOk_any (a : Option Addr) (cap : Nat) (hs : List Hd) (n : Nat) (w : World) (hp : HeadsAt w a hs) (hl : hs.length ≤ 1048576) (ht : HeadsLen hs 1048576) (hn : n ≤ 1048576) :
    Calls Tryz.prog 103 #[.slice a hs.length cap, .int .i64 n] w fun e w' => e = .returned (.bool (headsB hs n)) ∧ Below w.heap.size w w' := by
  have HP := Lib.hid hp
  have HT := Lib.hid ht
  clear hp ht
  have LC : Hid (∀ (p : Prop), (¬ p) → (HeadsGood hs n → p) → headsB hs n = false) := fun _ h k => by simp [headsB]; exact fun g => h (k g)
  by_cases g1 : (hs.length : Int) < 1
  · have HF : Hid _ := LC.out (1 ≤ hs.length) (by omega) fun g => g.1
    go_enter Tryz.func103, Tryz.ntmps103
    go_wp2
    go_ret
    exact ⟨by rw [HF.out]; rfl, Below.refl _ _⟩
  by_cases g2 : (hs.length : Int) > 4
  · have HF : Hid _ := LC.out (hs.length ≤ 4) (by omega) fun g => g.2.1
    go_enter Tryz.func103, Tryz.ntmps103
    go_wp2
    go_ret
    exact ⟨by rw [HF.out]; rfl, Below.refl _ _⟩
  go_enter Tryz.func103, Tryz.ntmps103
  go_wp2
  go_loopw [6, 17] (fun _ i wr => ∃ k : Nat, k ≤ hs.length ∧ i = .int .i64 k ∧ Below w.heap.size w wr ∧ ∀ j, j < k → wordOk (hdn hs j) = true ∧ 0 ≤ hda hs j ∧ hda hs j < n) (fun _ i _ => hs.length - (intOf i).toNat)
  case atStart => exact ⟨0, Nat.zero_le _, rfl, Below.refl _ _, fun j h => absurd h (Nat.not_lt_zero _)⟩
  case round =>
    obtain ⟨k, hk, rfl, hbel, hall⟩ := hrel
    have HA := Lib.hid hall
    have HB := Lib.hid hbel
    have hsz := hbel.size
    clear hall
    by_cases hlt : k < hs.length
    · obtain ⟨b, off, e', hb, hc1, hc2⟩ := HP.out k hlt
      rw [← hbel.cell (p := ⟨b, _, none⟩) hb] at hc1 hc2
      have hw := HT.out k hlt
      subst e'
      clear hbel
      have A2 : Hid (∀ o, Below wr.heap.size wr (wr.alloc o)) := fun o => (Below.refl _ _).alloc (Nat.le_refl _) _
      go_wp2_with fail
      clear hc1 hc2
      refine (implWordOk_any _ _ (by omega)).mono ?_
      rintro e w1 ⟨rfl, hb1⟩
      have q1 := cell_later hb1 (a := ⟨wr.heap.size, 1, none⟩) (v := .int .i64 (hda hs k)) (by simp [go_sem])
      have B1 : Hid (Below w.heap.size w w1) := HB.out.trans (((A2.out _).trans (hb1.mono (by simp))).mono hsz)
      clear hb1 A2
      by_cases t1 : wordOk (hdn hs k) = true
      · rw [t1]
        have T1 := Lib.hid t1
        clear t1
        go_wp2_with fail
        clear q1
        refine (isPlace_any _ _ _).mono ?_
        rintro e w2 ⟨rfl, rfl⟩
        by_cases t2 : 0 ≤ hda hs k ∧ hda hs k < n
        · rw [decide_eq_true t2]
          have T2 := Lib.hid t2
          clear t2
          go_wp2
          go_roundw
          case rel => exact ⟨k + 1, by omega, by go_num, B1.out, fun j hj => by by_cases e : j = k; (subst e; exact ⟨T1.out, T2.out.1, T2.out.2⟩); exact HA.out j (by omega)⟩
          case measure => simp [intOf]; omega
        · have HF : Hid _ := LC.out _ t2 fun g => ⟨(g.2.2 k hlt).lo, (g.2.2 k hlt).hi⟩
          rw [decide_eq_false t2]
          clear t2
          go_wp2
          go_ret
          exact ⟨by rw [HF.out]; rfl, B1.out⟩
      · have HF : Hid _ := LC.out _ t1 fun g => (g.2.2 k hlt).name
        rw [Bool.not_eq_true] at t1
        rw [t1]
        clear t1
        go_wp2
        go_ret
        exact ⟨by rw [HF.out]; rfl, B1.out⟩
    · obtain rfl : k = hs.length := by omega
      clear hbel
      go_wp2_with fail
      refine (headsByName_any _ _ _ _ (HP.out.below HB.out) hl (HT.out.mono (by omega))).mono ?_
      rintro e w1 ⟨rfl, hown, hb1⟩
      have B1 : Hid (Below w.heap.size w w1) := HB.out.trans (hb1.mono hsz)
      have hlen := hown.len Tryz.underlying146 3
      clear hb1
      by_cases t : Maps.size (mapH hs hs.length) = hs.length
      · have HF : Hid (headsB hs n = true) := by
          have ha := (size_mapH hs hs.length).1 t
          rw [Hid]
          simp [headsB]
          exact ⟨by omega, by omega, fun i hi => ⟨(HA.out i hi).1, fun j hj => ha i j hj hi, (HA.out i hi).2.1, (HA.out i hi).2.2⟩⟩
        have e1 : ((Maps.size (mapH hs hs.length) : Int) == (hs.length : Int)) = true := by simp [t]
        clear t hown
        go_wp2
        go_ret
        exact ⟨by rw [HF.out]; rfl, B1.out⟩
      · have HF : Hid _ := LC.out _ t fun g => (size_mapH hs hs.length).2 fun i j hj hi => (g.2.2 i hi).once j hj
        have e1 : ((Maps.size (mapH hs hs.length) : Int) == (hs.length : Int)) = false := by simp; omega
        clear t hown
        go_wp2
        go_ret
        exact ⟨by rw [HF.out]; rfl, B1.out⟩
end Go.Proofs.YtdchfologicbeaaGreat
