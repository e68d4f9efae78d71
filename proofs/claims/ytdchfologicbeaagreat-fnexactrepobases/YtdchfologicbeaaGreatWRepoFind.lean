/- Proved here: what the model's small functions over versions answer: whether what is ahead is right, where a branch is, where a version is; lists of at most 1,048,576. -/
import Derived.Test.YtdchfologicbeaaGreatWRepo
import Derived.Test.YtdchfologicbeaaGreatWBK
namespace Go.Proofs.YtdchfologicbeaaGreat
set_option linter.unusedVariables false
open Go.ChangeShapes Go.WideShapes Go.ChangeAt Go.RowKit

/-- what is ahead of the version of a place can be so -/
def UpOk (up : List Int) (k : Nat) : Prop := (∀ i, i < up.length → 0 ≤ ix up i ∧ ix up i < k) ∧ up.length ≤ 2 ∧ (0 < up.length ↔ 0 < k) ∧ (up.length = 2 → ix up 0 ≠ ix up 1)
open Classical in
noncomputable def upB (up : List Int) (k : Nat) : Bool := decide (UpOk up k)
theorem upB_true {up : List Int} {k : Nat} (h : UpOk up k) : upB up k = true := by simp [upB, h]
theorem upB_false {up : List Int} {k : Nat} (h : ¬ UpOk up k) : upB up k = false := by simp [upB, h]
theorem upB_iff {up : List Int} {k : Nat} : upB up k = true ↔ UpOk up k := by simp [upB]

set_option maxRecDepth 100000 in
set_option maxHeartbeats 4000000 in
theorem l7Up_any (a : Option Addr) (cap : Nat) (up : List Int) (k : Nat) (w : World) (hp : IntsAt w a up) (hl : up.length ≤ 1048576) (hk : k ≤ 1048576) :
    Calls Tryz.prog 95 #[.slice a up.length cap, .int .i64 k] w fun e w' => e = .returned (.bool (upB up k)) ∧ ∃ n, w' = w.drewN n := by
  have HP := Lib.hid hp
  clear hp
  go_enter Tryz.func95, Tryz.ntmps95
  go_wp2
  go_loop [5] (fun i => ∃ j : Nat, j ≤ up.length ∧ i = .int .i64 j ∧ ∀ i, i < j → 0 ≤ ix up i ∧ ix up i < k) (fun i => up.length - (intOf i).toNat)
  case atStart => exact ⟨0, Nat.zero_le _, rfl, fun j h => absurd h (Nat.not_lt_zero _)⟩
  case round =>
    obtain ⟨j, hj, rfl, hall⟩ := hrel
    have HA := Lib.hid hall
    clear hall
    by_cases hlt : j < up.length
    · obtain ⟨b, off, rfl, hb, hc1⟩ := HP.out j hlt
      by_cases g1 : 0 ≤ ix up j
      · by_cases g2 : ix up j < k
        · go_wp2
          go_round
          case rel => exact ⟨j + 1, by omega, by go_num, fun i hi => by by_cases e : i = j; (subst e; exact ⟨g1, g2⟩); exact HA.out i (by omega)⟩
          case measure => simp [intOf]; omega
        · have HF : Hid (upB up k = false) := upB_false fun h => g2 (h.1 j hlt).2
          go_wp2
          go_ret
          exact ⟨by rw [HF.out]; rfl, 0, rfl⟩
      · have HF : Hid (upB up k = false) := upB_false fun h => g1 (h.1 j hlt).1
        go_wp2
        go_ret
        exact ⟨by rw [HF.out]; rfl, 0, rfl⟩
    · obtain rfl : j = up.length := by omega
      have hcase : up.length = 0 ∨ up.length = 1 ∨ up.length = 2 ∨ 2 < up.length := by omega
      have hkk : k = 0 ∨ ∃ m, k = m + 1 := by cases k; exact .inl rfl; exact .inr ⟨_, rfl⟩
      generalize hn : up.length = n at hcase ⊢
      have HN := Lib.hid hn
      clear hn hl hj
      rcases hcase with rfl | rfl | rfl | q
      · rcases hkk with rfl | ⟨m, rfl⟩
        · have HF : Hid (upB up 0 = true) := upB_true ⟨HA.out, by have := HN.out; omega, by have := HN.out; omega, fun h => absurd h (by have := HN.out; omega)⟩
          go_wp2
          go_quiet (fail)
          go_wp2
          go_ret
          exact ⟨by rw [HF.out]; rfl, _, rfl⟩
        · have HF : Hid (upB up (m + 1) = false) := upB_false fun h => absurd (h.2.2.1.2 (by omega)) (by have := HN.out; omega)
          go_wp2
          go_quiet (fail)
          go_wp2
          go_ret
          exact ⟨by rw [HF.out]; rfl, _, rfl⟩
      · rcases hkk with rfl | ⟨m, rfl⟩
        · have HF : Hid (upB up 0 = false) := upB_false fun h => absurd (h.2.2.1.1 (by have := HN.out; omega)) (by omega)
          go_wp2
          go_quiet (fail)
          go_wp2
          go_ret
          exact ⟨by rw [HF.out]; rfl, _, rfl⟩
        · have HF : Hid (upB up (m + 1) = true) := upB_true ⟨HA.out, by have := HN.out; omega, by have := HN.out; omega, fun h => absurd h (by have := HN.out; omega)⟩
          go_wp2
          go_quiet (fail)
          go_wp2
          go_ret
          exact ⟨by rw [HF.out]; rfl, _, rfl⟩
      · obtain ⟨b, off, rfl, hb, c0⟩ := HP.out 0 (by have := HN.out; omega)
        obtain ⟨b', off', e, hb', c1⟩ := HP.out 1 (by have := HN.out; omega)
        obtain ⟨rfl, rfl⟩ : b = b' ∧ off = off' := by simpa using e
        simp only [Nat.add_zero] at c0
        rcases hkk with rfl | ⟨m, rfl⟩
        · have HF : Hid (upB up 0 = false) := upB_false fun h => absurd (h.2.2.1.1 (by have := HN.out; omega)) (by omega)
          go_wp2
          go_quiet (fail)
          go_wp2
          go_ret
          exact ⟨by rw [HF.out]; rfl, _, rfl⟩
        · by_cases q5 : ix up 0 = ix up 1
          · have e5 : (ix up 0 != ix up 1) = false := by simp [q5]
            have HF : Hid (upB up (m + 1) = false) := upB_false fun h => h.2.2.2 HN.out q5
            clear q5
            go_wp2
            go_quiet (fail)
            go_wp2
            go_ret
            exact ⟨by rw [HF.out]; rfl, _, rfl⟩
          · have e5 : (ix up 0 != ix up 1) = true := by simp [q5]
            have HF : Hid (upB up (m + 1) = true) := upB_true ⟨HA.out, by have := HN.out; omega, by have := HN.out; omega, fun _ => q5⟩
            clear q5
            go_wp2
            go_quiet (fail)
            go_wp2
            go_ret
            exact ⟨by rw [HF.out]; rfl, _, rfl⟩
      · have b1 : decide ((n : Int) ≤ 2) = false := by simp; omega
        have HF : Hid (upB up k = false) := upB_false fun h => absurd h.2.1 (by have := HN.out; omega)
        go_wp2
        go_quiet (fail)
        go_wp2
        go_ret
        exact ⟨by rw [HF.out]; rfl, _, rfl⟩

/-- where a branch of that name is first, or -1 -/
def FirstHd (hs : List Hd) (x : ByteArray) (r : Int) : Prop :=
  (r = -1 ∧ ∀ j, j < hs.length → hdn hs j ≠ x) ∨ ∃ k : Nat, r = k ∧ k < hs.length ∧ hdn hs k = x ∧ ∀ j, j < k → hdn hs j ≠ x

theorem FirstHd.unique {hs : List Hd} {x : ByteArray} {r s : Int} (h : FirstHd hs x r) (k : FirstHd hs x s) : r = s := by
  rcases h with ⟨rfl, h⟩ | ⟨i, rfl, h1, h2, h3⟩
  · rcases k with ⟨rfl, k⟩ | ⟨j, rfl, k1, k2, k3⟩
    · rfl
    · exact absurd k2 (h j k1)
  · rcases k with ⟨rfl, k⟩ | ⟨j, rfl, k1, k2, k3⟩
    · exact absurd h2 (k i h1)
    · by_cases q1 : i < j
      · exact absurd h2 (k3 i q1)
      · by_cases q2 : j < i
        · exact absurd k2 (h3 j q2)
        · rw [show i = j by omega]

set_option maxRecDepth 100000 in
set_option maxHeartbeats 2000000 in
theorem l7Head_any (a b : Option Addr) (ca cb n : Nat) (hs : List Hd) (x : ByteArray) (w : World) (hh : HeadsAt w b hs) (hl : hs.length ≤ 1048576) :
    Calls Tryz.prog 99 #[.agg #[.slice a n ca, .slice b hs.length cb], .string x] w fun e w' => (∃ r, e = .returned (.int .i64 r) ∧ FirstHd hs x r) ∧ Below w.heap.size w w' := by
  have HH := Lib.hid (hh.below ((Below.refl _ _).alloc (Nat.le_refl _) (.cells #[.slice a n ca, .slice b hs.length cb] 62)))
  clear hh
  have B0 : Hid (∀ o, Below w.heap.size w (w.alloc o)) := fun o => (Below.refl _ _).alloc (Nat.le_refl _) _
  go_enter Tryz.func99, Tryz.ntmps99
  go_wp2
  go_loop [5] (fun i => ∃ k : Nat, k ≤ hs.length ∧ i = .int .i64 k ∧ ∀ j, j < k → hdn hs j ≠ x) (fun i => hs.length - (intOf i).toNat)
  case atStart => exact ⟨0, Nat.zero_le _, rfl, fun j h => absurd h (Nat.not_lt_zero _)⟩
  case round =>
    obtain ⟨k, hk, rfl, hall⟩ := hrel
    have HA := Lib.hid hall
    clear hall
    by_cases hlt : k < hs.length
    · obtain ⟨b', off, rfl, hb, hc1, hc2⟩ := HH.out k hlt
      have e1 := bytes_beq (hdn hs k) x
      by_cases h1 : hdn hs k = x
      · rw [decide_eq_true h1] at e1
        have HG : Hid (FirstHd hs x k) := .inr ⟨k, rfl, hlt, h1, HA.out⟩
        clear h1
        go_wp2
        go_ret
        exact ⟨⟨_, rfl, HG.out⟩, B0.out _⟩
      · rw [decide_eq_false h1] at e1
        have H1 := Lib.hid h1
        clear h1
        go_wp2
        go_round
        case rel => exact ⟨k + 1, by omega, by go_num, fun j hj => by by_cases e : j = k; (subst e; exact H1.out); exact HA.out j (by omega)⟩
        case measure => simp [intOf]; omega
    · obtain rfl : k = hs.length := by omega
      go_wp2
      go_ret
      exact ⟨⟨_, rfl, .inl ⟨rfl, HA.out⟩⟩, B0.out _⟩

/-- where that version is first, or -1 -/
def FirstCm (cs : List Cm) (c : Cm) (r : Int) : Prop :=
  (r = -1 ∧ ∀ j, j < cs.length → mg cs j ≠ c) ∨ ∃ k : Nat, r = k ∧ k < cs.length ∧ mg cs k = c ∧ ∀ j, j < k → mg cs j ≠ c

theorem FirstCm.unique {cs : List Cm} {x : Cm} {r s : Int} (h : FirstCm cs x r) (k : FirstCm cs x s) : r = s := by
  rcases h with ⟨rfl, h⟩ | ⟨i, rfl, h1, h2, h3⟩
  · rcases k with ⟨rfl, k⟩ | ⟨j, rfl, k1, k2, k3⟩
    · rfl
    · exact absurd k2 (h j k1)
  · rcases k with ⟨rfl, k⟩ | ⟨j, rfl, k1, k2, k3⟩
    · exact absurd h2 (k i h1)
    · by_cases q1 : i < j
      · exact absurd h2 (k3 i q1)
      · by_cases q2 : j < i
        · exact absurd k2 (h3 j q2)
        · rw [show i = j by omega]

set_option maxRecDepth 100000 in
set_option maxHeartbeats 4000000 in
theorem l7Find_any (a b : Option Addr) (ca cb n : Nat) (cs : List Cm) (c : Cm) (ua sa : Option Addr) (uc sc : Nat) (w : World) (hc : CommitsAt w a cs) (hl : cs.length ≤ 1048576) (hL : CmsLen cs 1048576) (hi : IntsAt w ua c.1) (hf : FeatsAt w sa c.2.1) (hcl : CmLen c 1048576) :
    Calls Tryz.prog 98 #[.agg #[.slice a cs.length ca, .slice b n cb], .agg #[.slice ua c.1.length uc, .slice sa c.2.1.length sc, .string c.2.2]] w fun e w' => (∃ r, e = .returned (.int .i64 r) ∧ FirstCm cs c r) ∧ Below w.heap.size w w' := by
  have HC := Lib.hid hc
  have HL := Lib.hid hL
  have HI := Lib.hid hi
  have HF := Lib.hid hf
  have HCL := Lib.hid hcl
  clear hc hL hi hf hcl
  go_enter Tryz.func98, Tryz.ntmps98
  go_wp2
  go_loopw [5] (fun i wr => ∃ k : Nat, k ≤ cs.length ∧ i = .int .i64 k ∧ BK wr w.heap.size #[.slice a cs.length ca, .slice b n cb] 62 ∧ BK wr (w.heap.size + 1) #[.slice ua c.1.length uc, .slice sa c.2.1.length sc, .string c.2.2] 132 ∧ Below w.heap.size w wr ∧ ∀ j, j < k → mg cs j ≠ c) (fun i _ => cs.length - (intOf i).toNat)
  case atStart => exact ⟨0, Nat.zero_le _, rfl, (BK.new _ _ _).alloc _, BK.at _ _ _ (by simp), ((Below.refl _ _).alloc (Nat.le_refl _) _).alloc (by simp) _, fun j h => absurd h (Nat.not_lt_zero _)⟩
  case round =>
    obtain ⟨k, hk, rfl, hk1, hk2, hbel, hall⟩ := hrel
    have HA := Lib.hid hall
    have HB := Lib.hid hbel
    have K1 := Lib.hid hk1
    have K2 := Lib.hid hk2
    have hsz := hbel.size
    have r0 := hk1.cell 0 rfl
    have z1 := hk2.lt
    clear hall hk1
    by_cases hlt : k < cs.length
    · obtain ⟨b', off, ua', uc', sa', sc', rfl, hx⟩ := HC.out k hlt
      obtain ⟨zb, c0, c1, c2, hii, hff⟩ := hx.below hbel
      have q0 := hk2.cell 0 rfl
      have q1 := hk2.cell 1 rfl
      have q2 := hk2.cell 2 rfl
      have D1 : Hid (IntsAt wr.drew ua' (mg cs k).1) := hii.below (Below.refl _ _).drew
      have D2 : Hid (FeatsAt wr.drew sa' (mg cs k).2.1) := hff.below (Below.refl _ _).drew
      have D3 : Hid (IntsAt wr.drew ua c.1) := HI.out.below hbel.drew
      have D4 : Hid (FeatsAt wr.drew sa c.2.1) := HF.out.below hbel.drew
      clear hbel hii hff hx hk2
      go_wp2
      go_still_tail 6, (by kernel_rfl)
      go_wp2_with fail
      clear r0 c0 c1 c2 q0 q1 q2
      refine (l7Same_any _ _ _ _ _ _ _ _ _ _ _ D1.out D2.out D3.out D4.out (HL.out k hlt) HCL.out).mono ?_
      rintro e w1 ⟨rfl, hb2⟩
      have B2 : Hid (Below w.heap.size w w1) := HB.out.drew.trans (hb2.mono hsz)
      have J1 : Hid (BK w1 w.heap.size #[.slice (some ⟨b', off, none⟩) cs.length ca, .slice b n cb] 62) := BK.later (K1.out.drew) hb2
      have J2 : Hid (BK w1 (w.heap.size + 1) #[.slice ua c.1.length uc, .slice sa c.2.1.length sc, .string c.2.2] 132) := BK.later (K2.out.drew) hb2
      clear hb2
      by_cases hs : mg cs k = c
      · rw [show cmEq (mg cs k) c = true from cmEq_iff.2 hs]
        have HG : Hid (FirstCm cs c k) := .inr ⟨k, rfl, hlt, hs, HA.out⟩
        clear hs
        go_wp2
        go_ret
        exact ⟨⟨_, rfl, HG.out⟩, B2.out⟩
      · rw [show cmEq (mg cs k) c = false from cmEq_no hs]
        have HG := Lib.hid hs
        clear hs
        go_wp2
        go_roundw
        case rel => exact ⟨k + 1, by omega, by go_num, J1.out, J2.out, B2.out, fun j hj => by by_cases e : j = k; (subst e; exact HG.out); exact HA.out j (by omega)⟩
        case measure => simp [intOf]; omega
    · obtain rfl : k = cs.length := by omega
      clear hbel hk2
      go_wp2
      go_ret
      exact ⟨⟨_, rfl, .inl ⟨rfl, HA.out⟩⟩, HB.out⟩
end Go.Proofs.YtdchfologicbeaaGreat
