/- Proved here: a version and all that is ahead of it, by the program; rooms of at most 14 versions. Proved here: whether a version is ahead of another one, or it, by the program; rooms of at most 14 versions. Proved here: a version and all that is ahead of it, and whether one is ahead of another one, by the model; rooms of at most 14 versions. Proved here: facts of the translated program alone that every law's claim asks for; no condition. Proved here: the law FnExactRepoAhead answers true at every room of versions and every two places, and leaves it as it was; no condition. -/
import Derived.Test.YtdchfologicbeaaGreatWPaint
import Derived.Test.YtdchfologicbeaaGreatMAh1
import Derived.Test.YtdchfologicbeaaGreatWMarks
import Derived.Test.YtdchfologicbeaaGreatWArg
import Derived.Test.YtdchfologicbeaaGreatRows
import Derived.Test.YtdchfologicbeaaGreatWRepoArg
import Derived.Deep.RegionHeld3
import Derived.Deep.DeepCutAuto
namespace Go.Proofs.YtdchfologicbeaaGreat
set_option linter.unusedVariables false
open Go.ChangeShapes Go.WideShapes Go.ChangeAt Go.RowKit

/-- the places of a kind, the greatest first -/
def pastL (B : Nat → Bool) : Nat → List Int
  | 0 => []
  | n + 1 => (if B n then [(n : Int)] else []) ++ pastL B n

theorem pastL_len (B : Nat → Bool) : ∀ n, (pastL B n).length ≤ n
  | 0 => Nat.le_refl _
  | n + 1 => by
    have := pastL_len B n
    unfold pastL
    split <;> simp <;> omega

theorem mem_pastL {B : Nat → Bool} {x : Int} : ∀ {n : Nat}, x ∈ pastL B n ↔ ∃ j : Nat, j < n ∧ x = j ∧ B j = true
  | 0 => by simp [pastL]
  | n + 1 => by
    unfold pastL
    rw [List.mem_append, mem_pastL (n := n)]
    constructor
    · rintro (h | ⟨j, h1, h2, h3⟩)
      · split at h
        · exact ⟨n, by omega, by simpa using h, by assumption⟩
        · simp at h
      · exact ⟨j, by omega, h2, h3⟩
    · rintro ⟨j, h1, h2, h3⟩
      by_cases e : j = n
      · subst e
        exact .inl (by simp [h3, h2])
      · exact .inr ⟨j, by omega, h2, h3⟩

theorem pastL_congr {B C : Nat → Bool} : ∀ {n : Nat}, (∀ j, j < n → B j = C j) → pastL B n = pastL C n
  | 0, _ => rfl
  | n + 1, h => by
    unfold pastL
    rw [h n (by omega), pastL_congr fun j hj => h j (by omega)]

theorem pastL_more {B : Nat → Bool} {n : Nat} : ∀ {m : Nat}, n ≤ m → (∀ j, n ≤ j → B j = false) → pastL B m = pastL B n
  | 0, h, _ => by rw [show n = 0 by omega]
  | m + 1, h, hb => by
    by_cases e : n = m + 1
    · rw [e]
    · have ih := pastL_more (m := m) (by omega) hb
      unfold pastL
      rw [hb m (by omega), ih]
      simp
      cases n <;> rfl

theorem int_one (w : World) (x : Int) (t : TypeId) : IntsAt (w.alloc (.cells #[.int .i64 x] t)) (some ⟨w.heap.size, 0, none⟩) [x] := by
  intro i hi
  obtain rfl : i = 0 := by simp at hi; omega
  exact ⟨w.heap.size, 0, rfl, by simp, by simp [go_sem, ix]⟩

set_option maxRecDepth 100000 in
set_option maxHeartbeats 4000000 in
theorem paintedJust_any (p : Nat → Int) (c : Int) (w : World) :
    Calls Tryz.prog 124 #[.agg (pvals p).toArray, .int .i64 c] w fun e w' => (∃ v, e = .returned v ∧ GrowI (w.heap.size + 1) (pastL (fun j => decide (p j = c)) 14) w' v) ∧ Below w.heap.size w w' := by
  obtain ⟨L, hL⟩ : ∃ L, L = pastL (fun j => decide (p j = c)) 14 := ⟨_, rfl⟩
  rw [← hL]
  have LL := Lib.hid hL
  have hlen : L.length ≤ 14 := by rw [hL]; exact pastL_len _ _
  clear hL
  go_enter Tryz.func124, Tryz.ntmps124
  go_wp2
  go_loopw [5, 6] (fun s5 i wr => ∃ (m : Nat) (acc : List Int), m ≤ 14 ∧ i = .int .i64 ((m : Int) - 1) ∧ acc ++ pastL (fun j => decide (p j = c)) m = L ∧ GrowI (w.heap.size + 1) acc wr s5 ∧ wr.rowIs w.heap.size 163 14 (fun j => .int .i64 (p j)) ∧ Below w.heap.size w wr) (fun _ i _ => (intOf i + 1).toNat)
  case atStart => exact ⟨14, [], Nat.le_refl _, rfl, LL.out.symm, GrowI.nil (by simp), pvals_row w p _, (Below.refl _ _).alloc (Nat.le_refl _) _⟩
  case round =>
    obtain ⟨m, acc, hm, rfl, hacc, hG, hrow, hbel⟩ := hrel
    have HG := Lib.hid hG
    have HR := Lib.hid hrow
    have HB := Lib.hid hbel
    have HA := Lib.hid hacc
    have hsz := hbel.size
    obtain ⟨av, cv, rfl, hcv, _⟩ := hG.form
    rcases m with _ | i
    · simp only [Int.natCast_zero, Int.zero_sub]
      have h1 : decide ((0 : Int) ≤ -1) = false := by decide
      have e : Hid (acc = L) := by rw [Hid, ← hacc]; simp [pastL]
      clear hacc hG hrow hbel
      go_wp2
      go_ret
      exact ⟨⟨_, rfl, by rw [← e.out]; exact HG.out⟩, HB.out⟩
    · have e1 : ((i + 1 : Nat) : Int) - 1 = (i : Int) := by omega
      rw [e1]
      clear e1
      have hd := hrow.cell (i := i) (by omega)
      have q5 : (0 : Int) ≤ (i : Int) := by omega
      have q6 : (i : Int) < 14 := by omega
      have hla : acc.length ≤ 14 := by have : acc.length ≤ L.length := by rw [← hacc, List.length_append]; omega
                                       omega
      clear hacc hG hrow hbel
      by_cases hs : p i = c
      · have he : (p i == c) = true := by simp [hs]
        have HS := Lib.hid hs
        clear hs
        have A1 : Hid (Below wr.heap.size wr (wr.alloc (.cells #[.int .i64 (i : Int)] 3))) := (Below.refl _ _).alloc (Nat.le_refl _) _
        go_wp2_with (at_builtin; refine wpList_moreI (by rfl) _ _ (by rfl) (HG.out.below A1.out) (int_one _ _ _) (by rfl) (by rfl) (by simp; omega) ?_; intro r a2 c2 W2 hr hgrow hG2; have R := Lib.hid hr; have HGR := Lib.hid hgrow; have HG2 := Lib.hid hG2; clear hr hgrow hG2)
        have hblk := (HG.out.below A1.out).block
        have hrow2 : W2.rowIs w.heap.size 163 14 (fun j => .int .i64 (p j)) := (HR.out.alloc _).of_block (HGR.out.block _ (by simp; omega) fun e => by have := hblk _ e.symm; omega)
        go_roundw
        case rel => exact ⟨i, r, by omega, rfl, by rw [R.out, ← HA.out]; simp [pastL, HS.out], HG2.out, hrow2, (HB.out.alloc hsz _).grown HGR.out (by simp; omega) fun k hk => by have := hblk k hk; omega⟩
        case measure => simp [intOf]
      · have he : (p i == c) = false := by simp [hs]
        have HS := Lib.hid hs
        clear hs
        go_wp2
        go_roundw
        case rel => exact ⟨i, acc, by omega, rfl, by rw [← HA.out]; simp [pastL, HS.out], HG.out, HR.out, HB.out⟩
        case measure => simp [intOf]

open Classical in
/-- a version and all that is ahead of it; none, if it is not right -/
noncomputable def pastV (cs : List Cm) (hs : List Hd) (x : Int) : List Int := if RepoGood cs hs ∧ 0 ≤ x ∧ x < cs.length then pastL (aheadB cs x.toNat) 14 else []

theorem pastV_ok {cs : List Cm} {hs : List Hd} {k : Nat} (g : RepoGood cs hs) (h : k < cs.length) : pastV cs hs k = pastL (aheadB cs k) 14 := by
  unfold pastV
  rw [if_pos ⟨g, by omega, by omega⟩]
  simp

theorem pastV_bad {cs : List Cm} {hs : List Hd} {x : Int} (h : ¬ (RepoGood cs hs ∧ 0 ≤ x ∧ x < cs.length)) : pastV cs hs x = [] := if_neg h

theorem and00 : bits .and .i64 0 1 = 0 := by decide
theorem and11 : bits .and .i64 1 1 ≠ 0 := by decide
theorem or01 : bits .or .i64 0 1 = 1 := by decide

set_option maxRecDepth 100000 in
set_option maxHeartbeats 4000000 in
theorem implRepoPast_any (a b : Option Addr) (ca cb : Nat) (cs : List Cm) (hs : List Hd) (x : Int) (w : World) (hr : RepoAt w a b cs hs) (hl : RpLen cs hs 1048576) (hca : cs.length ≤ ca) :
    Calls Tryz.prog 50 #[.agg #[.slice a cs.length ca, .slice b hs.length cb], .int .i64 x] w fun e w' => (∃ v, e = .returned v ∧ GrowI w.heap.size (pastV cs hs x) w' v) ∧ Below w.heap.size w w' := by
  have HR := Lib.hid hr
  have HL := Lib.hid hl
  clear hr hl
  have A1 : Hid (∀ o, Below w.heap.size w (w.alloc o)) := fun o => (Below.refl _ _).alloc (Nat.le_refl _) _
  have hz := run_zeroPaints
  go_enter Tryz.func50, Tryz.ntmps50
  go_wp2_with fail
  refine (implRepoOk_any _ _ _ _ _ _ _ (HR.out.below (A1.out _)) HL.out hca).mono ?_
  rintro e w1 ⟨rfl, hb1⟩
  have K1 : Hid (Box2 w1 w.heap.size (.slice a cs.length ca) (.slice b hs.length cb)) := (Box2.new w _ _ _).later hb1
  have B1 : Hid (Below w.heap.size w w1) := (A1.out _).trans (hb1.mono (by simp))
  clear hb1
  by_cases hg : RepoGood cs hs
  · rw [repoOk_true hg]
    obtain ⟨z0, c0, c1⟩ := K1.out
    go_wp2_with fail
    refine (isPlace_any _ _ _).mono ?_
    rintro e w2 ⟨rfl, rfl⟩
    by_cases hp : 0 ≤ x ∧ x < cs.length
    · rw [decide_eq_true hp]
      obtain ⟨k, rfl⟩ : ∃ k : Nat, x = k := ⟨x.toNat, by omega⟩
      have hk : k < cs.length := by omega
      have HP := Lib.hid (pastV_ok hg hk)
      clear hp
      go_wp2_with fail
      clear c0 c1 hz
      refine (paintPast_any _ _ _ _ _ cs k 1 (fun _ s => cond s 1 0) (fun _ => false) _ (HR.out.cms.below B1.out) hg.ups hg.c2 HL.out.cms hk (fun j h => by simp at h) (fun _ => and00) (fun _ => and11) (fun _ => or01)).mono ?_
      rintro e w3 ⟨rfl, hb3⟩
      have B3 : Hid (Below w.heap.size w w3) := B1.out.trans (hb3.mono B1.out.size)
      clear hb3 hg
      go_wp2_with fail
      refine (paintedJust_any _ _ _).mono ?_
      rintro e w4 ⟨⟨v, rfl, hG⟩, hb4⟩
      have B4 : Hid (Below w.heap.size w w4) := B3.out.trans (hb4.mono B3.out.size)
      have G : Hid (GrowI w.heap.size (pastV cs hs k) w4 v) := by
        have e : pastL (fun j => decide (cond (aheadB cs k j) (1 : Int) 0 = 1)) 14 = pastV cs hs k := by
          rw [HP.out]
          refine pastL_congr fun j _ => ?_
          cases aheadB cs k j <;> rfl
        have hz := B3.out.size
        rw [e] at hG
        obtain ⟨⟨h1, h2⟩, h3⟩ := hG
        refine ⟨⟨h1, h2.imp id ?_⟩, by omega⟩
        rintro ⟨g, cap, cur, q1, q2, q3⟩
        exact ⟨g, cap, cur, q1, by omega, q3⟩
      clear hG hb4
      go_wp2
      go_ret
      exact ⟨⟨_, rfl, G.out⟩, B4.out⟩
    · rw [decide_eq_false hp]
      have HP := Lib.hid (pastV_bad (cs := cs) (hs := hs) (x := x) fun h => hp h.2)
      clear hp hg hz
      go_wp2
      go_ret
      exact ⟨⟨_, rfl, by rw [HP.out]; exact GrowI.nil B1.out.size⟩, B1.out⟩
  · rw [repoOk_false hg]
    have HP := Lib.hid (pastV_bad (cs := cs) (hs := hs) (x := x) fun h => hg h.1)
    clear hg hz
    go_wp2
    go_ret
    exact ⟨⟨_, rfl, by rw [HP.out]; exact GrowI.nil B1.out.size⟩, B1.out⟩
end Go.Proofs.YtdchfologicbeaaGreat

namespace Go.Proofs.YtdchfologicbeaaGreat
set_option linter.unusedVariables false
open Go.ChangeShapes Go.WideShapes Go.ChangeAt Go.RowKit

set_option maxHeartbeats 1000000 in
theorem indexI_any (a : Option Addr) (cap : Nat) (is : List Int) (x : Int) (w : World) (hp : IntsAt w a is) (hl : is.length ≤ 1048576) :
    Calls Tryz.prog 178 #[.slice a is.length cap, .int .i64 x] w fun e w' => (∃ r, e = .returned (.int .i64 r) ∧ ((r = -1 ∧ x ∉ is) ∨ (0 ≤ r ∧ x ∈ is))) ∧ w = w' := by
  have HP := Lib.hid hp
  clear hp
  go_enter Tryz.func178, Tryz.ntmps178
  go_wp2
  go_loop [5, 8] (fun _ i => ∃ k : Nat, k ≤ is.length ∧ i = .int .i64 k ∧ ∀ j, j < k → x ≠ ix is j) (fun _ i => is.length - (intOf i).toNat)
  case atStart => exact ⟨0, Nat.zero_le _, rfl, fun j h => absurd h (Nat.not_lt_zero _)⟩
  case round =>
    obtain ⟨k, hk, rfl, hall⟩ := hrel
    have HA := Lib.hid hall
    clear hall
    by_cases hlt : k < is.length
    · obtain ⟨b, off, rfl, hb, hc1⟩ := HP.out k hlt
      by_cases h1 : x = ix is k
      · have e1 : (x == ix is k) = true := by simp [h1]
        have HM : Hid (x ∈ is) := mem_ix.2 ⟨k, hlt, h1.symm⟩
        clear h1
        go_wp2
        go_ret
        exact ⟨⟨_, rfl, .inr ⟨by omega, HM.out⟩⟩, rfl⟩
      · have e1 : (x == ix is k) = false := by simp [h1]
        have H1 := Lib.hid h1
        clear h1
        go_wp2
        go_round
        case rel => exact ⟨k + 1, by omega, by go_num, fun j hj => by by_cases e : j = k; (subst e; exact H1.out); exact HA.out j (by omega)⟩
        case measure => simp [intOf]; omega
    · obtain rfl : k = is.length := by omega
      have HM : Hid (x ∉ is) := fun h => by
        obtain ⟨i, hi, e⟩ := mem_ix.1 h
        exact HA.out i hi e.symm
      go_wp2
      go_ret
      exact ⟨⟨_, rfl, .inl ⟨rfl, HM.out⟩⟩, rfl⟩

set_option maxHeartbeats 1000000 in
theorem containsI_any (a : Option Addr) (cap : Nat) (is : List Int) (x : Int) (w : World) (hp : IntsAt w a is) (hl : is.length ≤ 1048576) :
    Calls Tryz.prog 126 #[.slice a is.length cap, .int .i64 x] w fun e w' => e = .returned (.bool (decide (x ∈ is))) ∧ w = w' := by
  have HP := Lib.hid hp
  clear hp
  go_enter Tryz.func126, Tryz.ntmps126
  go_wp2_with fail
  refine (indexI_any _ _ _ _ _ HP.out hl).mono ?_
  rintro e w1 ⟨⟨r, rfl, hr⟩, rfl⟩
  rcases hr with ⟨rfl, h⟩ | ⟨h0, h⟩
  · have HE : Hid (decide (x ∈ is) = false) := by simp [Hid, h]
    clear h
    go_wp2
    go_ret
    exact ⟨by rw [HE.out]; rfl, rfl⟩
  · have HE : Hid (decide (x ∈ is) = true) := by simp [Hid, h]
    clear h
    go_wp2
    go_ret
    exact ⟨by rw [HE.out]; rfl, rfl⟩

/-- whether one is ahead of the other, or it -/
noncomputable def aheadV (cs : List Cm) (hs : List Hd) (x y : Int) : Bool := decide (x ∈ pastV cs hs y)

set_option maxRecDepth 100000 in
set_option maxHeartbeats 2000000 in
theorem implRepoAhead_any (a b : Option Addr) (ca cb : Nat) (cs : List Cm) (hs : List Hd) (x y : Int) (w : World) (hr : RepoAt w a b cs hs) (hl : RpLen cs hs 1048576) (hca : cs.length ≤ ca) :
    Calls Tryz.prog 57 #[.agg #[.slice a cs.length ca, .slice b hs.length cb], .int .i64 x, .int .i64 y] w fun e w' => e = .returned (.bool (aheadV cs hs x y)) ∧ Below w.heap.size w w' := by
  have HR := Lib.hid hr
  have HL := Lib.hid hl
  clear hr hl
  have A1 : Hid (∀ o, Below w.heap.size w (w.alloc o)) := fun o => (Below.refl _ _).alloc (Nat.le_refl _) _
  go_enter Tryz.func57, Tryz.ntmps57
  go_wp2_with fail
  refine (implRepoPast_any _ _ _ _ cs hs y _ (HR.out.below (A1.out _)) HL.out hca).mono ?_
  rintro e w1 ⟨⟨v, rfl, hG⟩, hb1⟩
  have B1 : Hid (Below w.heap.size w w1) := (A1.out _).trans (hb1.mono (by simp))
  obtain ⟨av, cv, rfl, hcv, hia⟩ := hG.form
  have IA := Lib.hid hia
  have hlen : (pastV cs hs y).length ≤ 1048576 := by
    unfold pastV
    split
    · have := pastL_len (aheadB cs y.toNat) 14
      omega
    · simp
  clear hb1 hG hia
  go_wp2_with fail
  refine (containsI_any _ _ _ _ _ IA.out hlen).mono ?_
  rintro e w2 ⟨rfl, rfl⟩
  go_wp2
  go_ret
  exact ⟨rfl, B1.out⟩
end Go.Proofs.YtdchfologicbeaaGreat

namespace Go.Proofs.YtdchfologicbeaaGreat
set_option linter.unusedVariables false
open Go.ChangeShapes Go.WideShapes Go.ChangeAt Go.RowKit

open Classical in
noncomputable def inB (cs : List Cm) (hs : List Hd) (x : Int) : Bool := decide (RepoGood cs hs ∧ 0 ≤ x ∧ x < cs.length)

set_option maxRecDepth 100000 in
set_option maxHeartbeats 2000000 in
theorem l7In_any (a b : Option Addr) (ca cb : Nat) (cs : List Cm) (hs : List Hd) (x : Int) (w : World) (hr : RepoAt w a b cs hs) (hl : RpLen cs hs 1048576) :
    Calls Tryz.prog 121 #[.agg #[.slice a cs.length ca, .slice b hs.length cb], .int .i64 x] w fun e w' => e = .returned (.bool (inB cs hs x)) ∧ Below w.heap.size w w' := by
  have HR := Lib.hid hr
  have HL := Lib.hid hl
  clear hr hl
  have A1 : Hid (∀ o, Below w.heap.size w (w.alloc o)) := fun o => (Below.refl _ _).alloc (Nat.le_refl _) _
  go_enter Tryz.func121, Tryz.ntmps121
  go_wp2_with fail
  refine (specRepoOk_any _ _ _ _ _ _ _ (HR.out.below (A1.out _)) HL.out).mono ?_
  rintro e w1 ⟨rfl, hb1⟩
  have c0 := cell_later hb1 (a := ⟨w.heap.size, 0, none⟩) (v := .slice a cs.length ca) (by simp [go_sem])
  have B1 : Hid (Below w.heap.size w w1) := (A1.out _).trans (hb1.mono (by simp))
  have hll := HL.out.cl
  clear hb1
  by_cases hg : RepoGood cs hs
  · rw [repoOk_true hg]
    by_cases h0 : 0 ≤ x
    · have HE : Hid (inB cs hs x = decide (x < cs.length)) := by simp [Hid, inB, hg, h0]
      clear hg
      go_wp2
      go_ret
      exact ⟨by rw [HE.out]; rfl, B1.out⟩
    · have HE : Hid (inB cs hs x = false) := by simp [Hid, inB]; intro _ _; omega
      clear hg
      go_wp2
      go_ret
      exact ⟨by rw [HE.out]; rfl, B1.out⟩
  · rw [repoOk_false hg]
    have HE : Hid (inB cs hs x = false) := by simp [Hid, inB, hg]
    clear hg
    go_wp2
    go_ret
    exact ⟨by rw [HE.out]; rfl, B1.out⟩

theorem marks_one (cs : List Cm) (k j : Nat) : marksV cs [(k : Int)] j = aheadB cs k j := by
  rw [Bool.eq_iff_iff, aheadB_iff]
  simp only [marksV, decide_eq_true_iff]
  constructor
  · rintro ⟨f, hf, h⟩
    have : (f : Int) = (k : Int) := by simpa using hf
    rwa [show f = k by omega] at h
  · exact fun h => ⟨k, by simp, h⟩

theorem aheadV_true {cs : List Cm} {hs : List Hd} {i k : Nat} (g : RepoGood cs hs) (h : k < cs.length) (hi : i < cs.length) : aheadV cs hs i k = aheadB cs k i := by
  have hn := g.c2
  rw [Bool.eq_iff_iff]
  simp only [aheadV, decide_eq_true_iff]
  rw [pastV_ok g h, mem_pastL]
  constructor
  · rintro ⟨j, h1, h2, h3⟩
    rwa [show i = j by omega]
  · exact fun h3 => ⟨i, by omega, rfl, h3⟩

theorem aheadV_in {cs : List Cm} {hs : List Hd} {x y : Int} (h : aheadV cs hs x y = true) : inB cs hs x = true ∧ inB cs hs y = true := by
  simp only [aheadV, decide_eq_true_iff] at h
  by_cases hp : RepoGood cs hs ∧ 0 ≤ y ∧ y < cs.length
  · obtain ⟨k, rfl⟩ : ∃ k : Nat, y = k := ⟨y.toNat, by omega⟩
    have hk : k < cs.length := by omega
    rw [pastV_ok hp.1 hk, mem_pastL] at h
    obtain ⟨j, h1, rfl, h3⟩ := h
    have := (aheadB_iff.1 h3).le hp.1.ups hk
    simp only [inB, decide_eq_true_iff]
    exact ⟨⟨hp.1, by omega, by omega⟩, hp⟩
  · rw [pastV_bad hp] at h
    simp at h

set_option maxRecDepth 100000 in
set_option maxHeartbeats 4000000 in
theorem specRepoAhead_any (a b : Option Addr) (ca cb : Nat) (cs : List Cm) (hs : List Hd) (x y : Int) (w : World) (hr : RepoAt w a b cs hs) (hl : RpLen cs hs 1048576) :
    Calls Tryz.prog 56 #[.agg #[.slice a cs.length ca, .slice b hs.length cb], .int .i64 x, .int .i64 y] w fun e w' => e = .returned (.bool (aheadV cs hs x y)) ∧ Below w.heap.size w w' := by
  have HR := Lib.hid hr
  have HL := Lib.hid hl
  clear hr hl
  have A1 : Hid (∀ o, Below w.heap.size w (w.alloc o)) := fun o => (Below.refl _ _).alloc (Nat.le_refl _) _
  go_enter Tryz.func56, Tryz.ntmps56
  go_wp2_with fail
  refine (l7In_any _ _ _ _ _ _ _ _ (HR.out.below (A1.out _)) HL.out).mono ?_
  rintro e w1 ⟨rfl, hb1⟩
  have K1 : Hid (Box2 w1 w.heap.size (.slice a cs.length ca) (.slice b hs.length cb)) := (Box2.new w _ _ _).later hb1
  have B1 : Hid (Below w.heap.size w w1) := (A1.out _).trans (hb1.mono (by simp))
  clear hb1
  cases hx : inB cs hs x
  · have HE : Hid (aheadV cs hs x y = false) := by
      rw [Hid, ← Bool.not_eq_true]
      intro h
      rw [(aheadV_in h).1] at hx
      cases hx
    clear hx
    go_wp2
    go_ret
    exact ⟨by rw [HE.out]; rfl, B1.out⟩
  · have HX := Lib.hid hx
    clear hx
    obtain ⟨z0, c0, c1⟩ := K1.out
    go_wp2_with fail
    clear c0 c1
    refine (l7In_any _ _ _ _ _ _ _ _ (HR.out.below B1.out) HL.out).mono ?_
    rintro e w2 ⟨rfl, hb2⟩
    replace K1 := Lib.hid (K1.out.later hb2)
    have B2 : Hid (Below w.heap.size w w2) := B1.out.trans (hb2.mono B1.out.size)
    clear hb2 B1
    cases hy : inB cs hs y
    · have HE : Hid (aheadV cs hs x y = false) := by
        rw [Hid, ← Bool.not_eq_true]
        intro h
        rw [(aheadV_in h).2] at hy
        cases hy
      clear hy
      go_wp2
      go_ret
      exact ⟨by rw [HE.out]; rfl, B2.out⟩
    · have hX := HX.out
      simp only [inB, decide_eq_true_iff] at hX hy
      obtain ⟨i, rfl⟩ : ∃ i : Nat, x = i := ⟨x.toNat, by omega⟩
      obtain ⟨k, rfl⟩ : ∃ k : Nat, y = k := ⟨y.toNat, by omega⟩
      have hi : i < cs.length := by omega
      have hk : k < cs.length := by omega
      have HY := Lib.hid hy
      have q0 : (0 : Int) ≤ (i : Int) := by omega
      have q1 : (i : Int) < (cs.length : Int) := by omega
      have HE := Lib.hid (aheadV_true hX.1 hk hi)
      have HGG := Lib.hid hX.1
      clear hX hy
      have A2 : Hid (Below w2.heap.size w2 (w2.alloc (.cells #[.int .i64 (k : Int)] 3))) := (Below.refl _ _).alloc (Nat.le_refl _) _
      obtain ⟨z0, c0, c1⟩ := K1.out
      go_wp2_with fail
      clear c0 c1
      refine (l7Marks_any _ _ _ _ _ _ _ cs [(k : Int)] _ (HR.out.cms.below (B2.out.trans (A2.out.mono B2.out.size))) HGG.out.ups HGG.out.c2 HL.out.cms (int_one _ _ _) (by simp) (fun z hz => ⟨k, by simpa using hz, hk⟩)).mono ?_
      rintro e w3 ⟨p, rfl, hrow, _, hb3⟩
      have hd := hrow.cell (i := i) hi
      rw [marks_one] at hd
      have B3 : Hid (Below w.heap.size w w3) := B2.out.trans ((A2.out.trans (hb3.mono (by simp))).mono B2.out.size)
      clear hb3 hrow
      go_wp2
      go_ret
      exact ⟨by rw [HE.out]; rfl, B3.out⟩

set_option maxRecDepth 100000 in
set_option maxHeartbeats 4000000 in
theorem specRepoPast_any (a b : Option Addr) (ca cb : Nat) (cs : List Cm) (hs : List Hd) (x : Int) (w : World) (hr : RepoAt w a b cs hs) (hl : RpLen cs hs 1048576) :
    Calls Tryz.prog 49 #[.agg #[.slice a cs.length ca, .slice b hs.length cb], .int .i64 x] w fun e w' => (∃ v, e = .returned v ∧ GrowI w.heap.size (pastV cs hs x) w' v) ∧ Below w.heap.size w w' := by
  have HR := Lib.hid hr
  have HL := Lib.hid hl
  clear hr hl
  have A1 : Hid (∀ o o', Below w.heap.size w ((w.alloc o).alloc o')) := fun o o' => ((Below.refl _ _).alloc (Nat.le_refl _) _).alloc (by simp) _
  have G0 : Hid (GrowI w.heap.size [] ((w.alloc (.cells #[.slice a cs.length ca, .slice b hs.length cb] 62)).alloc (.cells #[] 3)) (.slice (some ⟨w.heap.size + 1, 0, none⟩) 0 0)) := by
    have := World.ownsRow_made (w.alloc (.cells #[.slice a cs.length ca, .slice b hs.length cb] 62)) #[] 0 (base := w.heap.size) (e := 3) (size := 1) (by simp) (by unfold maxLen; omega) rfl
    rw [World.size_alloc] at this
    exact ⟨this, by simp; omega⟩
  go_enter Tryz.func49, Tryz.ntmps49
  go_wp2_with fail
  refine (l7In_any _ _ _ _ _ _ _ _ (HR.out.below (A1.out _ _)) HL.out).mono ?_
  rintro e w1 ⟨rfl, hb1⟩
  have K1 : Hid (Box2 w1 w.heap.size (.slice a cs.length ca) (.slice b hs.length cb)) := ((Box2.new w _ _ _).later ((Below.refl _ _).alloc (Nat.le_refl _) _)).later hb1
  have B1 : Hid (Below w.heap.size w w1) := (A1.out _ _).trans (hb1.mono (by simp; omega))
  have G1 := Lib.hid (G0.out.below hb1)
  clear hb1 G0
  cases hx : inB cs hs x
  · have HE : Hid (pastV cs hs x = []) := pastV_bad fun h => by simp [inB, h] at hx
    clear hx
    go_wp2
    go_ret
    exact ⟨⟨_, rfl, by rw [HE.out]; exact G1.out⟩, B1.out⟩
  · simp only [inB, decide_eq_true_iff] at hx
    obtain ⟨k, rfl⟩ : ∃ k : Nat, x = k := ⟨x.toNat, by omega⟩
    have hk : k < cs.length := by omega
    have HGG := Lib.hid hx.1
    have HE : Hid (pastV cs hs k = pastL (marksV cs [(k : Int)]) (k + 1)) := by
      have hn := hx.1.c2
      rw [Hid, pastV_ok hx.1 hk]
      rw [pastL_more (n := k + 1) (m := 14) (by omega) fun j hj => ?_]
      · exact pastL_congr fun j _ => (marks_one cs k j).symm
      · rw [← Bool.not_eq_true, aheadB_iff]
        intro h
        have := h.le hx.1.ups hk
        omega
    clear hx
    have A2 : Hid (Below w1.heap.size w1 (w1.alloc (.cells #[.int .i64 (k : Int)] 3))) := (Below.refl _ _).alloc (Nat.le_refl _) _
    obtain ⟨z0, c0, c1⟩ := K1.out
    go_wp2_with fail
    clear c0 c1
    refine (l7Marks_any _ _ _ _ _ _ _ cs [(k : Int)] _ (HR.out.cms.below (B1.out.trans (A2.out.mono B1.out.size))) HGG.out.ups HGG.out.c2 HL.out.cms (int_one _ _ _) (by simp) (fun z hz => ⟨k, by simpa using hz, hk⟩)).mono ?_
    rintro e w2 ⟨p, rfl, hrow, hpp, hb2⟩
    have hb12 : Below w1.heap.size w1 w2 := A2.out.trans (hb2.mono (by simp))
    have B2 : Hid (Below w.heap.size w w2) := B1.out.trans (hb12.mono B1.out.size)
    have G2 := Lib.hid (G1.out.below hb12)
    have HRow := Lib.hid hrow
    have hz1 := B1.out.size
    have hz12 := hb12.size
    have z1 : w.heap.size + 1 < w1.heap.size := by have := G1.out.form; have h := G1.out.own.lt (w.heap.size + 1) rfl; omega
    have hne : ¬ (w.heap.size + 1 = p) := by simp at hpp; omega
    clear hb2 hrow hb12 G1 B1 A2 K1 hpp
    obtain ⟨L, hL⟩ : ∃ L, L = pastL (marksV cs [(k : Int)]) (k + 1) := ⟨_, rfl⟩
    rw [← hL] at HE
    have LL := Lib.hid hL
    have hlen : L.length ≤ 14 := by rw [hL]; have := pastL_len (marksV cs [(k : Int)]) (k + 1); have := HGG.out.c2; omega
    clear hL
    have hcl := HGG.out.c2
    go_wp2
    go_loopw [5, 7] (fun s5 i wr => ∃ (q : Nat) (acc : List Int), q ≤ k + 1 ∧ i = .int .i64 ((q : Int) - 1) ∧ acc ++ pastL (marksV cs [(k : Int)]) q = L ∧ GrowI w.heap.size acc wr s5 ∧ (∀ g, s5.ownBlock = some g → ¬ g = p) ∧ wr.rowIs p 4 cs.length (fun j => .bool (marksV cs [(k : Int)] j)) ∧ Below w.heap.size w wr) (fun _ i _ => (intOf i + 1).toNat)
    case atStart => exact ⟨k + 1, [], Nat.le_refl _, by simp, LL.out.symm, G2.out, fun g hg => by cases hg; exact hne, HRow.out, B2.out⟩
    case round =>
      clear G2 HRow B2 HR
      obtain ⟨q, acc, hq, rfl, hacc, hG, hown, hrow, hbel⟩ := hrel
      have HG := Lib.hid hG
      have HRo := Lib.hid hrow
      have HB := Lib.hid hbel
      have HA := Lib.hid hacc
      have HO := Lib.hid hown
      have hsz := hbel.size
      obtain ⟨av, cv, rfl, hcv, _⟩ := hG.form
      rcases q with _ | i
      · simp only [Int.natCast_zero, Int.zero_sub]
        have h1 : decide ((0 : Int) ≤ -1) = false := by decide
        have e : Hid (acc = L) := by rw [Hid, ← hacc]; simp [pastL]
        clear hacc hG hrow hbel hown
        go_wp2
        go_ret
        exact ⟨⟨_, rfl, by rw [HE.out, ← e.out]; exact HG.out⟩, HB.out⟩
      · have e1 : ((i + 1 : Nat) : Int) - 1 = (i : Int) := by omega
        rw [e1]
        clear e1
        have hd := hrow.cell (i := i) (by omega)
        have q5 : (0 : Int) ≤ (i : Int) := by omega
        have q6 : (i : Int) < (cs.length : Int) := by omega
        have hpl := hrow.lt
        have hla : acc.length ≤ 14 := by have : acc.length ≤ L.length := by rw [← hacc, List.length_append]; omega
                                         omega
        clear hacc hG hrow hbel hown
        cases hM : marksV cs [(k : Int)] i
        · rw [hM] at hd
          have HM := Lib.hid hM
          clear hM
          go_wp2
          go_roundw
          case rel => exact ⟨i, acc, by omega, rfl, by rw [← HA.out]; simp [pastL, HM.out], HG.out, HO.out, HRo.out, HB.out⟩
          case measure => simp [intOf]
        · rw [hM] at hd
          have HM := Lib.hid hM
          clear hM
          have A1 : Hid (Below wr.heap.size wr (wr.alloc (.cells #[.int .i64 (i : Int)] 3))) := (Below.refl _ _).alloc (Nat.le_refl _) _
          go_wp2_with (at_builtin; refine wpList_moreJ (by rfl) _ _ (by rfl) (HG.out.below A1.out) (int_one _ _ _) (by rfl) (by rfl) (by simp; omega) ?_; intro r a2 c2 W2 hr hgrow hG2 hat; have R := Lib.hid hr; have HGR := Lib.hid hgrow; have HG2 := Lib.hid hG2; have HAT := Lib.hid hat.out; clear hr hgrow hG2 hat)
          have hblk := (HG.out.below A1.out).block
          have hrow2 : W2.rowIs p 4 cs.length (fun j => .bool (marksV cs [(k : Int)] j)) := (HRo.out.alloc _).of_block (HGR.out.block _ (by simp; omega) fun e => HO.out _ e.symm rfl)
          go_roundw
          case rel => exact ⟨i, r, by omega, rfl, by rw [R.out, ← HA.out]; simp [pastL, HM.out], HG2.out, fun g hg e => by
            rcases HAT.out g hg with h1 | h1
            · exact HO.out g h1 e
            · simp at h1; omega, hrow2, (HB.out.alloc hsz _).grown HGR.out (by simp; omega) fun j hj => hblk j hj⟩
          case measure => simp [intOf]
end Go.Proofs.YtdchfologicbeaaGreat

namespace Go.Proofs.YtdchfologicbeaaGreat
set_option linter.unusedVariables false
open Go.ChangeShapes Go.WideShapes Go.ChangeAt Go.RowKit

theorem pf_mapsRowed : mapsRowed Tryz.prog = true := by kernel_rfl
theorem pf_mayEnter : Tryz.prog.mayEnter = true := by kernel_rfl
theorem pf_stopsHeard : Tryz.prog.stopsHeard = true := by kernel_rfl
theorem pf_plainKeys : (Rows.fnExactRepoOkRow.plainKeys == Tryz.prog.plainKeys) = true := by kernel_rfl
theorem pf_lifted : (Rows.fnExactRepoOkRow.lifted == Tryz.prog.liftsFinal) = true := by kernel_rfl
theorem pf_make : (Tryz.prog.make == some Rows.fnExactRepoOkRow.make) = true := by kernel_rfl
end Go.Proofs.YtdchfologicbeaaGreat

namespace Go.Proofs.YtdchfologicbeaaGreat
set_option linter.unusedVariables false
open Go.ChangeShapes Go.WideShapes Go.ChangeAt Go.RowKit

set_option maxRecDepth 100000 in
set_option maxHeartbeats 6400000 in
theorem fnExactRepoAhead_walk (a : Option Addr) (ca : Nat) (cs : List Cm) (b : Option Addr) (cb : Nat) (hs : List Hd) (x : Int) (y : Int) (w : World) (hc : CommitsIn w a cs) (hh : HeadsIn w b hs) (hx : (Lit.int .i64 x).wf = true) (hy : (Lit.int .i64 y).wf = true) :
    Calls Tryz.prog 12 #[.agg #[.slice a cs.length ca, .slice b hs.length cb], .int .i64 x, .int .i64 y] w fun e w' => e = .returned (.bool true) ∧ Below w.heap.size w w' := by
  have HC := Lib.hid hc
  have HH := Lib.hid hh
  clear hc hh
  have A0 : Hid (∀ o, Below w.heap.size w (w.alloc o)) := fun o => (Below.refl _ _).alloc (Nat.le_refl _) _
  go_enter Tryz.func12, Tryz.ntmps12
  go_wp2_with fail
  refine (szRepo_any _ _ _ _ _ _ _ _ (HC.out.below (A0.out _)) (HH.out.below (A0.out _)) (by omega) (by omega)).mono ?_
  rintro e w1 ⟨⟨r, rfl, hsz⟩, hb1⟩
  have C1 : Hid (Box2 w1 w.heap.size (.slice a cs.length ca) (.slice b hs.length cb)) := (Box2.new w _ _ _).later hb1
  have B1 : Hid (Below w.heap.size w w1) := (A0.out _).trans (hb1.mono (by simp))
  clear hb1
  rcases hsz with rfl | ⟨r0, r1, l1⟩
  · go_wp2
    go_ret
    exact ⟨rfl, B1.out⟩
  have L1 : Hid (RpLen cs hs 1048576) := ⟨by have := l1.cl; omega, by have := l1.hl; omega, l1.cms.mono (by omega), l1.hds.mono (by omega)⟩
  clear l1
  obtain ⟨z0, c0, c1⟩ := C1.out
  go_wp2_with fail
  clear c0 c1
  refine (toRepo_any _ _ _ _ _ _ _ (HC.out.reads.below B1.out) (HH.out.reads.below B1.out) L1.out).mono ?_
  rintro e w2 ⟨a2, ca2, b2, cb2, rfl, _, _, hR2, hb2⟩
  replace C1 := Lib.hid (C1.out.later hb2)
  have B2 : Hid (Below w.heap.size w w2) := B1.out.trans (hb2.mono B1.out.size)
  have R2 := Lib.hid hR2
  clear hb2 hR2 B1
  go_wp2_with fail
  refine (specRepoAhead_any _ _ _ _ cs hs x y _ R2.out L1.out).mono ?_
  rintro e w3 ⟨rfl, hb3⟩
  replace C1 := Lib.hid (C1.out.later hb3)
  have B3 : Hid (Below w.heap.size w w3) := B2.out.trans (hb3.mono B2.out.size)
  clear hb3 B2 R2
  obtain ⟨z0, c0, c1⟩ := C1.out
  go_wp2_with fail
  clear c0 c1
  refine (toRepo_any _ _ _ _ _ _ _ (HC.out.reads.below B3.out) (HH.out.reads.below B3.out) L1.out).mono ?_
  rintro e w4 ⟨aX, caX, bX, cbX, rfl, hcaX, _, hRX, hb4⟩
  replace C1 := Lib.hid (C1.out.later hb4)
  have B4 : Hid (Below w.heap.size w w4) := B3.out.trans (hb4.mono B3.out.size)
  have RX := Lib.hid hRX
  have z0 : w.heap.size < w4.heap.size := C1.out.lt
  clear hb4 hRX B3
  have A4 : Hid (∀ o, Below w4.heap.size w4 (w4.alloc o)) := fun o => (Below.refl _ _).alloc (Nat.le_refl _) _
  go_wp2_with fail
  refine (implRepoAhead_any _ _ _ _ cs hs x y _ (RX.out.below (A4.out _)) L1.out hcaX).mono ?_
  rintro e w5 ⟨rfl, hb5⟩
  have hb45 : Below w4.heap.size w4 w5 := (A4.out _).trans (hb5.mono (by simp))
  have D1 : Hid (Box2 w5 w4.heap.size (.slice aX cs.length caX) (.slice bX hs.length cbX)) := (Box2.new w4 _ _ _).later hb5
  replace C1 := Lib.hid (C1.out.later hb45)
  have B5 : Hid (Below w.heap.size w w5) := B4.out.trans (hb45.mono B4.out.size)
  replace RX := Lib.hid (RX.out.below hb45)
  clear hb5 hb45 B4 A4
  have hne : (aheadV cs hs x y != aheadV cs hs x y) = false := by simp
  go_upto_region 10 with (fail)
  clear hne
  go_cut [34] (fun s wx => s = .bool false ∧ Below w.heap.size w wx)
  case first =>
    obtain ⟨_, c0, c1⟩ := C1.out
    obtain ⟨_, d0, d1⟩ := D1.out
    go_region_held3 (fun w' => w'.cell? ⟨w.heap.size, 0, none⟩ = some (.slice a cs.length ca) ∧ w'.cell? ⟨w.heap.size, 1, none⟩ = some (.slice b hs.length cb) ∧ w'.cell? ⟨w4.heap.size, 0, none⟩ = some (.slice aX cs.length caX) ∧ w'.cell? ⟨w4.heap.size, 1, none⟩ = some (.slice bX hs.length cbX) ∧ Below w5.heap.size w5 w')
      (first
        | (go_split_ands
           rename_i hS0 hS1 hS2 hS3 hS4
           with_reducible exact ⟨cell_later hbn hS0, cell_later hbn hS1, cell_later hbn hS2, cell_later hbn hS3, hS4.trans (hbn.mono hS4.size)⟩)
        | exact ⟨c0, c1, d0, d1, (Below.refl _ _).drew⟩)
      (first
        | (go_at_call 32
           refine (toRepo_any _ _ _ _ _ _ _ ?_ ?_ L1.out).mono ?_
           · (go_split_ands; exact HC.out.reads.below (B5.out.trans (Below.mono (by assumption) B5.out.size)))
           · (go_split_ands; exact HH.out.reads.below (B5.out.trans (Below.mono (by assumption) B5.out.size)))
           rintro e wn ⟨aA, caA, bA, cbA, rfl, _, _, hRA, hbn⟩)
        | (go_at_call 34
           refine (eqRepo_any _ _ _ _ _ _ _ _ cs cs hs hs _ ?_ ?_ L1.out L1.out).mono ?_
           · (go_split_ands; exact RX.out.below (by assumption))
           · (assumption)
           rintro e wn ⟨rfl, hbn⟩))
    all_goals (go_wp2_with fail; go_meet; go_split_ands; exact ⟨by simp [rpEq_refl], B5.out.trans (Below.mono (by assumption) B5.out.size)⟩)
  case rest =>
    clear C1 D1 B5 RX
    obtain ⟨rfl, hB⟩ := hcut
    have B := Lib.hid hB
    clear hB
    go_wp2
    go_ret
    exact ⟨rfl, B.out⟩

set_option maxRecDepth 100000 in
theorem fnExactRepoAhead_lifted (os : Os) (started : os.Started) (H : Type) (enc : TypeId × Value → H) :
    ReturnsInHanded {} Tryz.checked os 12 .any (Rows.fnExactRepoAheadSpec.pre6 enc Tryz.prog Tryz.f12 Rows.fnExactRepoAheadRow.domain false) (Rows.fnExactRepoAheadSpec.post enc Tryz.prog Tryz.f12 false true false false) := by
  refine returnsInHanded_of_change (C := Tryz.checked) own started (by kernel_rfl) Tryz.func12
    (ChangeSpec.witness6 (enc := enc) (C := Tryz.checked) false ⟨#[], #[.agg #[.slice none 0 0, .slice none 0 0], .int .i64 0, .int .i64 0], []⟩ 8 (by kernel_rfl) (by kernel_rfl) (by kernel_rfl) (by kernel_rfl)) ?_
  intro W base args ds gs before hval0 hW _ _
  have hval : ∀ (j : Nat) t v, Tryz.f12.params[j]? = some t → args[j]? = some v → Value.okWide Tryz.prog W .any base t v := hval0
  have hW' := hW
  obtain ⟨p, q, hA0, hV, rfl, _, _⟩ := hW
  have hA : DataW.TrodAll enc Tryz.prog W 0 (fun _ => true) true Tryz.f12.params.toList args.toList ds p := hA0
  rw [Tryz.params12] at hA hval
  obtain ⟨v0, vs0, d0, ds0, p0, q0, hargs, rfl, rfl, h0, r0⟩ := trodAll_cons hA
  obtain ⟨v1, vs1, d1, ds1, p1, q1, rfl, rfl, rfl, h1, r1⟩ := trodAll_cons r0
  obtain ⟨v2, vs2, d2, ds2, p2, q2, rfl, rfl, rfl, h2, r2⟩ := trodAll_cons r1
  obtain ⟨rfl, rfl, rfl⟩ := trodAll_nil r2
  obtain rfl : args = #[v0, v1, v2] := by cases args; simp_all
  obtain ⟨rfl, rfl⟩ := trodVars_none hV
  have k0 := h0
  have lt0 : ∀ x ∈ p0, x.block < W.heap.size := by obtain ⟨m, hm⟩ := k0; exact DataW.trod_lt m _ _ _ hm
  obtain ⟨a0, c0, s0, b0, e0, t0, rfl, f0, g0⟩ := open_repo (hval 0 56 v0 rfl rfl) h0
  obtain ⟨x1, rfl, rfl, rfl, w1⟩ := open_int Tryz.underlying3 (hval 1 3 v1 rfl rfl) h1
  obtain ⟨x2, rfl, rfl, rfl, w2⟩ := open_int Tryz.underlying3 (hval 2 3 v2 rfl rfl) h2
  clear hA0 hval0
  refine (fnExactRepoAhead_walk a0 c0 s0 b0 e0 t0 x1 x2 W f0 g0 w1 w2).mono fun e W' ⟨he, bel⟩ => ?_
  subst he
  exact ⟨_, rfl, _, _, _, [], _, [], hW', trodAll_mk1 (shut_bool Tryz.underlying4 _), (trodAll_cons_mk (Below.trod laidOut (by kernel_rfl) (of_decide_eq_true (by kernel_rfl)) k0 bel lt0) (trodAll_cons_mk (shut_int Tryz.underlying3 w1) (trodAll_cons_mk (shut_int Tryz.underlying3 w2) trodAll_mk0))), rfl, bel.frame _, fun h => by cases h⟩

theorem fnExactRepoAhead_c1 : (Rows.fnExactRepoAheadRow.inPlace == Tryz.prog.inPlace 12) = true := by kernel_rfl
theorem fnExactRepoAhead_c2 : (Rows.fnExactRepoAheadRow.unfollowed == Tryz.prog.unfollowed 12) = true := by kernel_rfl
theorem fnExactRepoAhead_c3 : (Rows.fnExactRepoAheadRow.recurses == Tryz.prog.recurses 12) = true := by kernel_rfl
theorem fnExactRepoAhead_c4 : (Rows.fnExactRepoAheadRow.named == Tryz.prog.varsNamed 12) = true := by kernel_rfl
theorem fnExactRepoAhead_c5 : (Rows.fnExactRepoAheadRow.plainKeys == Tryz.prog.plainKeys) = true := pf_plainKeys
theorem fnExactRepoAhead_c6 : (Rows.fnExactRepoAheadRow.lifted == Tryz.prog.liftsFinal) = true := pf_lifted
theorem fnExactRepoAhead_c7 : (Tryz.prog.make == some Rows.fnExactRepoAheadRow.make) = true := pf_make
theorem fnExactRepoAhead_closed : joinedFacts Tryz.prog 12 Tryz.f12 Rows.fnExactRepoAheadSpec Rows.fnExactRepoAheadRow = true := by
  unfold joinedFacts
  simp only [Bool.and_eq_true]
  repeat' apply And.intro
  all_goals first
    | with_reducible exact laidOut
    | with_reducible exact pf_mapsRowed
    | with_reducible exact pf_mayEnter
    | with_reducible exact pf_stopsHeard
    | with_reducible exact fnExactRepoAhead_c1
    | with_reducible exact fnExactRepoAhead_c2
    | with_reducible exact fnExactRepoAhead_c3
    | with_reducible exact fnExactRepoAhead_c4
    | with_reducible exact fnExactRepoAhead_c5
    | with_reducible exact fnExactRepoAhead_c6
    | with_reducible exact fnExactRepoAhead_c7
    | kernel_rfl

theorem fnExactRepoAhead_over : Rows.fnExactRepoAheadRow.holds Tryz.pinned (OpenSpec.ofChange Rows.fnExactRepoAheadSpec) :=
  OpenClaim.holds_of_wide 12 Tryz.f12 rfl rfl rfl rfl rfl rfl rfl ⟨rfl, rfl, rfl, rfl, rfl⟩ rfl rfl rfl rfl rfl (by kernel_rfl) Tryz.func12 fnExactRepoAhead_closed
    (of_decide_eq_true (by kernel_rfl)) (by unfold Func.isWrapper; first | (rw [if_pos (by decide +kernel)]; kernel_rfl) | (rw [if_neg (by decide +kernel)]; exact ⟨rfl, rfl⟩))
    (fun os started H enc _ => fnExactRepoAhead_lifted os started H enc)

/-- the given statement -/
theorem fnExactRepoAhead_holds : Rows.FnExactRepoAheadSaid := fnExactRepoAhead_over

end Go.Proofs.YtdchfologicbeaaGreat
