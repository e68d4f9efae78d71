/- Proved here: the model's SeqMerge answers what two made of a row, in memory of its own; rows of at most 1,048,576 points. -/
import Derived.Test.YtaefibefagbheaaWSeqMid
import Derived.Test.YtaefibefagbheaaWSeqPairsS
import Derived.Test.YtaefibefagbheaaWSeqGrow
namespace Go.Proofs.Ytaefibefagbheaa
set_option linter.unusedVariables false
open Go.ChangeShapes Go.WideShapes Go.ChangeAt Go.RowKit

theorem atI_some {ps : List (Nat × Nat)} {i q : Nat} (h : ps.lookup i = some q) : atI ps i = (q : Int) := by unfold atI; rw [h]
theorem atI_none {ps : List (Nat × Nat)} {i : Nat} (h : ps.lookup i = none) : atI ps i = -1 := by unfold atI; rw [h]

/-- of three parts of rows, as the walk meets them -/
theorem pick_cut (qb qa qc : Option Addr) (cb ca cc : Nat) (base a b : List (Int × Int)) (w : World) (h1 : PtsAt w qb base) (h2 : PtsAt w qa a) (h3 : PtsAt w qc b) (l1 : base.length ≤ 12) (l2 : a.length ≤ 12) (l3 : b.length ≤ 12) (k1 : base.length ≤ cb) (k2 : a.length ≤ ca) (k3 : b.length ≤ cc)
    (o i x ka y kb : Nat) (hi : i ≤ base.length) (hka : ka ≤ a.length) (hkb : kb ≤ b.length) (n : Nat) :
    Calls Try.prog 54 #[.slice (cutA qb o cb) (i - o) (cb - o), .slice (cutA qa x ca) (ka - x) (ca - x), .slice (cutA qc y cc) (kb - y) (cc - y)] (w.drewN n) fun e w' =>
      e = .returned (.tuple #[slV (pickA (cut base o i) (cut a x ka) (cut b y kb) (cutA qa x ca, ka - x, ca - x) (cutA qc y cc, kb - y, cc - y)), .bool (pickB (cut base o i) (cut a x ka) (cut b y kb))]) ∧ ∃ m, w' = (w.drewN n).drewN m :=
  l5Pick_any (cutA qb o cb, i - o, cb - o) (cutA qa x ca, ka - x, ca - x) (cutA qc y cc, kb - y, cc - y) (cut base o i) (cut a x ka) (cut b y kb) (w.drewN n) ((h1.below (below_drewN (Below.refl _ _) n)).cutLH k1 _ _) ((h2.below (below_drewN (Below.refl _ _) n)).cutLH k2 _ _) ((h3.below (below_drewN (Below.refl _ _) n)).cutLH k3 _ _)
    (cut_len hi).symm (cut_len hka).symm (cut_len hkb).symm (by rw [cut_len hi]; omega) (by rw [cut_len hka]; omega) (by rw [cut_len hkb]; omega)

theorem pick_yes (qb qa qc : Option Addr) (cb ca cc : Nat) (base a b : List (Int × Int)) (w : World) (h1 : PtsAt w qb base) (h2 : PtsAt w qa a) (h3 : PtsAt w qc b) (l1 : base.length ≤ 12) (l2 : a.length ≤ 12) (l3 : b.length ≤ 12) (k1 : base.length ≤ cb) (k2 : a.length ≤ ca) (k3 : b.length ≤ cc)
    (o i x ka y kb : Nat) (hi : i ≤ base.length) (hka : ka ≤ a.length) (hkb : kb ≤ b.length) {p : List (Int × Int)} (hp : pick (cut base o i) (cut a x ka) (cut b y kb) = some p) :
    ∃ pr cr, PtsAt w pr p ∧ p.length ≤ 12 ∧ ∀ n, Calls Try.prog 54 #[.slice (cutA qb o cb) (i - o) (cb - o), .slice (cutA qa x ca) (ka - x) (ca - x), .slice (cutA qc y cc) (kb - y) (cc - y)] (w.drewN n) fun e w' => e = .returned (.tuple #[.slice pr p.length cr, .bool true]) ∧ ∃ m, w' = (w.drewN n).drewN m := by
  have hr := pickA_reads (sa := (cutA qa x ca, ka - x, ca - x)) (sb := (cutA qc y cc, kb - y, cc - y)) (h2.cutLH k2 x ka) (h3.cutLH k3 y kb) (cut_len hka).symm (cut_len hkb).symm hp
  have hB : pickB (cut base o i) (cut a x ka) (cut b y kb) = true := by unfold pickB; rw [hp]; rfl
  refine ⟨_, (pickA (cut base o i) (cut a x ka) (cut b y kb) (cutA qa x ca, ka - x, ca - x) (cutA qc y cc, kb - y, cc - y)).2.2, hr.1, pick_le (by rw [cut_len hka]; omega) (by rw [cut_len hkb]; omega) hp, fun n => ?_⟩
  have h := pick_cut qb qa qc cb ca cc base a b w h1 h2 h3 l1 l2 l3 k1 k2 k3 o i x ka y kb hi hka hkb n
  rw [hB] at h
  unfold slV at h
  rw [hr.2] at h
  exact h

theorem pick_no (qb qa qc : Option Addr) (cb ca cc : Nat) (base a b : List (Int × Int)) (w : World) (h1 : PtsAt w qb base) (h2 : PtsAt w qa a) (h3 : PtsAt w qc b) (l1 : base.length ≤ 12) (l2 : a.length ≤ 12) (l3 : b.length ≤ 12) (k1 : base.length ≤ cb) (k2 : a.length ≤ ca) (k3 : b.length ≤ cc)
    (o i x ka y kb : Nat) (hi : i ≤ base.length) (hka : ka ≤ a.length) (hkb : kb ≤ b.length) (hp : pick (cut base o i) (cut a x ka) (cut b y kb) = none) :
    ∃ v, ∀ n, Calls Try.prog 54 #[.slice (cutA qb o cb) (i - o) (cb - o), .slice (cutA qa x ca) (ka - x) (ca - x), .slice (cutA qc y cc) (kb - y) (cc - y)] (w.drewN n) fun e w' => e = .returned (.tuple #[v, .bool false]) ∧ ∃ m, w' = (w.drewN n).drewN m := by
  have hB : pickB (cut base o i) (cut a x ka) (cut b y kb) = false := by unfold pickB; rw [hp]; rfl
  refine ⟨slV (pickA (cut base o i) (cut a x ka) (cut b y kb) (cutA qa x ca, ka - x, ca - x) (cutA qc y cc, kb - y, cc - y)), fun n => ?_⟩
  have h := pick_cut qb qa qc cb ca cc base a b w h1 h2 h3 l1 l2 l3 k1 k2 k3 o i x ka y kb hi hka hkb n
  rw [hB] at h
  exact h

/-- what 'l5Merge' answers -/
def RowOr (w : World) (r : Option (List (Int × Int))) (e : Ending) (w' : World) : Prop :=
  match r with
  | none => e = .returned (.tuple #[.slice none 0 0, .bool false]) ∧ Below w.heap.size w w'
  | some m => ∃ a cap, e = .returned (.tuple #[.slice a m.length cap, .bool true]) ∧ RowIs w a m w' ∧ m.length ≤ 182

set_option maxRecDepth 100000 in
set_option maxHeartbeats 8000000 in
theorem l5Merge_few (qb qa qc : Option Addr) (cb ca cc : Nat) (base a b : List (Int × Int)) (w : World) (h1 : PtsAt w qb base) (h2 : PtsAt w qa a) (h3 : PtsAt w qc b) (l1 : base.length ≤ 12) (l2 : a.length ≤ 12) (l3 : b.length ≤ 12) (k1 : base.length ≤ cb) (k2 : a.length ≤ ca) (k3 : b.length ≤ cc) :
    Calls Try.prog 44 #[.slice qb base.length cb, .slice qa a.length ca, .slice qc b.length cc] w (RowOr w (merged base a b)) := by
  have H1 := Lib.hid h1
  have H2 := Lib.hid h2
  have H3 := Lib.hid h3
  have hf1 : fewB [base.length, a.length] = true := by simp [fewB]; omega
  have hf2 : fewB [base.length, b.length] = true := by simp [fewB]; omega
  have HPA := Lib.hid (pairsOf_few hf1)
  have HPB := Lib.hid (pairsOf_few hf2)
  obtain ⟨i0, hi, hz0, hz1, hz2⟩ := info_parts infoPt
  have JI := Lib.hid hi
  have JZ0 := Lib.hid hz0
  have JZ1 := Lib.hid hz1
  have JZ2 := Lib.hid hz2
  clear h1 h2 h3 hf1 hf2 hi hz0 hz1 hz2
  go_enter Try.func44, Try.ntmps44
  go_wp2_with fail
  refine (specSeqPairs_any _ _ _ _ _ _ _ H1.out H2.out (by omega) (by omega) k1 k2).mono ?_
  rintro e w1 ⟨ap, cp, rfl, hr1⟩
  rw [HPA.out] at hr1 ⊢
  have B1 := Lib.hid hr1.bel
  have P1 := Lib.hid hr1.pts
  clear hr1
  go_wp2_with fail
  refine (specSeqPairs_any _ _ _ _ _ _ _ (H1.out.below B1.out) (H3.out.below B1.out) (by omega) (by omega) k1 k3).mono ?_
  rintro e w2 ⟨bp, dp, rfl, hr2⟩
  rw [HPB.out] at hr2 ⊢
  have B2 : Hid (Below w.heap.size w w2) := B1.out.trans (hr2.bel.mono B1.out.size)
  have PA : Hid (PtsAt w2 ap (zp (prs 0 0 base a))) := P1.out.below hr2.bel
  have PB := Lib.hid hr2.pts
  have Q1 := Lib.hid (H1.out.below B2.out)
  have Q2 := Lib.hid (H2.out.below B2.out)
  have Q3 := Lib.hid (H3.out.below B2.out)
  have LA : (prs 0 0 base a).length ≤ 12 := by rw [prs_len]; have := lcs_le base a; omega
  have LB : (prs 0 0 base b).length ≤ 12 := by rw [prs_len]; have := lcs_le base b; omega
  clear hr2 B1 P1 H1 H2 H3 HPA HPB
  go_wp2
  go_loopw [10, 11, 12, 13, 14] (fun v so sx sy si wr => ∃ (i o x y : Nat) (ml : List (Int × Int)), i ≤ base.length + 1 ∧ so = .int .i64 o ∧ sx = .int .i64 x ∧ sy = .int .i64 y ∧ si = .int .i64 i ∧ Grow w2 32 ml wr v ∧ ml.length ≤ 13 * i ∧ o ≤ 13 ∧ x ≤ 13 ∧ y ≤ 13 ∧ (i ≤ base.length → Mid base a b i o x y ml) ∧ (i = base.length + 1 → merged base a b = some ml)) (fun _ _ _ _ si _ => base.length + 1 - (intOf si).toNat)
  case atStart => exact ⟨0, 0, 0, 0, [], by omega, rfl, rfl, rfl, rfl, Grow.lit w2 _, by simp, by omega, by omega, by omega, fun _ => Mid.start base a b, fun h => by omega⟩
  case round =>
    obtain ⟨i, o, x, y, ml, hi, rfl, rfl, rfl, rfl, hG, hml, ho, hx, hy, hmid, hend⟩ := hrel
    have HG := Lib.hid hG
    have HM := Lib.hid hmid
    have HE := Lib.hid hend
    clear hG hmid hend
    by_cases h1 : i < base.length
    · have hM := HM.out (by omega)
      have HMD := Lib.hid hM
      clear hM
      cases ha : (prs 0 0 base a).lookup i with
      | none =>
        have HA := Lib.hid (atI_none ha)
        have HMN := Lib.hid (HMD.out.skip (.inl ha))
        clear ha
        go_wp2_with fail
        refine (l5At_any _ _ _ _ _ (PA.out.below HG.out.bel) (by omega)).mono ?_
        rintro e wx ⟨rfl, rfl⟩
        rw [HA.out]
        go_wp2_with fail
        refine (l5At_any _ _ _ _ _ (PB.out.below HG.out.bel) (by omega)).mono ?_
        rintro e wx ⟨rfl, rfl⟩
        generalize atI (prs 0 0 base b) i = kb
        go_wp2
        go_roundw
        case rel => exact ⟨i + 1, o, x, y, ml, by omega, rfl, rfl, rfl, by go_num, HG.out, by omega, ho, hx, hy, fun _ => HMN.out, fun h => by omega⟩
        case measure => simp [intOf]; omega
      | some ka =>
        have HA := Lib.hid (atI_some ha)
        cases hb : (prs 0 0 base b).lookup i with
        | none =>
          have HB := Lib.hid (atI_none hb)
          have HMN := Lib.hid (HMD.out.skip (.inr hb))
          clear ha hb
          go_wp2_with fail
          refine (l5At_any _ _ _ _ _ (PA.out.below HG.out.bel) (by omega)).mono ?_
          rintro e wx ⟨rfl, rfl⟩
          rw [HA.out]
          go_wp2_with fail
          refine (l5At_any _ _ _ _ _ (PB.out.below HG.out.bel) (by omega)).mono ?_
          rintro e wx ⟨rfl, rfl⟩
          rw [HB.out]
          go_wp2
          go_roundw
          case rel => exact ⟨i + 1, o, x, y, ml, by omega, rfl, rfl, rfl, by go_num, HG.out, by omega, ho, hx, hy, fun _ => HMN.out, fun h => by omega⟩
          case measure => simp [intOf]; omega
        | some kb =>
          have HB := Lib.hid (atI_some hb)
          obtain ⟨⟨g1, g2, g3⟩, ⟨g4, g5⟩, _⟩ := HMD.out.at ha hb
          have r1 := fun u => run_cutLH u qb base.length cb o i (o : Int) (i : Int) rfl rfl (by omega) (by omega)
          have r2 := fun u => run_cutLH u qa a.length ca x ka (x : Int) (ka : Int) rfl rfl (by omega) (by omega)
          have r3 := fun u => run_cutLH u qc b.length cc y kb (y : Int) (kb : Int) rfl rfl (by omega) (by omega)
          cases hp : pick (cut base o i) (cut a x ka) (cut b y kb) with
          | none =>
            have HCL := Lib.hid (HMD.out.clash ha hb hp)
            obtain ⟨pv, hcall⟩ := pick_no qb qa qc cb ca cc base a b wr (Q1.out.below HG.out.bel) (Q2.out.below HG.out.bel) (Q3.out.below HG.out.bel) l1 l2 l3 k1 k2 k3 o i x ka y kb (by omega) (by omega) (by omega) hp
            have HC := Lib.hid hcall
            clear ha hb hp hcall
            go_wp2_with fail
            refine (l5At_any _ _ _ _ _ (PA.out.below HG.out.bel) (by omega)).mono ?_
            rintro e wx ⟨rfl, rfl⟩
            rw [HA.out]
            go_wp2_with fail
            refine (l5At_any _ _ _ _ _ (PB.out.below HG.out.bel) (by omega)).mono ?_
            rintro e wx ⟨rfl, rfl⟩
            rw [HB.out]
            go_wp2
            go_quiet ((go_at_call 54; exact Calls.quiet_of (HC.out _)))
            clear r1 r2 r3
            go_wp2
            go_ret2
            rw [HCL.out]
            exact ⟨rfl, B2.out.trans (below_drewN (HG.out.bel.mono B2.out.size) _)⟩
          | some p =>
            have HMN := Lib.hid (HMD.out.take h1 ha hb hp)
            obtain ⟨pr, cr, hpr, hpl, hcall⟩ := pick_yes qb qa qc cb ca cc base a b wr (Q1.out.below HG.out.bel) (Q2.out.below HG.out.bel) (Q3.out.below HG.out.bel) l1 l2 l3 k1 k2 k3 o i x ka y kb (by omega) (by omega) (by omega) hp
            have HC := Lib.hid hcall
            have HPR := Lib.hid hpr
            clear ha hb hp hcall hpr
            go_wp2_with fail
            refine (l5At_any _ _ _ _ _ (PA.out.below HG.out.bel) (by omega)).mono ?_
            rintro e wx ⟨rfl, rfl⟩
            rw [HA.out]
            go_wp2_with fail
            refine (l5At_any _ _ _ _ _ (PB.out.below HG.out.bel) (by omega)).mono ?_
            rintro e wx ⟨rfl, rfl⟩
            rw [HB.out]
            go_wp2
            go_quiet ((go_at_call 54; exact Calls.quiet_of (HC.out _)))
            clear r1 r2 r3
            have HG1 := Lib.hid (HG.out.drewN nq)
            have HPR1 : Hid (PtsAt (wr.drewN nq) pr p) := HPR.out.below (below_drewN (Below.refl _ _) nq)
            generalize wr.drewN nq = W1 at HG1 HPR1 ⊢
            clear HG HPR HC
            obtain ⟨bb, ob, rfl, hbb, hc1, hc2⟩ := Q1.out i h1
            go_wp2_with (at_builtin; first
              | (have hq := HG2.out; refine wpList_grow (by rfl) _ _ (by rfl) (hq.alloc _) (pts_one W2 _ _ _) (by rfl) (by rfl) (by simp; omega) ?_; intro r3 av3 cv3 W3 hr3 hG3; have HG3 := Lib.hid hG3; clear hG3 hq)
              | (refine wpList_grow (by rfl) _ _ (by rfl) HG1.out HPR1.out (by rfl) (by rfl) (by omega) ?_; intro r2 av2 cv2 W2 hr2 hG2; have hrl2 : r2.length ≤ 13 * i + 12 := (by rw [hr2.out]; simp; omega); have hd1 := cell_later hG2.bel hc1; have hd2 := cell_later hG2.bel hc2; have HG2 := Lib.hid hG2; clear hG2))
            have he3 : r3 = ml ++ p ++ [(px base i, py base i)] := by rw [hr3.out, hr2.out]
            have hl : r3.length ≤ 13 * (i + 1) := by rw [hr3.out]; simp; omega
            have HE3 := Lib.hid he3
            clear he3
            go_wp2
            go_roundw
            case rel => exact ⟨i + 1, i + 1, ka + 1, kb + 1, _, by omega, by go_num, by go_num, by go_num, by go_num, HG3.out, hl, by omega, by omega, by omega, fun _ => by rw [HE3.out]; exact HMN.out, fun h => by omega⟩
            case measure => simp [intOf]; omega
    · by_cases h2 : i = base.length
      · subst h2
        have hM := HM.out (Nat.le_refl _)
        have HMD := Lib.hid hM
        obtain ⟨g1, g2, g3⟩ := hM.le
        clear hM h1
        have r1 := fun u => run_cutLH u qb base.length cb o base.length (o : Int) (base.length : Int) rfl rfl (by omega) (by omega)
        have r2 := fun u => run_cutLH u qa a.length ca x a.length (x : Int) (a.length : Int) rfl rfl (by omega) (by omega)
        have r3 := fun u => run_cutLH u qc b.length cc y b.length (y : Int) (b.length : Int) rfl rfl (by omega) (by omega)
        cases hp : pick (cut base o base.length) (cut a x a.length) (cut b y b.length) with
        | none =>
          have hcl := HMD.out.last
          rw [hp] at hcl
          have HCL := Lib.hid hcl
          obtain ⟨pv, hcall⟩ := pick_no qb qa qc cb ca cc base a b wr (Q1.out.below HG.out.bel) (Q2.out.below HG.out.bel) (Q3.out.below HG.out.bel) l1 l2 l3 k1 k2 k3 o base.length x a.length y b.length (by omega) (by omega) (by omega) hp
          have HC := Lib.hid hcall
          clear hcl hp hcall
          go_wp2
          go_quiet ((go_at_call 54; exact Calls.quiet_of (HC.out _)))
          clear r1 r2 r3
          go_wp2
          go_ret2
          rw [HCL.out]
          exact ⟨rfl, B2.out.trans (below_drewN (HG.out.bel.mono B2.out.size) _)⟩
        | some p =>
          have hcl := HMD.out.last
          rw [hp] at hcl
          have HCL := Lib.hid hcl
          obtain ⟨pr, cr, hpr, hpl, hcall⟩ := pick_yes qb qa qc cb ca cc base a b wr (Q1.out.below HG.out.bel) (Q2.out.below HG.out.bel) (Q3.out.below HG.out.bel) l1 l2 l3 k1 k2 k3 o base.length x a.length y b.length (by omega) (by omega) (by omega) hp
          have HC := Lib.hid hcall
          have HPR := Lib.hid hpr
          clear hcl hp hcall hpr
          go_wp2
          go_quiet ((go_at_call 54; exact Calls.quiet_of (HC.out _)))
          clear r1 r2 r3
          have HG1 := Lib.hid (HG.out.drewN nq)
          have HPR1 : Hid (PtsAt (wr.drewN nq) pr p) := HPR.out.below (below_drewN (Below.refl _ _) nq)
          generalize wr.drewN nq = W1 at HG1 HPR1 ⊢
          clear HG HPR HC
          go_wp2_with (at_builtin; refine wpList_grow (by rfl) _ _ (by rfl) HG1.out HPR1.out (by rfl) (by rfl) (by omega) ?_; intro r2 av2 cv2 W2 hr2 hG2; have HG2 := Lib.hid hG2; clear hG2)
          have hl : r2.length ≤ 13 * (base.length + 1) := by rw [hr2.out]; simp; omega
          go_wp2
          go_roundw
          case rel => exact ⟨base.length + 1, base.length + 1, a.length + 1, b.length + 1, _, by omega, by go_num, by go_num, by go_num, by go_num, HG2.out, hl, by omega, by omega, by omega, fun h => by omega, fun _ => by rw [hr2.out]; exact HCL.out⟩
          case measure => simp [intOf]
      · have hm := HE.out (by omega)
        have HM2 := Lib.hid hm
        clear hm
        go_wp2
        go_ret2
        obtain ⟨a', cap', rfl, hR⟩ := HG.out.row B2.out
        rw [HM2.out]
        exact ⟨a', cap', rfl, hR, by omega⟩

set_option maxRecDepth 100000 in
set_option maxHeartbeats 2000000 in
theorem specSeqMerge_any (qb qa qc : Option Addr) (cb ca cc : Nat) (base a b : List (Int × Int)) (w : World) (h1 : PtsAt w qb base) (h2 : PtsAt w qa a) (h3 : PtsAt w qc b) (l1 : base.length ≤ 1048576) (l2 : a.length ≤ 1048576) (l3 : b.length ≤ 1048576) (k1 : base.length ≤ cb) (k2 : a.length ≤ ca) (k3 : b.length ≤ cc) :
    Calls Try.prog 22 #[.slice qb base.length cb, .slice qa a.length ca, .slice qc b.length cc] w (MergeAns w (mergedOf base a b)) := by
  have H1 := Lib.hid h1
  have H2 := Lib.hid h2
  have H3 := Lib.hid h3
  clear h1 h2 h3
  have hfb : fewB [base.length, a.length, b.length] = (fewB [base.length, a.length] && fewB [base.length, b.length]) := by
    simp only [fewB, List.all_cons, List.all_nil, Bool.and_true]
    cases decide (base.length ≤ 12) <;> simp
  cases hf1 : fewB [base.length, a.length] with
  | false =>
    have hfm : fewB [base.length, a.length, b.length] = false := by rw [hfb, hf1]; rfl
    rw [mergedOf_many hfm]
    have HF1 := Lib.hid hf1
    clear hf1 hfb hfm
    go_enter Try.func22, Try.ntmps22
    go_wp2_with fail
    refine (l5Few_any _ _ _ _ _ _ _ l1 l2).mono ?_
    rintro e w1 ⟨rfl, rfl⟩
    rw [HF1.out]
    go_wp2
    go_ret2
    exact ⟨_, _, rfl, PtsAt.nil _ _, fun i hi => absurd hi (Nat.not_lt_zero _), fun x h => by simp [blk] at h; simp; omega, (Below.refl _ _).alloc (Nat.le_refl _) _⟩
  | true =>
    cases hf2 : fewB [base.length, b.length] with
    | false =>
      have hfm : fewB [base.length, a.length, b.length] = false := by rw [hfb, hf1, hf2]; rfl
      rw [mergedOf_many hfm]
      have HF1 := Lib.hid hf1
      have HF2 := Lib.hid hf2
      clear hf1 hf2 hfb hfm
      go_enter Try.func22, Try.ntmps22
      go_wp2_with fail
      refine (l5Few_any _ _ _ _ _ _ _ l1 l2).mono ?_
      rintro e w1 ⟨rfl, rfl⟩
      rw [HF1.out]
      go_wp2_with fail
      refine (l5Few_any _ _ _ _ _ _ _ l1 l3).mono ?_
      rintro e w1 ⟨rfl, rfl⟩
      rw [HF2.out]
      go_wp2
      go_ret2
      exact ⟨_, _, rfl, PtsAt.nil _ _, fun i hi => absurd hi (Nat.not_lt_zero _), fun x h => by simp [blk] at h; simp; omega, (Below.refl _ _).alloc (Nat.le_refl _) _⟩
    | true =>
      have hfm : fewB [base.length, a.length, b.length] = true := by rw [hfb, hf1, hf2]; rfl
      rw [mergedOf_few hfm]
      have hl : base.length ≤ 12 ∧ a.length ≤ 12 ∧ b.length ≤ 12 := by simpa [fewB] using hfm
      obtain ⟨m1, m2, m3⟩ := hl
      have HF1 := Lib.hid hf1
      have HF2 := Lib.hid hf2
      clear hf1 hf2 hfb hfm
      go_enter Try.func22, Try.ntmps22
      go_wp2_with fail
      refine (l5Few_any _ _ _ _ _ _ _ l1 l2).mono ?_
      rintro e w1 ⟨rfl, rfl⟩
      rw [HF1.out]
      go_wp2_with fail
      refine (l5Few_any _ _ _ _ _ _ _ l1 l3).mono ?_
      rintro e w1 ⟨rfl, rfl⟩
      rw [HF2.out]
      go_wp2_with fail
      refine (l5Merge_few _ _ _ _ _ _ _ _ _ _ H1.out H2.out H3.out m1 m2 m3 k1 k2 k3).mono ?_
      cases hm : merged base a b with
      | none =>
        rintro e w1 ⟨rfl, hb⟩
        have HB := Lib.hid hb
        have hs := hb.size
        have HM := Lib.hid hm
        clear hb hm
        go_wp2
        go_ret2
        rw [HM.out]
        exact ⟨_, _, rfl, PtsAt.nil _ _, fun i hi => absurd hi (Nat.not_lt_zero _), fun x h => by simp [blk] at h; simp; omega, HB.out.alloc hs _⟩
      | some m =>
        rintro e w1 ⟨ar, cr, rfl, hR, hl⟩
        have HR := Lib.hid hR
        have hs := hR.bel.size
        have HM := Lib.hid hm
        clear hR hm
        go_wp2_with (at_builtin; refine wpList_grow (by rfl) _ _ (by rfl) (Grow.lit w1 _) (HR.out.pts.below ((Below.refl _ _).alloc (Nat.le_refl _) _)) (by rfl) (by rfl) (by simp; omega) ?_; intro r2 av2 cv2 W2 hr2 hG2; have HG2 := Lib.hid hG2; clear hG2)
        go_ret2
        rw [HM.out]
        obtain rfl : r2 = m := by rw [hr2.out]; rfl
        obtain ⟨a', cap', hv, hR2⟩ := HG2.out.row HR.out.bel
        cases hv
        exact ⟨av2, cv2, rfl, hR2⟩
end Go.Proofs.Ytaefibefagbheaa
