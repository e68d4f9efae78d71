/- Proved here: the functions that hold two changes, and two lists of changes, against each other answer whether they are the same in all parts; rows of at most 1,048,576. -/
import Derived.Test.YtccgbengfmlgbaaGreatWChange
import Derived.Test.YtccgbengfmlgbaaGreatWFeatEq
import Derived.StillTailTactics
namespace Go.Proofs.YtccgbengfmlgbaaGreat
set_option linter.unusedVariables false
open Go.ChangeShapes Go.WideShapes Go.ChangeAt Go.RowKit

/-- two things are one -/
def ftEq (f f' : Ft) : Bool := decide (f = f')
theorem featEq_ft (f f' : Ft) : featEq f.1 f'.1 f.2.1 f'.2.1 f.2.2.1 f'.2.2.1 f.2.2.2 f'.2.2.2 = ftEq f f' := by
  obtain ⟨a, b, c, d⟩ := f
  obtain ⟨a', b', c', d'⟩ := f'
  unfold featEq shEq ptsEq tgsEq ftEq
  by_cases h1 : a = a' <;> by_cases h2 : b = b' <;> by_cases h3 : c = c' <;> by_cases h4 : d = d' <;> simp [h1, h2, h3, h4]

instance : DecidableEq Ft := instDecidableEqProd
instance decBF : DecidableEq (Bool × Ft) := instDecidableEqProd
instance decFBF : DecidableEq (Ft × Bool × Ft) := instDecidableEqProd
instance decBFBF : DecidableEq (Bool × Ft × Bool × Ft) := instDecidableEqProd
instance decCh : DecidableEq Ch := instDecidableEqProd

/-- two changes are one -/
def chEq (c c' : Ch) : Bool := decide (c = c')
theorem chEq_of {i i' : ByteArray} {h h' : Bool} {f f' : Ft} {s s' : Bool} {g g' : Ft} (h1 : i = i') (h2 : h = h') (h3 : ftEq f f' = true) (h4 : s = s') (h5 : ftEq g g' = true) : chEq (i, h, f, s, g) (i', h', f', s', g') = true := by
  simp only [ftEq, decide_eq_true_eq] at h3 h5
  subst h1 h2 h3 h4 h5
  simp [chEq]
theorem chEq_no {i i' : ByteArray} {h h' : Bool} {f f' : Ft} {s s' : Bool} {g g' : Ft} (x : i ≠ i' ∨ h ≠ h' ∨ ftEq f f' = false ∨ s ≠ s' ∨ ftEq g g' = false) : chEq (i, h, f, s, g) (i', h', f', s', g') = false := by
  simp only [ftEq, decide_eq_false_iff_not] at x
  unfold chEq
  rw [decide_eq_false_iff_not]
  intro e
  simp only [Prod.mk.injEq] at e
  obtain ⟨e1, e2, e3, e4, e5⟩ := e
  rcases x with x | x | x | x | x
  · exact x e1
  · exact x e2
  · exact x (by rw [e3])
  · exact x e4
  · exact x (by rw [e5])

set_option maxRecDepth 100000 in
set_option maxHeartbeats 8000000 in
theorem eqChange_any (i : ByteArray) (h : Bool) (f : Ft) (s : Bool) (g : Ft) (i' : ByteArray) (h' : Bool) (f' : Ft) (s' : Bool) (g' : Ft) (pa : Option Addr) (pc : Nat) (ta : Option Addr) (tc : Nat) (qa : Option Addr) (qc : Nat) (ua : Option Addr) (uc : Nat) (pa' : Option Addr) (pc' : Nat) (ta' : Option Addr) (tc' : Nat) (qa' : Option Addr) (qc' : Nat) (ua' : Option Addr) (uc' : Nat) (w : World) (hp : PtsAt w pa f.2.2.1) (hp' : PtsAt w pa' f'.2.2.1) (ht : TagsAt w ta f.2.2.2) (ht' : TagsAt w ta' f'.2.2.2) (hq : PtsAt w qa g.2.2.1) (hq' : PtsAt w qa' g'.2.2.1) (hu : TagsAt w ua g.2.2.2) (hu' : TagsAt w ua' g'.2.2.2) (m0 : f.2.2.1.length ≤ 1048576) (m1 : f'.2.2.1.length ≤ 1048576) (m2 : f.2.2.2.length ≤ 1048576) (m3 : f'.2.2.2.length ≤ 1048576) (m4 : g.2.2.1.length ≤ 1048576) (m5 : g'.2.2.1.length ≤ 1048576) (m6 : g.2.2.2.length ≤ 1048576) (m7 : g'.2.2.2.length ≤ 1048576) :
    Calls Tryz.prog 67 #[.agg #[.string i, .bool h, .string f.1, .int .i64 f.2.1, .slice pa f.2.2.1.length pc, .slice ta f.2.2.2.length tc, .bool s, .string g.1, .int .i64 g.2.1, .slice qa g.2.2.1.length qc, .slice ua g.2.2.2.length uc], .agg #[.string i', .bool h', .string f'.1, .int .i64 f'.2.1, .slice pa' f'.2.2.1.length pc', .slice ta' f'.2.2.2.length tc', .bool s', .string g'.1, .int .i64 g'.2.1, .slice qa' g'.2.2.1.length qc', .slice ua' g'.2.2.2.length uc']] w fun e w' => e = .returned (.bool (chEq (i, h, f, s, g) (i', h', f', s', g'))) ∧ Below w.heap.size w w' := by
  have HP := Lib.hid hp
  have HP' := Lib.hid hp'
  have HT := Lib.hid ht
  have HT' := Lib.hid ht'
  have HQ := Lib.hid hq
  have HQ' := Lib.hid hq'
  have HU := Lib.hid hu
  have HU' := Lib.hid hu'
  clear hp hp' ht ht' hq hq' hu hu'
  have B0 : Hid (∀ o o', Below w.heap.size w ((w.alloc o).alloc o')) := fun o o' => ((Below.refl _ _).alloc (Nat.le_refl _) _).alloc (by simp) _
  have e1 := bytes_beq i i'
  by_cases h1 : i = i'
  · rw [decide_eq_true h1] at e1
    have H1 := Lib.hid h1
    clear h1
    by_cases h2 : h = h'
    · have e2 : (h != h') = false := by rw [h2]; simp
      have e2' : (h == h') = true := by rw [h2]; simp
      have H2 := Lib.hid h2
      clear h2
      go_enter Tryz.func67, Tryz.ntmps67
      go_wp2_with fail
      refine (eqFeat_any _ _ _ _ _ _ _ _ _ _ _ _ _ _ _ _ _ (HP.out.below (B0.out _ _)) (HP'.out.below (B0.out _ _)) (HT.out.below (B0.out _ _)) (HT'.out.below (B0.out _ _)) m0 m1 m2 m3).mono ?_
      rintro e w1 ⟨rfl, hb1⟩
      have c6 := cell_later hb1 (a := ⟨w.heap.size, 6, none⟩) (v := .bool s) (by simp [go_sem])
      have d6 := cell_later hb1 (a := ⟨w.heap.size + 1, 6, none⟩) (v := .bool s') (by simp [go_sem])
      have c7 := cell_later hb1 (a := ⟨w.heap.size, 7, none⟩) (v := .string g.1) (by simp [go_sem])
      have d7 := cell_later hb1 (a := ⟨w.heap.size + 1, 7, none⟩) (v := .string g'.1) (by simp [go_sem])
      have c8 := cell_later hb1 (a := ⟨w.heap.size, 8, none⟩) (v := .int .i64 g.2.1) (by simp [go_sem])
      have d8 := cell_later hb1 (a := ⟨w.heap.size + 1, 8, none⟩) (v := .int .i64 g'.2.1) (by simp [go_sem])
      have c9 := cell_later hb1 (a := ⟨w.heap.size, 9, none⟩) (v := .slice qa g.2.2.1.length qc) (by simp [go_sem])
      have d9 := cell_later hb1 (a := ⟨w.heap.size + 1, 9, none⟩) (v := .slice qa' g'.2.2.1.length qc') (by simp [go_sem])
      have c10 := cell_later hb1 (a := ⟨w.heap.size, 10, none⟩) (v := .slice ua g.2.2.2.length uc) (by simp [go_sem])
      have d10 := cell_later hb1 (a := ⟨w.heap.size + 1, 10, none⟩) (v := .slice ua' g'.2.2.2.length uc') (by simp [go_sem])
      have B1 : Hid (Below w.heap.size w w1) := (B0.out _ _).trans (hb1.mono (by simp; omega))
      clear hb1
      rw [featEq_ft]
      by_cases h3 : ftEq f f' = true
      · rw [h3]
        have H3 := Lib.hid h3
        clear h3
        by_cases h4 : s = s'
        · have e4 : (s != s') = false := by rw [h4]; simp
          have e4' : (s == s') = true := by rw [h4]; simp
          have H4 := Lib.hid h4
          clear h4
          go_wp2_with fail
          refine (eqFeat_any _ _ _ _ _ _ _ _ _ _ _ _ _ _ _ _ _ (HQ.out.below B1.out) (HQ'.out.below B1.out) (HU.out.below B1.out) (HU'.out.below B1.out) m4 m5 m6 m7).mono ?_
          rintro e w2 ⟨rfl, hb2⟩
          have B2 : Hid (Below w.heap.size w w2) := B1.out.trans (hb2.mono B1.out.size)
          clear hb2 c6 d6 c7 d7 c8 d8 c9 d9 c10 d10 e1 e2 e2' e4 e4'
          rw [featEq_ft]
          by_cases h5 : ftEq g g' = true
          · have H5 := Lib.hid (chEq_of H1.out H2.out H3.out H4.out h5)
            rw [h5]
            clear h5
            go_wp2
            go_ret
            exact ⟨by rw [H5.out]; rfl, B2.out⟩
          · have h5' : ftEq g g' = false := by simpa using h5
            have H5 := Lib.hid (chEq_no (i := i) (i' := i') (h := h) (h' := h') (f := f) (f' := f') (s := s) (s' := s') (.inr (.inr (.inr (.inr h5')))))
            rw [h5']
            clear h5 h5'
            go_wp2
            go_ret
            exact ⟨by rw [H5.out]; rfl, B2.out⟩
        · have e4 : (s != s') = true := by simpa using h4
          have e4' : (s == s') = false := by simpa using h4
          have H4 := Lib.hid (chEq_no (i := i) (i' := i') (h := h) (h' := h') (f := f) (f' := f') (g := g) (g' := g') (.inr (.inr (.inr (.inl h4)))))
          clear h4
          go_wp2
          go_ret
          exact ⟨by rw [H4.out]; rfl, B1.out⟩
      · have h3' : ftEq f f' = false := by simpa using h3
        have H3 := Lib.hid (chEq_no (i := i) (i' := i') (h := h) (h' := h') (s := s) (s' := s') (g := g) (g' := g') (.inr (.inr (.inl h3'))))
        rw [h3']
        clear h3 h3'
        go_wp2
        go_ret
        exact ⟨by rw [H3.out]; rfl, B1.out⟩
    · have e2 : (h != h') = true := by simpa using h2
      have e2' : (h == h') = false := by simpa using h2
      have H2 := Lib.hid (chEq_no (i := i) (i' := i') (f := f) (f' := f') (s := s) (s' := s') (g := g) (g' := g') (.inr (.inl h2)))
      clear h2
      go_enter Tryz.func67, Tryz.ntmps67
      go_wp2
      go_ret
      exact ⟨by rw [H2.out]; rfl, B0.out _ _⟩
  · rw [decide_eq_false h1] at e1
    have H1 := Lib.hid (chEq_no (h := h) (h' := h') (f := f) (f' := f') (s := s) (s' := s') (g := g) (g' := g') (.inl h1))
    clear h1
    go_enter Tryz.func67, Tryz.ntmps67
    go_wp2
    go_ret
    exact ⟨by rw [H1.out]; rfl, B0.out _ _⟩

/-- two lists of changes are one -/
def csEq (ds es : List Ch) : Bool := decide (ds = es)
theorem csEq_of {ds es : List Ch} (hl : ds.length = es.length) (h : ∀ j, j < ds.length → cg ds j = cg es j) : csEq ds es = true := by
  unfold csEq
  rw [decide_eq_true_iff]
  refine List.ext_getElem hl fun i h1 h2 => ?_
  have := h i h1
  rwa [cg_get h1, cg_get h2] at this
theorem csEq_ne {ds es : List Ch} {j : Nat} (h : ¬ cg ds j = cg es j) : csEq ds es = false := by
  unfold csEq
  rw [decide_eq_false_iff_not]
  rintro rfl
  exact h rfl
theorem csEq_len {ds es : List Ch} (h : ds.length ≠ es.length) : csEq ds es = false := by
  unfold csEq
  rw [decide_eq_false_iff_not]
  rintro rfl
  exact h rfl
theorem chEq_cg (ds es : List Ch) (k : Nat) : chEq (cid ds k, chd ds k, cwf ds k, chs ds k, cnf ds k) (cid es k, chd es k, cwf es k, chs es k, cnf es k) = decide (cg ds k = cg es k) := rfl

set_option maxRecDepth 100000 in
set_option maxHeartbeats 8000000 in
theorem eqChangeS_any (a a' : Option Addr) (cap cap' : Nat) (ds es : List Ch) (w : World) (hp : ChangesAt w a ds) (hq : ChangesAt w a' es) (hl : ds.length ≤ 1048576) (hl' : es.length ≤ 1048576) (hs : ChLen ds 1048576) (hs' : ChLen es 1048576) :
    Calls Tryz.prog 29 #[.slice a ds.length cap, .slice a' es.length cap'] w fun e w' => e = .returned (.bool (csEq ds es)) ∧ Below w.heap.size w w' := by
  have HP := Lib.hid hp
  have HQ := Lib.hid hq
  have HS := Lib.hid hs
  have HS' := Lib.hid hs'
  clear hp hq hs hs'
  by_cases he : ds.length = es.length
  · have HE := Lib.hid he
    rw [← he]
    have h1 : ((ds.length : Int) != (ds.length : Int)) = false := by simp
    clear he
    go_enter Tryz.func29, Tryz.ntmps29
    go_wp2
    go_loopw [5] (fun i wr => ∃ k : Nat, k ≤ ds.length ∧ i = .int .i64 k ∧ Below w.heap.size w wr ∧ ∀ j, j < k → cg ds j = cg es j) (fun i _ => ds.length - (intOf i).toNat)
    case atStart => exact ⟨0, Nat.zero_le _, rfl, Below.refl _ _, fun j h => absurd h (Nat.not_lt_zero _)⟩
    case round =>
      obtain ⟨k, hk, rfl, hbel, hall⟩ := hrel
      have HA := Lib.hid hall
      have HB := Lib.hid hbel
      have hsz := hbel.size
      clear hall
      by_cases hlt : k < ds.length
      · obtain ⟨b, off, pa, pc, ta, tc, qa, qc, ua, uc, rfl, hx⟩ := HP.out k hlt
        obtain ⟨hb, c0, c1, c2, c3, c4, c5, c6, c7, c8, c9, c10, hpp, htt, hqq, huu⟩ := hx.below hbel
        obtain ⟨b', off', pa', pc', ta', tc', qa', qc', ua', uc', rfl, hx'⟩ := HQ.out k (by have := HE.out; omega)
        obtain ⟨hb', d0, d1, d2, d3, d4, d5, d6, d7, d8, d9, d10, hpp', htt', hqq', huu'⟩ := hx'.below hbel
        obtain ⟨_, ⟨_, l1, l2, _⟩, ⟨_, l3, l4, _⟩⟩ := HS.out k hlt
        obtain ⟨_, ⟨_, n1, n2, _⟩, ⟨_, n3, n4, _⟩⟩ := HS'.out k (by have := HE.out; omega)
        have dr : Below wr.heap.size wr wr.drew := (Below.refl _ _).drew
        have D1 := Lib.hid (hpp.below dr)
        have D2 := Lib.hid (htt.below dr)
        have D3 := Lib.hid (hqq.below dr)
        have D4 := Lib.hid (huu.below dr)
        have E1 := Lib.hid (hpp'.below dr)
        have E2 := Lib.hid (htt'.below dr)
        have E3 := Lib.hid (hqq'.below dr)
        have E4 := Lib.hid (huu'.below dr)
        clear hbel hpp htt hqq huu hpp' htt' hqq' huu' hx hx' dr
        have hfe := chEq_cg ds es k
        by_cases hs : cg ds k = cg es k
        · rw [decide_eq_true hs] at hfe
          have HG := Lib.hid hs
          clear hs
          go_wp2
          go_still_tail 8, (by kernel_rfl)
          go_wp2_with fail
          refine (eqChange_any _ _ _ _ _ _ _ _ _ _ _ _ _ _ _ _ _ _ _ _ _ _ _ _ _ _ _ D1.out E1.out D2.out E2.out D3.out E3.out D4.out E4.out (by omega) (by omega) (by omega) (by omega) (by omega) (by omega) (by omega) (by omega)).mono ?_
          rintro e w1 ⟨rfl, hb2⟩
          have HB2 := Lib.hid hb2
          clear hb2
          go_wp2
          go_roundw
          case rel => exact ⟨k + 1, by omega, by go_num, HB.out.drew.trans (HB2.out.mono hsz), fun j hj => by by_cases e : j = k; (subst e; exact HG.out); exact HA.out j (by omega)⟩
          case measure => simp [intOf]; omega
        · rw [decide_eq_false hs] at hfe
          have HG := Lib.hid (csEq_ne hs)
          clear hs
          go_wp2
          go_still_tail 8, (by kernel_rfl)
          go_wp2_with fail
          refine (eqChange_any _ _ _ _ _ _ _ _ _ _ _ _ _ _ _ _ _ _ _ _ _ _ _ _ _ _ _ D1.out E1.out D2.out E2.out D3.out E3.out D4.out E4.out (by omega) (by omega) (by omega) (by omega) (by omega) (by omega) (by omega) (by omega)).mono ?_
          rintro e w1 ⟨rfl, hb2⟩
          have HB2 := Lib.hid hb2
          clear hb2
          go_wp2
          go_ret
          exact ⟨by rw [HG.out]; rfl, HB.out.drew.trans (HB2.out.mono hsz)⟩
      · obtain rfl : k = ds.length := by omega
        have HT := Lib.hid (csEq_of HE.out HA.out)
        clear hbel
        go_wp2
        go_ret
        exact ⟨by rw [HT.out]; rfl, HB.out⟩
  · have h1 : ((ds.length : Int) != (es.length : Int)) = true := by simp; omega
    have HT := Lib.hid (csEq_len he)
    clear he
    go_enter Tryz.func29, Tryz.ntmps29
    go_wp2
    go_ret
    exact ⟨by rw [HT.out]; rfl, Below.refl _ _⟩
end Go.Proofs.YtccgbengfmlgbaaGreat
