/- Proved here: what making a branch answers, by the model; rooms of at most 1,048,576 parts each. -/
import Derived.Test.YtdfadpejddhbkaaGreatWBranchVC
namespace Go.Proofs.YtdfadpejddhbkaaGreat
set_option linter.unusedVariables false
open Go.ChangeShapes Go.WideShapes Go.ChangeAt Go.RowKit Go.Deep

set_option maxRecDepth 100000 in
set_option maxHeartbeats 8000000 in
theorem specRepoBranch_any (a b : Option Addr) (ca cb : Nat) (cs : List Cm) (hs : List Hd) (x y : ByteArray) (w : World) (hr : RepoAt w a b cs hs) (hl : RpLen cs hs 1048576) (hx : x.size ≤ 1048576) :
    Calls Tryz.prog 49 #[.agg #[.slice a cs.length ca, .slice b hs.length cb], .string x, .string y] w (RoomAns KS (branchV cs hs x y) w) := by
  have HR := Lib.hid hr
  have HL := Lib.hid hl
  have l1 := hl.cl
  have l2 := hl.hl
  clear hr hl
  go_enter Tryz.func49, Tryz.ntmps49
  go_upto_region 1 with (fail)
  obtain ⟨W, hW⟩ : ∃ W, W = ((w.alloc (.cells #[.slice a cs.length ca, .slice b hs.length cb] 46)).alloc (.cells #[.slice none 0 0, .slice none 0 0] 46)) := ⟨_, rfl⟩
  rw [← hW]
  have B0 : Hid (Below w.heap.size w W) := by rw [hW]; exact ((Below.refl _ _).alloc (Nat.le_refl _) _).alloc (by simp) _
  have KA : Hid (BK W w.heap.size #[.slice a cs.length ca, .slice b hs.length cb] 46) := by rw [hW]; exact (BK.new _ _ _).alloc _
  have KB : Hid (BK W (w.heap.size + 1) #[.slice none 0 0, .slice none 0 0] 46) := by rw [hW]; exact BK.at _ _ _ (by simp)
  have z1 : w.heap.size + 1 < W.heap.size := by rw [hW]; simp
  have z0 : w.heap.size < W.heap.size := by omega
  clear hW
  obtain ⟨a0, a1, _, _⟩ := KA.out.two
  go_wp2_with fail
  refine (specRepoOk_any _ _ _ _ _ _ _ (HR.out.below B0.out) HL.out).mono ?_
  rintro e w1 ⟨rfl, hb1⟩
  replace KA := Lib.hid (KA.out.later hb1)
  replace KB := Lib.hid (KB.out.later hb1)
  have B1 : Hid (Below w.heap.size w w1) := B0.out.trans (hb1.mono B0.out.size)
  replace z1 := KB.out.lt
  replace z0 := KA.out.lt
  clear hb1 B0 a0 a1
  have formEnd : Hid (∀ w1', BK w1' (w.heap.size + 1) #[.slice none 0 0, .slice none 0 0] 46 → Below w.heap.size w w1' → branchV cs hs x y = ([], [], 4) → RoomAns KS (branchV cs hs x y) w (.returned (.tuple #[.agg #[.slice none 0 0, .slice none 0 0], .int .i64 4])) ((w1'.setCell ⟨w.heap.size + 1, 0, none⟩ (.slice none 0 0)).setCell ⟨w.heap.size + 1, 1, none⟩ (.slice none 0 0))) := fun w1' hk hb he => by
    have hz := hk.lt
    obtain ⟨q1, q2⟩ := room_fin KS.law (Room.start KS w1' w1'.heap.size (Nat.le_refl _) (fun _ => (.slice none 0 0, .slice none 0 0, fun _ => ((none, 0), (none, 0)))) (fun _ _ => False)) hb (r := w.heap.size + 1) (x0 := .slice none 0 0) (x1 := .slice none 0 0) (by omega) (by omega)
    rw [he]
    exact ⟨_, _, _, _, rfl, q1, q2⟩
  by_cases hg : RepoGood cs hs
  · rw [repoOk_true hg]
    have HG := Lib.hid hg
    clear hg
    go_wp2_with fail
    refine (specWordOk_any x _ hx).mono ?_
    rintro e w1' ⟨rfl, hb1⟩
    obtain rfl : w1 = w1' := hb1.symm
    by_cases hw : wordOk x = false
    · have hw' := hw
      rw [hw']
      have HE := Lib.hid (branchV_form (cs := cs) (hs := hs) (y := y) (.inr hw'))
      clear hw hw'
      obtain ⟨b0, b1, b2, b3⟩ := KB.out.two
      go_wp2
      have KF := (KB.out.set 0 (.slice none 0 0)).set 1 (.slice none 0 0)
      obtain ⟨r0, r1, _, _⟩ := BK.two KF
      refine bodyPost_ret (v := .tuple #[.agg #[.slice none 0 0, .slice none 0 0], .int .i64 4]) (by simp [results, Tryz.results49, go_sem, r0, r1]) rfl ?_
      exact formEnd.out _ KB.out B1.out HE.out
    have hwt : wordOk x = true := by simpa using hw
    rw [hwt]
    have HWO := Lib.hid hwt
    clear hw hwt
    obtain ⟨a0, a1, _, _⟩ := KA.out.two
    go_wp2_with fail
    clear a0 a1
    refine (l7Copy_any _ _ _ _ _ _ _ (HR.out.below B1.out) HL.out HG.out.few HG.out.pos).mono ?_
    rintro e w2 ⟨cv, hv, ad, S, rfl, hRm, hb2⟩
    obtain ⟨pa, pc, pb, pd, rfl, rfl, _, _, _⟩ := hRm.form KS.law
    have RB := Lib.hid hRm.blocks
    have RM := Lib.hid hRm
    replace KA := Lib.hid (KA.out.later hb2)
    replace KB := Lib.hid (KB.out.later hb2)
    have B2 : Hid (Below w.heap.size w w2) := B1.out.trans (hb2.mono B1.out.size)
    have z12 := hb2.size
    clear hb2 hRm B1
    go_upto_region 4 with (fail)
    obtain ⟨W3, hW3⟩ : ∃ W3, W3 = w2.alloc (.cells #[.slice pa cs.length pc, .slice pb hs.length pd] 46) := ⟨_, rfl⟩
    rw [← hW3]
    have A3 : Hid (Below w2.heap.size w2 W3) := by rw [hW3]; exact (Below.refl _ _).alloc (Nat.le_refl _) _
    have KC : Hid (BK W3 w2.heap.size #[.slice pa cs.length pc, .slice pb hs.length pd] 46) := by rw [hW3]; exact BK.new _ _ _
    replace KA := Lib.hid (KA.out.later A3.out)
    replace KB := Lib.hid (KB.out.later A3.out)
    replace RM := Lib.hid (RM.out.below KS.law A3.out)
    have B3 : Hid (Below w.heap.size w W3) := B2.out.trans (A3.out.mono B2.out.size)
    have y0 := KA.out.lt
    have y1 := KB.out.lt
    have y2 := KC.out.lt
    clear hW3 A3 B2
    obtain ⟨a0, a1, _, _⟩ := KA.out.two
    go_wp2_with fail
    clear a0 a1
    refine (l7Head_any _ _ _ _ _ _ _ _ (HR.out.hds.below B3.out) (by omega)).mono ?_
    rintro e w4 ⟨⟨r, rfl, hfr⟩, hb4⟩
    have FL := Lib.hid (first_last HG.out.apart hfr)
    replace KA := Lib.hid (KA.out.later hb4)
    replace KB := Lib.hid (KB.out.later hb4)
    replace KC := Lib.hid (KC.out.later hb4)
    replace RM := Lib.hid (RM.out.below KS.law hb4)
    have B4 : Hid (Below w.heap.size w w4) := B3.out.trans (hb4.mono B3.out.size)
    replace y0 := KA.out.lt
    replace y1 := KB.out.lt
    replace y2 := KC.out.lt
    clear hb4 hfr B3
    rcases FL.out with ⟨rfl, hq⟩ | ⟨j, rfl, hj, hq⟩
    · have HE := Lib.hid (branchV_none HG.out HWO.out hq)
      clear hq FL
      obtain ⟨b0, b1, b2, b3⟩ := KB.out.two
      obtain ⟨c0, c1, _, _⟩ := KC.out.two
      go_wp2
      have KF := (KB.out.set 0 (.slice pa cs.length pc)).set 1 (.slice pb hs.length pd)
      obtain ⟨r0, r1, _, _⟩ := BK.two KF
      refine bodyPost_ret (v := .tuple #[.agg #[.slice pa cs.length pc, .slice pb hs.length pd], .int .i64 1]) (by simp [results, Tryz.results49, go_sem, r0, r1]) rfl ?_
      obtain ⟨q1, q2⟩ := room_fin KS.law RM.out B4.out (r := w.heap.size + 1) (x0 := .slice pa cs.length pc) (x1 := .slice pb hs.length pd) (by omega) (by omega)
      rw [HE.out]
      exact ⟨_, _, _, _, rfl, q1, q2⟩
    · clear FL
      have hj0 : ¬ (j : Int) < 0 := by omega
      have HQ := Lib.hid hq
      clear hq
      obtain ⟨a0, a1, _, _⟩ := KA.out.two
      go_wp2_with fail
      clear a0 a1
      refine (l7Head_any _ _ _ _ _ _ _ _ (HR.out.hds.below B4.out) (by omega)).mono ?_
      rintro e w5 ⟨⟨r2, rfl, hfr2⟩, hb5⟩
      have FL2 := Lib.hid (first_last HG.out.apart hfr2)
      replace KA := Lib.hid (KA.out.later hb5)
      replace KB := Lib.hid (KB.out.later hb5)
      replace KC := Lib.hid (KC.out.later hb5)
      replace RM := Lib.hid (RM.out.below KS.law hb5)
      have B5 : Hid (Below w.heap.size w w5) := B4.out.trans (hb5.mono B4.out.size)
      replace y0 := KA.out.lt
      replace y1 := KB.out.lt
      replace y2 := KC.out.lt
      clear hb5 hfr2 B4
      have fullEnd : Hid (branchV cs hs x y = (cs, hs, 2) → RoomAns KS (branchV cs hs x y) w (.returned (.tuple #[.agg #[.slice pa cs.length pc, .slice pb hs.length pd], .int .i64 2])) ((w5.setCell ⟨w.heap.size + 1, 0, none⟩ (.slice pa cs.length pc)).setCell ⟨w.heap.size + 1, 1, none⟩ (.slice pb hs.length pd))) := fun he => by
        obtain ⟨q1, q2⟩ := room_fin KS.law RM.out B5.out (r := w.heap.size + 1) (x0 := .slice pa cs.length pc) (x1 := .slice pb hs.length pd) (by omega) (by omega)
        rw [he]
        exact ⟨_, _, _, _, rfl, q1, q2⟩
      rcases FL2.out with ⟨rfl, hq2⟩ | ⟨j2, rfl, hj2, hq2⟩
      · by_cases h1 : hs.length = 4
        · have HE := Lib.hid (branchV_full HG.out HWO.out HQ.out (.inr h1))
          have hb1 : (hs.length : Int) ≥ 4 := by omega
          clear hq2 h1 FL2
          obtain ⟨a0, a1, _, _⟩ := KA.out.two
          obtain ⟨b0, b1, b2, b3⟩ := KB.out.two
          obtain ⟨c0, c1, _, _⟩ := KC.out.two
          go_wp2
          have KF := (KB.out.set 0 (.slice pa cs.length pc)).set 1 (.slice pb hs.length pd)
          obtain ⟨r0, r1, _, _⟩ := BK.two KF
          refine bodyPost_ret (v := .tuple #[.agg #[.slice pa cs.length pc, .slice pb hs.length pd], .int .i64 2]) (by simp [results, Tryz.results49, go_sem, r0, r1]) rfl ?_
          exact fullEnd.out HE.out
        · have HE := Lib.hid (branchV_fine HG.out HWO.out HQ.out (by simp [hq2, h1]))
          have hle4 : hs.length ≤ 4 := HG.out.h2
          have hb1 : ¬ (hs.length : Int) ≥ 4 := by omega
          clear hq2 h1 FL2 fullEnd
          obtain ⟨hb', off, e0, hlt', k1, k2⟩ := HR.out.hds.below B5.out j hj
          subst e0
          obtain ⟨a0, a1, _, _⟩ := KA.out.two
          obtain ⟨b0, b1, b2, b3⟩ := KB.out.two
          obtain ⟨c0, c1, c2, c3⟩ := KC.out.two
          have hx4 : ∀ z, (Value.slice pb hs.length pd).ownBlock = some z → w1.heap.size ≤ z ∧ z < w2.heap.size := fun z hz => RB.out z (.inr hz)
          have n3 : Hid (¬ (Value.slice pb hs.length pd).ownBlock = some w2.heap.size) := fun e => by have := (hx4 _ e).2; omega
          have HX4 := Lib.hid hx4
          have AL : Hid (∀ o, Below w5.heap.size w5 (w5.alloc o)) := fun o => (Below.refl _ _).alloc (Nat.le_refl _) _
          have hlen1 : hs.length + 1 ≤ 1000000 := by omega
          have HLen1 := Lib.hid hlen1
          clear hx4 k1 hlen1
          go_upto_region 9 with (fail)
          go_region_law (first
            | (refine step_moreH (lo := w1.heap.size) (p := [(x, hda hs j)]) (by rfl) _ _ (by rfl) (RM.out.hds.below (by first | exact (AL.out _).drew | exact (drew_below w5).trans ((Below.refl _ _).alloc (Nat.le_refl _) _))) (by first | exact (head_one w5 x (hda hs j) 115).below (drew_below _) | exact head_one w5.drew x (hda hs j) 115) (by simp) (by rfl) (by rfl) (by simpa using HLen1.out) ?_; intro gg cap' wa hgrow hG hat; have zz := (hgrow.size); have g1 : wa.cell? ⟨w2.heap.size, 1, none⟩ = some (.slice pb hs.length pd) := (hgrow.cell_far ⟨w2.heap.size, 1, none⟩ (by simp [World.drew]; omega) (fun e => n3.out e.symm)).trans (cell_later (show Below w5.heap.size w5 _ from by first | exact (AL.out _).drew | exact (drew_below w5).trans ((Below.refl _ _).alloc (Nat.le_refl _) _)) c1); have g2 : wa.frozen? ⟨w2.heap.size, 1, none⟩ = false := (hgrow.frozen_far ⟨w2.heap.size, 1, none⟩ (by simp [World.drew]; omega) (fun e => n3.out e.symm)).trans ((Below.frozen (p := ⟨w2.heap.size, 1, none⟩) (show Below w5.heap.size w5 _ from by first | exact (AL.out _).drew | exact (drew_below w5).trans ((Below.refl _ _).alloc (Nat.le_refl _) _)) y2).trans c3); have NG := Lib.hid hG; have GR := Lib.hid hgrow; have AT := Lib.hid hat; clear hG hgrow hat)
            | fail)
          all_goals
            obtain ⟨RM6, T6, ha6⟩ := RM.out.pushH KS.law (by first | exact (AL.out _).drew | exact (drew_below w5).trans ((Below.refl _ _).alloc (Nat.le_refl _) _)) GR.out NG.out AT.out
            have n2 : ¬ (Value.slice pb hs.length pd).ownBlock = some (w.heap.size + 1) := fun e => by have := (HX4.out _ e).1; omega
            have KB6 : Hid (BK wa (w.heap.size + 1) #[.slice none 0 0, .slice none 0 0] 46) := (T6.block _ KB.out.lt n2).trans KB.out
            have KC6 : Hid (BK wa w2.heap.size #[.slice pa cs.length pc, .slice pb hs.length pd] 46) := (T6.block _ KC.out.lt n3.out).trans KC.out
            have B6 : Hid (Below w.heap.size w wa) := B5.out.trans (T6.below B5.out.size fun z hz => by have := (HX4.out _ hz).1; omega)
            have RB6 : Hid (∀ z, inRoom (.slice pa cs.length pc) (.slice (some ⟨gg, 0, none⟩) (hs.length + 1) cap') cs.length S z → z ≠ w2.heap.size) := fun z hz e => hz.elim (fun h => by have := (RB.out z (.inl h)).2; omega) fun h => by
              obtain rfl : gg = z := by simpa [Value.ownBlock] using h
              rcases ha6 with q | q
              · have := (HX4.out _ q).2; omega
              · omega
            have R6 := Lib.hid RM6
            have y5 := KC6.out.lt
            have y6 := KB6.out.lt
            clear T6 ha6 n2 RM6 g1 g2 c0 c1 c2 c3 b0 b1 b2 b3 a0 a1 k2
            obtain ⟨b0, b1, b2, b3⟩ := KB6.out.two
            obtain ⟨c0, c1, c2, c3⟩ := KC6.out.two
            go_wp2
            have T7 : Turned wa (wa.setCell ⟨w2.heap.size, 1, none⟩ (.slice (some ⟨gg, 0, none⟩) (hs.length + 1) cap')) (fun z => z = w2.heap.size) := Turned.of_set _ _ _ rfl
            have RM7 := R6.out.turned KS.law T7 fun z hz e => RB6.out z hz e
            have B7 := B6.out.setCell (p := ⟨w2.heap.size, 1, none⟩) (by show w.heap.size ≤ w2.heap.size; omega) (.slice (some ⟨gg, 0, none⟩) (hs.length + 1) cap')
            have KF := ((KB6.out.setOther (c := w2.heap.size) 1 (.slice (some ⟨gg, 0, none⟩) (hs.length + 1) cap') (by omega)).set 0 (.slice pa cs.length pc)).set 1 (.slice (some ⟨gg, 0, none⟩) (hs.length + 1) cap')
            obtain ⟨r0, r1, _, _⟩ := BK.two KF
            refine bodyPost_ret (v := .tuple #[.agg #[.slice pa cs.length pc, .slice (some ⟨gg, 0, none⟩) (hs.length + 1) cap'], .int .i64 0]) (by simp [results, Tryz.results49, go_sem, r0, r1]) rfl ?_
            obtain ⟨q1, q2⟩ := room_fin KS.law RM7 B7 (r := w.heap.size + 1) (x0 := .slice pa cs.length pc) (x1 := .slice (some ⟨gg, 0, none⟩) (hs.length + 1) cap') (by omega) (by omega)
            rw [HE.out]
            exact ⟨_, _, _, _, rfl, q1, q2⟩
      · have HE := Lib.hid (branchV_full HG.out HWO.out HQ.out (.inl (by rw [hq2]; rfl)))
        have hj20 : (j2 : Int) ≥ 0 := by omega
        clear hq2 FL2
        obtain ⟨a0, a1, _, _⟩ := KA.out.two
        obtain ⟨b0, b1, b2, b3⟩ := KB.out.two
        obtain ⟨c0, c1, _, _⟩ := KC.out.two
        go_wp2
        have KF := (KB.out.set 0 (.slice pa cs.length pc)).set 1 (.slice pb hs.length pd)
        obtain ⟨r0, r1, _, _⟩ := BK.two KF
        refine bodyPost_ret (v := .tuple #[.agg #[.slice pa cs.length pc, .slice pb hs.length pd], .int .i64 2]) (by simp [results, Tryz.results49, go_sem, r0, r1]) rfl ?_
        exact fullEnd.out HE.out
  · rw [repoOk_false hg]
    have HE := Lib.hid (branchV_form (cs := cs) (hs := hs) (x := x) (y := y) (.inl (repoOk_false hg)))
    clear hg
    obtain ⟨b0, b1, b2, b3⟩ := KB.out.two
    go_wp2
    have KF := (KB.out.set 0 (.slice none 0 0)).set 1 (.slice none 0 0)
    obtain ⟨r0, r1, _, _⟩ := BK.two KF
    refine bodyPost_ret (v := .tuple #[.agg #[.slice none 0 0, .slice none 0 0], .int .i64 4]) (by simp [results, Tryz.results49, go_sem, r0, r1]) rfl ?_
    exact formEnd.out _ KB.out B1.out HE.out
end Go.Proofs.YtdfadpejddhbkaaGreat
