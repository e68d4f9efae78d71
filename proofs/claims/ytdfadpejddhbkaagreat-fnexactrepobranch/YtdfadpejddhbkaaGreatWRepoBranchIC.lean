/- Proved here: what making a branch answers, by the program; rooms of at most 1,048,576 parts each. -/
import Derived.Test.YtdfadpejddhbkaaGreatWBranchVC
import Derived.Test.YtdfadpejddhbkaaGreatWCopyMapRC
namespace Go.Proofs.YtdfadpejddhbkaaGreat
set_option linter.unusedVariables false
open Go.ChangeShapes Go.WideShapes Go.ChangeAt Go.RowKit Go.Deep

set_option maxRecDepth 100000 in
set_option maxHeartbeats 8000000 in
theorem implRepoBranch_any (a b : Option Addr) (ca cb : Nat) (cs : List Cm) (hs : List Hd) (x y : ByteArray) (w : World) (hr : RepoAt w a b cs hs) (hl : RpLen cs hs 1048576) (hca : cs.length ≤ ca) (hx : x.size ≤ 1048576) (hy : y.size ≤ 1048576) :
    Calls Tryz.prog 50 #[.agg #[.slice a cs.length ca, .slice b hs.length cb], .string x, .string y] w (RoomAns KI (branchV cs hs x y) w) := by
  have HR := Lib.hid hr
  have HL := Lib.hid hl
  have l1 := hl.cl
  have l2 := hl.hl
  clear hr hl
  go_enter Tryz.func50, Tryz.ntmps50
  go_upto_region 1 with (fail)
  obtain ⟨W, hW⟩ : ∃ W, W = ((w.alloc (.cells #[.slice a cs.length ca, .slice b hs.length cb] 46)).alloc (.cells #[.slice none 0 0, .slice none 0 0] 46)) := ⟨_, rfl⟩
  rw [← hW]
  have B0 : Hid (Below w.heap.size w W) := by rw [hW]; exact ((Below.refl _ _).alloc (Nat.le_refl _) _).alloc (by simp) _
  have KA : Hid (BK W w.heap.size #[.slice a cs.length ca, .slice b hs.length cb] 46) := by rw [hW]; exact (BK.new _ _ _).alloc _
  have KB : Hid (BK W (w.heap.size + 1) #[.slice none 0 0, .slice none 0 0] 46) := by rw [hW]; exact BK.at _ _ _ (by simp)
  have z1 : w.heap.size + 1 < W.heap.size := by rw [hW]; simp
  have z0 : w.heap.size < W.heap.size := by omega
  clear hW
  obtain ⟨a0, a1, _, _⟩ := KA.out.two
  go_wp2_with fail
  refine (implRepoOk_any _ _ _ _ _ _ _ (HR.out.below B0.out) HL.out hca).mono ?_
  rintro e w1 ⟨rfl, hb1⟩
  replace KA := Lib.hid (KA.out.later hb1)
  replace KB := Lib.hid (KB.out.later hb1)
  have B1 : Hid (Below w.heap.size w w1) := B0.out.trans (hb1.mono B0.out.size)
  replace z1 := KB.out.lt
  replace z0 := KA.out.lt
  clear hb1 B0 a0 a1
  have formEnd : Hid (∀ w1', BK w1' (w.heap.size + 1) #[.slice none 0 0, .slice none 0 0] 46 → Below w.heap.size w w1' → branchV cs hs x y = ([], [], 4) → RoomAns KI (branchV cs hs x y) w (.returned (.tuple #[.agg #[.slice none 0 0, .slice none 0 0], .int .i64 4])) ((w1'.setCell ⟨w.heap.size + 1, 0, none⟩ (.slice none 0 0)).setCell ⟨w.heap.size + 1, 1, none⟩ (.slice none 0 0))) := fun w1' hk hb he => by
    have hz := hk.lt
    obtain ⟨q1, q2⟩ := room_fin KI.law (Room.start KI w1' w1'.heap.size (Nat.le_refl _) (fun _ => (.slice none 0 0, .slice none 0 0, fun _ => ((none, 0), (none, 0)))) (fun _ _ => False)) hb (r := w.heap.size + 1) (x0 := .slice none 0 0) (x1 := .slice none 0 0) (by omega) (by omega)
    rw [he]
    exact ⟨_, _, _, _, rfl, q1, q2⟩
  by_cases hg : RepoGood cs hs
  · rw [repoOk_true hg]
    have HG := Lib.hid hg
    clear hg
    go_wp2_with fail
    refine (implWordOk_any x _ hx).mono ?_
    rintro e w1' ⟨rfl, hb1⟩
    replace KA := Lib.hid (KA.out.later hb1)
    replace KB := Lib.hid (KB.out.later hb1)
    have B1' : Hid (Below w.heap.size w w1') := B1.out.trans (hb1.mono B1.out.size)
    replace z1 := KB.out.lt
    replace z0 := KA.out.lt
    clear hb1 B1
    have B1 := B1'
    clear B1'
    generalize w1' = w1 at *
    by_cases hw : wordOk x = false
    · have hw' := hw
      rw [hw']
      have HE := Lib.hid (branchV_form (cs := cs) (hs := hs) (y := y) (.inr hw'))
      clear hw hw'
      obtain ⟨b0, b1, b2, b3⟩ := KB.out.two
      go_wp2
      have KF := (KB.out.set 0 (.slice none 0 0)).set 1 (.slice none 0 0)
      obtain ⟨r0, r1, _, _⟩ := BK.two KF
      refine bodyPost_ret (v := .tuple #[.agg #[.slice none 0 0, .slice none 0 0], .int .i64 4]) (by simp [results, Tryz.results50, go_sem, r0, r1]) rfl ?_
      exact formEnd.out _ KB.out B1.out HE.out
    have hwt : wordOk x = true := by simpa using hw
    rw [hwt]
    have HWO := Lib.hid hwt
    clear hw hwt
    obtain ⟨a0, a1, _, _⟩ := KA.out.two
    have KCOPY : Hid (∀ u, Below w1.heap.size w1 u → Calls Tryz.prog 98 #[.agg #[.slice a cs.length ca, .slice b hs.length cb]] u (CopyAns KI u cs hs)) := fun u hu => repoCopy_any _ _ _ _ _ _ _ ((HR.out.below B1.out).below hu) HL.out HG.out.few
    have KHEAD : Hid (∀ u, Below w1.heap.size w1 u → Calls Tryz.prog 97 #[.slice b hs.length cb] u fun e w' => e = .returned (.map (some u.heap.size)) ∧ w'.ownsMap Tryz.prog 9 heldElem u.heap.size hs.length (mapH hs hs.length) ∧ Below u.heap.size u w') := fun u hu => headsByName_any _ _ _ _ ((HR.out.hds.below B1.out).below hu) (by omega) (HL.out.hds.mono (by omega))
    have SOF : Hid (∀ wy, Below w1.heap.size w1 wy → wy.cell? ⟨w.heap.size, 0, none⟩ = some (.slice a cs.length ca) ∧ wy.cell? ⟨w.heap.size, 1, none⟩ = some (.slice b hs.length cb) ∧ Below w1.heap.size w1 wy) := fun wy hb => ⟨cell_later hb a0, cell_later hb a1, hb⟩
    have hQ0 : Below w1.heap.size w1 w1.drew := drew_below _
    have hQA : ∀ o, Below w1.heap.size w1 ((w1.alloc o).drew) := fun o => ((Below.refl _ _).alloc (Nat.le_refl _) o).drew
    have m1 : ¬ w.heap.size = w1.heap.size := by omega
    go_upto_region 3 with (fail)
    go_cut [8, 9] (fun s8 s9 wx => ∃ nb mb pa pb pc pd ad S, s8 = .pointer (some ⟨nb, 0, none⟩) ∧ s9 = .map (some mb) ∧ CopyMap w1 wx nb mb pa pb pc pd cs hs ad S)
    case first =>
      go_region_held3 (fun wy => wy.cell? ⟨w.heap.size, 0, none⟩ = some (.slice a cs.length ca) ∧ wy.cell? ⟨w.heap.size, 1, none⟩ = some (.slice b hs.length cb) ∧ Below w1.heap.size w1 wy)
        (first
          | with_reducible assumption
          | with_reducible exact SOF.out _ hQ0
          | with_reducible exact SOF.out _ (hQA _)
          | with_reducible exact SOF.out _ hQD
          | with_reducible exact SOF.out _ hQC
          | with_reducible exact SOF.out _ (hQD.alloc hQD.size _)
          | with_reducible exact SOF.out _ (hQC.alloc hQC.size _)
          | with_reducible exact SOF.out _ (((hQD.alloc hQD.size _).setCell hQD.size _).setCell hQD.size _)
          | with_reducible exact SOF.out _ (((hQC.alloc hQC.size _).setCell hQC.size _).setCell hQC.size _)
          | with_reducible exact SOF.out _ ((hQD.setCell hQC.size _).setCell hQC.size _)
          | with_reducible exact SOF.out _ ((hQD.setCell (Nat.le_refl _) _).setCell (Nat.le_refl _) _)
          | with_reducible exact SOF.out _ ((hQC.setCell (Nat.le_refl _) _).setCell (Nat.le_refl _) _)
          | fail)
        (first
          | (go_at_call 98
             have hP : Below w1.heap.size w1 _ := (by go_split_ands; with_reducible assumption)
             with_reducible refine (KCOPY.out _ hP).mono ?_
             rintro e wC ⟨cv, hv, ad, S, rfl, hRm, hbC⟩
             obtain ⟨pa, pc, pb, pd, rfl, rfl, _, _, _⟩ := hRm.form KI.law
             have hQC := hP.trans (hbC.mono hP.size)
             have hPA := Lib.hid hP
             clear hP
             try (with_reducible have tC := (z2_drew _ _).later hbC)
             try (first | (have tc0 := (BK.two (id tC)).1; have tc1 := (BK.two (id tC)).2.1; have tc2 := (BK.two (id tC)).2.2.1; have tc3 := (BK.two (id tC)).2.2.2) | fail))
          | (go_at_call 97
             have hP : Below w1.heap.size w1 _ := (by go_split_ands; with_reducible assumption)
             with_reducible refine (KHEAD.out _ hP).mono ?_
             rintro e wD ⟨rfl, hown, hbD⟩
             have hQD := hP.trans (hbD.mono hP.size)
             clear hP
             try (first | (with_reducible have tD := tC.later hbD) | (with_reducible have tD := (z2_new _ _).later hbD))
             try (first | (have td0 := (BK.two (id tD)).1; have td1 := (BK.two (id tD)).2.1; have td2 := (BK.two (id tD)).2.2.1; have td3 := (BK.two (id tD)).2.2.2) | fail))
          | fail)
      all_goals
        have s1 := hbC.size
        have s2 := hbD.size
        have s3 := hown.lt
        simp only [show ∀ x : World, x.drew.heap.size = x.heap.size from fun _ => rfl, World.size_alloc] at s1 s2 s3 hown
        go_wp2_with fail
        go_meet
        first
          | with_reducible exact ⟨wD.heap.size, wC.heap.size, pa, pb, pc, pd, ad, S, rfl, rfl, copyMap_fin hQ0 hRm hbC (by omega) (.inr (by omega)) ((Turned.of_below hbD).trans (turned_new wD _ _)) hown (by omega) (by omega) (turned_new wD _ _) (BK.new _ _ _)⟩
          | with_reducible exact ⟨wC.heap.size, _, pa, pb, pc, pd, ad, S, rfl, rfl, copyMap_fin hQ0 hRm hbC (by omega) (.inr (Nat.le_refl _)) (((turned_new wC _ _).trans (Turned.of_below hbD)).trans (turned_box wD _ _ _)) hown (by omega) (by omega) (turned_box wD _ _ _) (BK.box2 tD)⟩
          | with_reducible exact ⟨w1.heap.size, _, pa, pb, pc, pd, ad, S, rfl, rfl, copyMap_fin (hQA _) hRm hbC (Nat.le_refl _) (.inl (by simp [World.drew])) ((Turned.of_below hbD).trans (turned_box wD _ _ _)) hown (by omega) (by omega) (turned_box wD _ _ _) (BK.box2 tD)⟩
          | fail
    case rest =>
    obtain ⟨nb, mb, pa, pb, pc, pd, ad, S, rfl, rfl, hCM⟩ := hcut
    have CM := Lib.hid hCM
    have RM := Lib.hid hCM.room
    have RB := Lib.hid hCM.room.blocks
    have NOUT := Lib.hid hCM.out
    have KC := Lib.hid hCM.box
    have hnlo := hCM.lo
    have hlookx := look_head hCM.map x (by unfold maxLen; omega)
    have hlooky := look_head hCM.map y (by unfold maxLen; omega)
    replace KA := Lib.hid (KA.out.later hCM.bel)
    replace KB := Lib.hid (KB.out.later hCM.bel)
    have B5 : Hid (Below w.heap.size w wc) := B1.out.trans (hCM.bel.mono B1.out.size)
    have y0 := KA.out.lt
    have y1 := KB.out.lt
    have y2 := KC.out.lt
    clear hCM B1 SOF KCOPY KHEAD hQ0 hQA a0 a1
    cases hq : lastH hs y hs.length with
    | none =>
      rw [hq] at hlooky
      have HE := Lib.hid (branchV_none HG.out HWO.out hq)
      clear hq
      simp only [Option.isSome_none] at hlooky
      obtain ⟨b0, b1, b2, b3⟩ := KB.out.two
      obtain ⟨c0, c1, _, _⟩ := KC.out.two
      go_wp2
      have KF := (KB.out.set 0 (.slice pa cs.length pc)).set 1 (.slice pb hs.length pd)
      obtain ⟨r0, r1, _, _⟩ := BK.two KF
      refine bodyPost_ret (v := .tuple #[.agg #[.slice pa cs.length pc, .slice pb hs.length pd], .int .i64 1]) (by simp [results, Tryz.results50, go_sem, r0, r1]) rfl ?_
      obtain ⟨q1, q2⟩ := room_fin KI.law RM.out B5.out (r := w.heap.size + 1) (x0 := .slice pa cs.length pc) (x1 := .slice pb hs.length pd) (by omega) (by omega)
      rw [HE.out]
      exact ⟨_, _, _, _, rfl, q1, q2⟩
    | some j =>
      rw [hq] at hlooky
      obtain ⟨hj, _, _⟩ := lastH_some hq
      simp only [Option.isSome_some] at hlooky
      have HQ := Lib.hid hq
      clear hq
      have fullEnd : Hid (branchV cs hs x y = (cs, hs, 2) → RoomAns KI (branchV cs hs x y) w (.returned (.tuple #[.agg #[.slice pa cs.length pc, .slice pb hs.length pd], .int .i64 2])) ((wc.setCell ⟨w.heap.size + 1, 0, none⟩ (.slice pa cs.length pc)).setCell ⟨w.heap.size + 1, 1, none⟩ (.slice pb hs.length pd))) := fun he => by
        obtain ⟨q1, q2⟩ := room_fin KI.law RM.out B5.out (r := w.heap.size + 1) (x0 := .slice pa cs.length pc) (x1 := .slice pb hs.length pd) (by omega) (by omega)
        rw [he]
        exact ⟨_, _, _, _, rfl, q1, q2⟩
      cases hq2 : lastH hs x hs.length with
      | none =>
        rw [hq2] at hlookx
        simp only [Option.isSome_none] at hlookx
        by_cases h1 : hs.length = 4
        · have HE := Lib.hid (branchV_full HG.out HWO.out HQ.out (.inr h1))
          have hb1 : ((hs.length : Int) == 4) = true := by rw [h1]; rfl
          clear hq2 h1
          obtain ⟨a0, a1, _, _⟩ := KA.out.two
          obtain ⟨b0, b1, b2, b3⟩ := KB.out.two
          obtain ⟨c0, c1, _, _⟩ := KC.out.two
          go_wp2
          have KF := (KB.out.set 0 (.slice pa cs.length pc)).set 1 (.slice pb hs.length pd)
          obtain ⟨r0, r1, _, _⟩ := BK.two KF
          refine bodyPost_ret (v := .tuple #[.agg #[.slice pa cs.length pc, .slice pb hs.length pd], .int .i64 2]) (by simp [results, Tryz.results50, go_sem, r0, r1]) rfl ?_
          exact fullEnd.out HE.out
        · have HE := Lib.hid (branchV_fine HG.out HWO.out HQ.out (by simp [hq2, h1]))
          have hle4 : hs.length ≤ 4 := HG.out.h2
          have hb1 : ((hs.length : Int) == 4) = false := by simp only [beq_eq_false_iff_ne, ne_eq]; omega
          clear hq2 h1 fullEnd
          obtain ⟨hb', off, e0, hlt', k1, k2⟩ := HR.out.hds.below B5.out j hj
          subst e0
          obtain ⟨a0, a1, _, _⟩ := KA.out.two
          obtain ⟨b0, b1, b2, b3⟩ := KB.out.two
          obtain ⟨c0, c1, c2, c3⟩ := KC.out.two
          have hx4 : ∀ z, (Value.slice pb hs.length pd).ownBlock = some z → w1.heap.size ≤ z ∧ z ≠ nb := fun z hz => ⟨(RB.out z (.inr hz)).1, NOUT.out z (.inr hz)⟩
          have n3 : Hid (¬ (Value.slice pb hs.length pd).ownBlock = some nb) := fun e => (hx4 _ e).2 rfl
          have HX4 := Lib.hid hx4
          have AL : Hid (∀ o, Below wc.heap.size wc (wc.alloc o)) := fun o => (Below.refl _ _).alloc (Nat.le_refl _) _
          have hlen1 : hs.length + 1 ≤ 1000000 := by omega
          have HLen1 := Lib.hid hlen1
          clear hx4 k1 hlen1
          go_upto_region 10 with (fail)
          go_region_law (first
            | (refine step_moreH (lo := w1.heap.size) (p := [(x, hda hs j)]) (by rfl) _ _ (by rfl) (RM.out.hds.below (by first | exact (AL.out _).drew | exact (drew_below wc).trans ((Below.refl _ _).alloc (Nat.le_refl _) _))) (by first | exact (head_one wc x (hda hs j) 115).below (drew_below _) | exact head_one wc.drew x (hda hs j) 115) (by simp) (by rfl) (by rfl) (by simpa using HLen1.out) ?_; intro gg cap' wa hgrow hG hat; have zz := (hgrow.size); have g1 : wa.cell? ⟨nb, 1, none⟩ = some (.slice pb hs.length pd) := (hgrow.cell_far ⟨nb, 1, none⟩ (by simp [World.drew]; omega) (fun e => n3.out e.symm)).trans (cell_later (show Below wc.heap.size wc _ from by first | exact (AL.out _).drew | exact (drew_below wc).trans ((Below.refl _ _).alloc (Nat.le_refl _) _)) c1); have g2 : wa.frozen? ⟨nb, 1, none⟩ = false := (hgrow.frozen_far ⟨nb, 1, none⟩ (by simp [World.drew]; omega) (fun e => n3.out e.symm)).trans ((Below.frozen (p := ⟨nb, 1, none⟩) (show Below wc.heap.size wc _ from by first | exact (AL.out _).drew | exact (drew_below wc).trans ((Below.refl _ _).alloc (Nat.le_refl _) _)) y2).trans c3); have NG := Lib.hid hG; have GR := Lib.hid hgrow; have AT := Lib.hid hat; clear hG hgrow hat)
            | fail)
          all_goals
            obtain ⟨RM6, T6, ha6⟩ := RM.out.pushH KI.law (by first | exact (AL.out _).drew | exact (drew_below wc).trans ((Below.refl _ _).alloc (Nat.le_refl _) _)) GR.out NG.out AT.out
            have n2 : ¬ (Value.slice pb hs.length pd).ownBlock = some (w.heap.size + 1) := fun e => by have := (HX4.out _ e).1; omega
            have KB6 : Hid (BK wa (w.heap.size + 1) #[.slice none 0 0, .slice none 0 0] 46) := (T6.block _ KB.out.lt n2).trans KB.out
            have KC6 : Hid (BK wa nb #[.slice pa cs.length pc, .slice pb hs.length pd] 46) := (T6.block _ KC.out.lt n3.out).trans KC.out
            have B6 : Hid (Below w.heap.size w wa) := B5.out.trans (T6.below B5.out.size fun z hz => by have := (HX4.out _ hz).1; omega)
            have RB6 : Hid (∀ z, inRoom (.slice pa cs.length pc) (.slice (some ⟨gg, 0, none⟩) (hs.length + 1) cap') cs.length S z → z ≠ nb) := fun z hz e => hz.elim (fun h => NOUT.out z (.inl h) e) fun h => by
              obtain rfl : gg = z := by simpa [Value.ownBlock] using h
              rcases ha6 with q | q
              · exact (HX4.out _ q).2 e
              · omega
            have R6 := Lib.hid RM6
            have y5 := KC6.out.lt
            have y6 := KB6.out.lt
            clear T6 ha6 n2 RM6 g1 g2 c0 c1 c2 c3 b0 b1 b2 b3 a0 a1 k2
            obtain ⟨b0, b1, b2, b3⟩ := KB6.out.two
            obtain ⟨c0, c1, c2, c3⟩ := KC6.out.two
            go_wp2
            have T7 : Turned wa (wa.setCell ⟨nb, 1, none⟩ (.slice (some ⟨gg, 0, none⟩) (hs.length + 1) cap')) (fun z => z = nb) := Turned.of_set _ _ _ rfl
            have RM7 := R6.out.turned KI.law T7 fun z hz e => RB6.out z hz e
            have B7 := B6.out.setCell (p := ⟨nb, 1, none⟩) (by show w.heap.size ≤ nb; omega) (.slice (some ⟨gg, 0, none⟩) (hs.length + 1) cap')
            have KF := ((KB6.out.setOther (c := nb) 1 (.slice (some ⟨gg, 0, none⟩) (hs.length + 1) cap') (by omega)).set 0 (.slice pa cs.length pc)).set 1 (.slice (some ⟨gg, 0, none⟩) (hs.length + 1) cap')
            obtain ⟨r0, r1, _, _⟩ := BK.two KF
            refine bodyPost_ret (v := .tuple #[.agg #[.slice pa cs.length pc, .slice (some ⟨gg, 0, none⟩) (hs.length + 1) cap'], .int .i64 0]) (by simp [results, Tryz.results50, go_sem, r0, r1]) rfl ?_
            obtain ⟨q1, q2⟩ := room_fin KI.law RM7 B7 (r := w.heap.size + 1) (x0 := .slice pa cs.length pc) (x1 := .slice (some ⟨gg, 0, none⟩) (hs.length + 1) cap') (by omega) (by omega)
            rw [HE.out]
            exact ⟨_, _, _, _, rfl, q1, q2⟩
      | some j2 =>
        rw [hq2] at hlookx
        simp only [Option.isSome_some] at hlookx
        have HE := Lib.hid (branchV_full HG.out HWO.out HQ.out (.inl (by rw [hq2]; rfl)))
        clear hq2
        obtain ⟨a0, a1, _, _⟩ := KA.out.two
        obtain ⟨b0, b1, b2, b3⟩ := KB.out.two
        obtain ⟨c0, c1, _, _⟩ := KC.out.two
        go_wp2
        have KF := (KB.out.set 0 (.slice pa cs.length pc)).set 1 (.slice pb hs.length pd)
        obtain ⟨r0, r1, _, _⟩ := BK.two KF
        refine bodyPost_ret (v := .tuple #[.agg #[.slice pa cs.length pc, .slice pb hs.length pd], .int .i64 2]) (by simp [results, Tryz.results50, go_sem, r0, r1]) rfl ?_
        exact fullEnd.out HE.out
  · rw [repoOk_false hg]
    have HE := Lib.hid (branchV_form (cs := cs) (hs := hs) (x := x) (y := y) (.inl (repoOk_false hg)))
    clear hg
    obtain ⟨b0, b1, b2, b3⟩ := KB.out.two
    go_wp2
    have KF := (KB.out.set 0 (.slice none 0 0)).set 1 (.slice none 0 0)
    obtain ⟨r0, r1, _, _⟩ := BK.two KF
    refine bodyPost_ret (v := .tuple #[.agg #[.slice none 0 0, .slice none 0 0], .int .i64 4]) (by simp [results, Tryz.results50, go_sem, r0, r1]) rfl ?_
    exact formEnd.out _ KB.out B1.out HE.out
end Go.Proofs.YtdfadpejddhbkaaGreat
