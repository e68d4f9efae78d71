/- Proved here: what putting a version behind that of a branch answers, by the program; rooms and maps of at most 1,048,576 parts each. -/
import Derived.Test.YtdfadpejddhbkaaGreatWWithCommitC
import Derived.Test.YtdfadpejddhbkaaGreatG8
import Derived.Test.YtdfadpejddhbkaaGreatG3
namespace Go.Proofs.YtdfadpejddhbkaaGreat
set_option linter.unusedVariables false
open Go.ChangeShapes Go.WideShapes Go.ChangeAt Go.RowKit Go.Deep

set_option maxRecDepth 100000 in
set_option maxHeartbeats 8000000 in
theorem implRepoAdd_any (a b : Option Addr) (ca cb : Nat) (cs : List Cm) (hs : List Hd) (x : ByteArray) (fa : Option Addr) (fc : Nat) (fs : List Ft) (y : ByteArray) (w : World) (hr : RepoAt w a b cs hs) (hl : RpLen cs hs 1048576) (hca : cs.length ≤ ca) (hx : x.size ≤ 1048576) (hF : FeatsAt w fa fs) (hfl : fs.length ≤ 1048576) (hfL : FeatsLen fs 1048576) (hy : y.size ≤ 1048576) :
    Calls Tryz.prog 43 #[.agg #[.slice a cs.length ca, .slice b hs.length cb], .string x, .slice fa fs.length fc, .string y] w (RoomAns KI (addV cs hs x fs y) w) := by
  have HR := Lib.hid hr
  have HL := Lib.hid hl
  have l1 := hl.cl
  have l2 := hl.hl
  have HF := Lib.hid hF
  have HFL := Lib.hid hfL
  clear hr hl hF hfL
  go_enter Tryz.func43, Tryz.ntmps43
  go_upto_region 1 with (fail)
  obtain ⟨W, hW⟩ : ∃ W, W = ((w.alloc (.cells #[.slice a cs.length ca, .slice b hs.length cb] 46)).alloc (.cells #[.slice none 0 0, .slice none 0 0] 46)) := ⟨_, rfl⟩
  rw [← hW]
  have B0 : Hid (Below w.heap.size w W) := by rw [hW]; exact ((Below.refl _ _).alloc (Nat.le_refl _) _).alloc (by simp) _
  have KA : Hid (BK W w.heap.size #[.slice a cs.length ca, .slice b hs.length cb] 46) := by rw [hW]; exact (BK.new _ _ _).alloc _
  have KB : Hid (BK W (w.heap.size + 1) #[.slice none 0 0, .slice none 0 0] 46) := by rw [hW]; exact BK.at _ _ _ (by simp)
  have z1 : w.heap.size + 1 < W.heap.size := by rw [hW]; simp
  have z0 : w.heap.size < W.heap.size := by omega
  clear hW
  obtain ⟨a0, a1, _, _⟩ := KA.out.two
  go_wp2_with fail
  refine (implRepoOk_any _ _ _ _ _ _ _ (HR.out.below B0.out) HL.out hca).mono ?_
  rintro e w1 ⟨rfl, hb1⟩
  replace KA := Lib.hid (KA.out.later hb1)
  replace KB := Lib.hid (KB.out.later hb1)
  have B1 : Hid (Below w.heap.size w w1) := B0.out.trans (hb1.mono B0.out.size)
  replace z1 := KB.out.lt
  replace z0 := KA.out.lt
  clear hb1 B0 a0 a1
  have formEnd : Hid (∀ w1', BK w1' (w.heap.size + 1) #[.slice none 0 0, .slice none 0 0] 46 → Below w.heap.size w w1' → addV cs hs x fs y = ([], [], 4) → RoomAns KI (addV cs hs x fs y) w (.returned (.tuple #[.agg #[.slice none 0 0, .slice none 0 0], .int .i64 4])) ((w1'.setCell ⟨w.heap.size + 1, 0, none⟩ (.slice none 0 0)).setCell ⟨w.heap.size + 1, 1, none⟩ (.slice none 0 0))) := fun w1' hk hb he => by
    have hz := hk.lt
    obtain ⟨q1, q2⟩ := room_fin KI.law (Room.start KI w1' w1'.heap.size (Nat.le_refl _) (fun _ => (.slice none 0 0, .slice none 0 0, fun _ => ((none, 0), (none, 0)))) (fun _ _ => False)) hb (r := w.heap.size + 1) (x0 := .slice none 0 0) (x1 := .slice none 0 0) (by omega) (by omega)
    rw [he]
    exact ⟨_, _, _, _, rfl, q1, q2⟩
  by_cases hg : RepoGood cs hs
  · rw [repoOk_true hg]
    have HG := Lib.hid hg
    clear hg
    go_wp2_with fail
    refine (implSheetOk_any _ _ fs _ (HF.out.below B1.out) hfl HFL.out).mono ?_
    rintro e w1' ⟨rfl, hb1⟩
    replace KA := Lib.hid (KA.out.later hb1)
    replace KB := Lib.hid (KB.out.later hb1)
    have B1' : Hid (Below w.heap.size w w1') := B1.out.trans (hb1.mono B1.out.size)
    replace z1 := KB.out.lt
    replace z0 := KA.out.lt
    clear hb1 B1
    have B1 := B1'
    clear B1'
    generalize w1' = w1 at *
    by_cases hw : sheetOk fs = false
    · have hw' := hw
      rw [hw']
      have HE := Lib.hid (addV_form (cs := cs) (hs := hs) (x := x) (note := y) (.inr (.inl hw')))
      clear hw hw'
      obtain ⟨b0, b1, b2, b3⟩ := KB.out.two
      go_wp2
      have KF := (KB.out.set 0 (.slice none 0 0)).set 1 (.slice none 0 0)
      obtain ⟨r0, r1, _, _⟩ := BK.two KF
      refine bodyPost_ret (v := .tuple #[.agg #[.slice none 0 0, .slice none 0 0], .int .i64 4]) (by simp [results, Tryz.results43, go_sem, r0, r1]) rfl ?_
      exact formEnd.out _ KB.out B1.out HE.out
    have hst : sheetOk fs = true := by simpa using hw
    rw [hst]
    have HSO := Lib.hid hst
    clear hw hst
    go_wp2_with fail
    refine (implWordOk_any y _ hy).mono ?_
    rintro e w1' ⟨rfl, hb1⟩
    replace KA := Lib.hid (KA.out.later hb1)
    replace KB := Lib.hid (KB.out.later hb1)
    have B1' : Hid (Below w.heap.size w w1') := B1.out.trans (hb1.mono B1.out.size)
    replace z1 := KB.out.lt
    replace z0 := KA.out.lt
    clear hb1 B1
    have B1 := B1'
    clear B1'
    generalize w1' = w1 at *
    by_cases hw : wordOk y = false
    · have hw' := hw
      rw [hw']
      have HE := Lib.hid (addV_form (cs := cs) (hs := hs) (x := x) (s := fs) (.inr (.inr hw')))
      clear hw hw'
      obtain ⟨b0, b1, b2, b3⟩ := KB.out.two
      go_wp2
      have KF := (KB.out.set 0 (.slice none 0 0)).set 1 (.slice none 0 0)
      obtain ⟨r0, r1, _, _⟩ := BK.two KF
      refine bodyPost_ret (v := .tuple #[.agg #[.slice none 0 0, .slice none 0 0], .int .i64 4]) (by simp [results, Tryz.results43, go_sem, r0, r1]) rfl ?_
      exact formEnd.out _ KB.out B1.out HE.out
    have hwt : wordOk y = true := by simpa using hw
    rw [hwt]
    have HWO := Lib.hid hwt
    clear hw hwt
    obtain ⟨a0, a1, _, _⟩ := KA.out.two
    go_wp2_with fail
    clear a0 a1
    refine (headsByName_any _ _ _ _ (HR.out.hds.below B1.out) (by omega) (HL.out.hds.mono (by omega))).mono ?_
    rintro e w2 ⟨rfl, hown, hb2⟩
    have hlook := look_head hown x (by unfold maxLen; omega)
    replace KA := Lib.hid (KA.out.later hb2)
    replace KB := Lib.hid (KB.out.later hb2)
    have B2 : Hid (Below w.heap.size w w2) := B1.out.trans (hb2.mono B1.out.size)
    replace z1 := KB.out.lt
    replace z0 := KA.out.lt
    clear hb2 hown B1
    cases hq : lastH hs x hs.length with
    | none =>
      rw [hq] at hlook
      have HE := Lib.hid (addV_none HG.out HSO.out HWO.out hq)
      clear hq
      simp only [Option.isSome_none] at hlook
      obtain ⟨a0, a1, _, _⟩ := KA.out.two
      go_wp2_with fail
      clear a0 a1
      refine (repoCopy_any _ _ _ _ _ _ _ (HR.out.below B2.out) HL.out HG.out.few).mono ?_
      rintro e w9 ⟨cv, hv, ad, S, rfl, hRm, hb9⟩
      obtain ⟨pa, pc, pb, pd, rfl, rfl, _, _, _⟩ := hRm.form KI.law
      have RM := Lib.hid hRm
      replace KB := Lib.hid (KB.out.later hb9)
      have B9 : Hid (Below w.heap.size w w9) := B2.out.trans (hb9.mono B2.out.size)
      have y9 := KB.out.lt
      clear hb9 hRm
      obtain ⟨b0, b1, b2, b3⟩ := KB.out.two
      go_wp2
      have KF := (KB.out.set 0 (.slice pa cs.length pc)).set 1 (.slice pb hs.length pd)
      obtain ⟨r0, r1, _, _⟩ := BK.two KF
      refine bodyPost_ret (v := .tuple #[.agg #[.slice pa cs.length pc, .slice pb hs.length pd], .int .i64 1]) (by simp [results, Tryz.results43, go_sem, r0, r1]) rfl ?_
      obtain ⟨q1, q2⟩ := room_fin KI.law RM.out B9.out (r := w.heap.size + 1) (x0 := .slice pa cs.length pc) (x1 := .slice pb hs.length pd) (by omega) (by omega)
      rw [HE.out]
      exact ⟨_, _, _, _, rfl, q1, q2⟩
    | some j =>
      rw [hq] at hlook
      obtain ⟨hj, _, _⟩ := lastH_some hq
      simp only [Option.isSome_some] at hlook
      have HQ := Lib.hid hq
      have hgd := HG.out.hds j hj
      obtain ⟨n, hn⟩ : ∃ n : Nat, hda hs j = n := ⟨(hda hs j).toNat, by have := hgd.lo; omega⟩
      have hnl : n < cs.length := by have := hgd.hi; omega
      have HN := Lib.hid hn
      clear hq hgd
      obtain ⟨hb', off, e0, hlt', k1, k2⟩ := HR.out.hds.below B2.out j hj
      subst e0
      rw [hn] at k2
      clear k1 hn
      obtain ⟨cb', offc, ua', uc', sa', sc', e1, hx'⟩ := HR.out.cms n hnl
      subst e1
      obtain ⟨hcb, d0, d1, d2, hii, hff⟩ := hx'.below B2.out
      have FFS := Lib.hid hff
      have hSL := Lib.hid (HL.out.cms n hnl)
      clear hx' hii hff d0 d2
      obtain ⟨a0, a1, _, _⟩ := KA.out.two
      go_wp2_with fail
      clear a0 a1 k2 d1 hlook
      refine (implSheetSame_any _ _ _ _ (mg cs n).2.1 fs _ FFS.out (HF.out.below B2.out) (by have := hSL.out.2.1; omega) hfl hSL.out.2.2.1 HFL.out).mono ?_
      rintro e w3 ⟨rfl, hb3⟩
      replace KA := Lib.hid (KA.out.later hb3)
      replace KB := Lib.hid (KB.out.later hb3)
      have B3 : Hid (Below w.heap.size w w3) := B2.out.trans (hb3.mono B2.out.size)
      replace z1 := KB.out.lt
      replace z0 := KA.out.lt
      clear hb3 FFS B2 hcb hlt'
      by_cases hsm : fsEq (mg cs n).2.1 fs = true
      · have HE := Lib.hid (addV_same HG.out HSO.out HWO.out HQ.out (by rw [HN.out]; exact hsm))
        rw [hsm]
        clear hsm
        obtain ⟨a0, a1, _, _⟩ := KA.out.two
        go_wp2_with fail
        clear a0 a1
        refine (repoCopy_any _ _ _ _ _ _ _ (HR.out.below B3.out) HL.out HG.out.few).mono ?_
        rintro e w9 ⟨cv, hv, ad, S, rfl, hRm, hb9⟩
        obtain ⟨pa, pc, pb, pd, rfl, rfl, _, _, _⟩ := hRm.form KI.law
        have RM := Lib.hid hRm
        replace KB := Lib.hid (KB.out.later hb9)
        have B9 : Hid (Below w.heap.size w w9) := B3.out.trans (hb9.mono B3.out.size)
        have y9 := KB.out.lt
        clear hb9 hRm
        obtain ⟨b0, b1, b2, b3⟩ := KB.out.two
        go_wp2
        have KF := (KB.out.set 0 (.slice pa cs.length pc)).set 1 (.slice pb hs.length pd)
        obtain ⟨r0, r1, _, _⟩ := BK.two KF
        refine bodyPost_ret (v := .tuple #[.agg #[.slice pa cs.length pc, .slice pb hs.length pd], .int .i64 3]) (by simp [results, Tryz.results43, go_sem, r0, r1]) rfl ?_
        obtain ⟨q1, q2⟩ := room_fin KI.law RM.out B9.out (r := w.heap.size + 1) (x0 := .slice pa cs.length pc) (x1 := .slice pb hs.length pd) (by omega) (by omega)
        rw [HE.out]
        exact ⟨_, _, _, _, rfl, q1, q2⟩
      have hsf : fsEq (mg cs n).2.1 fs = false := by simpa using hsm
      have HEL : Hid (addV cs hs x fs y = if (withV cs ([(n : Int)], fs, y)).2.2 then ((withV cs ([(n : Int)], fs, y)).1, atH hs j (withV cs ([(n : Int)], fs, y)).2.1, 0) else (cs, hs, 2)) := by
        have h := addV_else HG.out HSO.out HWO.out HQ.out (by rw [HN.out]; exact hsf)
        rw [HN.out] at h
        exact h
      rw [hsf]
      clear hsm hsf
      have HCL : Hid (CmLen ([(n : Int)], fs, y) 1048576) := ⟨by show ((1 : Nat) : Int) ≤ _; omega, by show (fs.length : Int) ≤ _; omega, HFL.out, by show (y.size : Int) ≤ _; omega⟩
      obtain ⟨a0, a1, _, _⟩ := KA.out.two
      go_wp2_with fail
      clear a0 a1
      refine (repoCopy_any _ _ _ _ _ _ _ (HR.out.below B3.out) HL.out HG.out.few).mono ?_
      rintro e w4 ⟨cv, hv, ad, S, rfl, hRm, hb4⟩
      obtain ⟨pa, pc, pb, pd, rfl, rfl, _, _, _⟩ := hRm.form KI.law
      have RB := Lib.hid hRm.blocks
      have RM := Lib.hid hRm
      replace KB := Lib.hid (KB.out.later hb4)
      have B4 : Hid (Below w.heap.size w w4) := B3.out.trans (hb4.mono B3.out.size)
      have hz34 := hb4.size
      clear hb4 hRm KA
      have A4 : Hid (∀ o, Below w4.heap.size w4 (w4.alloc o)) := fun o => (Below.refl _ _).alloc (Nat.le_refl _) _
      go_wp2_with fail
      have GU : Hid (GrowI 0 [(n : Int)] (w4.alloc (.cells #[.int .i64 n] 3)) (.slice (some ⟨w4.heap.size, 0, none⟩) 1 1)) := GrowI.one w4 n 0 (Nat.zero_le _)
      refine (sheetCopy_any _ _ fs _ ((HF.out.below B4.out).below (A4.out _)) hfl HFL.out).mono ?_
      rintro e w5 ⟨⟨sv, adf, rfl, hBu⟩, hb5⟩
      obtain ⟨sa5, sc5, rfl⟩ := hBu.form
      have B45 : Hid (Below w4.heap.size w4 w5) := (A4.out _).trans (hb5.mono (by simp))
      have KP : Hid (KI w5 ([(n : Int)], fs, y) (.slice (some ⟨w4.heap.size, 0, none⟩) 1 1, .slice sa5 fs.length sc5, adf) (fun z => w4.heap.size ≤ z ∧ z < w5.heap.size)) := by
        have hsz := hb5.size
        simp only [World.size_alloc] at hsz
        refine ⟨GU.out.below hb5, hBu.listO, fun z hz => ?_, fun z hz => ?_, fun z hz hy => ?_⟩
        · obtain rfl : w4.heap.size = z := by simpa [Value.ownBlock] using hz
          exact ⟨Nat.le_refl _, by omega⟩
        · have := hBu.inList hz
          simp only [World.size_alloc] at this
          exact ⟨by omega, this.2⟩
        · obtain rfl : w4.heap.size = z := by simpa [Value.ownBlock] using hz
          have := (hBu.inList hy).1
          simp only [World.size_alloc] at this
          omega
      replace KB := Lib.hid (KB.out.later B45.out)
      replace RM := Lib.hid (RM.out.below KI.law B45.out)
      have B5 : Hid (Below w.heap.size w w5) := B4.out.trans (B45.out.mono B4.out.size)
      have hz45 := B45.out.size
      clear hb5 hBu GU A4 B45 B4 B3
      go_wp2_with fail
      refine (withCommit_any _ _ w3.heap.size cs hs ad S ([(n : Int)], fs, y) (.slice (some ⟨w4.heap.size, 0, none⟩) 1 1, .slice sa5 fs.length sc5, adf) _ _ RM.out KP.out (fun z hz => ⟨by have := hz.1; omega, hz.2, fun hin => by have := (RB.out z hin).2; have := hz.1; omega⟩) (by have := HG.out.c2; omega) HL.out.cms HCL.out).mono ?_
      rintro e w6 ⟨cv', ad', S', rfl, hR6, ht6⟩
      obtain ⟨vc, vp, vb, hwv⟩ : ∃ vc vp vb, withV cs ([(n : Int)], fs, y) = (vc, vp, vb) := ⟨_, _, _, rfl⟩
      rw [hwv] at hR6
      rw [hwv] at HEL
      rw [hwv]
      dsimp only at hR6 ⊢
      obtain ⟨qa, qc, qb, qd, rfl, eq2, _, _, _⟩ := hR6.form KI.law
      have ow : ∀ z, (Value.slice pa cs.length pc).ownBlock = some z → w3.heap.size ≤ z ∧ z < w4.heap.size := fun z hz => RB.out z (.inl (.inl hz))
      have B6 : Hid (Below w.heap.size w w6) := B5.out.trans (ht6.below B5.out.size fun z hz => by have := (ow z hz).1; omega)
      have KB6 : Hid (BK w6 (w.heap.size + 1) #[.slice none 0 0, .slice none 0 0] 46) := (ht6.block _ KB.out.lt (fun hz => by have := (ow _ hz).1; omega)).trans KB.out
      have R6 := Lib.hid hR6
      have R6B := Lib.hid hR6.blocks
      have hz56 := ht6.size
      clear ht6 hR6 ow KP RM KB B5
      go_upto_region 10 with (fail)
      obtain ⟨V, hV⟩ : ∃ V, V = w6.alloc (.cells #[.slice qa vc.length qc, .slice pb hs.length pd] 46) := ⟨_, rfl⟩
      rw [← hV]
      have BV : Hid (Below w6.heap.size w6 V) := by rw [hV]; exact (Below.refl _ _).alloc (Nat.le_refl _) _
      have KD : Hid (BK V w6.heap.size #[.slice qa vc.length qc, .slice pb hs.length pd] 46) := by rw [hV]; exact BK.new _ _ _
      have KB7 := Lib.hid (KB6.out.later BV.out)
      have R7 := Lib.hid (R6.out.below KI.law BV.out)
      have B7 : Hid (Below w.heap.size w V) := B6.out.trans (BV.out.mono B6.out.size)
      have y5 := KD.out.lt
      have y6 := KB7.out.lt
      have hz67 := BV.out.size
      have hz06 := B6.out.size
      clear hV BV KB6 B6
      obtain ⟨b0, b1, b2, b3⟩ := KB7.out.two
      obtain ⟨d0, d1, d2, d3⟩ := KD.out.two
      cases vb with
      | false =>
        have HE : Hid (addV cs hs x fs y = (vc, hs, 2)) := by rw [Hid, HEL.out, withV_false hwv]; rfl
        clear hwv
        go_wp2
        have KF := (KB7.out.set 0 (.slice qa vc.length qc)).set 1 (.slice pb hs.length pd)
        obtain ⟨r0, r1, _, _⟩ := BK.two KF
        refine bodyPost_ret (v := .tuple #[.agg #[.slice qa vc.length qc, .slice pb hs.length pd], .int .i64 2]) (by simp [results, Tryz.results43, go_sem, r0, r1]) rfl ?_
        obtain ⟨q1, q2⟩ := room_fin KI.law R7.out B7.out (r := w.heap.size + 1) (x0 := .slice qa vc.length qc) (x1 := .slice pb hs.length pd) (by omega) (by omega)
        rw [HE.out]
        exact ⟨_, _, _, _, rfl, q1, q2⟩
      | true =>
        have HE : Hid (addV cs hs x fs y = (vc, atH hs j vp, 0)) := by rw [Hid, HEL.out]; rfl
        clear hwv
        rcases ownsRow_rows R7.out.hds.own with ⟨e1, h2⟩ | ⟨g, cap, f0, e1, hnc, hcm, _⟩
        · omega
        obtain ⟨rfl, rfl⟩ : pb = some ⟨g, 0, none⟩ ∧ pd = cap := by simpa using e1
        clear e1
        have hg1 := RB.out g (.inr rfl)
        have e5 : V.cell? ⟨g, j * 2 + 1, none⟩ = some (.int .i64 (hda hs j)) := by rw [R7.out.hds.own.cellAt (j * 2 + 1) (by omega), (flatH_at hs j hj).2]
        have e6 : V.frozen? ⟨g, j * 2 + 1, none⟩ = false := R7.out.hds.own.frozenAt _
        have n1 : ¬ g = w6.heap.size := by omega
        have n2 : ¬ g = w.heap.size + 1 := by omega
        have n3 : g < V.heap.size := by omega
        go_wp2
        obtain ⟨q3, q4⟩ := R7.out.setAt KI.law hj vp
        have B8 := B7.out.trans (q4.below B7.out.size fun z hz => by omega)
        have KF := ((KB7.out.setOther (c := g) (j * 2 + 1) (.int .i64 vp) n2).set 0 (.slice qa vc.length qc)).set 1 (.slice (some ⟨g, 0, none⟩) hs.length pd)
        obtain ⟨r0, r1, _, _⟩ := BK.two KF
        refine bodyPost_ret (v := .tuple #[.agg #[.slice qa vc.length qc, .slice (some ⟨g, 0, none⟩) hs.length pd], .int .i64 0]) (by simp [results, Tryz.results43, go_sem, r0, r1]) rfl ?_
        obtain ⟨q1, q2⟩ := room_fin KI.law q3 B8 (r := w.heap.size + 1) (x0 := .slice qa vc.length qc) (x1 := .slice (some ⟨g, 0, none⟩) hs.length pd) (by omega) (by omega)
        rw [HE.out]
        exact ⟨_, _, _, _, rfl, q1, q2⟩
  · rw [repoOk_false hg]
    have HE := Lib.hid (addV_form (cs := cs) (hs := hs) (x := x) (note := y) (s := fs) (.inl (repoOk_false hg)))
    clear hg
    obtain ⟨b0, b1, b2, b3⟩ := KB.out.two
    go_wp2
    have KF := (KB.out.set 0 (.slice none 0 0)).set 1 (.slice none 0 0)
    obtain ⟨r0, r1, _, _⟩ := BK.two KF
    refine bodyPost_ret (v := .tuple #[.agg #[.slice none 0 0, .slice none 0 0], .int .i64 4]) (by simp [results, Tryz.results43, go_sem, r0, r1]) rfl ?_
    exact formEnd.out _ KB.out B1.out HE.out
end Go.Proofs.YtdfadpejddhbkaaGreat
