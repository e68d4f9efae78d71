/- Proved here: what putting a version behind that of a branch answers, by the model; rooms and maps of at most 1,048,576 parts each. -/
import Derived.Test.YtdfadpejddhbkaaGreatWL7AddC
import Derived.Deep.RegionHeld3
import Derived.Deep.DeepCutAuto
namespace Go.Proofs.YtdfadpejddhbkaaGreat
set_option linter.unusedVariables false
open Go.ChangeShapes Go.WideShapes Go.ChangeAt Go.RowKit Go.Deep

set_option maxRecDepth 100000 in
set_option maxHeartbeats 8000000 in
theorem specRepoAdd_any (a b : Option Addr) (ca cb : Nat) (cs : List Cm) (hs : List Hd) (x : ByteArray) (fa : Option Addr) (fc : Nat) (fs : List Ft) (y : ByteArray) (w : World) (hr : RepoAt w a b cs hs) (hl : RpLen cs hs 1048576) (hF : FeatsAt w fa fs) (hfl : fs.length ≤ 1048576) (hfL : FeatsLen fs 1048576) (hy : y.size ≤ 1048576) :
    Calls Tryz.prog 40 #[.agg #[.slice a cs.length ca, .slice b hs.length cb], .string x, .slice fa fs.length fc, .string y] w (RoomAns KS (addV cs hs x fs y) w) := by
  have HR := Lib.hid hr
  have HL := Lib.hid hl
  have l1 := hl.cl
  have l2 := hl.hl
  have HF := Lib.hid hF
  have HFL := Lib.hid hfL
  clear hr hl hF hfL
  go_enter Tryz.func40, Tryz.ntmps40
  go_upto_region 1 with (fail)
  obtain ⟨W, hW⟩ : ∃ W, W = ((w.alloc (.cells #[.slice a cs.length ca, .slice b hs.length cb] 46)).alloc (.cells #[.slice none 0 0, .slice none 0 0] 46)) := ⟨_, rfl⟩
  rw [← hW]
  have B0 : Hid (Below w.heap.size w W) := by rw [hW]; exact ((Below.refl _ _).alloc (Nat.le_refl _) _).alloc (by simp) _
  have KA : Hid (BK W w.heap.size #[.slice a cs.length ca, .slice b hs.length cb] 46) := by rw [hW]; exact (BK.new _ _ _).alloc _
  have KB : Hid (BK W (w.heap.size + 1) #[.slice none 0 0, .slice none 0 0] 46) := by rw [hW]; exact BK.at _ _ _ (by simp)
  have z1 : w.heap.size + 1 < W.heap.size := by rw [hW]; simp
  have z0 : w.heap.size < W.heap.size := by omega
  clear hW
  obtain ⟨a0, a1, _, _⟩ := KA.out.two
  go_wp2_with fail
  refine (specRepoOk_any _ _ _ _ _ _ _ (HR.out.below B0.out) HL.out).mono ?_
  rintro e w1 ⟨rfl, hb1⟩
  replace KA := Lib.hid (KA.out.later hb1)
  replace KB := Lib.hid (KB.out.later hb1)
  have B1 : Hid (Below w.heap.size w w1) := B0.out.trans (hb1.mono B0.out.size)
  replace z1 := KB.out.lt
  replace z0 := KA.out.lt
  clear hb1 B0 a0 a1
  have formEnd : Hid (∀ w1', BK w1' (w.heap.size + 1) #[.slice none 0 0, .slice none 0 0] 46 → Below w.heap.size w w1' → addV cs hs x fs y = ([], [], 4) → RoomAns KS (addV cs hs x fs y) w (.returned (.tuple #[.agg #[.slice none 0 0, .slice none 0 0], .int .i64 4])) ((w1'.setCell ⟨w.heap.size + 1, 0, none⟩ (.slice none 0 0)).setCell ⟨w.heap.size + 1, 1, none⟩ (.slice none 0 0))) := fun w1' hk hb he => by
    have hz := hk.lt
    obtain ⟨q1, q2⟩ := room_fin KS.law (Room.start KS w1' w1'.heap.size (Nat.le_refl _) (fun _ => (.slice none 0 0, .slice none 0 0, fun _ => ((none, 0), (none, 0)))) (fun _ _ => False)) hb (r := w.heap.size + 1) (x0 := .slice none 0 0) (x1 := .slice none 0 0) (by omega) (by omega)
    rw [he]
    exact ⟨_, _, _, _, rfl, q1, q2⟩
  by_cases hg : RepoGood cs hs
  · rw [repoOk_true hg]
    have HG := Lib.hid hg
    clear hg
    go_wp2_with fail
    refine (specSheetOk_any _ _ fs _ (HF.out.below B1.out) hfl HFL.out).mono ?_
    rintro e w1' ⟨rfl, hb1⟩
    replace KA := Lib.hid (KA.out.later hb1)
    replace KB := Lib.hid (KB.out.later hb1)
    have B1' : Hid (Below w.heap.size w w1') := B1.out.trans (hb1.mono B1.out.size)
    replace z1 := KB.out.lt
    replace z0 := KA.out.lt
    clear hb1 B1
    have B1 := B1'
    clear B1'
    generalize w1' = w1 at *
    by_cases hw : sheetOk fs = false
    · have hw' := hw
      rw [hw']
      have HE := Lib.hid (addV_form (cs := cs) (hs := hs) (x := x) (note := y) (.inr (.inl hw')))
      clear hw hw'
      obtain ⟨b0, b1, b2, b3⟩ := KB.out.two
      go_wp2
      have KF := (KB.out.set 0 (.slice none 0 0)).set 1 (.slice none 0 0)
      obtain ⟨r0, r1, _, _⟩ := BK.two KF
      refine bodyPost_ret (v := .tuple #[.agg #[.slice none 0 0, .slice none 0 0], .int .i64 4]) (by simp [results, Tryz.results40, go_sem, r0, r1]) rfl ?_
      exact formEnd.out _ KB.out B1.out HE.out
    have hst : sheetOk fs = true := by simpa using hw
    rw [hst]
    have HSO := Lib.hid hst
    clear hw hst
    go_wp2_with fail
    refine (specWordOk_any y _ hy).mono ?_
    rintro e w1' ⟨rfl, hb1⟩
    obtain rfl : w1 = w1' := hb1.symm
    by_cases hw : wordOk y = false
    · have hw' := hw
      rw [hw']
      have HE := Lib.hid (addV_form (cs := cs) (hs := hs) (x := x) (s := fs) (.inr (.inr hw')))
      clear hw hw'
      obtain ⟨b0, b1, b2, b3⟩ := KB.out.two
      go_wp2
      have KF := (KB.out.set 0 (.slice none 0 0)).set 1 (.slice none 0 0)
      obtain ⟨r0, r1, _, _⟩ := BK.two KF
      refine bodyPost_ret (v := .tuple #[.agg #[.slice none 0 0, .slice none 0 0], .int .i64 4]) (by simp [results, Tryz.results40, go_sem, r0, r1]) rfl ?_
      exact formEnd.out _ KB.out B1.out HE.out
    have hwt : wordOk y = true := by simpa using hw
    rw [hwt]
    have HWO := Lib.hid hwt
    clear hw hwt
    obtain ⟨a0, a1, _, _⟩ := KA.out.two
    go_wp2_with fail
    clear a0 a1
    refine (l7Copy_any _ _ _ _ _ _ _ (HR.out.below B1.out) HL.out HG.out.few HG.out.pos).mono ?_
    rintro e w2 ⟨cv, hv, ad, S, rfl, hRm, hb2⟩
    obtain ⟨pa, pc, pb, pd, rfl, rfl, _, _, _⟩ := hRm.form KS.law
    have RB := Lib.hid hRm.blocks
    have RM := Lib.hid hRm
    replace KA := Lib.hid (KA.out.later hb2)
    replace KB := Lib.hid (KB.out.later hb2)
    have B2 : Hid (Below w.heap.size w w2) := B1.out.trans (hb2.mono B1.out.size)
    have z12 := hb2.size
    clear hb2 hRm B1
    go_upto_region 4 with (fail)
    obtain ⟨W3, hW3⟩ : ∃ W3, W3 = w2.alloc (.cells #[.slice pa cs.length pc, .slice pb hs.length pd] 46) := ⟨_, rfl⟩
    rw [← hW3]
    have A3 : Hid (Below w2.heap.size w2 W3) := by rw [hW3]; exact (Below.refl _ _).alloc (Nat.le_refl _) _
    have KC : Hid (BK W3 w2.heap.size #[.slice pa cs.length pc, .slice pb hs.length pd] 46) := by rw [hW3]; exact BK.new _ _ _
    replace KA := Lib.hid (KA.out.later A3.out)
    replace KB := Lib.hid (KB.out.later A3.out)
    replace RM := Lib.hid (RM.out.below KS.law A3.out)
    have B3 : Hid (Below w.heap.size w W3) := B2.out.trans (A3.out.mono B2.out.size)
    have y0 := KA.out.lt
    have y1 := KB.out.lt
    have y2 := KC.out.lt
    clear hW3 A3 B2
    obtain ⟨a0, a1, _, _⟩ := KA.out.two
    go_wp2_with fail
    clear a0 a1
    refine (l7Head_any _ _ _ _ _ _ _ _ (HR.out.hds.below B3.out) (by omega)).mono ?_
    rintro e w4 ⟨⟨r, rfl, hfr⟩, hb4⟩
    have FL := Lib.hid (first_last HG.out.apart hfr)
    replace KA := Lib.hid (KA.out.later hb4)
    replace KB := Lib.hid (KB.out.later hb4)
    replace KC := Lib.hid (KC.out.later hb4)
    replace RM := Lib.hid (RM.out.below KS.law hb4)
    have B4 : Hid (Below w.heap.size w w4) := B3.out.trans (hb4.mono B3.out.size)
    replace y0 := KA.out.lt
    replace y1 := KB.out.lt
    replace y2 := KC.out.lt
    clear hb4 hfr B3
    rcases FL.out with ⟨rfl, hq⟩ | ⟨j, rfl, hj, hq⟩
    · have HE := Lib.hid (addV_none HG.out HSO.out HWO.out hq)
      clear hq FL
      obtain ⟨b0, b1, b2, b3⟩ := KB.out.two
      obtain ⟨c0, c1, _, _⟩ := KC.out.two
      go_wp2
      have KF := (KB.out.set 0 (.slice pa cs.length pc)).set 1 (.slice pb hs.length pd)
      obtain ⟨r0, r1, _, _⟩ := BK.two KF
      refine bodyPost_ret (v := .tuple #[.agg #[.slice pa cs.length pc, .slice pb hs.length pd], .int .i64 1]) (by simp [results, Tryz.results40, go_sem, r0, r1]) rfl ?_
      obtain ⟨q1, q2⟩ := room_fin KS.law RM.out B4.out (r := w.heap.size + 1) (x0 := .slice pa cs.length pc) (x1 := .slice pb hs.length pd) (by omega) (by omega)
      rw [HE.out]
      exact ⟨_, _, _, _, rfl, q1, q2⟩
    · clear FL
      have hj0 : ¬ (j : Int) < 0 := by omega
      have HQ := Lib.hid hq
      have hgd := HG.out.hds j hj
      obtain ⟨n, hn⟩ : ∃ n : Nat, hda hs j = n := ⟨(hda hs j).toNat, by have := hgd.lo; omega⟩
      have hnl : n < cs.length := by have := hgd.hi; omega
      have HN := Lib.hid hn
      clear hq hgd
      obtain ⟨hb', off, e0, hlt', k1, k2⟩ := HR.out.hds.below B4.out j hj
      subst e0
      rw [hn] at k2
      clear k1 hn
      obtain ⟨a0, a1, _, _⟩ := KA.out.two
      go_upto_region 8 with (fail)
      obtain ⟨V, hV⟩ : ∃ V, V = (w4.alloc (.cells #[.int .i64 n] 3)).alloc (.cells #[.slice (some ⟨w4.heap.size, 0, none⟩) 1 1, .slice fa fs.length fc, .string y] 54) := ⟨_, rfl⟩
      rw [← hV]
      have BV : Hid (Below w4.heap.size w4 V) := by rw [hV]; exact ((Below.refl _ _).alloc (Nat.le_refl _) _).alloc (by simp) _
      have KI1 : Hid (BK V w4.heap.size #[.int .i64 n] 3) := by rw [hV]; exact (BK.new _ _ _).alloc _
      have KD : Hid (BK V (w4.heap.size + 1) #[.slice (some ⟨w4.heap.size, 0, none⟩) 1 1, .slice fa fs.length fc, .string y] 54) := by rw [hV]; exact BK.at _ _ _ (by simp)
      have IU : Hid (IntsAt V (some ⟨w4.heap.size, 0, none⟩) [hda hs j]) := by
        intro i hi
        obtain rfl : i = 0 := by simp at hi; omega
        exact ⟨w4.heap.size, 0, rfl, KI1.out.lt, by rw [show ix [hda hs j] 0 = (n : Int) from HN.out]; exact KI1.out.cell 0 rfl⟩
      clear hV a0 a1 KI1
      replace KA := Lib.hid (KA.out.later BV.out)
      replace KB := Lib.hid (KB.out.later BV.out)
      replace KC := Lib.hid (KC.out.later BV.out)
      replace RM := Lib.hid (RM.out.below KS.law BV.out)
      replace k2 := cell_later BV.out k2
      have B5 : Hid (Below w.heap.size w V) := B4.out.trans (BV.out.mono B4.out.size)
      have hlt5 : hb' < V.heap.size := World.block_lt_of_cell? _ _ k2
      obtain ⟨cb', offc, ua', uc', sa', sc', e1, hx⟩ := HR.out.cms n hnl
      subst e1
      obtain ⟨hcb, d0, d1, d2, hii, hff⟩ := hx.below B5.out
      have FFS := Lib.hid hff
      replace y0 := KA.out.lt
      replace y1 := KB.out.lt
      replace y2 := KC.out.lt
      have y3 := KD.out.lt
      have hz4 := BV.out.size
      clear hx hii hff d0 d2 B4 hlt'
      obtain ⟨a0, a1, _, _⟩ := KA.out.two
      have SOF : Hid (∀ wy, Below V.heap.size V wy → wy.cell? ⟨w.heap.size, 0, none⟩ = some (.slice (some ⟨cb', offc, none⟩) cs.length ca) ∧ wy.cell? ⟨w.heap.size, 1, none⟩ = some (.slice (some ⟨hb', off, none⟩) hs.length cb) ∧ wy.cell? ⟨hb', off + j * 2 + 1, none⟩ = some (.int .i64 n) ∧ wy.cell? ⟨cb', offc + n * 3 + 1, none⟩ = some (.slice sa' (mg cs n).2.1.length sc') ∧ Below V.heap.size V wy) := fun wy hb => ⟨cell_later hb a0, cell_later hb a1, cell_later hb k2, cell_later hb d1, hb⟩
      have hSL := Lib.hid (HL.out.cms n hnl)
      go_cut [45] (fun s45 wx => s45 = .bool (fsEq (mg cs n).2.1 fs) ∧ Below V.heap.size V wx)
      case first =>
        go_region_held3 (fun wy => wy.cell? ⟨w.heap.size, 0, none⟩ = some (.slice (some ⟨cb', offc, none⟩) cs.length ca) ∧ wy.cell? ⟨w.heap.size, 1, none⟩ = some (.slice (some ⟨hb', off, none⟩) hs.length cb) ∧ wy.cell? ⟨hb', off + j * 2 + 1, none⟩ = some (.int .i64 n) ∧ wy.cell? ⟨cb', offc + n * 3 + 1, none⟩ = some (.slice sa' (mg cs n).2.1.length sc') ∧ Below V.heap.size V wy)
          (first
            | with_reducible exact SOF.out _ (drew_below _)
            | (go_split_ands; rename_i hS; with_reducible exact SOF.out _ (hS.trans (hbn.mono hS.size)))
            | fail)
          (first
            | (go_at_call 91
               refine (specSheetSame_any _ _ _ _ (mg cs n).2.1 fs _ ?_ ?_ (by have := hSL.out.2.1; omega) hfl hSL.out.2.2.1 HFL.out).mono ?_
               · (go_split_ands; rename_i hS; exact FFS.out.below hS)
               · (go_split_ands; rename_i hS; exact HF.out.below (B5.out.trans (hS.mono B5.out.size)))
               rintro e wn ⟨rfl, hbn⟩)
            | fail)
        all_goals (go_wp2_with fail; go_meet; go_split_ands; exact ⟨rfl, by assumption⟩)
      case rest =>
      obtain ⟨rfl, hb6⟩ := hcut
      replace KA := Lib.hid (KA.out.later hb6)
      replace KB := Lib.hid (KB.out.later hb6)
      replace KC := Lib.hid (KC.out.later hb6)
      replace KD := Lib.hid (KD.out.later hb6)
      replace RM := Lib.hid (RM.out.below KS.law hb6)
      replace IU := Lib.hid (IU.out.below hb6)
      have B6 : Hid (Below w.heap.size w wc) := B5.out.trans (hb6.mono B5.out.size)
      replace y0 := KA.out.lt
      replace y1 := KB.out.lt
      replace y2 := KC.out.lt
      replace y3 := KD.out.lt
      have hz6 := hb6.size
      clear hb6 SOF a0 a1 k2 d1 FFS hcb hlt5 BV B5
      by_cases hsm : fsEq (mg cs n).2.1 fs = true
      · have HE := Lib.hid (addV_same HG.out HSO.out HWO.out HQ.out (by rw [HN.out]; exact hsm))
        rw [hsm]
        clear hsm
        obtain ⟨b0, b1, b2, b3⟩ := KB.out.two
        obtain ⟨c0, c1, _, _⟩ := KC.out.two
        go_wp2
        have KF := (KB.out.set 0 (.slice pa cs.length pc)).set 1 (.slice pb hs.length pd)
        obtain ⟨r0, r1, _, _⟩ := BK.two KF
        refine bodyPost_ret (v := .tuple #[.agg #[.slice pa cs.length pc, .slice pb hs.length pd], .int .i64 3]) (by simp [results, Tryz.results40, go_sem, r0, r1]) rfl ?_
        obtain ⟨q1, q2⟩ := room_fin KS.law RM.out B6.out (r := w.heap.size + 1) (x0 := .slice pa cs.length pc) (x1 := .slice pb hs.length pd) (by omega) (by omega)
        rw [HE.out]
        exact ⟨_, _, _, _, rfl, q1, q2⟩
      have hsf : fsEq (mg cs n).2.1 fs = false := by simpa using hsm
      have HEL := Lib.hid (addV_else HG.out HSO.out HWO.out HQ.out (by rw [HN.out]; exact hsf))
      rw [hsf]
      clear hsm hsf
      have HCL : Hid (CmLen ([hda hs j], fs, y) 1048576) := ⟨by show ((1 : Nat) : Int) ≤ _; omega, by show (fs.length : Int) ≤ _; omega, HFL.out, by show (y.size : Int) ≤ _; omega⟩
      obtain ⟨a0, a1, _, _⟩ := KA.out.two
      have d0 := KD.out.cell 0 (v := .slice (some ⟨w4.heap.size, 0, none⟩) 1 1) rfl
      have d1 := KD.out.cell 1 (v := .slice fa fs.length fc) rfl
      have d2 := KD.out.cell 2 (v := .string y) rfl
      go_wp2_with fail
      clear a0 a1 d0 d1 d2
      refine (l7Find_any _ _ _ _ _ cs ([hda hs j], fs, y) _ _ _ _ _ (HR.out.cms.below B6.out) (by omega) HL.out.cms IU.out (HF.out.below B6.out) HCL.out).mono ?_
      rintro e w7 ⟨⟨r, rfl, hfr⟩, hb7⟩
      obtain rfl := firstC_eq hfr
      replace KA := Lib.hid (KA.out.later hb7)
      replace KB := Lib.hid (KB.out.later hb7)
      replace KC := Lib.hid (KC.out.later hb7)
      replace KD := Lib.hid (KD.out.later hb7)
      replace RM := Lib.hid (RM.out.below KS.law hb7)
      replace IU := Lib.hid (IU.out.below hb7)
      have B7 : Hid (Below w.heap.size w w7) := B6.out.trans (hb7.mono B6.out.size)
      replace y0 := KA.out.lt
      replace y1 := KB.out.lt
      replace y2 := KC.out.lt
      replace y3 := KD.out.lt
      have hz7 := hb7.size
      clear hb7 hfr B6
      rcases firstC_cases cs ([hda hs j], fs, y) with h0 | ⟨k, hk, hkl⟩
      · have hn0 : ¬ 0 ≤ firstC cs ([hda hs j], fs, y) := by omega
        rw [h0]
        by_cases h14 : cs.length = 14
        · have HE : Hid (addV cs hs x fs y = (cs, hs, 2)) := by rw [Hid, HEL.out, withV_full hn0 h14]; rfl
          have hb1 : (cs.length : Int) ≥ 14 := by omega
          clear h0 hn0 h14
          obtain ⟨a0, a1, _, _⟩ := KA.out.two
          obtain ⟨b0, b1, b2, b3⟩ := KB.out.two
          obtain ⟨c0, c1, _, _⟩ := KC.out.two
          go_wp2
          have KF := (KB.out.set 0 (.slice pa cs.length pc)).set 1 (.slice pb hs.length pd)
          obtain ⟨r0, r1, _, _⟩ := BK.two KF
          refine bodyPost_ret (v := .tuple #[.agg #[.slice pa cs.length pc, .slice pb hs.length pd], .int .i64 2]) (by simp [results, Tryz.results40, go_sem, r0, r1]) rfl ?_
          obtain ⟨q1, q2⟩ := room_fin KS.law RM.out B7.out (r := w.heap.size + 1) (x0 := .slice pa cs.length pc) (x1 := .slice pb hs.length pd) (by omega) (by omega)
          rw [HE.out]
          exact ⟨_, _, _, _, rfl, q1, q2⟩
        · have HE : Hid (addV cs hs x fs y = ((l7V cs ([hda hs j], fs, y)).1, atH hs j (l7V cs ([hda hs j], fs, y)).2, 0)) := by
            rw [Hid, HEL.out, withV_new hn0 h14]
            unfold l7V
            rw [if_neg hn0]
            rfl
          have hle := HG.out.c2
          have hb1 : ¬ (cs.length : Int) ≥ 14 := by omega
          clear h0 hn0 h14
          obtain ⟨a0, a1, _, _⟩ := KA.out.two
          obtain ⟨c0, c1, _, _⟩ := KC.out.two
          have d0 := KD.out.cell 0 (v := .slice (some ⟨w4.heap.size, 0, none⟩) 1 1) rfl
          have d1 := KD.out.cell 1 (v := .slice fa fs.length fc) rfl
          have d2 := KD.out.cell 2 (v := .string y) rfl
          go_wp2_with fail
          clear a0 a1 d0 d1 d2 c0 c1
          refine (l7Add_any _ _ w1.heap.size cs hs ad S ([hda hs j], fs, y) _ _ _ _ j _ RM.out IU.out (HF.out.below B7.out) hj (by omega) HL.out.cms HCL.out (by show 1 ≤ 1000; omega) (fun i hi => ftOk_pts (good_ok HSO.out hi))).mono ?_
          rintro e w8 ⟨cv', ad', S', rfl, hR8, ht8⟩
          obtain ⟨qa, qc, qb, qd, eq1, eq2, _, _, _⟩ := hR8.form KS.law
          subst eq1
          rw [atH_len] at eq2
          have ow : ∀ z, ((Value.slice pa cs.length pc).ownBlock = some z ∨ (Value.slice pb hs.length pd).ownBlock = some z) → w1.heap.size ≤ z ∧ z < w2.heap.size := fun z hz => hz.elim (fun e => RB.out z (.inl (.inl e))) fun e => RB.out z (.inr e)
          have B8 : Hid (Below w.heap.size w w8) := B7.out.trans (ht8.below B7.out.size fun z hz => by have := (ow z hz).1; omega)
          have KB8 : Hid (BK w8 (w.heap.size + 1) #[.slice none 0 0, .slice none 0 0] 46) := (ht8.block _ KB.out.lt (fun hz => by have := (ow _ hz).1; omega)).trans KB.out
          have R8 := Lib.hid hR8
          have y5 := KB8.out.lt
          clear ht8 hR8 ow
          obtain ⟨b0, b1, b2, b3⟩ := KB8.out.two
          go_wp2
          have KF := (KB8.out.set 0 (.slice qa (l7V cs ([hda hs j], fs, y)).1.length qc)).set 1 (.slice pb hs.length pd)
          obtain ⟨r0, r1, _, _⟩ := BK.two KF
          refine bodyPost_ret (v := .tuple #[.agg #[.slice qa (l7V cs ([hda hs j], fs, y)).1.length qc, .slice pb hs.length pd], .int .i64 0]) (by simp [results, Tryz.results40, go_sem, r0, r1]) rfl ?_
          obtain ⟨q1, q2⟩ := room_fin KS.law R8.out B8.out (r := w.heap.size + 1) (x0 := .slice qa (l7V cs ([hda hs j], fs, y)).1.length qc) (x1 := .slice pb hs.length pd) (by omega) (by omega)
          rw [HE.out]
          exact ⟨_, _, _, _, rfl, q1, q2⟩
      · have HE : Hid (addV cs hs x fs y = ((l7V cs ([hda hs j], fs, y)).1, atH hs j (l7V cs ([hda hs j], fs, y)).2, 0)) := by
          have hp0 : 0 ≤ firstC cs ([hda hs j], fs, y) := by omega
          rw [Hid, HEL.out, withV_there hp0]
          unfold l7V
          rw [if_pos hp0]
          rfl
        have m0 : ¬ ((k : Int) < 0) := by omega
        rw [hk]
        clear hk hkl
        have hle := HG.out.c2
        obtain ⟨c0, c1, _, _⟩ := KC.out.two
        have d0 := KD.out.cell 0 (v := .slice (some ⟨w4.heap.size, 0, none⟩) 1 1) rfl
        have d1 := KD.out.cell 1 (v := .slice fa fs.length fc) rfl
        have d2 := KD.out.cell 2 (v := .string y) rfl
        go_wp2_with fail
        clear d0 d1 d2 c0 c1
        refine (l7Add_any _ _ w1.heap.size cs hs ad S ([hda hs j], fs, y) _ _ _ _ j _ RM.out IU.out (HF.out.below B7.out) hj (by omega) HL.out.cms HCL.out (by show 1 ≤ 1000; omega) (fun i hi => ftOk_pts (good_ok HSO.out hi))).mono ?_
        rintro e w8 ⟨cv', ad', S', rfl, hR8, ht8⟩
        obtain ⟨qa, qc, qb, qd, eq1, eq2, _, _, _⟩ := hR8.form KS.law
        subst eq1
        rw [atH_len] at eq2
        have ow : ∀ z, ((Value.slice pa cs.length pc).ownBlock = some z ∨ (Value.slice pb hs.length pd).ownBlock = some z) → w1.heap.size ≤ z ∧ z < w2.heap.size := fun z hz => hz.elim (fun e => RB.out z (.inl (.inl e))) fun e => RB.out z (.inr e)
        have B8 : Hid (Below w.heap.size w w8) := B7.out.trans (ht8.below B7.out.size fun z hz => by have := (ow z hz).1; omega)
        have KB8 : Hid (BK w8 (w.heap.size + 1) #[.slice none 0 0, .slice none 0 0] 46) := (ht8.block _ KB.out.lt (fun hz => by have := (ow _ hz).1; omega)).trans KB.out
        have R8 := Lib.hid hR8
        have y5 := KB8.out.lt
        clear ht8 hR8 ow
        obtain ⟨b0, b1, b2, b3⟩ := KB8.out.two
        go_wp2
        have KF := (KB8.out.set 0 (.slice qa (l7V cs ([hda hs j], fs, y)).1.length qc)).set 1 (.slice pb hs.length pd)
        obtain ⟨r0, r1, _, _⟩ := BK.two KF
        refine bodyPost_ret (v := .tuple #[.agg #[.slice qa (l7V cs ([hda hs j], fs, y)).1.length qc, .slice pb hs.length pd], .int .i64 0]) (by simp [results, Tryz.results40, go_sem, r0, r1]) rfl ?_
        obtain ⟨q1, q2⟩ := room_fin KS.law R8.out B8.out (r := w.heap.size + 1) (x0 := .slice qa (l7V cs ([hda hs j], fs, y)).1.length qc) (x1 := .slice pb hs.length pd) (by omega) (by omega)
        rw [HE.out]
        exact ⟨_, _, _, _, rfl, q1, q2⟩
  · rw [repoOk_false hg]
    have HE := Lib.hid (addV_form (cs := cs) (hs := hs) (x := x) (note := y) (s := fs) (.inl (repoOk_false hg)))
    clear hg
    obtain ⟨b0, b1, b2, b3⟩ := KB.out.two
    go_wp2
    have KF := (KB.out.set 0 (.slice none 0 0)).set 1 (.slice none 0 0)
    obtain ⟨r0, r1, _, _⟩ := BK.two KF
    refine bodyPost_ret (v := .tuple #[.agg #[.slice none 0 0, .slice none 0 0], .int .i64 4]) (by simp [results, Tryz.results40, go_sem, r0, r1]) rfl ?_
    exact formEnd.out _ KB.out B1.out HE.out
end Go.Proofs.YtdfadpejddhbkaaGreat
