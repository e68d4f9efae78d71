/- Proved here: what the model's function that puts a version behind that of a branch answers; at most 1,000 versions of at most 1,048,576 parts. -/
import Derived.Test.YtdfadpejddhbkaaGreatWAddVC
import Derived.Test.YtdfadpejddhbkaaGreatG7
namespace Go.Proofs.YtdfadpejddhbkaaGreat
set_option linter.unusedVariables false
open Go.ChangeShapes Go.WideShapes Go.ChangeAt Go.RowKit Go.Deep

/-- the versions with one more, if there is none such, and its place -/
noncomputable def l7V (cs : List Cm) (c : Cm) : List Cm × Int := if 0 ≤ firstC cs c then (cs, firstC cs c) else (cs ++ [c], cs.length)

/-- what it answers -/
def L7Ans (cv hv : Value) (lo : Nat) (cs : List Cm) (hs : List Hd) (w : World) (e : Ending) (w' : World) : Prop :=
  ∃ cv' ad S, e = .returned (.agg #[cv', hv]) ∧ Room KS w' lo cv' hv cs hs ad S ∧ Turned w w' (fun x => cv.ownBlock = some x ∨ hv.ownBlock = some x)

set_option maxRecDepth 100000 in
set_option maxHeartbeats 8000000 in
theorem l7Add_any (cv hv : Value) (lo : Nat) (cs : List Cm) (hs : List Hd) (ad : Nat → PlO) (S : Nat → Nat → Prop) (c : Cm) (ua sa : Option Addr) (uc sc : Nat) (j : Nat) (w : World) (hR : Room KS w lo cv hv cs hs ad S) (hU : IntsAt w ua c.1) (hF : FeatsAt w sa c.2.1) (hj : j < hs.length) (hl : cs.length ≤ 1000) (hL : CmsLen cs 1048576) (hc : CmLen c 1048576) (hc1 : c.1.length ≤ 1000) (hpos : ∀ i, i < c.2.1.length → 0 < (fps c.2.1 i).length) :
    Calls Tryz.prog 92 #[.agg #[cv, hv], .int .i64 j, .agg #[.slice ua c.1.length uc, .slice sa c.2.1.length sc, .string c.2.2]] w (L7Ans cv hv lo (l7V cs c).1 (atH hs j (l7V cs c).2) w) := by
  obtain ⟨a, ca, b, cb, rfl, rfl, _, _, hA⟩ := hR.form KS.law
  rcases ownsRow_rows hR.hds.own with ⟨e1, h2⟩ | ⟨g, cap, f0, e1, hnc, hcm, _⟩
  · omega
  obtain ⟨rfl, rfl⟩ : b = some ⟨g, 0, none⟩ ∧ cb = cap := by simpa using e1
  clear e1
  obtain ⟨i0, hi, hz0, hz1, hz2⟩ := info_parts infoCommit
  have HI := Lib.hid hi
  have HZ0 := Lib.hid hz0
  have HZ1 := Lib.hid hz1
  have HZ2 := Lib.hid hz2
  have HR := Lib.hid hR
  have HA := Lib.hid hA.cms
  have HU := Lib.hid hU
  have HF := Lib.hid hF
  have HL := Lib.hid hL
  have HC := Lib.hid hc
  have HP := Lib.hid hpos
  have HBl := Lib.hid hR.blocks
  clear hR hA hU hF hL hc hi hz0 hz1 hz2 hpos
  go_enter Tryz.func92, Tryz.ntmps92
  go_upto_region 1 with (fail)
  obtain ⟨W, hW⟩ : ∃ W, W = (((w.alloc (.cells #[.slice a cs.length ca, .slice (some ⟨g, 0, none⟩) hs.length cb] 46)).alloc (.cells #[.slice ua c.1.length uc, .slice sa c.2.1.length sc, .string c.2.2] 54)).alloc (.cells #[.slice none 0 0, .slice none 0 0] 46)) := ⟨_, rfl⟩
  rw [← hW]
  have B0 : Hid (Below w.heap.size w W) := by rw [hW]; exact (((Below.refl _ _).alloc (Nat.le_refl _) _).alloc (by simp) _).alloc (by simp; omega) _
  have KA : Hid (BK W w.heap.size #[.slice a cs.length ca, .slice (some ⟨g, 0, none⟩) hs.length cb] 46) := by rw [hW]; exact ((BK.new _ _ _).alloc _).alloc _
  have KB : Hid (BK W (w.heap.size + 1) #[.slice ua c.1.length uc, .slice sa c.2.1.length sc, .string c.2.2] 54) := by rw [hW]; exact (BK.at _ _ _ (by simp)).alloc _
  have KC : Hid (BK W (w.heap.size + 1 + 1) #[.slice none 0 0, .slice none 0 0] 46) := by rw [hW]; exact BK.at _ _ _ (by simp)
  have y0 := KA.out.lt
  have y1 := KB.out.lt
  have y2 := KC.out.lt
  clear hW
  obtain ⟨a0, a1, _, _⟩ := KA.out.two
  have b0 := KB.out.cell 0 (v := .slice ua c.1.length uc) rfl
  have b1 := KB.out.cell 1 (v := .slice sa c.2.1.length sc) rfl
  have b2 := KB.out.cell 2 (v := .string c.2.2) rfl
  go_wp2_with fail
  clear a0 a1 b0 b1 b2
  refine (l7Find_any _ _ _ _ _ cs c _ _ _ _ _ (HA.out.below B0.out) (by omega) HL.out (HU.out.below B0.out) (HF.out.below B0.out) HC.out).mono ?_
  rintro e w1 ⟨⟨r, rfl, hfr⟩, hb1⟩
  obtain rfl := firstC_eq hfr
  replace KA := Lib.hid (KA.out.later hb1)
  replace KB := Lib.hid (KB.out.later hb1)
  replace KC := Lib.hid (KC.out.later hb1)
  have B1 : Hid (Below w.heap.size w w1) := B0.out.trans (hb1.mono B0.out.size)
  replace y0 := KA.out.lt
  replace y1 := KB.out.lt
  replace y2 := KC.out.lt
  clear hb1 B0 hfr
  have R1 := Lib.hid (HR.out.below KS.law B1.out)
  -- the end: the branch is led to the version, and the room is answered
  have gfar : g < w.heap.size := (HBl.out g (.inr rfl)).2
  have END : Hid (∀ (wx : World) (cv' : Value) (cs' : List Cm) (ad' : Nat → PlO) (S' : Nat → Nat → Prop) (k : Int), Room KS wx lo cv' (.slice (some ⟨g, 0, none⟩) hs.length cb) cs' hs ad' S' → Turned w wx (fun x => (Value.slice a cs.length ca).ownBlock = some x ∨ (Value.slice (some ⟨g, 0, none⟩) hs.length cb).ownBlock = some x) → (∀ x, inRoom cv' (.slice (some ⟨g, 0, none⟩) hs.length cb) cs'.length S' x → x < w.heap.size ∨ w1.heap.size ≤ x) →
      L7Ans (.slice a cs.length ca) (.slice (some ⟨g, 0, none⟩) hs.length cb) lo cs' (atH hs j k) w (.returned (.agg #[cv', .slice (some ⟨g, 0, none⟩) hs.length cb])) (((wx.setCell ⟨g, j * 2 + 1, none⟩ (.int .i64 k)).setCell ⟨w.heap.size + 1 + 1, 0, none⟩ cv').setCell ⟨w.heap.size + 1 + 1, 1, none⟩ (.slice (some ⟨g, 0, none⟩) hs.length cb))) := fun wx cv' cs' ad' S' k hr ht hn => by
    obtain ⟨q1, q2⟩ := hr.setAt KS.law hj k
    have T : Turned (wx.setCell ⟨g, j * 2 + 1, none⟩ (.int .i64 k)) (((wx.setCell ⟨g, j * 2 + 1, none⟩ (.int .i64 k)).setCell ⟨w.heap.size + 1 + 1, 0, none⟩ cv').setCell ⟨w.heap.size + 1 + 1, 1, none⟩ (.slice (some ⟨g, 0, none⟩) hs.length cb)) (fun x => x = w.heap.size + 1 + 1) := (Turned.of_set (S := fun x => x = w.heap.size + 1 + 1) _ _ _ rfl).trans (Turned.of_set _ _ _ rfl)
    refine ⟨cv', ad', S', rfl, q1.turned KS.law T fun x hx e => by rcases hn x hx with q | q <;> omega, ?_⟩
    have t1 := ht.trans (q2.wide fun x hx => .inr (by rw [hx]; rfl))
    refine ⟨T.os.trans t1.os, T.tape.trans t1.tape, T.output.trans t1.output, Nat.le_trans t1.size T.size, fun k hk hn => ?_⟩
    rw [T.block k (Nat.lt_of_lt_of_le hk t1.size) (by omega)]
    exact t1.block k hk hn
  have CELLS : Hid (∀ (wx : World) (cv' : Value) (cs' : List Cm) (ad' : Nat → PlO) (S' : Nat → Nat → Prop), Room KS wx lo cv' (.slice (some ⟨g, 0, none⟩) hs.length cb) cs' hs ad' S' → wx.cell? ⟨g, j * 2 + 1, none⟩ = some (.int .i64 (hda hs j)) ∧ wx.frozen? ⟨g, j * 2 + 1, none⟩ = false) := fun wx cv' cs' ad' S' hr => ⟨by rw [hr.hds.own.cellAt (j * 2 + 1) (by omega), (flatH_at hs j hj).2], hr.hds.own.frozenAt _⟩
  rcases firstC_cases cs c with h0 | ⟨k, hk, hkl⟩
  · have HE : Hid (l7V cs c = (cs ++ [c], (cs.length : Int))) := by rw [Hid]; unfold l7V; exact if_neg (by omega)
    rw [h0]
    have m0 : ((-1 : Int) < 0) := by omega
    clear h0
    have RB1 := Lib.hid R1.out.cms.row
    obtain ⟨a0, a1, a2, a3⟩ := KA.out.two
    obtain ⟨c0, c1, c2, c3⟩ := KC.out.two
    have b0 := KB.out.cell 0 (v := .slice ua c.1.length uc) rfl
    have b1 := KB.out.cell 1 (v := .slice sa c.2.1.length sc) rfl
    have b2 := KB.out.cell 2 (v := .string c.2.2) rfl
    have hlow := R1.out.hds.le
    have NV : Hid ((Value.slice a cs.length ca).ownBlock ≠ some w.heap.size) := fun e => by have := (HBl.out _ (.inl (.inl e))).2; omega
    go_upto_region 4 with (fail)
    go_region_law (first
      | (have hq := NC; clear hq; refine step_append_lies _ (by rfl) _ _ _ (by rfl) lo 54 i0 _ 3 64 Tryz.underlying43 HI.out HZ0.out HZ1.out HZ2.out rfl (by omega) (.slice a cs.length ca) cs.length (flatM cs ad cs.length) (by rfl) (R3.out.cms.row.alloc _) ⟨w3.heap.size, 0, none⟩ 1 1 (cellsM c (.slice a2' c.1.length c2', .slice a3' c.2.1.length c3', fun _ => ((none, 0), (none, 0)))) (by rfl) (by rfl) (World.news_of_block (cs := #[.slice a2' c.1.length c2', .slice a3' c.2.1.length c3', .string c.2.2]) (t := 54) (fr := (0, 0)) (heap_alloc_new w3 _)) (by simp [Value.oneCell', cellsM]) (by omega) (by unfold maxLen; omega) (by omega) (by simp; omega) (w3.heap.size + 1) (by simp) ?_; intro gg cap' wa hown1 hgrow hat hlt'; have g0 : wa.cell? ⟨w.heap.size, 0, none⟩ = some (.slice a cs.length ca) := alloc_grown_cell hgrow zB3 f3 NV.out; have g1 : wa.frozen? ⟨w.heap.size, 0, none⟩ = false := (hgrow.frozen_far ⟨w.heap.size, 0, none⟩ (by simp; omega) (fun e => NV.out e.symm)).trans ((Below.frozen (p := ⟨w.heap.size, 0, none⟩) ((Below.refl w3.heap.size w3).alloc (Nat.le_refl _) _) zB3).trans (K3.out.frozen 0)); have OW := Lib.hid hown1; have GR := Lib.hid hgrow; have AT := Lib.hid hat; clear hown1 hgrow hat)
      | (go_simp; go_at_call 112; refine (l7One_any c ua uc sa sc _ ((HU.out.below B1.out).below (drew_below _)) ((HF.out.below B1.out).below (drew_below _)) (by omega) (by have := HC.out.2.1; omega) HC.out.2.2.1 HP.out).mono ?_; rintro e w3 ⟨a2', c2', a3', c3', rfl, hA, hbA⟩; have NC := Lib.hid hA; have B3 : Hid (Below w1.heap.size w1 w3) := (drew_below w1).trans hbA; have K3 := Lib.hid (KA.out.later B3.out); have R3 := Lib.hid (R1.out.below KS.law B3.out); have zB3 := K3.out.lt; have f3 := K3.out.cell 0 (v := .slice a cs.length ca) rfl; have hz3 := B3.out.size; clear hA hbA; dsimp only)
      | fail)
    all_goals
      have BA : Below w3.heap.size w3 (w3.alloc (.cells #[.slice a2' c.1.length c2', .slice a3' c.2.1.length c3', .string c.2.2] 54)) := (Below.refl _ _).alloc (Nat.le_refl _) _
      obtain ⟨RN, TN⟩ := (R3.out.below KS.law BA).pushC KS.law (KS.law.keep NC.out (fun x hx => hx.2) (Turned.of_below (S := fun _ => False) BA) fun _ _ h => h) (fun x hx => ⟨by have := hx.1; simp only [World.drew] at this; omega, by have := hx.2; simp; omega, fun e => by have h1 := (HBl.out x e).2; have := hx.1; have := B1.out.size; simp only [World.drew] at *; omega⟩) OW.out GR.out (AT.out.imp id fun e => by rw [e]; simp)
      have T2 : Hid (Turned w wa (fun x => (Value.slice a cs.length ca).ownBlock = some x)) := ((Turned.of_below B1.out).trans ((Turned.of_below B3.out).trans (Turned.of_below BA))).trans TN
      have nown : ∀ z, w.heap.size ≤ z → ¬ (Value.slice a cs.length ca).ownBlock = some z := fun z hz e => by have := (HBl.out _ (.inl (.inl e))).2; omega
      have KA2 : Hid (BK wa w.heap.size #[.slice a cs.length ca, .slice (some ⟨g, 0, none⟩) hs.length cb] 46) := (TN.block _ (K3.out.alloc _).lt (nown _ (Nat.le_refl _))).trans (K3.out.alloc _)
      have KC2 : Hid (BK wa (w.heap.size + 1 + 1) #[.slice none 0 0, .slice none 0 0] 46) := (TN.block _ ((KC.out.later B3.out).alloc _).lt (nown _ (by omega))).trans ((KC.out.later B3.out).alloc _)
      obtain ⟨V, hV⟩ : ∃ V, V = wa.setCell ⟨w.heap.size, 0, none⟩ (.slice (some ⟨gg, 0, none⟩) (cs.length + 1) cap') := ⟨_, rfl⟩
      rw [← hV]
      have TV : Turned wa V (fun x => x = w.heap.size) := by rw [hV]; exact Turned.of_set _ _ _ rfl
      have KA3 : Hid (BK V w.heap.size #[.slice (some ⟨gg, 0, none⟩) (cs.length + 1) cap', .slice (some ⟨g, 0, none⟩) hs.length cb] 46) := by rw [hV]; exact KA2.out.set 0 _
      have KC3 : Hid (BK V (w.heap.size + 1 + 1) #[.slice none 0 0, .slice none 0 0] 46) := by rw [hV]; exact KC2.out.setOther _ _ (by omega)
      have NIN : Hid (∀ x, inRoom (.slice (some ⟨gg, 0, none⟩) (cs.length + 1) cap') (.slice (some ⟨g, 0, none⟩) hs.length cb) (cs ++ [c]).length (poSet S cs.length fun x => w1.drew.heap.size ≤ x ∧ x < w3.heap.size) x → x < w.heap.size ∨ w1.heap.size ≤ x) := fun x hx => by
        rcases hx with (hx | ⟨i, hi, hx⟩) | hx
        · obtain rfl : gg = x := by simpa [Value.ownBlock] using hx
          rcases AT.out with q | q
          · exact .inl (HBl.out _ (.inl (.inl q))).2
          · exact .inr (by omega)
        · by_cases e : i = cs.length
          · subst e
            rw [poSet_at] at hx
            exact .inr hx.1
          · have hi' : i < cs.length := by simp at hi; omega
            rw [poSet_lt hi'] at hx
            exact .inl (HBl.out x (.inl (.inr ⟨i, hi', hx⟩))).2
        · exact .inl (HBl.out x (.inr hx)).2
      have RV := Lib.hid (RN.turned KS.law TV fun x hx e => by rcases NIN.out x hx with q | q <;> omega)
      have T3 : Hid (Turned w V (fun x => (Value.slice a cs.length ca).ownBlock = some x ∨ (Value.slice (some ⟨g, 0, none⟩) hs.length cb).ownBlock = some x)) := ⟨TV.os.trans T2.out.os, TV.tape.trans T2.out.tape, TV.output.trans T2.out.output, Nat.le_trans T2.out.size TV.size, fun k hk hn => by rw [TV.block k (Nat.lt_of_lt_of_le hk T2.out.size) (by omega)]; exact T2.out.block k hk fun e => hn (.inl e)⟩
      have y3 := KA3.out.lt
      have y4 := KC3.out.lt
      obtain ⟨e5, e6⟩ := CELLS.out _ _ _ _ _ RV.out
      clear hV TV RN TN nown T2 KA2 KC2 g0 g1 a0 a1 a2 a3 c0 c1 c2 c3 b0 b1 b2 BA f3
      obtain ⟨a0, a1, _, _⟩ := KA3.out.two
      obtain ⟨c0, c1, c2, c3⟩ := KC3.out.two
      have n1 : ¬ g = w.heap.size := by omega
      have n2 : ¬ g = w.heap.size + 1 + 1 := by omega
      go_wp2
      have KF := ((KC3.out.setOther (c := g) (j * 2 + 1) (.int .i64 cs.length) n2).set 0 (.slice (some ⟨gg, 0, none⟩) (cs.length + 1) cap')).set 1 (.slice (some ⟨g, 0, none⟩) hs.length cb)
      obtain ⟨r0, r1, _, _⟩ := BK.two KF
      refine bodyPost_ret (v := .agg #[.slice (some ⟨gg, 0, none⟩) (cs.length + 1) cap', .slice (some ⟨g, 0, none⟩) hs.length cb]) (by simp [results, Tryz.results92, go_sem, r0, r1]) rfl ?_
      rw [HE.out]
      exact END.out V _ _ _ _ _ RV.out T3.out NIN.out
  · have HE : Hid (l7V cs c = (cs, (k : Int))) := by rw [Hid]; unfold l7V; rw [hk]; exact if_pos (by omega)
    rw [hk]
    have m0 : ¬ ((k : Int) < 0) := by omega
    clear hk
    obtain ⟨a0, a1, a2, a3⟩ := KA.out.two
    obtain ⟨c0, c1, c2, c3⟩ := KC.out.two
    obtain ⟨e5, e6⟩ := CELLS.out _ _ _ _ _ R1.out
    have n1 : ¬ g = w.heap.size := by omega
    have n2 : ¬ g = w.heap.size + 1 + 1 := by omega
    have n3 : g < w1.heap.size := by omega
    go_wp2
    have KF := ((KC.out.setOther (c := g) (j * 2 + 1) (.int .i64 k) n2).set 0 (.slice a cs.length ca)).set 1 (.slice (some ⟨g, 0, none⟩) hs.length cb)
    obtain ⟨r0, r1, _, _⟩ := BK.two KF
    refine bodyPost_ret (v := .agg #[.slice a cs.length ca, .slice (some ⟨g, 0, none⟩) hs.length cb]) (by simp [results, Tryz.results92, go_sem, r0, r1]) rfl ?_
    rw [HE.out]
    exact END.out w1 _ _ _ _ _ R1.out (Turned.of_below B1.out) fun x hx => .inl (HBl.out x hx).2
end Go.Proofs.YtdfadpejddhbkaaGreat
