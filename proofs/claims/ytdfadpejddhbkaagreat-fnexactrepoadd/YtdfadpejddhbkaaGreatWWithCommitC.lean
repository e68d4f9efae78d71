/- Proved here: what the program's function that puts a version behind all answers; at most 1,000 versions of at most 1,048,576 parts. -/
import Derived.Test.YtdfadpejddhbkaaGreatWAddVC
import Derived.Test.YtdfadpejddhbkaaGreatG7
namespace Go.Proofs.YtdfadpejddhbkaaGreat
set_option linter.unusedVariables false
open Go.ChangeShapes Go.WideShapes Go.ChangeAt Go.RowKit Go.Deep

/-- what it answers -/
def WithAns (cv hv : Value) (lo : Nat) (cs : List Cm) (hs : List Hd) (v : List Cm × Int × Bool) (w : World) (e : Ending) (w' : World) : Prop :=
  ∃ cv' ad S, e = .returned (.tuple #[.agg #[cv', hv], .int .i64 v.2.1, .bool v.2.2]) ∧ Room KI w' lo cv' hv v.1 hs ad S ∧ Turned w w' (fun x => cv.ownBlock = some x)

set_option maxRecDepth 100000 in
set_option maxHeartbeats 8000000 in
theorem withCommit_any (cv hv : Value) (lo : Nat) (cs : List Cm) (hs : List Hd) (ad : Nat → PlO) (S : Nat → Nat → Prop) (c : Cm) (p : PlO) (P : Nat → Prop) (w : World) (hR : Room KI w lo cv hv cs hs ad S) (hp : KI w c p P) (hP : ∀ x, P x → lo ≤ x ∧ x < w.heap.size ∧ ¬ inRoom cv hv cs.length S x) (hl : cs.length ≤ 1000) (hL : CmsLen cs 1048576) (hc : CmLen c 1048576) :
    Calls Tryz.prog 99 #[.agg #[cv, hv], .agg #[p.1, p.2.1, .string c.2.2]] w (WithAns cv hv lo cs hs (withV cs c) w) := by
  obtain ⟨a, ca, b, cb, rfl, rfl, _, _, hA⟩ := hR.form KI.law
  obtain ⟨ua, uc, sa, sc, e1, e2, hU, hF⟩ := KI.law.reads hp
  obtain ⟨p1, p2, pad⟩ := p
  simp only at e1 e2
  subst e1
  subst e2
  obtain ⟨i0, hi, hz0, hz1, hz2⟩ := info_parts infoCommit
  have HI := Lib.hid hi
  have HZ0 := Lib.hid hz0
  have HZ1 := Lib.hid hz1
  have HZ2 := Lib.hid hz2
  have HR := Lib.hid hR
  have HP := Lib.hid hp
  have HPP := Lib.hid hP
  have HA := Lib.hid hA.cms
  have HU := Lib.hid hU
  have HF := Lib.hid hF
  have HL := Lib.hid hL
  have HC := Lib.hid hc
  have HBl := Lib.hid hR.blocks
  clear hR hp hP hA hU hF hL hc hi hz0 hz1 hz2
  go_enter Tryz.func99, Tryz.ntmps99
  go_upto_region 1 with (fail)
  obtain ⟨W, hW⟩ : ∃ W, W = (((w.alloc (.cells #[.slice a cs.length ca, .slice b hs.length cb] 46)).alloc (.cells #[.slice ua c.1.length uc, .slice sa c.2.1.length sc, .string c.2.2] 54)).alloc (.cells #[.slice none 0 0, .slice none 0 0] 46)) := ⟨_, rfl⟩
  rw [← hW]
  have B0 : Hid (Below w.heap.size w W) := by rw [hW]; exact (((Below.refl _ _).alloc (Nat.le_refl _) _).alloc (by simp) _).alloc (by simp; omega) _
  have KA : Hid (BK W w.heap.size #[.slice a cs.length ca, .slice b hs.length cb] 46) := by rw [hW]; exact ((BK.new _ _ _).alloc _).alloc _
  have KB : Hid (BK W (w.heap.size + 1) #[.slice ua c.1.length uc, .slice sa c.2.1.length sc, .string c.2.2] 54) := by rw [hW]; exact (BK.at _ _ _ (by simp)).alloc _
  have KC : Hid (BK W (w.heap.size + 1 + 1) #[.slice none 0 0, .slice none 0 0] 46) := by rw [hW]; exact BK.at _ _ _ (by simp)
  have y0 := KA.out.lt
  have y1 := KB.out.lt
  have y2 := KC.out.lt
  clear hW
  have a0 := KA.out.cell 0 (v := .slice a cs.length ca) rfl
  have a1 := KA.out.cell 1 (v := .slice b hs.length cb) rfl
  have b0 := KB.out.cell 0 (v := .slice ua c.1.length uc) rfl
  have b1 := KB.out.cell 1 (v := .slice sa c.2.1.length sc) rfl
  have b2 := KB.out.cell 2 (v := .string c.2.2) rfl
  go_wp2_with fail
  clear a0 a1 b0 b1 b2
  refine (commitPlace_any _ _ cs c _ _ _ _ _ (HU.out.below B0.out) (HF.out.below B0.out) (HA.out.below B0.out) (by omega) HL.out HC.out).mono ?_
  rintro e w1 ⟨⟨r, rfl, hfr⟩, hb1⟩
  obtain rfl := firstC_eq hfr
  replace KA := Lib.hid (KA.out.later hb1)
  replace KB := Lib.hid (KB.out.later hb1)
  replace KC := Lib.hid (KC.out.later hb1)
  have B1 : Hid (Below w.heap.size w w1) := B0.out.trans (hb1.mono B0.out.size)
  replace y0 := KA.out.lt
  replace y1 := KB.out.lt
  replace y2 := KC.out.lt
  clear hb1 B0 hfr
  have T1 : Hid (Turned w w1 (fun x => (Value.slice a cs.length ca).ownBlock = some x)) := Turned.of_below B1.out
  have R1 := Lib.hid (HR.out.below KI.law B1.out)
  have P1 := Lib.hid (KI.law.keep HP.out (fun x hx => (HPP.out x hx).2.1) (Turned.of_below (S := fun _ => False) B1.out) fun _ _ h => h)
  have fin : Hid (∀ (wx : World) (v0 v1 : Value), Turned w wx (fun x => (Value.slice a cs.length ca).ownBlock = some x) → Turned wx ((wx.setCell ⟨w.heap.size + 1 + 1, 0, none⟩ v0).setCell ⟨w.heap.size + 1 + 1, 1, none⟩ v1) (fun x => x = w.heap.size + 1 + 1) ∧ Turned w ((wx.setCell ⟨w.heap.size + 1 + 1, 0, none⟩ v0).setCell ⟨w.heap.size + 1 + 1, 1, none⟩ v1) (fun x => (Value.slice a cs.length ca).ownBlock = some x)) := fun wx v0 v1 ht => by
    have T : Turned wx ((wx.setCell ⟨w.heap.size + 1 + 1, 0, none⟩ v0).setCell ⟨w.heap.size + 1 + 1, 1, none⟩ v1) (fun x => x = w.heap.size + 1 + 1) := (Turned.of_set (S := fun x => x = w.heap.size + 1 + 1) _ _ _ rfl).trans (Turned.of_set _ _ _ rfl)
    refine ⟨T, T.os.trans ht.os, T.tape.trans ht.tape, T.output.trans ht.output, Nat.le_trans ht.size T.size, fun k hk hn => ?_⟩
    rw [T.block k (Nat.lt_of_lt_of_le hk ht.size) (by omega)]
    exact ht.block k hk hn
  rcases firstC_cases cs c with h0 | ⟨k, hk, hkl⟩
  · have hn0 : ¬ 0 ≤ firstC cs c := by omega
    rw [h0]
    by_cases h14 : cs.length = 14
    · have HE := Lib.hid (withV_full hn0 h14)
      have hb1 : ((cs.length : Int) == 14) = true := by rw [h14]; rfl
      clear h0 hn0 h14
      obtain ⟨a0, a1, _, _⟩ := KA.out.two
      obtain ⟨c0, c1, c2, c3⟩ := KC.out.two
      go_wp2
      have KF := (KC.out.set 0 (.slice a cs.length ca)).set 1 (.slice b hs.length cb)
      obtain ⟨r0, r1, _, _⟩ := BK.two KF
      refine bodyPost_ret (v := .tuple #[.agg #[.slice a cs.length ca, .slice b hs.length cb], .int .i64 (-1), .bool false]) (by simp [results, Tryz.results99, go_sem, r0, r1]) rfl ?_
      obtain ⟨q1, q2⟩ := fin.out w1 (.slice a cs.length ca) (.slice b hs.length cb) T1.out
      rw [HE.out]
      exact ⟨_, ad, S, rfl, R1.out.turned KI.law q1 fun x hx e => by have := (HBl.out x hx).2; omega, q2⟩
    · have HE := Lib.hid (withV_new hn0 h14)
      have hb1 : ((cs.length : Int) == 14) = false := by simp only [beq_eq_false_iff_ne, ne_eq]; omega
      clear h0 hn0 h14
      obtain ⟨a0, a1, a2, a3⟩ := KA.out.two
      obtain ⟨c0, c1, c2, c3⟩ := KC.out.two
      have b0 := KB.out.cell 0 (v := .slice ua c.1.length uc) rfl
      have b1 := KB.out.cell 1 (v := .slice sa c.2.1.length sc) rfl
      have b2 := KB.out.cell 2 (v := .string c.2.2) rfl
      have RO := Lib.hid R1.out.cms.row
      have hlow := R1.out.hds.le
      go_upto_region 7 with (at_builtin; refine wpList_append_lies _ (by rfl) _ _ _ (by rfl) lo 54 i0 _ 3 64 Tryz.underlying43 HI.out HZ0.out HZ1.out HZ2.out rfl (by omega) (.slice a cs.length ca) cs.length (flatM cs ad cs.length) (by rfl) (RO.out.alloc _) ⟨w1.heap.size, 0, none⟩ 1 1 (cellsM c (.slice ua c.1.length uc, .slice sa c.2.1.length sc, pad)) (by rfl) (by rfl) (World.news_of_block (cs := #[.slice ua c.1.length uc, .slice sa c.2.1.length sc, .string c.2.2]) (t := 54) (fr := (0, 0)) (heap_alloc_new w1 _)) (by simp [Value.oneCell', cellsM]) (by omega) (by unfold maxLen; omega) (by omega) (by simp; omega) (w1.heap.size + 1) (by simp) ?_; intro gg cap' wa hown1 hgrow hat hlt'; have NV : (Value.slice a cs.length ca).ownBlock ≠ some w.heap.size := (fun e => by have := (HBl.out _ (.inl (.inl e))).2; omega); have g0 : wa.cell? ⟨w.heap.size, 0, none⟩ = some (.slice a cs.length ca) := alloc_grown_cell hgrow y0 a0 NV; have g1 : wa.frozen? ⟨w.heap.size, 0, none⟩ = false := (hgrow.frozen_far ⟨w.heap.size, 0, none⟩ (by simp; omega) (fun e => NV e.symm)).trans ((Below.frozen (p := ⟨w.heap.size, 0, none⟩) ((Below.refl w1.heap.size w1).alloc (Nat.le_refl _) _) y0).trans a2); have OW := Lib.hid hown1; have GR := Lib.hid hgrow; have AT := Lib.hid hat; clear hown1 hgrow hat)
      have BA : Below w1.heap.size w1 (w1.alloc (.cells #[.slice ua c.1.length uc, .slice sa c.2.1.length sc, .string c.2.2] 54)) := (Below.refl _ _).alloc (Nat.le_refl _) _
      have hz := BA.size
      obtain ⟨RN, TN⟩ := (R1.out.below KI.law BA).pushC KI.law (KI.law.keep P1.out (fun x hx => by have := (HPP.out x hx).2.1; have := B1.out.size; omega) (Turned.of_below (S := fun _ => False) BA) fun _ _ h => h) (fun x hx => ⟨(HPP.out x hx).1, by have := (HPP.out x hx).2.1; have := B1.out.size; omega, (HPP.out x hx).2.2⟩) OW.out GR.out (AT.out.imp id fun e => by rw [e]; simp)
      have T2 : Hid (Turned w wa (fun x => (Value.slice a cs.length ca).ownBlock = some x)) := (T1.out.trans (Turned.of_below BA)).trans TN
      have nown : ∀ z, w.heap.size ≤ z → ¬ (Value.slice a cs.length ca).ownBlock = some z := fun z hz e => by have := (HBl.out _ (.inl (.inl e))).2; omega
      have KA2 : Hid (BK wa w.heap.size #[.slice a cs.length ca, .slice b hs.length cb] 46) := (TN.block _ (KA.out.alloc _).lt (nown _ (Nat.le_refl _))).trans (KA.out.alloc _)
      have KC2 : Hid (BK wa (w.heap.size + 1 + 1) #[.slice none 0 0, .slice none 0 0] 46) := (TN.block _ (KC.out.alloc _).lt (nown _ (by omega))).trans (KC.out.alloc _)
      obtain ⟨V, hV⟩ : ∃ V, V = wa.setCell ⟨w.heap.size, 0, none⟩ (.slice (some ⟨gg, 0, none⟩) (cs.length + 1) cap') := ⟨_, rfl⟩
      rw [← hV]
      have TV : Turned wa V (fun x => x = w.heap.size) := by rw [hV]; exact Turned.of_set _ _ _ rfl
      have RBl := RN.blocks
      have KA3 : Hid (BK V w.heap.size #[.slice (some ⟨gg, 0, none⟩) (cs.length + 1) cap', .slice b hs.length cb] 46) := by rw [hV]; exact KA2.out.set 0 _
      have KC3 : Hid (BK V (w.heap.size + 1 + 1) #[.slice none 0 0, .slice none 0 0] 46) := by rw [hV]; exact KC2.out.setOther _ _ (by omega)
      have NIN : Hid (∀ x, inRoom (.slice (some ⟨gg, 0, none⟩) (cs.length + 1) cap') (.slice b hs.length cb) (cs ++ [c]).length (poSet S cs.length P) x → x < w.heap.size ∨ w1.heap.size ≤ x) := fun x hx => by
        rcases hx with (hx | ⟨i, hi, hx⟩) | hx
        · obtain rfl : gg = x := by simpa [Value.ownBlock] using hx
          rcases AT.out with q | q
          · exact .inl (HBl.out _ (.inl (.inl q))).2
          · exact .inr (by rw [q]; simp)
        · by_cases e : i = cs.length
          · subst e
            rw [poSet_at] at hx
            exact .inl (HPP.out x hx).2.1
          · have hi' : i < cs.length := by simp at hi; omega
            rw [poSet_lt hi'] at hx
            exact .inl (HBl.out x (.inl (.inr ⟨i, hi', hx⟩))).2
        · exact .inl (HBl.out x (.inr hx)).2
      have RV := Lib.hid (RN.turned KI.law TV fun x hx e => by rcases NIN.out x hx with q | q <;> omega)
      have T3 : Hid (Turned w V (fun x => (Value.slice a cs.length ca).ownBlock = some x)) := ⟨TV.os.trans T2.out.os, TV.tape.trans T2.out.tape, TV.output.trans T2.out.output, Nat.le_trans T2.out.size TV.size, fun k hk hn => by rw [TV.block k (Nat.lt_of_lt_of_le hk T2.out.size) (by omega)]; exact T2.out.block k hk hn⟩
      have y3 := KA3.out.lt
      have y4 := KC3.out.lt
      clear hV TV RN TN RBl nown T2 KA2 KC2 g0 g1 a0 a1 a2 a3 c0 c1 c2 c3 b0 b1 b2 BA hz
      obtain ⟨a0, a1, _, _⟩ := KA3.out.two
      obtain ⟨c0, c1, c2, c3⟩ := KC3.out.two
      go_region
      all_goals
        go_wp2
        have KF := (KC3.out.set 0 (.slice (some ⟨gg, 0, none⟩) (cs.length + 1) cap')).set 1 (.slice b hs.length cb)
        obtain ⟨r0, r1, _, _⟩ := BK.two KF
        refine bodyPost_ret (v := .tuple #[.agg #[.slice (some ⟨gg, 0, none⟩) (cs.length + 1) cap', .slice b hs.length cb], .int .i64 cs.length, .bool true]) (by simp [results, Tryz.results99, go_sem, r0, r1]) rfl ?_
        obtain ⟨q1, q2⟩ := fin.out V (.slice (some ⟨gg, 0, none⟩) (cs.length + 1) cap') (.slice b hs.length cb) T3.out
        rw [HE.out]
        exact ⟨_, _, _, rfl, (RV.out.turned KI.law q1 fun x hx e => (by rcases NIN.out x hx with q | q <;> omega)).below KI.law (drew_below _), q2.trans (Turned.of_below (drew_below _))⟩
  · have hn0 : 0 ≤ firstC cs c := by omega
    have HE := Lib.hid (withV_there hn0)
    have hb1 : firstC cs c ≥ 0 := by omega
    clear hk hkl
    generalize firstC cs c = r at *
    obtain ⟨a0, a1, _, _⟩ := KA.out.two
    obtain ⟨c0, c1, c2, c3⟩ := KC.out.two
    go_wp2
    have KF := (KC.out.set 0 (.slice a cs.length ca)).set 1 (.slice b hs.length cb)
    obtain ⟨r0, r1, _, _⟩ := BK.two KF
    refine bodyPost_ret (v := .tuple #[.agg #[.slice a cs.length ca, .slice b hs.length cb], .int .i64 r, .bool true]) (by simp [results, Tryz.results99, go_sem, r0, r1]) rfl ?_
    obtain ⟨q1, q2⟩ := fin.out w1 (.slice a cs.length ca) (.slice b hs.length cb) T1.out
    rw [HE.out]
    exact ⟨_, ad, S, rfl, R1.out.turned KI.law q1 fun x hx e => by have := (HBl.out x hx).2; omega, q2⟩
end Go.Proofs.YtdfadpejddhbkaaGreat
