/- Proved here: the function that marks a list of changes does so change by change, each part with marks of its own, and asking for the marks finds them; lists of at most 1,048,576 changes, points and tags. -/
import Derived.Test.YtccgbengfmlgbaaGreatWListC
import Derived.Test.YtccgbengfmlgbaaGreatWMarkTag
import Derived.Deep.RegionHeld3
import Derived.Deep.DeepCutAuto
namespace Go.Proofs.YtccgbengfmlgbaaGreat
set_option linter.unusedVariables false
open Go.ChangeShapes Go.WideShapes Go.ChangeAt Go.RowKit

/-- the number of the first mark of a change's second side -/
def cmS (c : Ch) (m : Int) : Int := m + 1 + 1 + 1 + 1 + 2 * (c.2.2.1.2.2.1.length : Int) + 2 * (c.2.2.1.2.2.2.length : Int)
/-- the number of the first mark behind a change -/
def cmE (c : Ch) (m : Int) : Int := cmS c m + 1 + 1 + 1 + 2 * (c.2.2.2.2.2.2.1.length : Int) + 2 * (c.2.2.2.2.2.2.2.length : Int)
/-- a change's marks -/
def cmC (c : Ch) (m : Int) : Ch :=
  (markT m, (m + 1) % 3 == 0, (markT (m + 1 + 1), m + 1 + 1 + 1, marks (m + 1 + 1 + 1 + 1) c.2.2.1.2.2.1.length, marksT (m + 1 + 1 + 1 + 1 + 2 * (c.2.2.1.2.2.1.length : Int)) c.2.2.1.2.2.2.length),
   cmS c m % 3 == 0, (markT (cmS c m + 1), cmS c m + 1 + 1, marks (cmS c m + 1 + 1 + 1) c.2.2.2.2.2.2.1.length, marksT (cmS c m + 1 + 1 + 1 + 2 * (c.2.2.2.2.2.2.1.length : Int)) c.2.2.2.2.2.2.2.length))
/-- the number of the first mark of a change of a list -/
def cmn (ds : List Ch) (k : Int) : Nat → Int
  | 0 => k
  | i + 1 => cmE (cg ds i) (cmn ds k i)
/-- the changes, the first ones marked -/
def cmTo (ds : List Ch) (k : Int) (j : Nat) : List Ch := (List.range ds.length).map fun i => if i < j then cmC (cg ds i) (cmn ds k i) else cg ds i

theorem cmTo_len (ds : List Ch) (k : Int) (j : Nat) : (cmTo ds k j).length = ds.length := by simp [cmTo]
theorem cmTo_at {ds : List Ch} (k : Int) (j : Nat) {i : Nat} (h : i < ds.length) : cg (cmTo ds k j) i = if i < j then cmC (cg ds i) (cmn ds k i) else cg ds i := by
  rw [cg_get (by rw [cmTo_len]; exact h)]
  simp [cmTo]
theorem cmTo_zero (ds : List Ch) (k : Int) : cmTo ds k 0 = ds := by
  refine List.ext_getElem (cmTo_len _ _ _) fun i h1 h2 => ?_
  rw [← cg_get h1, ← cg_get h2, cmTo_at k 0 h2, if_neg (by omega)]
theorem cmTo_same {ds : List Ch} (k : Int) {j : Nat} (h : j < ds.length) : (cmTo ds k j).set j (cg ds j) = cmTo ds k j := by
  refine List.ext_getElem (by simp) fun i h1 h2 => ?_
  have hi : i < ds.length := by rw [cmTo_len] at h2; exact h2
  rw [← cg_get h1, ← cg_get h2]
  by_cases e : i = j
  · subst e
    rw [cg_set _ h2, cmTo_at k i hi, if_neg (by omega)]
  · rw [cg_set_ne _ e]
theorem cmTo_next {ds : List Ch} (k : Int) {j : Nat} (h : j < ds.length) : (cmTo ds k j).set j (cmC (cg ds j) (cmn ds k j)) = cmTo ds k (j + 1) := by
  refine List.ext_getElem (by simp [cmTo_len]) fun i h1 h2 => ?_
  have hi : i < ds.length := by rw [cmTo_len] at h2; exact h2
  rw [← cg_get h1, ← cg_get h2]
  by_cases e : i = j
  · subst e
    rw [cg_set _ (by rw [cmTo_len]; exact h), cmTo_at k (i + 1) hi, if_pos (by omega)]
  · rw [cg_set_ne _ e, cmTo_at k j hi, cmTo_at k (j + 1) hi]
    have : (i < j + 1) = (i < j) := by simp; omega
    simp only [this]

theorem cmn_le {ds : List Ch} {k : Int} (h0 : 0 ≤ k) (h4 : k ≤ 1000000000000000) (hL : ChLen ds 1048576) : ∀ i, i ≤ ds.length → 0 ≤ cmn ds k i ∧ cmn ds k i ≤ 1000000000000000 + i * 8388615
  | 0, _ => ⟨h0, by show k ≤ _; omega⟩
  | i + 1, hi => by
    obtain ⟨h1, h2⟩ := cmn_le h0 h4 hL i (by omega)
    obtain ⟨_, ⟨_, a1, a2, _⟩, ⟨_, a3, a4, _⟩⟩ := hL i (by omega)
    unfold cwf at a1 a2
    unfold cnf at a3 a4
    show 0 ≤ cmE (cg ds i) (cmn ds k i) ∧ cmE (cg ds i) (cmn ds k i) ≤ _
    unfold cmE cmS
    omega

theorem LiesC.at {w : World} {b off : Nat} {D : List Ch} {ad : Nat → PlC} {j : Nat} {c : Ch} (h : LiesC w b off (D.set j c) ad) (hj : j < D.length) (r : Nat) (hr : r < 11) : w.cell? ⟨b, off + j * 11 + r, none⟩ = some (chv c (ad j) r) := by
  have := h.cell j (by simpa using hj) r hr
  rwa [cg_set _ hj] at this
theorem LiesC.pt {w : World} {b off : Nat} {D : List Ch} {ad : Nat → PlC} {j : Nat} {c : Ch} (h : LiesC w b off (D.set j c) ad) (hj : j < D.length) (r : Nat) (hr : r < 4) : PartC w c (ad j) r := by
  have := h.part j (by simpa using hj) r hr
  rwa [cg_set _ hj] at this

set_option maxRecDepth 100000 in
set_option maxHeartbeats 8000000 in
theorem markChangeS_some (b off cap : Nat) (ds : List Ch) (ad : Nat → PlC) (k : Int) (w : World) (hl : ds.length ≤ 1048576) (hL : ChLen ds 1048576) (h0 : 0 ≤ k) (h4 : k ≤ 1000000000000000) (hlie : LiesC w b off ds ad) (hsep : SepC b ds.length ad) :
    Calls Tryz.prog 30 #[.slice (some ⟨b, off, none⟩) ds.length cap, .int .i64 k] w fun e w' => e = .returned (.int .i64 (cmn ds k ds.length)) ∧ LiesC w' b off (cmTo ds k ds.length) ad ∧ Turned w w' (blocksC b ds.length ad) := by
  have HL := Lib.hid hL
  have HLie : Hid (LiesC w b off (cmTo ds k 0) ad) := by rw [cmTo_zero]; exact hlie
  clear hL hlie
  go_enter Tryz.func30, Tryz.ntmps30
  go_wp2
  go_loopw [1, 5] (fun s1 i wr => ∃ j : Nat, j ≤ ds.length ∧ s1 = .int .i64 (cmn ds k j) ∧ i = .int .i64 j ∧ LiesC wr b off (cmTo ds k j) ad ∧ Turned w wr (blocksC b ds.length ad)) (fun _ i _ => ds.length - (intOf i).toNat)
  case atStart => exact ⟨0, Nat.zero_le _, rfl, rfl, HLie.out, Turned.refl _ _⟩
  case round =>
    clear HLie
    obtain ⟨j, hj, rfl, rfl, hlie, htu⟩ := hrel
    obtain ⟨k0, k1⟩ := cmn_le h0 h4 HL.out j hj
    by_cases hlt : j < ds.length
    · obtain ⟨_, ⟨_, a1, a2, _⟩, ⟨_, a3, a4, _⟩⟩ := HL.out j hlt
      unfold cwf at a1 a2
      unfold cnf at a3 a4
      have HE : Hid (cmn ds k (j + 1) = cmE (cg ds j) (cmn ds k j)) := rfl
      have HN := Lib.hid (cmTo_next k hlt)
      have hD : (cmTo ds k j).length = ds.length := cmTo_len _ _ _
      rw [← cmTo_same k hlt] at hlie
      have HS : Hid (SepC b (cmTo ds k j).length ad) := by rw [hD]; exact hsep
      have HBk : Hid (∀ x, x = b → blocksC b ds.length ad x) := fun x e => .inl e
      have HBp : Hid (∀ r x, r < 4 → blk (ad j r).1 = some x → blocksC b ds.length ad x) := fun r x hr hx => .inr ⟨j, r, hlt, hr, hx⟩
      have HQ : Hid (cmn ds k (j + 1) = cmE (cg ds j) (cmn ds k j)) := rfl
      obtain ⟨DE, hDE⟩ : ∃ DE, DE = cmTo ds k (j + 1) := ⟨_, rfl⟩
      have HR := Lib.hid hDE
      rw [← hDE] at HN
      clear hDE HE
      generalize cmTo ds k j = D at *
      generalize cmn ds k j = m at *
      generalize cg ds j = c at *
      have hlt' : j < D.length := by omega
      obtain ⟨i, h, ⟨fi, fk, fp, ft⟩, s, ⟨gi, gk, gp, gt⟩⟩ := c
      simp only at a1 a2 a3 a4
      have blt := hlie.lt
      have L0 := Lib.hid hlie
      have T0 := Lib.hid htu
      clear hlie htu
      go_wp2_with fail
      refine (markText_any _ _ (by omega)).mono ?_
      rintro e w1 ⟨rfl, hb⟩
      have L1 := Lib.hid (L0.out.below hb)
      have T1 : Hid (Turned w w1 (blocksC b ds.length ad)) := T0.out.trans (Turned.of_below hb)
      clear hb L0 T0
      have c0 : w1.cell? ⟨b, off + j * 11, none⟩ = some (.string (i)) := L1.out.at hlt' 0 (by omega)
      have f0 : w1.frozen? ⟨b, off + j * 11, none⟩ = false := L1.out.soft _
      have c1 : w1.cell? ⟨b, off + j * 11 + 1, none⟩ = some (.bool (h)) := L1.out.at hlt' 1 (by omega)
      have f1 : w1.frozen? ⟨b, off + j * 11 + 1, none⟩ = false := L1.out.soft _
      go_wp2_with fail
      generalize hw : ((w1.setCell ⟨b, off + j * 11, none⟩ (.string (markT m))).setCell ⟨b, off + j * 11 + 1, none⟩ (.bool ((m + 1) % 3 == 0))) = w2
      have L2 : Hid (LiesC w2 b off (D.set j (markT m, (m + 1) % 3 == 0, (fi, fk, fp, ft), s, (gi, gk, gp, gt))) ad) := by rw [← hw]; exact ((L1.out.setC (c' := (markT m, h, (fi, fk, fp, ft), s, (gi, gk, gp, gt))) (r := 0) (v := .string (markT m)) HS.out hlt' (by omega) (by intro q hq; rcases q with _ | _ | _ | _ | _ | _ | _ | _ | _ | _ | _ | q <;> first | rfl | omega) (by intro u q hq h; rcases q with _ | _ | _ | _ | q <;> first | exact h | omega)).setC (c' := (markT m, (m + 1) % 3 == 0, (fi, fk, fp, ft), s, (gi, gk, gp, gt))) (r := 1) (v := .bool ((m + 1) % 3 == 0)) HS.out hlt' (by omega) (by intro q hq; rcases q with _ | _ | _ | _ | _ | _ | _ | _ | _ | _ | _ | q <;> first | rfl | omega) (by intro u q hq h; rcases q with _ | _ | _ | _ | q <;> first | exact h | omega))
      have T2 : Hid (Turned w w2 (blocksC b ds.length ad)) := by rw [← hw]; exact ((T1.out.trans (Turned.of_set _ _ _ (HBk.out _ rfl))).trans (Turned.of_set _ _ _ (HBk.out _ rfl)))
      clear hw L1 T1
      clear c0 c1 f0 f1
      refine (markText_any _ _ (by omega)).mono ?_
      rintro e w3 ⟨rfl, hb⟩
      have L3 := Lib.hid (L2.out.below hb)
      have T3 : Hid (Turned w w3 (blocksC b ds.length ad)) := T2.out.trans (Turned.of_below hb)
      clear hb L2 T2
      have c2 : w3.cell? ⟨b, off + j * 11 + 2, none⟩ = some (.string (fi)) := L3.out.at hlt' 2 (by omega)
      have f2 : w3.frozen? ⟨b, off + j * 11 + 2, none⟩ = false := L3.out.soft _
      have c3 : w3.cell? ⟨b, off + j * 11 + 3, none⟩ = some (.int .i64 (fk)) := L3.out.at hlt' 3 (by omega)
      have f3 : w3.frozen? ⟨b, off + j * 11 + 3, none⟩ = false := L3.out.soft _
      have c4 : w3.cell? ⟨b, off + j * 11 + 4, none⟩ = some (.slice (ad j 0).1 fp.length (ad j 0).2) := by first | exact L3.out.at hlt' 4 (by omega) | (have := L3.out.at hlt' 4 (by omega); simpa only [chv, marks_len, marksT_len] using this)
      go_wp2_with fail
      generalize hw : ((w3.setCell ⟨b, off + j * 11 + 2, none⟩ (.string (markT (m + 1 + 1)))).setCell ⟨b, off + j * 11 + 3, none⟩ (.int .i64 (m + 1 + 1 + 1))) = w4
      have L4 : Hid (LiesC w4 b off (D.set j (markT m, (m + 1) % 3 == 0, (markT (m + 1 + 1), m + 1 + 1 + 1, fp, ft), s, (gi, gk, gp, gt))) ad) := by rw [← hw]; exact ((L3.out.setC (c' := (markT m, (m + 1) % 3 == 0, (markT (m + 1 + 1), fk, fp, ft), s, (gi, gk, gp, gt))) (r := 2) (v := .string (markT (m + 1 + 1))) HS.out hlt' (by omega) (by intro q hq; rcases q with _ | _ | _ | _ | _ | _ | _ | _ | _ | _ | _ | q <;> first | rfl | omega) (by intro u q hq h; rcases q with _ | _ | _ | _ | q <;> first | exact h | omega)).setC (c' := (markT m, (m + 1) % 3 == 0, (markT (m + 1 + 1), m + 1 + 1 + 1, fp, ft), s, (gi, gk, gp, gt))) (r := 3) (v := .int .i64 (m + 1 + 1 + 1)) HS.out hlt' (by omega) (by intro q hq; rcases q with _ | _ | _ | _ | _ | _ | _ | _ | _ | _ | _ | q <;> first | rfl | omega) (by intro u q hq h; rcases q with _ | _ | _ | _ | q <;> first | exact h | omega))
      have T4 : Hid (Turned w w4 (blocksC b ds.length ad)) := by rw [← hw]; exact ((T3.out.trans (Turned.of_set _ _ _ (HBk.out _ rfl))).trans (Turned.of_set _ _ _ (HBk.out _ rfl)))
      clear hw L3 T3
      clear c2 c3 f2 f3 c4
      have PP : Hid (PtsAt w4 (ad j 0).1 fp) := (L4.out.pt hlt' 0 (by omega)).1
      have PS : Hid (Soft w4 (ad j 0).1 fp.length) := (L4.out.pt hlt' 0 (by omega)).2
      refine (markPtS_any _ _ _ _ _ PP.out PS.out (by omega) (by omega) (by omega)).mono ?_
      rintro e w5 ⟨rfl, g1, g2, g3, g4⟩
      have L5 : Hid (LiesC w5 b off (D.set j (markT m, (m + 1) % 3 == 0, (markT (m + 1 + 1), m + 1 + 1 + 1, marks (m + 1 + 1 + 1 + 1) fp.length, ft), s, (gi, gk, gp, gt))) ad) := L4.out.setP (r := 0) HS.out hlt' (by omega) g3 (by intro q hq; rcases q with _ | _ | _ | _ | _ | _ | _ | _ | _ | _ | _ | q <;> first | rfl | (simp only [chv, marks_len]) | omega) ⟨g1, by show Soft _ _ (marks (m + 1 + 1 + 1 + 1) fp.length).length; rw [marks_len]; exact g2⟩ (by intro u q hq hne h; rcases q with _ | _ | _ | _ | q <;> first | exact h | omega)
      have T5 : Hid (Turned w w5 (blocksC b ds.length ad)) := T4.out.trans (Turned.of_grown g3 fun x hx => HBp.out 0 x (by omega) hx)
      clear PP PS g1 g2 g3 L4 T4 g4
      have c5 : w5.cell? ⟨b, off + j * 11 + 5, none⟩ = some (.slice (ad j 1).1 ft.length (ad j 1).2) := by first | exact L5.out.at hlt' 5 (by omega) | (have := L5.out.at hlt' 5 (by omega); simpa only [chv, marks_len, marksT_len] using this)
      go_wp2_with fail
      clear c5
      have PP : Hid (TagsAt w5 (ad j 1).1 ft) := (L5.out.pt hlt' 1 (by omega)).1
      have PS : Hid (Soft w5 (ad j 1).1 ft.length) := (L5.out.pt hlt' 1 (by omega)).2
      refine (markTagS_any _ _ _ _ _ PP.out PS.out (by omega) (by omega) (by omega)).mono ?_
      rintro e w6 ⟨rfl, g1, g2, g3⟩
      have L6 : Hid (LiesC w6 b off (D.set j (markT m, (m + 1) % 3 == 0, (markT (m + 1 + 1), m + 1 + 1 + 1, marks (m + 1 + 1 + 1 + 1) fp.length, marksT (m + 1 + 1 + 1 + 1 + 2 * (fp.length : Int)) ft.length), s, (gi, gk, gp, gt))) ad) := L5.out.setP (r := 1) HS.out hlt' (by omega) g3 (by intro q hq; rcases q with _ | _ | _ | _ | _ | _ | _ | _ | _ | _ | _ | q <;> first | rfl | (simp only [chv, marksT_len]) | omega) ⟨g1, by show Soft _ _ (marksT (m + 1 + 1 + 1 + 1 + 2 * (fp.length : Int)) ft.length).length; rw [marksT_len]; exact g2⟩ (by intro u q hq hne h; rcases q with _ | _ | _ | _ | q <;> first | exact h | omega)
      have T6 : Hid (Turned w w6 (blocksC b ds.length ad)) := T5.out.trans (Turned.of_grown g3 fun x hx => HBp.out 1 x (by omega) hx)
      clear PP PS g1 g2 g3 L5 T5
      have c6 : w6.cell? ⟨b, off + j * 11 + 6, none⟩ = some (.bool (s)) := L6.out.at hlt' 6 (by omega)
      have f6 : w6.frozen? ⟨b, off + j * 11 + 6, none⟩ = false := L6.out.soft _
      go_wp2_with fail
      generalize hw : (w6.setCell ⟨b, off + j * 11 + 6, none⟩ (.bool ((m + 1 + 1 + 1 + 1 + 2 * (fp.length : Int) + 2 * (ft.length : Int)) % 3 == 0))) = w7
      have L7 : Hid (LiesC w7 b off (D.set j (markT m, (m + 1) % 3 == 0, (markT (m + 1 + 1), m + 1 + 1 + 1, marks (m + 1 + 1 + 1 + 1) fp.length, marksT (m + 1 + 1 + 1 + 1 + 2 * (fp.length : Int)) ft.length), (m + 1 + 1 + 1 + 1 + 2 * (fp.length : Int) + 2 * (ft.length : Int)) % 3 == 0, (gi, gk, gp, gt))) ad) := by rw [← hw]; exact (L6.out.setC (c' := (markT m, (m + 1) % 3 == 0, (markT (m + 1 + 1), m + 1 + 1 + 1, marks (m + 1 + 1 + 1 + 1) fp.length, marksT (m + 1 + 1 + 1 + 1 + 2 * (fp.length : Int)) ft.length), (m + 1 + 1 + 1 + 1 + 2 * (fp.length : Int) + 2 * (ft.length : Int)) % 3 == 0, (gi, gk, gp, gt))) (r := 6) (v := .bool ((m + 1 + 1 + 1 + 1 + 2 * (fp.length : Int) + 2 * (ft.length : Int)) % 3 == 0)) HS.out hlt' (by omega) (by intro q hq; rcases q with _ | _ | _ | _ | _ | _ | _ | _ | _ | _ | _ | q <;> first | rfl | omega) (by intro u q hq h; rcases q with _ | _ | _ | _ | q <;> first | exact h | omega))
      have T7 : Hid (Turned w w7 (blocksC b ds.length ad)) := by rw [← hw]; exact (T6.out.trans (Turned.of_set _ _ _ (HBk.out _ rfl)))
      clear hw L6 T6
      clear c6 f6
      refine (markText_any _ _ (by omega)).mono ?_
      rintro e w8 ⟨rfl, hb⟩
      have L8 := Lib.hid (L7.out.below hb)
      have T8 : Hid (Turned w w8 (blocksC b ds.length ad)) := T7.out.trans (Turned.of_below hb)
      clear hb L7 T7
      have c7 : w8.cell? ⟨b, off + j * 11 + 7, none⟩ = some (.string (gi)) := L8.out.at hlt' 7 (by omega)
      have f7 : w8.frozen? ⟨b, off + j * 11 + 7, none⟩ = false := L8.out.soft _
      have c8 : w8.cell? ⟨b, off + j * 11 + 8, none⟩ = some (.int .i64 (gk)) := L8.out.at hlt' 8 (by omega)
      have f8 : w8.frozen? ⟨b, off + j * 11 + 8, none⟩ = false := L8.out.soft _
      have c9 : w8.cell? ⟨b, off + j * 11 + 9, none⟩ = some (.slice (ad j 2).1 gp.length (ad j 2).2) := by first | exact L8.out.at hlt' 9 (by omega) | (have := L8.out.at hlt' 9 (by omega); simpa only [chv, marks_len, marksT_len] using this)
      go_wp2_with fail
      generalize hw : ((w8.setCell ⟨b, off + j * 11 + 7, none⟩ (.string (markT (m + 1 + 1 + 1 + 1 + 2 * (fp.length : Int) + 2 * (ft.length : Int) + 1)))).setCell ⟨b, off + j * 11 + 8, none⟩ (.int .i64 (m + 1 + 1 + 1 + 1 + 2 * (fp.length : Int) + 2 * (ft.length : Int) + 1 + 1))) = w9
      have L9 : Hid (LiesC w9 b off (D.set j (markT m, (m + 1) % 3 == 0, (markT (m + 1 + 1), m + 1 + 1 + 1, marks (m + 1 + 1 + 1 + 1) fp.length, marksT (m + 1 + 1 + 1 + 1 + 2 * (fp.length : Int)) ft.length), (m + 1 + 1 + 1 + 1 + 2 * (fp.length : Int) + 2 * (ft.length : Int)) % 3 == 0, (markT (m + 1 + 1 + 1 + 1 + 2 * (fp.length : Int) + 2 * (ft.length : Int) + 1), m + 1 + 1 + 1 + 1 + 2 * (fp.length : Int) + 2 * (ft.length : Int) + 1 + 1, gp, gt))) ad) := by rw [← hw]; exact ((L8.out.setC (c' := (markT m, (m + 1) % 3 == 0, (markT (m + 1 + 1), m + 1 + 1 + 1, marks (m + 1 + 1 + 1 + 1) fp.length, marksT (m + 1 + 1 + 1 + 1 + 2 * (fp.length : Int)) ft.length), (m + 1 + 1 + 1 + 1 + 2 * (fp.length : Int) + 2 * (ft.length : Int)) % 3 == 0, (markT (m + 1 + 1 + 1 + 1 + 2 * (fp.length : Int) + 2 * (ft.length : Int) + 1), gk, gp, gt))) (r := 7) (v := .string (markT (m + 1 + 1 + 1 + 1 + 2 * (fp.length : Int) + 2 * (ft.length : Int) + 1))) HS.out hlt' (by omega) (by intro q hq; rcases q with _ | _ | _ | _ | _ | _ | _ | _ | _ | _ | _ | q <;> first | rfl | omega) (by intro u q hq h; rcases q with _ | _ | _ | _ | q <;> first | exact h | omega)).setC (c' := (markT m, (m + 1) % 3 == 0, (markT (m + 1 + 1), m + 1 + 1 + 1, marks (m + 1 + 1 + 1 + 1) fp.length, marksT (m + 1 + 1 + 1 + 1 + 2 * (fp.length : Int)) ft.length), (m + 1 + 1 + 1 + 1 + 2 * (fp.length : Int) + 2 * (ft.length : Int)) % 3 == 0, (markT (m + 1 + 1 + 1 + 1 + 2 * (fp.length : Int) + 2 * (ft.length : Int) + 1), m + 1 + 1 + 1 + 1 + 2 * (fp.length : Int) + 2 * (ft.length : Int) + 1 + 1, gp, gt))) (r := 8) (v := .int .i64 (m + 1 + 1 + 1 + 1 + 2 * (fp.length : Int) + 2 * (ft.length : Int) + 1 + 1)) HS.out hlt' (by omega) (by intro q hq; rcases q with _ | _ | _ | _ | _ | _ | _ | _ | _ | _ | _ | q <;> first | rfl | omega) (by intro u q hq h; rcases q with _ | _ | _ | _ | q <;> first | exact h | omega))
      have T9 : Hid (Turned w w9 (blocksC b ds.length ad)) := by rw [← hw]; exact ((T8.out.trans (Turned.of_set _ _ _ (HBk.out _ rfl))).trans (Turned.of_set _ _ _ (HBk.out _ rfl)))
      clear hw L8 T8
      clear c7 c8 f7 f8 c9
      have PP : Hid (PtsAt w9 (ad j 2).1 gp) := (L9.out.pt hlt' 2 (by omega)).1
      have PS : Hid (Soft w9 (ad j 2).1 gp.length) := (L9.out.pt hlt' 2 (by omega)).2
      refine (markPtS_any _ _ _ _ _ PP.out PS.out (by omega) (by omega) (by omega)).mono ?_
      rintro e w10 ⟨rfl, g1, g2, g3, g4⟩
      have L10 : Hid (LiesC w10 b off (D.set j (markT m, (m + 1) % 3 == 0, (markT (m + 1 + 1), m + 1 + 1 + 1, marks (m + 1 + 1 + 1 + 1) fp.length, marksT (m + 1 + 1 + 1 + 1 + 2 * (fp.length : Int)) ft.length), (m + 1 + 1 + 1 + 1 + 2 * (fp.length : Int) + 2 * (ft.length : Int)) % 3 == 0, (markT (m + 1 + 1 + 1 + 1 + 2 * (fp.length : Int) + 2 * (ft.length : Int) + 1), m + 1 + 1 + 1 + 1 + 2 * (fp.length : Int) + 2 * (ft.length : Int) + 1 + 1, marks (m + 1 + 1 + 1 + 1 + 2 * (fp.length : Int) + 2 * (ft.length : Int) + 1 + 1 + 1) gp.length, gt))) ad) := L9.out.setP (r := 2) HS.out hlt' (by omega) g3 (by intro q hq; rcases q with _ | _ | _ | _ | _ | _ | _ | _ | _ | _ | _ | q <;> first | rfl | (simp only [chv, marks_len]) | omega) ⟨g1, by show Soft _ _ (marks (m + 1 + 1 + 1 + 1 + 2 * (fp.length : Int) + 2 * (ft.length : Int) + 1 + 1 + 1) gp.length).length; rw [marks_len]; exact g2⟩ (by intro u q hq hne h; rcases q with _ | _ | _ | _ | q <;> first | exact h | omega)
      have T10 : Hid (Turned w w10 (blocksC b ds.length ad)) := T9.out.trans (Turned.of_grown g3 fun x hx => HBp.out 2 x (by omega) hx)
      clear PP PS g1 g2 g3 L9 T9 g4
      have c10 : w10.cell? ⟨b, off + j * 11 + 10, none⟩ = some (.slice (ad j 3).1 gt.length (ad j 3).2) := by first | exact L10.out.at hlt' 10 (by omega) | (have := L10.out.at hlt' 10 (by omega); simpa only [chv, marks_len, marksT_len] using this)
      go_wp2_with fail
      clear c10
      have PP : Hid (TagsAt w10 (ad j 3).1 gt) := (L10.out.pt hlt' 3 (by omega)).1
      have PS : Hid (Soft w10 (ad j 3).1 gt.length) := (L10.out.pt hlt' 3 (by omega)).2
      refine (markTagS_any _ _ _ _ _ PP.out PS.out (by omega) (by omega) (by omega)).mono ?_
      rintro e w11 ⟨rfl, g1, g2, g3⟩
      have L11 : Hid (LiesC w11 b off (D.set j (markT m, (m + 1) % 3 == 0, (markT (m + 1 + 1), m + 1 + 1 + 1, marks (m + 1 + 1 + 1 + 1) fp.length, marksT (m + 1 + 1 + 1 + 1 + 2 * (fp.length : Int)) ft.length), (m + 1 + 1 + 1 + 1 + 2 * (fp.length : Int) + 2 * (ft.length : Int)) % 3 == 0, (markT (m + 1 + 1 + 1 + 1 + 2 * (fp.length : Int) + 2 * (ft.length : Int) + 1), m + 1 + 1 + 1 + 1 + 2 * (fp.length : Int) + 2 * (ft.length : Int) + 1 + 1, marks (m + 1 + 1 + 1 + 1 + 2 * (fp.length : Int) + 2 * (ft.length : Int) + 1 + 1 + 1) gp.length, marksT (m + 1 + 1 + 1 + 1 + 2 * (fp.length : Int) + 2 * (ft.length : Int) + 1 + 1 + 1 + 2 * (gp.length : Int)) gt.length))) ad) := L10.out.setP (r := 3) HS.out hlt' (by omega) g3 (by intro q hq; rcases q with _ | _ | _ | _ | _ | _ | _ | _ | _ | _ | _ | q <;> first | rfl | (simp only [chv, marksT_len]) | omega) ⟨g1, by show Soft _ _ (marksT (m + 1 + 1 + 1 + 1 + 2 * (fp.length : Int) + 2 * (ft.length : Int) + 1 + 1 + 1 + 2 * (gp.length : Int)) gt.length).length; rw [marksT_len]; exact g2⟩ (by intro u q hq hne h; rcases q with _ | _ | _ | _ | q <;> first | exact h | omega)
      have T11 : Hid (Turned w w11 (blocksC b ds.length ad)) := T10.out.trans (Turned.of_grown g3 fun x hx => HBp.out 3 x (by omega) hx)
      clear PP PS g1 g2 g3 L10 T10
      have LE : Hid (LiesC w11 b off DE ad) := by rw [← HN.out]; exact L11.out
      clear L11
      go_wp2
      go_roundw
      case rel => exact ⟨j + 1, by omega, congrArg (Value.int .i64) (by rw [HQ.out]; rfl), by go_num, HR.out ▸ LE.out, T11.out⟩
      case measure => simp [intOf]; omega
    · obtain rfl : j = ds.length := by omega
      have LL := Lib.hid hlie
      have TT := Lib.hid htu
      clear hlie htu
      go_wp2
      go_ret
      exact ⟨rfl, LL.out, TT.out⟩
    
theorem markChangeS_nil (a : Option Addr) (cap : Nat) (k : Int) (w : World) :
    Calls Tryz.prog 30 #[.slice a 0 cap, .int .i64 k] w fun e w' => e = .returned (.int .i64 k) ∧ w' = w := by
  go_enter Tryz.func30, Tryz.ntmps30
  go_wp2
  go_loop [1, 5] (fun s1 i => s1 = .int .i64 k ∧ i = .int .i64 0) (fun _ _ => 0)
  case atStart => exact ⟨rfl, rfl⟩
  case round =>
    obtain ⟨rfl, rfl⟩ := hrel
    go_wp2
    go_ret
    exact ⟨rfl, rfl⟩

theorem markChangeS_list (lo hi : Nat) (a : Option Addr) (cap : Nat) (ds : List Ch) (k : Int) (w : World) (hl : ds.length ≤ 1048576) (hL : ChLen ds 1048576) (h0 : 0 ≤ k) (h4 : k ≤ 1000000000000000) (h : ListHC lo hi w a ds) :
    Calls Tryz.prog 30 #[.slice a ds.length cap, .int .i64 k] w fun e w' => e = .returned (.int .i64 (cmn ds k ds.length)) ∧ ChangesAt w' a (cmTo ds k ds.length) ∧ Turned w w' (fun x => lo ≤ x ∧ x < hi) := by
  rcases h with rfl | ⟨b, ad, rfl, h, h2, h3⟩
  · refine (markChangeS_nil a cap k w).mono fun e w' ⟨he, hw⟩ => ?_
    subst hw
    exact ⟨he, ChangesAt.nil _ _, Turned.refl _ _⟩
  · refine (markChangeS_some b 0 cap ds ad k w hl hL h0 h4 h h2).mono fun e w' ⟨he, hlie, ht⟩ => ⟨he, hlie.reads, ht.os, ht.tape, ht.output, ht.size, fun x hx hn => ht.block x hx fun hb => hn (h3 x hb)⟩

set_option maxRecDepth 100000 in
set_option maxHeartbeats 8000000 in
theorem heldChangeS_any (a : Option Addr) (cap : Nat) (ds : List Ch) (k : Int) (w : World) (hp : ChangesAt w a (cmTo ds k ds.length)) (hl : ds.length ≤ 1048576) (hL : ChLen ds 1048576) (h0 : 0 ≤ k) (h4 : k ≤ 1000000000000000) :
    Calls Tryz.prog 31 #[.slice a ds.length cap, .int .i64 k] w fun e w' => e = .returned (.int .i64 (cmn ds k ds.length)) ∧ Below w.heap.size w w' := by
  have HP := Lib.hid hp
  have HL := Lib.hid hL
  clear hp hL
  go_enter Tryz.func31, Tryz.ntmps31
  go_wp2
  go_loopw [1, 5] (fun q i wr => ∃ j : Nat, j ≤ ds.length ∧ i = .int .i64 j ∧ q = .int .i64 (cmn ds k j) ∧ Below w.heap.size w wr) (fun _ i _ => ds.length - (intOf i).toNat)
  case atStart => exact ⟨0, Nat.zero_le _, rfl, rfl, Below.refl _ _⟩
  case round =>
    obtain ⟨j, hj, rfl, rfl, hbel⟩ := hrel
    have B0 := Lib.hid hbel
    clear hbel
    by_cases hlt : j < ds.length
    · obtain ⟨b, off, pa, pc, ta, tc, qa, qc, ua, uc, rfl, hx⟩ := HP.out j (by rw [cmTo_len]; exact hlt)
      obtain ⟨k0, k1⟩ := cmn_le h0 h4 HL.out j hj
      obtain ⟨_, ⟨_, a1, a2, _⟩, ⟨_, a3, a4, _⟩⟩ := HL.out j hlt
      unfold cwf at a1 a2
      unfold cnf at a3 a4
      have HQ : Hid (cmn ds k (j + 1) = cmE (cg ds j) (cmn ds k j)) := rfl
      unfold cid chd cwf chs cnf at hx
      rw [cmTo_at k _ hlt, if_pos hlt] at hx
      generalize cmn ds k j = m at *
      generalize cg ds j = c at *
      obtain ⟨i, h, ⟨fi, fk, fp, ft⟩, s, ⟨gi, gk, gp, gt⟩⟩ := c
      simp only at a1 a2 a3 a4
      have C0 : Hid (∀ u, Below w.heap.size w u → u.cell? ⟨b, off + j * 11, none⟩ = some (.string (markT m))) := fun u hu => (hx.below hu).c0
      have C1 : Hid (∀ u, Below w.heap.size w u → u.cell? ⟨b, off + j * 11 + 1, none⟩ = some (.bool ((m + 1) % 3 == 0))) := fun u hu => (hx.below hu).c1
      have C2 : Hid (∀ u, Below w.heap.size w u → u.cell? ⟨b, off + j * 11 + 2, none⟩ = some (.string (markT (m + 1 + 1)))) := fun u hu => (hx.below hu).c2
      have C3 : Hid (∀ u, Below w.heap.size w u → u.cell? ⟨b, off + j * 11 + 3, none⟩ = some (.int .i64 (m + 1 + 1 + 1))) := fun u hu => (hx.below hu).c3
      have C4 : Hid (∀ u, Below w.heap.size w u → u.cell? ⟨b, off + j * 11 + 4, none⟩ = some (.slice pa fp.length pc)) := fun u hu => (by have := (hx.below hu).c4; simp only [cmC, marks_len] at this; exact this)
      have C5 : Hid (∀ u, Below w.heap.size w u → u.cell? ⟨b, off + j * 11 + 5, none⟩ = some (.slice ta ft.length tc)) := fun u hu => (by have := (hx.below hu).c5; simp only [cmC, marksT_len] at this; exact this)
      have C6 : Hid (∀ u, Below w.heap.size w u → u.cell? ⟨b, off + j * 11 + 6, none⟩ = some (.bool ((m + 1 + 1 + 1 + 1 + 2 * (fp.length : Int) + 2 * (ft.length : Int)) % 3 == 0))) := fun u hu => (hx.below hu).c6
      have C7 : Hid (∀ u, Below w.heap.size w u → u.cell? ⟨b, off + j * 11 + 7, none⟩ = some (.string (markT (m + 1 + 1 + 1 + 1 + 2 * (fp.length : Int) + 2 * (ft.length : Int) + 1)))) := fun u hu => (hx.below hu).c7
      have C8 : Hid (∀ u, Below w.heap.size w u → u.cell? ⟨b, off + j * 11 + 8, none⟩ = some (.int .i64 (m + 1 + 1 + 1 + 1 + 2 * (fp.length : Int) + 2 * (ft.length : Int) + 1 + 1))) := fun u hu => (hx.below hu).c8
      have C9 : Hid (∀ u, Below w.heap.size w u → u.cell? ⟨b, off + j * 11 + 9, none⟩ = some (.slice qa gp.length qc)) := fun u hu => (by have := (hx.below hu).c9; simp only [cmC, marks_len] at this; exact this)
      have C10 : Hid (∀ u, Below w.heap.size w u → u.cell? ⟨b, off + j * 11 + 10, none⟩ = some (.slice ua gt.length uc)) := fun u hu => (by have := (hx.below hu).c10; simp only [cmC, marksT_len] at this; exact this)
      have D0 : Hid (PtsAt w pa (marks (m + 1 + 1 + 1 + 1) fp.length)) := hx.pts
      have D1 : Hid (TagsAt w ta (marksT (m + 1 + 1 + 1 + 1 + 2 * (fp.length : Int)) ft.length)) := hx.tags
      have D2 : Hid (PtsAt w qa (marks (m + 1 + 1 + 1 + 1 + 2 * (fp.length : Int) + 2 * (ft.length : Int) + 1 + 1 + 1) gp.length)) := hx.qts
      have D3 : Hid (TagsAt w ua (marksT (m + 1 + 1 + 1 + 1 + 2 * (fp.length : Int) + 2 * (ft.length : Int) + 1 + 1 + 1 + 2 * (gp.length : Int)) gt.length)) := hx.uags
      have hb := hx.lt
      clear hx
      have e0 : ((markT m).toList == (markT m).toList) = true := by simp
      have e1 : (((m + 1) % 3 == 0) != ((m + 1) % 3 == 0)) = false := by simp
      have e2 : ((markT (m + 1 + 1)).toList == (markT (m + 1 + 1)).toList) = true := by simp
      have e3 : (m + 1 + 1 + 1 != m + 1 + 1 + 1) = false := by simp
      have e6 : (((m + 1 + 1 + 1 + 1 + 2 * (fp.length : Int) + 2 * (ft.length : Int)) % 3 == 0) != ((m + 1 + 1 + 1 + 1 + 2 * (fp.length : Int) + 2 * (ft.length : Int)) % 3 == 0)) = false := by simp
      have e7 : ((markT (m + 1 + 1 + 1 + 1 + 2 * (fp.length : Int) + 2 * (ft.length : Int) + 1)).toList == (markT (m + 1 + 1 + 1 + 1 + 2 * (fp.length : Int) + 2 * (ft.length : Int) + 1)).toList) = true := by simp
      have e8 : (m + 1 + 1 + 1 + 1 + 2 * (fp.length : Int) + 2 * (ft.length : Int) + 1 + 1 != m + 1 + 1 + 1 + 1 + 2 * (fp.length : Int) + 2 * (ft.length : Int) + 1 + 1) = false := by simp
      have c0 := C0.out _ B0.out
      go_upto_region 4 with (fail)
      go_cut [19] (fun s19 wx => s19 = .bool false ∧ Below w.heap.size w wx)
      case first =>
        go_region_held3 (fun w' => w'.cell? ⟨b, off + j * 11, none⟩ = some (.string (markT m)) ∧ Below w.heap.size w w')
          (first
            | exact ⟨c0, B0.out.drew⟩
            | (go_split_ands
               rename_i hS0 hS1
               exact ⟨cell_later hbn hS0, hS1.trans (hbn.mono hS1.size)⟩))
          (first
            | (go_at_call 52
               refine (markText_any _ _ (by omega)).mono ?_
               rintro e wn ⟨rfl, hbn⟩))
        all_goals (go_wp2_with fail; go_meet; go_split_ands; exact ⟨by simp, by assumption⟩)
      case rest =>
        obtain ⟨rfl, hB⟩ := hcut
        have B1 := Lib.hid hB
        clear hB c0 e0 C0
        have c1 := C1.out _ B1.out
        have c2 := C2.out _ B1.out
        go_upto_region 10 with (fail)
        go_cut [41] (fun s41 wx => s41 = .bool false ∧ Below w.heap.size w wx)
        case first =>
          go_region_held3 (fun w' => w'.cell? ⟨b, off + j * 11 + 2, none⟩ = some (.string (markT (m + 1 + 1))) ∧ Below w.heap.size w w')
            (first
              | exact ⟨c2, B1.out.drew⟩
              | (go_split_ands
                 rename_i hS0 hS1
                 exact ⟨cell_later hbn hS0, hS1.trans (hbn.mono hS1.size)⟩))
            (first
              | (go_at_call 52
                 refine (markText_any _ _ (by omega)).mono ?_
                 rintro e wn ⟨rfl, hbn⟩))
          all_goals (go_wp2_with fail; go_meet; go_split_ands; exact ⟨by simp, by assumption⟩)
        case rest =>
          obtain ⟨rfl, hB⟩ := hcut
          have B2 := Lib.hid hB
          clear hB c2 e2 C2
          have c3 := C3.out _ B2.out
          have c4 := C4.out _ B2.out
          go_wp2_with fail
          refine (heldPtS_any _ _ _ _ _ (D0.out.below B2.out) (by omega) (by omega) (by omega)).mono ?_
          rintro e w5 ⟨rfl, rfl⟩
          clear c1 c3 c4 e1 e3
          have c5 := C5.out _ B2.out
          go_wp2_with fail
          refine (heldTagS_any _ _ _ _ _ (D1.out.below B2.out) (by omega) (by omega) (by omega)).mono ?_
          rintro e w6 ⟨rfl, hb6⟩
          have B3 : Hid (Below w.heap.size w w6) := B2.out.trans (hb6.mono B2.out.size)
          clear hb6 c5
          have c6 := C6.out _ B3.out
          have c7 := C7.out _ B3.out
          go_upto_region 25 with (fail)
          go_cut [95] (fun s95 wx => s95 = .bool false ∧ Below w.heap.size w wx)
          case first =>
            go_region_held3 (fun w' => w'.cell? ⟨b, off + j * 11 + 7, none⟩ = some (.string (markT (m + 1 + 1 + 1 + 1 + 2 * (fp.length : Int) + 2 * (ft.length : Int) + 1))) ∧ Below w.heap.size w w')
              (first
                | exact ⟨c7, B3.out.drew⟩
                | (go_split_ands
                   rename_i hS0 hS1
                   exact ⟨cell_later hbn hS0, hS1.trans (hbn.mono hS1.size)⟩))
              (first
                | (go_at_call 52
                   refine (markText_any _ _ (by omega)).mono ?_
                   rintro e wn ⟨rfl, hbn⟩))
            all_goals (go_wp2_with fail; go_meet; go_split_ands; exact ⟨by simp, by assumption⟩)
          case rest =>
            obtain ⟨rfl, hB⟩ := hcut
            have B4 := Lib.hid hB
            clear hB c7 e7 C7
            have c8 := C8.out _ B4.out
            have c9 := C9.out _ B4.out
            go_wp2_with fail
            refine (heldPtS_any _ _ _ _ _ (D2.out.below B4.out) (by omega) (by omega) (by omega)).mono ?_
            rintro e w8 ⟨rfl, rfl⟩
            clear c6 c8 c9 e6 e8
            have c10 := C10.out _ B4.out
            go_wp2_with fail
            refine (heldTagS_any _ _ _ _ _ (D3.out.below B4.out) (by omega) (by omega) (by omega)).mono ?_
            rintro e w9 ⟨rfl, hb9⟩
            have B5 : Hid (Below w.heap.size w w9) := B4.out.trans (hb9.mono B4.out.size)
            clear hb9 c10
            go_wp2
            go_roundw
            case rel => exact ⟨j + 1, by omega, by go_num, congrArg (Value.int .i64) (by rw [HQ.out]; rfl), B5.out⟩
            case measure => simp [intOf]; omega
    · obtain rfl : j = ds.length := by omega
      go_wp2
      go_ret
      exact ⟨rfl, B0.out⟩
    
end Go.Proofs.YtccgbengfmlgbaaGreat
