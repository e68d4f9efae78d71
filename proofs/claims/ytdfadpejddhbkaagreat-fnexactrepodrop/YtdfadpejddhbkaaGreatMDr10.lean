/- Proved here: what taking a branch away answers, by the model; rooms of at most 1,048,576 parts each. Proved here: a row of versions in memory of its own is marked version by version, and nothing else is turned; at most 20 versions of at most 1,048,576 parts. Proved here: a room in memory of its own is marked whole, and asked for its marks; at most 20 versions and branches of at most 1,048,576 parts. Proved here: small facts for the laws whose answer is a room: the parts of an answer, and that it is small enough to be marked; no condition. Proved here: facts of the translated program alone that every law's claim asks for; no condition. Proved here: the law FnExactRepoDrop answers true at every room of versions and every text, and leaves it as it was; no condition. -/
import Derived.Test.YtdfadpejddhbkaaGreatMDr9
import Derived.Test.YtdfadpejddhbkaaGreatMDr7
import Derived.Deep.RegionHeld3
import Derived.Deep.DeepCutAuto
import Derived.Test.YtdfadpejddhbkaaGreatMDr3
import Derived.Test.YtdfadpejddhbkaaGreatRows
namespace Go.Proofs.YtdfadpejddhbkaaGreat
set_option linter.unusedVariables false
open Go.ChangeShapes Go.WideShapes Go.ChangeAt Go.RowKit Go.Deep

/-- what is moved when a branch is taken away -/
theorem cut_facts {lo : Nat} {hs : List Hd} {j q : Nat} {w : World} {g cap : Nat} (HO : w.ownsRow lo 115 2 (.slice (some ⟨g, 0, none⟩) hs.length cap) hs.length (flatH hs)) (hj : j < hs.length) (hq : q = j + 1) :
    ∃ A : Addr, (if cap = q then some (⟨g, 0, none⟩ : Addr) else some ⟨g, q * 2, none⟩) = some A ∧ (∀ t u, (flatH (hs.drop q))[t]? = some u → w.cell? (A.add t) = some u) ∧ (flatH (hs.drop q)).length = (hs.length - q) * 2 ∧ (∀ t, t < (flatH (hs.drop q)).length → (w.cell? ⟨g, 0 + j * 2 + t, none⟩).isSome = true ∧ w.frozen? ⟨g, 0 + j * 2 + t, none⟩ = false) := by
  have hlen : (flatH (hs.drop q)).length = (hs.length - q) * 2 := by rw [flatH_len, List.length_drop]
  have h4 : ∀ t, t < (flatH (hs.drop q)).length → (w.cell? ⟨g, 0 + j * 2 + t, none⟩).isSome = true ∧ w.frozen? ⟨g, 0 + j * 2 + t, none⟩ = false := by
    intro t ht
    rw [hlen] at ht
    refine ⟨?_, HO.frozenAt _⟩
    rw [HO.cellAt _ (by omega), flatH_headCell hs _ (by omega)]
    rfl
  by_cases hc : cap = q
  · refine ⟨⟨g, 0, none⟩, by simp [hc], fun t u hu => ?_, hlen, h4⟩
    have hn : hs.length ≤ cap := by
      obtain ⟨_, _, e, h⟩ := ownsRow_slice HO
      cases e
      exact h
    have ht := (List.getElem?_eq_some_iff.1 hu).1
    omega
  · refine ⟨⟨g, q * 2, none⟩, by simp [hc], fun t u hu => ?_, hlen, h4⟩
    have ht : t < (hs.length - q) * 2 := by
      have := (List.getElem?_eq_some_iff.1 hu).1
      rwa [hlen] at this
    rw [add_plain, HO.cellAt (q * 2 + t) (by omega), flatH_headCell hs _ (by omega)]
    rw [flatH_headCell _ _ (by rw [List.length_drop]; omega)] at hu
    rw [← hu]
    have d1 : hdn (hs.drop q) (t / 2) = hdn hs ((q * 2 + t) / 2) := by
      simp only [hdn, List.getD, List.getElem?_drop]
      congr 3
      omega
    have d2 : hda (hs.drop q) (t / 2) = hda hs ((q * 2 + t) / 2) := by
      simp only [hda, List.getD, List.getElem?_drop]
      congr 3
      omega
    unfold headCell
    rw [d1, d2, show (q * 2 + t) % 2 = t % 2 by omega]

set_option maxRecDepth 100000 in
set_option maxHeartbeats 8000000 in
theorem specRepoDrop_any (a b : Option Addr) (ca cb : Nat) (cs : List Cm) (hs : List Hd) (x : ByteArray) (w : World) (hr : RepoAt w a b cs hs) (hl : RpLen cs hs 1048576) :
    Calls Tryz.prog 51 #[.agg #[.slice a cs.length ca, .slice b hs.length cb], .string x] w (RoomAns KS (dropV cs hs x) w) := by
  have HR := Lib.hid hr
  have HL := Lib.hid hl
  have l1 := hl.cl
  have l2 := hl.hl
  obtain ⟨i0, hi0, hz0, hz1, hz2⟩ := info_parts infoHead
  clear hr hl
  go_enter Tryz.func51, Tryz.ntmps51
  go_upto_region 1 with (fail)
  obtain ⟨W, hW⟩ : ∃ W, W = ((w.alloc (.cells #[.slice a cs.length ca, .slice b hs.length cb] 46)).alloc (.cells #[.slice none 0 0, .slice none 0 0] 46)) := ⟨_, rfl⟩
  rw [← hW]
  have B0 : Hid (Below w.heap.size w W) := by rw [hW]; exact ((Below.refl _ _).alloc (Nat.le_refl _) _).alloc (by simp) _
  have KA : Hid (BK W w.heap.size #[.slice a cs.length ca, .slice b hs.length cb] 46) := by rw [hW]; exact (BK.new _ _ _).alloc _
  have KB : Hid (BK W (w.heap.size + 1) #[.slice none 0 0, .slice none 0 0] 46) := by rw [hW]; exact BK.at _ _ _ (by simp)
  have z1 : w.heap.size + 1 < W.heap.size := by rw [hW]; simp
  have z0 : w.heap.size < W.heap.size := by omega
  clear hW
  obtain ⟨a0, a1, _, _⟩ := KA.out.two
  go_wp2_with fail
  refine (specRepoOk_any _ _ _ _ _ _ _ (HR.out.below B0.out) HL.out).mono ?_
  rintro e w1 ⟨rfl, hb1⟩
  replace KA := Lib.hid (KA.out.later hb1)
  replace KB := Lib.hid (KB.out.later hb1)
  have B1 : Hid (Below w.heap.size w w1) := B0.out.trans (hb1.mono B0.out.size)
  replace z1 := KB.out.lt
  replace z0 := KA.out.lt
  clear hb1 B0 a0 a1
  by_cases hg : RepoGood cs hs
  · rw [repoOk_true hg]
    have HG := Lib.hid hg
    clear hg
    obtain ⟨a0, a1, _, _⟩ := KA.out.two
    go_wp2_with fail
    clear a0 a1
    refine (l7Copy_any _ _ _ _ _ _ _ (HR.out.below B1.out) HL.out HG.out.few HG.out.pos).mono ?_
    rintro e w2 ⟨cv, hv, ad, S, rfl, hRm, hb2⟩
    obtain ⟨pa, pc, pb, pd, rfl, rfl, _, _, _⟩ := hRm.form KS.law
    have RB := Lib.hid hRm.blocks
    have RM := Lib.hid hRm
    replace KA := Lib.hid (KA.out.later hb2)
    replace KB := Lib.hid (KB.out.later hb2)
    have B2 : Hid (Below w.heap.size w w2) := B1.out.trans (hb2.mono B1.out.size)
    have z12 := hb2.size
    clear hb2 hRm B1
    go_upto_region 4 with (fail)
    obtain ⟨W3, hW3⟩ : ∃ W3, W3 = w2.alloc (.cells #[.slice pa cs.length pc, .slice pb hs.length pd] 46) := ⟨_, rfl⟩
    rw [← hW3]
    have A3 : Hid (Below w2.heap.size w2 W3) := by rw [hW3]; exact (Below.refl _ _).alloc (Nat.le_refl _) _
    have KC : Hid (BK W3 w2.heap.size #[.slice pa cs.length pc, .slice pb hs.length pd] 46) := by rw [hW3]; exact BK.new _ _ _
    replace KA := Lib.hid (KA.out.later A3.out)
    replace KB := Lib.hid (KB.out.later A3.out)
    replace RM := Lib.hid (RM.out.below KS.law A3.out)
    have B3 : Hid (Below w.heap.size w W3) := B2.out.trans (A3.out.mono B2.out.size)
    have y0 := KA.out.lt
    have y1 := KB.out.lt
    have y2 := KC.out.lt
    clear hW3 A3 B2
    obtain ⟨a0, a1, _, _⟩ := KA.out.two
    go_wp2_with fail
    clear a0 a1
    refine (l7Head_any _ _ _ _ _ _ _ _ (HR.out.hds.below B3.out) (by omega)).mono ?_
    rintro e w4 ⟨⟨r, rfl, hfr⟩, hb4⟩
    have FL := Lib.hid (first_last HG.out.apart hfr)
    replace KA := Lib.hid (KA.out.later hb4)
    replace KB := Lib.hid (KB.out.later hb4)
    replace KC := Lib.hid (KC.out.later hb4)
    replace RM := Lib.hid (RM.out.below KS.law hb4)
    have B4 : Hid (Below w.heap.size w w4) := B3.out.trans (hb4.mono B3.out.size)
    replace y0 := KA.out.lt
    replace y1 := KB.out.lt
    replace y2 := KC.out.lt
    clear hb4 hfr B3
    rcases FL.out with ⟨rfl, hq⟩ | ⟨j, rfl, hj, hq⟩
    · have HE : Hid (dropV cs hs x = (cs, hs, 1)) := by simp [Hid, dropV, repoOk_true HG.out, hq]
      clear hq FL
      obtain ⟨b0, b1, b2, b3⟩ := KB.out.two
      obtain ⟨c0, c1, _, _⟩ := KC.out.two
      go_wp2
      have KF := (KB.out.set 0 (.slice pa cs.length pc)).set 1 (.slice pb hs.length pd)
      obtain ⟨r0, r1, _, _⟩ := BK.two KF
      refine bodyPost_ret (v := .tuple #[.agg #[.slice pa cs.length pc, .slice pb hs.length pd], .int .i64 1]) (by simp [results, Tryz.results51, go_sem, r0, r1]) rfl ?_
      obtain ⟨q1, q2⟩ := room_fin KS.law RM.out B4.out (r := w.heap.size + 1) (x0 := .slice pa cs.length pc) (x1 := .slice pb hs.length pd) (by omega) (by omega)
      rw [HE.out]
      exact ⟨_, _, _, _, rfl, q1, q2⟩
    · clear FL
      have hj0 : ¬ (j : Int) < 0 := by omega
      by_cases h1 : hs.length = 1
      · have HE : Hid (dropV cs hs x = (cs, hs, 2)) := by rw [Hid]; unfold dropV; rw [repoOk_true HG.out, if_pos rfl, hq]; exact if_pos h1
        have hb1 : (hs.length : Int) < 2 := by omega
        clear hq h1
        obtain ⟨a0, a1, _, _⟩ := KA.out.two
        obtain ⟨b0, b1, b2, b3⟩ := KB.out.two
        obtain ⟨c0, c1, _, _⟩ := KC.out.two
        go_wp2
        have KF := (KB.out.set 0 (.slice pa cs.length pc)).set 1 (.slice pb hs.length pd)
        obtain ⟨r0, r1, _, _⟩ := BK.two KF
        refine bodyPost_ret (v := .tuple #[.agg #[.slice pa cs.length pc, .slice pb hs.length pd], .int .i64 2]) (by simp [results, Tryz.results51, go_sem, r0, r1]) rfl ?_
        obtain ⟨q1, q2⟩ := room_fin KS.law RM.out B4.out (r := w.heap.size + 1) (x0 := .slice pa cs.length pc) (x1 := .slice pb hs.length pd) (by omega) (by omega)
        rw [HE.out]
        exact ⟨_, _, _, _, rfl, q1, q2⟩
      · have HE : Hid (dropV cs hs x = (cs, hs.eraseIdx j, 0)) := by rw [Hid]; unfold dropV; rw [repoOk_true HG.out, if_pos rfl, hq]; exact if_neg h1
        have hb1 : ¬ (hs.length : Int) < 2 := by omega
        clear hq h1
        rcases ownsRow_rows RM.out.hds.own with ⟨e1, h2⟩ | ⟨g, cap, f0, e1, hnc, hcm, _⟩
        · omega
        obtain ⟨rfl, rfl⟩ : pb = some ⟨g, 0, none⟩ ∧ pd = cap := by simpa using e1
        clear e1
        have HO := Lib.hid RM.out.hds.own
        obtain ⟨q, hq⟩ : ∃ q, q = j + 1 := ⟨_, rfl⟩
        obtain ⟨A, hA, hsrc, hlen, hcell⟩ := cut_facts HO.out hj hq
        have HER := Lib.hid (erase_heads hs j hj [])
        rw [← hq] at HER
        obtain ⟨news, hnews⟩ : ∃ news, news = flatH (hs.drop q) := ⟨_, rfl⟩
        rw [← hnews] at hsrc hlen hcell
        have s2 : Hid (∀ u ∈ news, u.oneCell' = true) := by rw [Hid, hnews]; exact flatH_one _
        have s1 := Lib.hid hlen
        have s3 := Lib.hid hcell
        have s4 := Lib.hid hsrc
        have NW := Lib.hid hnews
        have q1 : q ≤ j + 1 := by omega
        have q2 : j + 1 ≤ q := by omega
        have q3 : q ≤ hs.length := by omega
        have q4 : q ≤ pd := by omega
        have q5 : j ≤ pd := by omega
        have q6 : (j : Int) + 1 = (q : Int) := by omega
        have q7 : IntKind.i64.wrap (q : Int) = (q : Int) := by rw [IntKind.wrap_i64]; omega
        have hx4 : w1.heap.size ≤ g ∧ g < w2.heap.size := RB.out g (.inr rfl)
        obtain ⟨W5, hW5⟩ : ∃ W5, W5 = w4.drew.setCells g (0 + j * 2) news := ⟨_, rfl⟩
        have T5 : Hid (Turned w4 W5 (fun y => (Value.slice (some ⟨g, 0, none⟩) hs.length pd).ownBlock = some y)) := by
          rw [Hid, hW5]
          exact (Turned.of_below (Below.refl _ _).drew).trans (turned_setCells (g := g) (S := fun y => (Value.slice (some ⟨g, 0, none⟩) hs.length pd).ownBlock = some y) rfl _ _ _)
        have G5 : Hid (GrowH w1.heap.size (hs.eraseIdx j) W5 (.slice (some ⟨g, 0, none⟩) (j + (hs.length - q)) pd)) := by
          have O1 : W5.ownsRow w1.heap.size 115 2 (.slice (some ⟨g, 0, none⟩) hs.length pd) hs.length (over (flatH hs) (j * 2) news) := by
            rw [hW5, Nat.zero_add]
            exact ownsRow_setCells news (j * 2) _ _ (ownsRow_below HO.out (Below.refl _ _).drew)
          have O2 := ownsRow_take O1 (n' := hs.length - 1) (by omega)
          have HE2 := HER.out
          simp only [over] at HE2
          rw [NW.out, HE2] at O2
          refine ⟨?_, Nat.le_trans RM.out.hds.le T5.out.size⟩
          rw [List.length_eraseIdx_of_lt hj, show j + (hs.length - q) = hs.length - 1 by omega]
          exact O2
        have el : Hid (j + (hs.length - q) = (hs.eraseIdx j).length) := by rw [Hid, List.length_eraseIdx_of_lt hj]; omega
        have HW5 := Lib.hid hW5
        have RM5 := Lib.hid (RM.out.heads KS.law T5.out G5.out fun y hy => .inl hy)
        have n2 : ¬ (Value.slice (some ⟨g, 0, none⟩) hs.length pd).ownBlock = some (w.heap.size + 1) := fun e => by simp [Value.ownBlock] at e; omega
        have n3 : ¬ (Value.slice (some ⟨g, 0, none⟩) hs.length pd).ownBlock = some w2.heap.size := fun e => by simp [Value.ownBlock] at e; omega
        have KB5 : Hid (BK W5 (w.heap.size + 1) #[.slice none 0 0, .slice none 0 0] 46) := (T5.out.block _ KB.out.lt n2).trans KB.out
        have KC5 : Hid (BK W5 w2.heap.size #[.slice pa cs.length pc, .slice (some ⟨g, 0, none⟩) hs.length pd] 46) := (T5.out.block _ KC.out.lt n3).trans KC.out
        have B5 : Hid (Below w.heap.size w W5) := B4.out.trans (T5.out.below B4.out.size fun y hy => by simp [Value.ownBlock] at hy; omega)
        have RB5 : Hid (∀ y, inRoom (.slice pa cs.length pc) (.slice (some ⟨g, 0, none⟩) (j + (hs.length - q)) pd) cs.length S y → y ≠ w2.heap.size) := fun y hy e => hy.elim (fun h => by have := (RB.out y (.inl h)).2; omega) fun h => by simp [Value.ownBlock] at h; omega
        have y5 := KC5.out.lt
        have y6 := KB5.out.lt
        obtain ⟨a0, a1, _, _⟩ := KA.out.two
        obtain ⟨c0, c1, c2, c3⟩ := KC.out.two
        obtain ⟨d0, d1, d2, d3⟩ := KC5.out.two
        obtain ⟨b0, b1, b2, b3⟩ := KB5.out.two
        clear hq hnews hsrc hlen hcell hW5 n2 n3 hx4
        go_upto_region 9 with (fail)
        go_region_law (refine step_append_room rfl (.tmp 28) (.tmp 33) 44 rfl 115 i0 2 Tryz.underlying44 hi0 hz1 g 0 j pd (by simp [Act.eval, Act.put]) A (hs.length - q) (pd - q) news (by simp [Act.eval, Act.put]) s1.out s4.out s2.out (by omega) s3.out ?_; rw [← HW5.out])
        all_goals
          go_wp2
          have T6 : Turned W5 (W5.setCell ⟨w2.heap.size, 1, none⟩ (.slice (some ⟨g, 0, none⟩) (j + (hs.length - q)) pd)) (fun y => y = w2.heap.size) := Turned.of_set _ _ _ rfl
          have RM6 := RM5.out.turned KS.law T6 fun y hy e => RB5.out y hy e
          have B6 := B5.out.setCell (p := ⟨w2.heap.size, 1, none⟩) (by show w.heap.size ≤ w2.heap.size; omega) (.slice (some ⟨g, 0, none⟩) (j + (hs.length - q)) pd)
          have KF := ((KB5.out.setOther (c := w2.heap.size) 1 (.slice (some ⟨g, 0, none⟩) (j + (hs.length - q)) pd) (by omega)).set 0 (.slice pa cs.length pc)).set 1 (.slice (some ⟨g, 0, none⟩) (j + (hs.length - q)) pd)
          obtain ⟨r0, r1, _, _⟩ := BK.two KF
          refine bodyPost_ret (v := .tuple #[.agg #[.slice pa cs.length pc, .slice (some ⟨g, 0, none⟩) (j + (hs.length - q)) pd], .int .i64 0]) (by simp [results, Tryz.results51, go_sem, r0, r1]) rfl ?_
          obtain ⟨q1, q2⟩ := room_fin KS.law RM6 B6 (r := w.heap.size + 1) (x0 := .slice pa cs.length pc) (x1 := .slice (some ⟨g, 0, none⟩) (j + (hs.length - q)) pd) (by omega) (by omega)
          rw [HE.out]
          exact ⟨_, _, _, _, rfl, q1, q2⟩
  · rw [repoOk_false hg]
    have HE : Hid (dropV cs hs x = ([], [], 4)) := by simp [Hid, dropV, repoOk_false hg]
    clear hg
    obtain ⟨b0, b1, b2, b3⟩ := KB.out.two
    go_wp2
    have KF := (KB.out.set 0 (.slice none 0 0)).set 1 (.slice none 0 0)
    obtain ⟨r0, r1, _, _⟩ := BK.two KF
    refine bodyPost_ret (v := .tuple #[.agg #[.slice none 0 0, .slice none 0 0], .int .i64 4]) (by simp [results, Tryz.results51, go_sem, r0, r1]) rfl ?_
    obtain ⟨q1, q2⟩ := room_fin KS.law (Room.start KS w1 w1.heap.size (Nat.le_refl _) (fun _ => (.slice none 0 0, .slice none 0 0, fun _ => ((none, 0), (none, 0)))) (fun _ _ => False)) B1.out (r := w.heap.size + 1) (x0 := .slice none 0 0) (x1 := .slice none 0 0) (by omega) (by omega)
    rw [HE.out]
    exact ⟨_, _, _, _, rfl, q1, q2⟩
end Go.Proofs.YtdfadpejddhbkaaGreat

namespace Go.Proofs.YtdfadpejddhbkaaGreat
set_option linter.unusedVariables false
open Go.ChangeShapes Go.WideShapes Go.ChangeAt Go.RowKit Go.Deep

/-- the number of a version's first mark -/
def cmk (cs : List Cm) (k : Int) : Nat → Int
  | 0 => k
  | i + 1 => cmk cs k i + ((mg cs i).1.length : Int) + 2 * ((wF (mg cs i).2.1 (mg cs i).2.1.length : Nat) : Int) + 1
/-- a version, marked -/
def mkCm (c : Cm) (m : Int) : Cm := (marksI m c.1.length, lmkTo c.2.1 (m + (c.1.length : Int)) c.2.1.length, markT (m + (c.1.length : Int) + 2 * ((wF c.2.1 c.2.1.length : Nat) : Int)))
/-- the versions, the first ones marked -/
def mkdC (cs : List Cm) (k : Int) (j : Nat) : List Cm := (List.range cs.length).map fun i => if i < j then mkCm (mg cs i) (cmk cs k i) else mg cs i

theorem mkdC_len (cs : List Cm) (k : Int) (j : Nat) : (mkdC cs k j).length = cs.length := by simp [mkdC]
theorem mkdC_at {cs : List Cm} (k : Int) (j : Nat) {i : Nat} (h : i < cs.length) : mg (mkdC cs k j) i = if i < j then mkCm (mg cs i) (cmk cs k i) else mg cs i := by simp [mg, mkdC, h]
theorem mkdC_zero (cs : List Cm) (k : Int) : mkdC cs k 0 = cs := by
  refine List.ext_getElem (mkdC_len _ _ _) fun i h1 h2 => ?_
  rw [← mg_get h1, ← mg_get h2, mkdC_at k 0 h2, if_neg (by omega)]

theorem wF_le {fs : List Ft} (hL : FeatsLen fs 1048576) : ∀ i, i ≤ fs.length → wF fs i ≤ i * 2097153
  | 0, _ => Nat.le_refl _
  | i + 1, hi => by
    have ih := wF_le hL i (by omega)
    obtain ⟨_, h3, h5, _⟩ := hL i (by omega)
    have e : wF fs (i + 1) = wF fs i + (1 + (fps fs i).length + (fts fs i).length) := rfl
    omega

theorem cmk_le {cs : List Cm} {k : Int} (h0 : 0 ≤ k) (h4 : k ≤ 1000) (hl : cs.length ≤ 20) (hL : CmsLen cs 1048576) : ∀ i, i ≤ cs.length → 0 ≤ cmk cs k i ∧ cmk cs k i ≤ k + i * 4398049656833
  | 0, _ => ⟨h0, by show k ≤ _; omega⟩
  | i + 1, hi => by
    obtain ⟨h1, h2⟩ := cmk_le h0 h4 hl hL i (by omega)
    obtain ⟨l1, l2, l3, l4⟩ := hL i (by omega)
    have hw := wF_le l3 _ (Nat.le_refl _)
    have e : cmk cs k (i + 1) = cmk cs k i + ((mg cs i).1.length : Int) + 2 * ((wF (mg cs i).2.1 (mg cs i).2.1.length : Nat) : Int) + 1 := rfl
    rw [e]
    omega

theorem markFeatS_o (v : Value) (fs : List Ft) (ad : Nat → Pl) (k : Int) (w : World) (h : ListO w v fs ad) (hl : fs.length ≤ 1048576) (hL : FeatsLen fs 1048576) (h0 : 0 ≤ k) (h4 : k ≤ 1000000000000000) :
    Calls Tryz.prog 47 #[v, .int .i64 k] w fun e w' => e = .returned (.int .i64 (k + 2 * ((wF fs fs.length : Nat) : Int))) ∧ ListO w' v (lmkTo fs k fs.length) ad ∧ Turned w w' (inList v fs.length ad) := by
  rcases h with ⟨rfl, rfl⟩ | ⟨b, cap, rfl, h1, h2⟩
  · refine (markFeatS_nil none 0 k w).mono fun e w' ⟨he, hw⟩ => ?_
    subst hw
    exact ⟨by rw [he]; simp [wF], .inl ⟨rfl, rfl⟩, Turned.refl _ _⟩
  · refine (markFeatS_some b 0 cap fs ad k w hl hL h0 h4 h1 h2).mono fun e w' ⟨he, hlie, ht⟩ => ?_
    refine ⟨by rw [he, lmk_sum], .inr ⟨b, cap, by rw [lmkTo_len], hlie, by rw [lmkTo_len]; exact h2⟩, ht.wide fun x hx => inList_blocks.2 hx⟩

theorem flatM_mark (cs : List Cm) (ad : Nat → PlO) (k : Int) (j : Nat) (hj : j < cs.length) :
    (flatM (mkdC cs k j) ad cs.length).set (j * 3 + 2) (.string (mkCm (mg cs j) (cmk cs k j)).2.2) = flatM (mkdC cs k (j + 1)) ad cs.length := by
  refine List.ext_getElem? fun q => ?_
  by_cases hq : q < cs.length * 3
  · have e : q = q / 3 * 3 + q % 3 := by omega
    have hi : q / 3 < cs.length := by omega
    have h1 := flatM_at (mkdC cs k j) ad cs.length (q / 3) (q % 3) hi (by omega)
    have h2 := flatM_at (mkdC cs k (j + 1)) ad cs.length (q / 3) (q % 3) hi (by omega)
    rw [← e] at h1 h2
    rw [h2, List.getElem?_set]
    by_cases e2 : j * 3 + 2 = q
    · rw [if_pos e2, if_pos (by rw [flatM_len]; omega)]
      have e3 : q / 3 = j := by omega
      have e4 : q % 3 = 2 := by omega
      rw [e3, e4, mkdC_at _ _ hj, if_pos (by omega)]
      rfl
    · rw [if_neg e2, h1, mkdC_at _ _ hi, mkdC_at _ _ hi]
      by_cases e3 : q / 3 < j
      · rw [if_pos e3, if_pos (by omega)]
      · rw [if_neg e3]
        by_cases e5 : q / 3 = j
        · rw [if_pos (by omega)]
          have : q % 3 = 0 ∨ q % 3 = 1 := by omega
          rcases this with r | r <;> rw [r] <;> rfl
        · rw [if_neg (by omega)]
  · rw [List.getElem?_eq_none (by rw [List.length_set, flatM_len]; omega), List.getElem?_eq_none (by rw [flatM_len]; omega)]

/-- one version marked -/
theorem Cms.marked {wr w1 w2 w3 : World} {lo g cap : Nat} {cs : List Cm} {ad : Nat → PlO} {S : Nat → Nat → Prop} {k : Int} {j : Nat} (hj : j < cs.length) (h : Cms KI wr lo (.slice (some ⟨g, 0, none⟩) cs.length cap) cs.length (mkdC cs k j) ad S)
    (g1 : GrowI 0 (marksI (cmk cs k j) (mg cs j).1.length) w1 (ad j).1) (t1 : Turned wr w1 (fun x => (ad j).1.ownBlock = some x))
    (g2 : ListO w2 (ad j).2.1 (lmkTo (mg cs j).2.1 (cmk cs k j + ((mg cs j).1.length : Int)) (mg cs j).2.1.length) (ad j).2.2) (t2 : Turned w1 w2 (inList (ad j).2.1 (mg cs j).2.1.length (ad j).2.2)) (hb : Below w2.heap.size w2 w3) :
    Cms KI (w3.setCell ⟨g, j * 3 + 2, none⟩ (.string (mkCm (mg cs j) (cmk cs k j)).2.2)) lo (.slice (some ⟨g, 0, none⟩) cs.length cap) cs.length (mkdC cs k (j + 1)) ad S := by
  have hpj := h.part j hj
  rw [mkdC_at k j hj, if_neg (by omega)] at hpj
  have T : Turned wr w3 (S j) := ((t1.wide fun x hx => hpj.ub x hx).trans (t2.wide fun x hx => hpj.sb x hx)).trans (Turned.of_below hb)
  have ng : ∀ i, i < cs.length → ∀ x, S i x → ¬ x = g := fun i hi x hx e => (h.rng i hi x hx).2.2 (by rw [e]; rfl)
  have hr := ownsRow_turned h.row T fun x hx hs => (h.rng j hj x hs).2.2 hx
  have TS : Turned w3 (w3.setCell ⟨g, j * 3 + 2, none⟩ (.string (mkCm (mg cs j) (cmk cs k j)).2.2)) (fun x => x = g) := Turned.of_set _ _ _ rfl
  have hz1 := t1.size
  have hz2 := t2.size
  have hz3 := hb.size
  have hsz : ∀ i, i < cs.length → ∀ x, S i x → x < wr.heap.size := fun i hi x hx => (h.rng i hi x hx).2.1
  refine ⟨?_, fun i hi => ?_, fun i hi x hx => ⟨(h.rng i hi x hx).1, Nat.lt_of_lt_of_le (h.rng i hi x hx).2.1 (Nat.le_trans T.size TS.size), (h.rng i hi x hx).2.2⟩, h.far⟩
  · rw [← flatM_mark cs ad k j hj]
    exact (hr.stored (j * 3 + 2) _).1
  · rw [mkdC_at _ _ hi]
    by_cases e : i = j
    · subst e
      rw [if_pos (by omega)]
      have hK : KI w3 (mkCm (mg cs i) (cmk cs k i)) (ad i) (S i) := by
        refine ⟨?_, ?_, hpj.ub, fun x hx => hpj.sb x (by unfold mkCm at hx; rw [lmkTo_len] at hx; exact hx), fun x hx hy => hpj.two x hx (by unfold mkCm at hy; rw [lmkTo_len] at hy; exact hy)⟩
        · exact (g1.turned t2 fun x hx => hpj.two x hx).below hb
        · exact g2.turned (T := fun _ => False) (Turned.of_below hb) fun _ _ h => h
      exact KI.law.keep hK (fun x hx => by have := hsz i hi x hx; omega) TS (ng i hi)
    · have hpi := h.part i hi
      rw [mkdC_at _ _ hi] at hpi
      have ec : (if i < j + 1 then mkCm (mg cs i) (cmk cs k i) else mg cs i) = (if i < j then mkCm (mg cs i) (cmk cs k i) else mg cs i) := by
        by_cases e2 : i < j
        · rw [if_pos e2, if_pos (by omega)]
        · rw [if_neg e2, if_neg (by omega)]
      rw [ec]
      have nj : ∀ x, S i x → ¬ S j x := by
        rcases Nat.lt_or_gt_of_ne e with q | q
        · exact h.far i j q hj
        · exact fun x hx hy => h.far j i q hi x hy hx
      exact KI.law.keep (KI.law.keep hpi (fun x hx => hsz i hi x hx) T nj) (fun x hx => by have := hsz i hi x hx; omega) TS (ng i hi)

set_option maxRecDepth 100000 in
set_option maxHeartbeats 8000000 in
theorem markCommitS_own (v : Value) (lo : Nat) (cs : List Cm) (ad : Nat → PlO) (S : Nat → Nat → Prop) (k : Int) (w : World) (h : Cms KI w lo v cs.length cs ad S) (hl : cs.length ≤ 20) (hL : CmsLen cs 1048576) (h0 : 0 ≤ k) (h4 : k ≤ 1000) :
    Calls Tryz.prog 104 #[v, .int .i64 k] w fun e w' => e = .returned (.int .i64 (cmk cs k cs.length)) ∧ Cms KI w' lo v cs.length (mkdC cs k cs.length) ad S ∧ Turned w w' (inCms v cs.length S) := by
  rcases ownsRow_rows h.row with ⟨rfl, h2⟩ | ⟨g, cap, f0, rfl, h2, _⟩
  · obtain rfl : cs = [] := List.eq_nil_of_length_eq_zero h2
    have H := Lib.hid h
    clear h
    go_enter Tryz.func104, Tryz.ntmps104
    go_wp2
    go_loop [1, 5] (fun s1 i => s1 = .int .i64 k ∧ i = .int .i64 0) (fun _ _ => 0)
    case atStart => exact ⟨rfl, rfl⟩
    case round =>
      obtain ⟨rfl, rfl⟩ := hrel
      go_wp2
      go_ret
      exact ⟨rfl, H.out, Turned.refl _ _⟩
  · have H0 : Hid (Cms KI w lo (.slice (some ⟨g, 0, none⟩) cs.length cap) cs.length (mkdC cs k 0) ad S) := by rw [mkdC_zero]; exact h
    have HL := Lib.hid hL
    clear h hL
    go_enter Tryz.func104, Tryz.ntmps104
    go_wp2
    go_loopw [1, 5] (fun s1 i wr => ∃ (j : Nat), j ≤ cs.length ∧ s1 = .int .i64 (cmk cs k j) ∧ i = .int .i64 j ∧ Cms KI wr lo (.slice (some ⟨g, 0, none⟩) cs.length cap) cs.length (mkdC cs k j) ad S ∧ Turned w wr (inCms (.slice (some ⟨g, 0, none⟩) cs.length cap) cs.length S)) (fun _ i _ => cs.length - (intOf i).toNat)
    case atStart => exact ⟨0, Nat.zero_le _, rfl, rfl, H0.out, Turned.refl _ _⟩
    case round =>
      clear H0
      obtain ⟨j, hj, rfl, rfl, hcm, ht⟩ := hrel
      have HC := Lib.hid hcm
      have HT := Lib.hid ht
      obtain ⟨k0, k1⟩ := cmk_le h0 h4 hl HL.out j hj
      by_cases hlt : j < cs.length
      · have hpj := hcm.part j hlt
        rw [mkdC_at k j hlt, if_neg (by omega)] at hpj
        obtain ⟨ua, uc, sa, sc, e1, e2, _, _⟩ := KI.law.reads hpj
        have q : ∀ o, o < 3 → wr.cell? ⟨g, j * 3 + o, none⟩ = (cellsM (mg cs j) (ad j))[o]? := fun o ho => by
          rw [hcm.row.cellAt (j * 3 + o) (by omega), flatM_at _ _ _ _ _ hlt ho, mkdC_at k j hlt, if_neg (by omega)]
        have c0 : wr.cell? ⟨g, j * 3, none⟩ = some (.slice ua (mg cs j).1.length uc) := by
          have := q 0 (by omega)
          rw [← e1]
          exact this
        have c1 : wr.cell? ⟨g, j * 3 + 1, none⟩ = some (.slice sa (mg cs j).2.1.length sc) := by
          have := q 1 (by omega)
          rw [← e2]
          exact this
        have PJ := Lib.hid hpj
        have NG : Hid (∀ x, S j x → ¬ x = g) := fun x hx e => (hcm.rng j hlt x hx).2.2 (by rw [e]; rfl)
        obtain ⟨l1, l2, l3, l4⟩ := HL.out j hlt
        have L3 := Lib.hid l3
        have hw := wF_le l3 _ (Nat.le_refl _)
        have E1 := Lib.hid e1
        have E2 := Lib.hid e2
        have hgl : g < wr.heap.size := (hcm.row.lt g rfl).2
        clear hcm ht hpj q l3 e1 e2
        go_wp2_with fail
        refine (markIntS_any 0 (mg cs j).1 _ (cmk cs k j) _ (by rw [← E1.out]; exact PJ.out.ups) (by omega) k0 (by omega)).mono ?_
        rintro e w1 ⟨rfl, hG1, ht1⟩
        rw [← E1.out] at hG1 ht1
        have c1' : w1.cell? ⟨g, j * 3 + 1, none⟩ = some (.slice sa (mg cs j).2.1.length sc) := ht1.cell c1 fun hx => NG.out _ (PJ.out.ub _ hx) rfl
        have G1 := Lib.hid hG1
        have T1 := Lib.hid ht1
        have LO : Hid (ListO w1 (ad j).2.1 (mg cs j).2.1 (ad j).2.2) := PJ.out.sheet.turned ht1 fun x hx hy => PJ.out.two x hy hx
        clear hG1 ht1 c0 c1
        go_wp2_with fail
        refine (markFeatS_o _ (mg cs j).2.1 (ad j).2.2 (cmk cs k j + ((mg cs j).1.length : Int)) _ (by rw [← E2.out]; exact LO.out) (by omega) L3.out (by omega) (by omega)).mono ?_
        rintro e w2 ⟨rfl, hG2, ht2⟩
        rw [← E2.out] at hG2 ht2
        have G2 := Lib.hid hG2
        have T2 := Lib.hid ht2
        have hgl2 : g < w2.heap.size := by have := T1.out.size; have := ht2.size; omega
        clear hG2 ht2 c1' LO
        go_wp2_with fail
        refine (markText_any _ _ (by omega)).mono ?_
        rintro e w3 ⟨rfl, hb3⟩
        have TT : Turned wr w3 (S j) := ((T1.out.wide fun x hx => PJ.out.ub x hx).trans (T2.out.wide fun x hx => PJ.out.sb x hx)).trans (Turned.of_below hb3)
        have hr := ownsRow_turned HC.out.row TT fun x hx hs => (HC.out.rng j hlt x hs).2.2 hx
        have c2 : w3.cell? ⟨g, j * 3 + 2, none⟩ = some (.string (mg cs j).2.2) := by
          rw [hr.cellAt (j * 3 + 2) (by omega), flatM_at _ _ _ _ _ hlt (by omega), mkdC_at k j hlt, if_neg (by omega)]
          rfl
        have f2 := hr.frozenAt (j * 3 + 2)
        have B3 := Lib.hid hb3
        have T3 : Hid (Turned w w3 (inCms (.slice (some ⟨g, 0, none⟩) cs.length cap) cs.length S)) := HT.out.trans (TT.wide fun x hx => .inr ⟨j, hlt, hx⟩)
        clear hb3 TT hr
        go_wp2
        go_roundw
        case rel => exact ⟨j + 1, by omega, congrArg (Value.int .i64) (by show _ = cmk cs k j + ((mg cs j).1.length : Int) + 2 * ((wF (mg cs j).2.1 (mg cs j).2.1.length : Nat) : Int) + 1; omega), by go_num, Cms.marked hlt HC.out G1.out T1.out G2.out T2.out B3.out, T3.out.trans (Turned.of_set _ _ _ (.inl rfl))⟩
        case measure => simp [intOf]; omega
      · obtain rfl : j = cs.length := by omega
        clear hcm ht
        go_wp2
        go_ret
        exact ⟨rfl, HC.out, HT.out⟩
end Go.Proofs.YtdfadpejddhbkaaGreat

namespace Go.Proofs.YtdfadpejddhbkaaGreat
set_option linter.unusedVariables false
open Go.ChangeShapes Go.WideShapes Go.ChangeAt Go.RowKit Go.Deep

/-- branches, the first ones marked -/
def mkHd (hs : List Hd) (k : Int) (j : Nat) : List Hd := (List.range hs.length).map fun i => if i < j then (markT (k + 2 * (i : Int)), k + 2 * (i : Int) + 1) else (hdn hs i, hda hs i)
theorem mkHd_len (hs : List Hd) (k : Int) (j : Nat) : (mkHd hs k j).length = hs.length := by simp [mkHd]
theorem mkHd_at {hs : List Hd} (k : Int) (j : Nat) {i : Nat} (h : i < hs.length) : hdn (mkHd hs k j) i = (if i < j then markT (k + 2 * (i : Int)) else hdn hs i) ∧ hda (mkHd hs k j) i = (if i < j then k + 2 * (i : Int) + 1 else hda hs i) := by
  by_cases e : i < j <;> simp [hdn, hda, mkHd, h, e]
theorem mkHd_zero (hs : List Hd) (k : Int) : mkHd hs k 0 = hs := by
  refine List.ext_getElem (mkHd_len _ _ _) fun i h1 h2 => ?_
  rw [hd_get h1, hd_get h2, (mkHd_at k 0 h2).1, (mkHd_at k 0 h2).2, if_neg (by omega), if_neg (by omega)]

theorem flatH_mark (hs : List Hd) (k : Int) (j : Nat) (hj : j < hs.length) :
    ((flatH (mkHd hs k j)).set (j * 2) (.string (markT (k + 2 * (j : Int))))).set (j * 2 + 1) (.int .i64 (k + 2 * (j : Int) + 1)) = flatH (mkHd hs k (j + 1)) := by
  refine List.ext_getElem? fun q => ?_
  have hl1 := flatH_len (mkHd hs k j)
  have hl2 := flatH_len (mkHd hs k (j + 1))
  rw [mkHd_len] at hl1 hl2
  by_cases hq : q < hs.length * 2
  · rw [flatH_headCell _ q (by rw [mkHd_len]; exact hq), List.getElem?_set, List.getElem?_set, List.length_set, flatH_headCell _ q (by rw [mkHd_len]; exact hq)]
    have hi : q / 2 < hs.length := by omega
    have e1 := mkHd_at (hs := hs) k j hi
    have e2 := mkHd_at (hs := hs) k (j + 1) hi
    unfold headCell
    rw [e1.1, e1.2, e2.1, e2.2]
    by_cases c : q / 2 = j
    · have hm : q % 2 = 0 ∨ q % 2 = 1 := by omega
      rcases hm with m | m
      · rw [if_neg (by omega), if_pos (by omega), if_pos (by omega), if_pos m, if_pos (by omega), c]
      · rw [if_pos (by omega), if_pos (by omega), if_neg (by omega), if_pos (by omega), c]
    · rw [if_neg (by omega), if_neg (by omega)]
      by_cases d : q / 2 < j
      · simp only [if_pos d, if_pos (show q / 2 < j + 1 by omega)]
      · simp only [if_neg d, if_neg (show ¬ q / 2 < j + 1 by omega)]
  · rw [List.getElem?_eq_none (by rw [List.length_set, List.length_set]; omega), List.getElem?_eq_none (by omega)]

set_option maxRecDepth 100000 in
set_option maxHeartbeats 4000000 in
theorem markHeadS_own (v : Value) (lo : Nat) (hs : List Hd) (k : Int) (w : World) (h : GrowH lo hs w v) (hl : hs.length ≤ 1000) (h0 : 0 ≤ k) (h4 : k ≤ 1000000000000000) :
    Calls Tryz.prog 105 #[v, .int .i64 k] w fun e w' => e = .returned (.int .i64 (k + 2 * (hs.length : Int))) ∧ GrowH lo (mkHd hs k hs.length) w' v ∧ Turned w w' (fun x => v.ownBlock = some x) := by
  rcases ownsRow_rows h.own with ⟨rfl, h2⟩ | ⟨g, cap, f0, rfl, h2, _⟩
  · obtain rfl : hs = [] := List.eq_nil_of_length_eq_zero h2
    have H := Lib.hid h
    clear h
    go_enter Tryz.func105, Tryz.ntmps105
    go_wp2
    go_loop [1, 5] (fun s1 i => s1 = .int .i64 k ∧ i = .int .i64 0) (fun _ _ => 0)
    case atStart => exact ⟨rfl, rfl⟩
    case round =>
      obtain ⟨rfl, rfl⟩ := hrel
      go_wp2
      go_ret
      exact ⟨by simp, H.out, Turned.refl _ _⟩
  · have H0 : Hid (w.ownsRow lo 115 2 (.slice (some ⟨g, 0, none⟩) hs.length cap) hs.length (flatH (mkHd hs k 0))) := by rw [mkHd_zero]; exact h.own
    have hle := h.le
    clear h
    go_enter Tryz.func105, Tryz.ntmps105
    go_wp2
    go_loopw [1, 5] (fun s1 i wr => ∃ (j : Nat), j ≤ hs.length ∧ s1 = .int .i64 (k + 2 * (j : Int)) ∧ i = .int .i64 j ∧ wr.ownsRow lo 115 2 (.slice (some ⟨g, 0, none⟩) hs.length cap) hs.length (flatH (mkHd hs k j)) ∧ Turned w wr (fun x => (Value.slice (some ⟨g, 0, none⟩) hs.length cap).ownBlock = some x)) (fun _ i _ => hs.length - (intOf i).toNat)
    case atStart => exact ⟨0, Nat.zero_le _, by simp, rfl, H0.out, Turned.refl _ _⟩
    case round =>
      clear H0
      obtain ⟨j, hj, rfl, rfl, hrow, ht⟩ := hrel
      have HR := Lib.hid hrow
      have HT := Lib.hid ht
      by_cases hlt : j < hs.length
      · clear hrow ht
        go_wp2_with fail
        refine (markText_any _ _ (by omega)).mono ?_
        rintro e w1 ⟨rfl, hb1⟩
        have hr := ownsRow_below HR.out hb1
        have ef := flatH_at (mkHd hs k j) j (by rw [mkHd_len]; exact hlt)
        have c0 : w1.cell? ⟨g, j * 2, none⟩ = some (.string (hdn (mkHd hs k j) j)) := by rw [hr.cellAt (j * 2) (by omega), ef.1]
        have c1 : w1.cell? ⟨g, j * 2 + 1, none⟩ = some (.int .i64 (hda (mkHd hs k j) j)) := by rw [hr.cellAt (j * 2 + 1) (by omega), ef.2]
        have f0 := hr.frozenAt (j * 2)
        have f1 := hr.frozenAt (j * 2 + 1)
        have R1 := Lib.hid hr
        have T1 : Hid (Turned w w1 (fun x => (Value.slice (some ⟨g, 0, none⟩) hs.length cap).ownBlock = some x)) := HT.out.trans (Turned.of_below hb1)
        have NX : Hid (w1.ownsRow lo 115 2 (.slice (some ⟨g, 0, none⟩) hs.length cap) hs.length (flatH (mkHd hs k j)) → ((w1.setCell ⟨g, j * 2, none⟩ (.string (markT (k + 2 * (j : Int))))).setCell ⟨g, j * 2 + 1, none⟩ (.int .i64 (k + 2 * (j : Int) + 1))).ownsRow lo 115 2 (.slice (some ⟨g, 0, none⟩) hs.length cap) hs.length (flatH (mkHd hs k (j + 1)))) := fun h => by rw [← flatH_mark hs k j hlt]; exact ((h.stored (j * 2) _).1.stored (j * 2 + 1) _).1
        clear hb1 hr ef
        go_wp2
        go_roundw
        case rel => exact ⟨j + 1, by omega, by go_num, by go_num, NX.out R1.out, (T1.out.trans (Turned.of_set _ _ _ rfl)).trans (Turned.of_set _ _ _ rfl)⟩
        case measure => simp [intOf]; omega
      · obtain rfl : j = hs.length := by omega
        clear hrow ht
        go_wp2
        go_ret
        refine ⟨rfl, ⟨?_, Nat.le_trans hle HT.out.size⟩, HT.out⟩
        rw [mkHd_len]
        exact HR.out

set_option maxRecDepth 100000 in
set_option maxHeartbeats 4000000 in
theorem heldHeadS_any (a : Option Addr) (cap : Nat) (hs : List Hd) (k : Int) (w : World) (hp : HeadsAt w a (mkHd hs k hs.length)) (hl : hs.length ≤ 1000) (h0 : 0 ≤ k) (h4 : k ≤ 1000000000000000) :
    Calls Tryz.prog 110 #[.slice a hs.length cap, .int .i64 k] w fun e w' => e = .returned (.int .i64 (k + 2 * (hs.length : Int))) ∧ Below w.heap.size w w' := by
  have HP := Lib.hid hp
  clear hp
  go_enter Tryz.func110, Tryz.ntmps110
  go_wp2
  go_loopw [1, 5] (fun q i wr => ∃ j : Nat, j ≤ hs.length ∧ i = .int .i64 j ∧ q = .int .i64 (k + 2 * (j : Int)) ∧ Below w.heap.size w wr) (fun _ i _ => hs.length - (intOf i).toNat)
  case atStart => exact ⟨0, Nat.zero_le _, rfl, by simp, Below.refl _ _⟩
  case round =>
    obtain ⟨j, hj, rfl, rfl, hbel⟩ := hrel
    have HB := Lib.hid hbel
    by_cases hlt : j < hs.length
    · obtain ⟨b, off, rfl, hb, d1, d2⟩ := HP.out j (by rw [mkHd_len]; exact hlt)
      have ef := mkHd_at (hs := hs) k hs.length hlt
      rw [ef.1, if_pos hlt] at d1
      rw [ef.2, if_pos hlt] at d2
      rw [← hbel.cell (p := ⟨b, _, none⟩) hb] at d1 d2
      clear hbel ef
      have HN : Hid (k + 2 * ((j + 1 : Nat) : Int) = k + 2 * (j : Int) + 2) := by show _ = _; omega
      generalize hm : k + 2 * (j : Int) = m at *
      have hm0 : 0 ≤ m := by omega
      have hm1 : m ≤ 1000000000002000 := by omega
      clear hm
      have e1 : ((markT m).toList == (markT m).toList) = true := by simp
      have e2 : (m + 1 != m + 1) = false := by simp
      go_upto_region 4 with (fail)
      go_cut [19] (fun s19 wx => s19 = .bool false ∧ Below wr.heap.size wr wx)
      case first =>
        go_region_held3 (fun w' => w'.cell? ⟨b, off + j * 2, none⟩ = some (.string (markT m)) ∧ Below wr.heap.size wr w')
          (first
            | exact ⟨d1, (Below.refl _ _).drew⟩
            | (go_split_ands
               rename_i hS0 hS1
               exact ⟨cell_later hbn hS0, hS1.trans (hbn.mono hS1.size)⟩))
          (first
            | (go_at_call 106
               refine (markText_any _ _ (by omega)).mono ?_
               rintro e wn ⟨rfl, hbn⟩))
        all_goals (go_wp2_with fail; go_meet; go_split_ands; exact ⟨by simp, by assumption⟩)
      case rest =>
        obtain ⟨rfl, hB⟩ := hcut
        replace d2 := cell_later hB d2
        have B1 : Hid (Below w.heap.size w _) := HB.out.trans (hB.mono HB.out.size)
        clear hB d1 e1
        go_wp2
        go_roundw
        case rel => exact ⟨j + 1, by omega, by go_num, congrArg (Value.int .i64) (by rw [HN.out]; omega), B1.out⟩
        case measure => simp [intOf]; omega
    · obtain rfl : j = hs.length := by omega
      clear hbel
      go_wp2
      go_ret
      exact ⟨rfl, HB.out⟩

set_option maxRecDepth 100000 in
set_option maxHeartbeats 8000000 in
theorem heldCommitS_any (a : Option Addr) (cap : Nat) (cs : List Cm) (k : Int) (w : World) (hp : CommitsAt w a (mkdC cs k cs.length)) (hl : cs.length ≤ 20) (hL : CmsLen cs 1048576) (h0 : 0 ≤ k) (h4 : k ≤ 1000) :
    Calls Tryz.prog 109 #[.slice a cs.length cap, .int .i64 k] w fun e w' => e = .returned (.int .i64 (cmk cs k cs.length)) ∧ Below w.heap.size w w' := by
  have HP := Lib.hid hp
  have HL := Lib.hid hL
  clear hp hL
  go_enter Tryz.func109, Tryz.ntmps109
  go_wp2
  go_loopw [1, 5] (fun q i wr => ∃ j : Nat, j ≤ cs.length ∧ i = .int .i64 j ∧ q = .int .i64 (cmk cs k j) ∧ Below w.heap.size w wr) (fun _ i _ => cs.length - (intOf i).toNat)
  case atStart => exact ⟨0, Nat.zero_le _, rfl, rfl, Below.refl _ _⟩
  case round =>
    obtain ⟨j, hj, rfl, rfl, hbel⟩ := hrel
    have HB := Lib.hid hbel
    obtain ⟨k0, k1⟩ := cmk_le h0 h4 hl HL.out j hj
    by_cases hlt : j < cs.length
    · obtain ⟨b, off, ua, uc, sa, sc, rfl, hx⟩ := HP.out j (by rw [mkdC_len]; exact hlt)
      obtain ⟨hb, d0, d1, d2, hii, hff⟩ := hx.below hbel
      rw [mkdC_at _ _ hlt, if_pos hlt] at d0 d1 d2 hii hff
      obtain ⟨l1, l2, l3, l4⟩ := HL.out j hlt
      have hw := wF_le l3 _ (Nat.le_refl _)
      have HN : Hid (cmk cs k (j + 1) = cmk cs k j + ((mg cs j).1.length : Int) + 2 * ((wF (mg cs j).2.1 (mg cs j).2.1.length : Nat) : Int) + 1) := rfl
      have L3 := Lib.hid l3
      have HLM : Hid (lmk (mg cs j).2.1 (cmk cs k j + ((mg cs j).1.length : Int)) (mg cs j).2.1.length = cmk cs k j + ((mg cs j).1.length : Int) + 2 * ((wF (mg cs j).2.1 (mg cs j).2.1.length : Nat) : Int)) := lmk_sum _ _ _
      unfold mkCm at d0 d1 d2 hii hff
      simp only [marksI_len, lmkTo_len] at d0 d1 d2
      have D1 := Lib.hid hii
      have D2 := Lib.hid hff
      clear hbel hx hii hff l3 l4
      generalize cmk cs k j = m at *
      go_wp2_with fail
      refine (heldIntS_any _ _ (mg cs j).1.length _ _ D1.out (by omega) (by omega) (by omega)).mono ?_
      rintro e w1 ⟨rfl, rfl⟩
      go_wp2_with fail
      refine (heldFeatS_any _ _ (mg cs j).2.1 _ _ D2.out (by omega) L3.out (by omega) (by omega)).mono ?_
      rintro e w2 ⟨rfl, hb2⟩
      rw [HLM.out]
      replace d2 := cell_later hb2 d2
      have B2 : Hid (Below w.heap.size w w2) := HB.out.trans (hb2.mono HB.out.size)
      clear hb2 d0 d1 HLM D1 D2
      generalize hm2 : m + ((mg cs j).1.length : Int) + 2 * ((wF (mg cs j).2.1 (mg cs j).2.1.length : Nat) : Int) = m2 at *
      have hm0 : 0 ≤ m2 := by omega
      have hm3 : m2 ≤ 1000000000000000 := by omega
      clear hm2
      have e1 : ((markT m2).toList == (markT m2).toList) = true := by simp
      go_upto_region 10 with (fail)
      go_cut [37] (fun s37 wx => s37 = .bool false ∧ Below w2.heap.size w2 wx)
      case first =>
        go_region_held3 (fun w' => w'.cell? ⟨b, off + j * 3 + 2, none⟩ = some (.string (markT m2)) ∧ Below w2.heap.size w2 w')
          (first
            | exact ⟨d2, (Below.refl _ _).drew⟩
            | (go_split_ands
               rename_i hS0 hS1
               exact ⟨cell_later hbn hS0, hS1.trans (hbn.mono hS1.size)⟩))
          (first
            | (go_at_call 106
               refine (markText_any _ _ (by omega)).mono ?_
               rintro e wn ⟨rfl, hbn⟩))
        all_goals (go_wp2_with fail; go_meet; go_split_ands; exact ⟨by simp, by assumption⟩)
      case rest =>
        obtain ⟨rfl, hB⟩ := hcut
        have B3 : Hid (Below w.heap.size w _) := B2.out.trans (hB.mono B2.out.size)
        clear hB d2 e1
        go_wp2
        go_roundw
        case rel => exact ⟨j + 1, by omega, by go_num, congrArg (Value.int .i64) (by rw [HN.out]), B3.out⟩
        case measure => simp [intOf]; omega
    · obtain rfl : j = cs.length := by omega
      clear hbel
      go_wp2
      go_ret
      exact ⟨rfl, HB.out⟩

/-- the sum of a room's marks -/
def rmk (cs : List Cm) (hs : List Hd) (k : Int) : Int := cmk cs k cs.length + 2 * (hs.length : Int)

set_option maxRecDepth 100000 in
set_option maxHeartbeats 4000000 in
theorem markRepo_own (cv hv : Value) (lo : Nat) (cs : List Cm) (hs : List Hd) (ad : Nat → PlO) (S : Nat → Nat → Prop) (k : Int) (w : World) (h : Room KI w lo cv hv cs hs ad S) (hl : cs.length ≤ 20) (hl2 : hs.length ≤ 1000) (hL : CmsLen cs 1048576) (h0 : 0 ≤ k) (h4 : k ≤ 1000) :
    Calls Tryz.prog 46 #[.agg #[cv, hv], .int .i64 k] w fun e w' => e = .returned (.int .i64 (rmk cs hs k)) ∧ Room KI w' lo cv hv (mkdC cs k cs.length) (mkHd hs (cmk cs k cs.length) hs.length) ad S ∧ Turned w w' (inRoom cv hv cs.length S) := by
  obtain ⟨a, ca, b, cb, rfl, rfl, _, _, _⟩ := h.form KI.law
  have hb0 : Below w.heap.size w (w.alloc (.cells #[.slice a cs.length ca, .slice b hs.length cb] 46)) := (Below.refl _ _).alloc (Nat.le_refl _) _
  have H0 := Lib.hid (h.below KI.law hb0)
  have X0 : Hid (Box2 (w.alloc (.cells #[.slice a cs.length ca, .slice b hs.length cb] 46)) w.heap.size (.slice a cs.length ca) (.slice b hs.length cb)) := Box2.new w _ _ _
  have T0 := Lib.hid (Turned.of_below (S := inRoom (.slice a cs.length ca) (.slice b hs.length cb) cs.length S) hb0)
  have HBK := Lib.hid h.blocks
  have NF : Hid (¬ inCms (.slice a cs.length ca) cs.length S w.heap.size) := fun hx => by have := (HBK.out _ (.inl hx)).2; omega
  have HL := Lib.hid hL
  obtain ⟨k0, k1⟩ := cmk_le h0 h4 hl hL _ (Nat.le_refl _)
  clear h hb0 hL
  go_enter Tryz.func46, Tryz.ntmps46
  go_wp2_with fail
  refine (markCommitS_own _ lo cs ad S k _ H0.out.cms hl HL.out h0 h4).mono ?_
  rintro e w1 ⟨rfl, hC, ht1⟩
  have c1 := ht1.cell X0.out.c1 NF.out
  have G1 : Hid (GrowH lo hs w1 (.slice b hs.length cb)) := H0.out.hds.turned ht1 fun x hx hy => H0.out.far x hx hy
  have C1 := Lib.hid hC
  have T1 : Hid (Turned w w1 (inRoom (.slice a cs.length ca) (.slice b hs.length cb) cs.length S)) := T0.out.trans (ht1.wide fun x hx => .inl hx)
  clear hC ht1
  go_wp2_with fail
  refine (markHeadS_own _ lo hs (cmk cs k cs.length) _ G1.out hl2 (by omega) (by omega)).mono ?_
  rintro e w2 ⟨rfl, hG, ht2⟩
  have C2 := Lib.hid (C1.out.turned KI.law ht2 fun x hx hy => H0.out.far x hy hx)
  have T2 : Hid (Turned w w2 (inRoom (.slice a cs.length ca) (.slice b hs.length cb) cs.length S)) := T1.out.trans (ht2.wide fun x hx => .inr hx)
  have G2 := Lib.hid hG
  clear hG ht2 c1
  go_wp2
  go_ret
  refine ⟨rfl, ⟨?_, G2.out, fun x hx hy => H0.out.far x hx ?_⟩, T2.out⟩
  · rw [mkdC_len]; exact C2.out
  · rw [mkdC_len] at hy; exact hy

set_option maxRecDepth 100000 in
set_option maxHeartbeats 4000000 in
theorem heldRepo_any (a b : Option Addr) (ca cb : Nat) (cs : List Cm) (hs : List Hd) (k : Int) (w : World) (hr : RepoAt w a b (mkdC cs k cs.length) (mkHd hs (cmk cs k cs.length) hs.length)) (hl : cs.length ≤ 20) (hl2 : hs.length ≤ 1000) (hL : CmsLen cs 1048576) (h0 : 0 ≤ k) (h4 : k ≤ 1000) :
    Calls Tryz.prog 48 #[.agg #[.slice a cs.length ca, .slice b hs.length cb], .int .i64 k] w fun e w' => e = .returned (.int .i64 (rmk cs hs k)) ∧ Below w.heap.size w w' := by
  have A1 : Hid (∀ o, Below w.heap.size w (w.alloc o)) := fun o => (Below.refl _ _).alloc (Nat.le_refl _) _
  have HC := Lib.hid hr.cms
  have HH := Lib.hid hr.hds
  have HL := Lib.hid hL
  obtain ⟨k0, k1⟩ := cmk_le h0 h4 hl hL _ (Nat.le_refl _)
  clear hr hL
  go_enter Tryz.func48, Tryz.ntmps48
  go_wp2_with fail
  refine (heldCommitS_any _ _ cs k _ (HC.out.below (A1.out _)) hl HL.out h0 h4).mono ?_
  rintro e w1 ⟨rfl, hb1⟩
  have c1 := cell_later hb1 (a := ⟨w.heap.size, 1, none⟩) (v := .slice b hs.length cb) (by simp [go_sem])
  have B1 : Hid (Below w.heap.size w w1) := (A1.out _).trans (hb1.mono (by simp))
  clear hb1
  go_wp2_with fail
  refine (heldHeadS_any _ _ hs _ _ (HH.out.below B1.out) hl2 k0 (by omega)).mono ?_
  rintro e w2 ⟨rfl, hb2⟩
  have B2 : Hid (Below w.heap.size w w2) := B1.out.trans (hb2.mono B1.out.size)
  clear hb2 c1
  go_wp2
  go_ret
  exact ⟨rfl, B2.out⟩
end Go.Proofs.YtdfadpejddhbkaaGreat

namespace Go.Proofs.YtdfadpejddhbkaaGreat
set_option linter.unusedVariables false
open Go.ChangeShapes Go.WideShapes Go.ChangeAt Go.RowKit Go.Deep

/-- small enough to be marked -/
structure RpFit (v : RpV) : Prop where
  c : v.1.length ≤ 20
  h : v.2.1.length ≤ 1000
  len : RpLen v.1 v.2.1 1048576

/-- the parts of an answer -/
theorem RoomAns.parts {K : World → Cm → PlO → (Nat → Prop) → Prop} (L : KLaw K) {v : RpV} {vc : List Cm} {vh : List Hd} {vk : Int} (hv : v = (vc, vh, vk)) {w w' : World} {e : Ending} (h : RoomAns K v w e w') :
    ∃ am cm bm dm ad S, e = .returned (.tuple #[.agg #[.slice am vc.length cm, .slice bm vh.length dm], .int .i64 vk]) ∧ Room K w' w.heap.size (.slice am vc.length cm) (.slice bm vh.length dm) vc vh ad S ∧ RepoAt w' am bm vc vh ∧ Below w.heap.size w w' := by
  subst hv
  obtain ⟨cv, hv, ad, S, rfl, hR, hb⟩ := h
  obtain ⟨am, cm, bm, dm, rfl, rfl, _, _, hA⟩ := hR.form L
  exact ⟨am, cm, bm, dm, ad, S, rfl, hR, hA, hb⟩

theorem RepoAt.under {w w' : World} {a b : Option Addr} {cs : List Cm} {hs : List Hd} (h : RepoAt w a b cs hs) (hb : Below w.heap.size w w') : RepoAt w' a b cs hs := h.below hb

theorem RpLen.none : RpLen [] [] 1048576 := ⟨by decide, by decide, fun j hj => absurd hj (Nat.not_lt_zero _), fun j hj => absurd hj (Nat.not_lt_zero _)⟩

theorem headsLen_iff {hs : List Hd} {m : Int} : HeadsLen hs m ↔ ∀ h ∈ hs, (h.1.size : Int) ≤ m := by
  constructor
  · intro h x hx
    obtain ⟨j, hj, e⟩ := List.getElem_of_mem hx
    have := h j hj
    rw [← e, hd_get hj]
    exact this
  · intro h j hj
    have := h hs[j] (List.getElem_mem hj)
    rwa [hd_get hj] at this

theorem cmsLen_iff {cs : List Cm} {m : Int} : CmsLen cs m ↔ ∀ c ∈ cs, CmLen c m := by
  constructor
  · intro h x hx
    obtain ⟨j, hj, e⟩ := List.getElem_of_mem hx
    have := h j hj
    rwa [mg_get hj, e] at this
  · intro h j hj
    rw [mg_get hj]
    exact h _ (List.getElem_mem hj)

theorem RpFit.none (k : Int) : RpFit ([], [], k) := ⟨by show 0 ≤ 20; omega, by show 0 ≤ 1000; omega, RpLen.none⟩

theorem dropV_fit {cs : List Cm} {hs : List Hd} (x : ByteArray) (hl : RpLen cs hs 1048576) : RpFit (dropV cs hs x) := by
  unfold dropV
  by_cases hg : RepoGood cs hs
  · rw [repoOk_true hg, if_pos rfl]
    have c2 := hg.c2
    have h2 := hg.h2
    cases lastH hs x hs.length with
    | none => exact ⟨by show cs.length ≤ 20; omega, by show hs.length ≤ 1000; omega, hl⟩
    | some j =>
      show RpFit (if hs.length = 1 then (cs, hs, 2) else (cs, hs.eraseIdx j, 0))
      split
      · exact ⟨by show cs.length ≤ 20; omega, by show hs.length ≤ 1000; omega, hl⟩
      · have hle : (hs.eraseIdx j).length ≤ hs.length := List.length_eraseIdx_le _ _
        refine ⟨by show cs.length ≤ 20; omega, by show (hs.eraseIdx j).length ≤ 1000; omega, hl.cl, by show ((hs.eraseIdx j).length : Int) ≤ _; omega, hl.cms, headsLen_iff.2 fun h hh => headsLen_iff.1 hl.hds h (List.mem_of_mem_eraseIdx hh)⟩
  · rw [repoOk_false hg, if_neg (by simp)]
    exact RpFit.none 4
end Go.Proofs.YtdfadpejddhbkaaGreat

namespace Go.Proofs.YtdfadpejddhbkaaGreat
set_option linter.unusedVariables false
open Go.ChangeShapes Go.WideShapes Go.ChangeAt Go.RowKit

theorem pf_mapsRowed : mapsRowed Tryz.prog = true := by kernel_rfl
theorem pf_mayEnter : Tryz.prog.mayEnter = true := by kernel_rfl
theorem pf_stopsHeard : Tryz.prog.stopsHeard = true := by kernel_rfl
theorem pf_plainKeys : (Rows.fnExactRepoDropRow.plainKeys == Tryz.prog.plainKeys) = true := by kernel_rfl
theorem pf_lifted : (Rows.fnExactRepoDropRow.lifted == Tryz.prog.liftsFinal) = true := by kernel_rfl
theorem pf_make : (Tryz.prog.make == some Rows.fnExactRepoDropRow.make) = true := by kernel_rfl
end Go.Proofs.YtdfadpejddhbkaaGreat

namespace Go.Proofs.YtdfadpejddhbkaaGreat
set_option linter.unusedVariables false
open Go.ChangeShapes Go.WideShapes Go.ChangeAt Go.RowKit

set_option maxRecDepth 100000 in
set_option maxHeartbeats 12000000 in
theorem fnExactRepoDrop_walk (a : Option Addr) (ca : Nat) (cs : List Cm) (b : Option Addr) (cb : Nat) (hs : List Hd) (x : ByteArray) (w : World) (hc : CommitsIn w a cs) (hh : HeadsIn w b hs) (hx : x.size ≤ maxLen) :
    Calls Tryz.prog 11 #[.agg #[.slice a cs.length ca, .slice b hs.length cb], .string x] w fun e w' => e = .returned (.bool true) ∧ Below w.heap.size w w' := by
  have HC := Lib.hid hc
  have HH := Lib.hid hh
  clear hc hh
  have A0 : Hid (∀ o, Below w.heap.size w (w.alloc o)) := fun o => (Below.refl _ _).alloc (Nat.le_refl _) _
  unfold maxLen at hx
  by_cases gx : (x.size : Int) > 1048576
  · go_enter Tryz.func11, Tryz.ntmps11
    go_wp2
    go_ret
    exact ⟨rfl, A0.out _⟩
  obtain ⟨vc, vh, vk, hV⟩ : ∃ vc vh vk, dropV cs hs x = (vc, vh, vk) := ⟨_, _, _, rfl⟩
  have HV := Lib.hid hV
  clear hV
  go_enter Tryz.func11, Tryz.ntmps11
  go_wp2_with fail
  refine (szRepo_sum _ _ _ _ _ _ _ _ (HC.out.below (A0.out _)) (HH.out.below (A0.out _)) (by omega) (by omega)).mono ?_
  rintro e w1 ⟨⟨r, rfl, hsz⟩, hb1⟩
  have C1 : Hid (Box2 w1 w.heap.size (.slice a cs.length ca) (.slice b hs.length cb)) := (Box2.new w _ _ _).later hb1
  have B1 : Hid (Below w.heap.size w w1) := (A0.out _).trans (hb1.mono (by simp))
  clear hb1
  rcases hsz with rfl | ⟨r0, r1, l1⟩
  · go_wp2
    go_ret
    exact ⟨rfl, B1.out⟩
  have L1 : Hid (RpLen cs hs 1048576) := ⟨by have := l1.cl; omega, by have := l1.hl; omega, l1.cms.mono (by omega), l1.hds.mono (by omega)⟩
  have hW : wC cs cs.length ≤ 1048576 := by omega
  have FT : Hid (RpFit (vc, vh, vk)) := by rw [← HV.out]; exact dropV_fit x L1.out
  clear l1
  obtain ⟨z0, c0, c1⟩ := C1.out
  go_wp2_with fail
  clear c0 c1
  refine (toRepo_any _ _ _ _ _ _ _ (HC.out.reads.below B1.out) (HH.out.reads.below B1.out) L1.out).mono ?_
  rintro e w2 ⟨a2, ca2, b2, cb2, rfl, _, _, hR2, hb2⟩
  replace C1 := Lib.hid (C1.out.later hb2)
  have B2 : Hid (Below w.heap.size w w2) := B1.out.trans (hb2.mono B1.out.size)
  have R2 := Lib.hid hR2
  clear hb2 hR2 B1
  go_wp2_with fail
  refine (specRepoDrop_any _ _ _ _ cs hs x _ R2.out L1.out).mono ?_
  intro e w3 hA3
  obtain ⟨am, cm, bm, dm, ad0, S0, rfl, _, hM, hb3⟩ := RoomAns.parts KS.law HV.out hA3
  replace C1 := Lib.hid (C1.out.later hb3)
  have B3 : Hid (Below w.heap.size w w3) := B2.out.trans (hb3.mono B2.out.size)
  have M0 := Lib.hid hM
  clear hb3 hA3 hM B2 R2
  go_upto_region 8 with (fail)
  obtain ⟨u3, hu3⟩ : ∃ u3, u3 = w3.alloc (.cells #[.slice am vc.length cm, .slice bm vh.length dm] 46) := ⟨_, rfl⟩
  rw [← hu3]
  have A3 : Hid (Below w3.heap.size w3 u3) := by rw [hu3]; exact (Below.refl _ _).alloc (Nat.le_refl _) _
  have P1 : Hid (Box2 u3 w3.heap.size (.slice am vc.length cm) (.slice bm vh.length dm)) := by rw [hu3]; exact Box2.new w3 _ _ _
  replace C1 := Lib.hid (C1.out.later A3.out)
  have MB : Hid (Below w3.heap.size w3 u3) := A3.out
  have BU : Hid (Below w.heap.size w u3) := B3.out.trans (A3.out.mono B3.out.size)
  have zp := P1.out.lt
  have zw3 := B3.out.size
  clear hu3 A3 B3
  obtain ⟨z0, c0, c1⟩ := C1.out
  go_wp2_with fail
  clear c0 c1
  refine (toRepo_lay _ _ _ _ _ _ _ (HC.out.reads.below BU.out) (HH.out.reads.below BU.out) L1.out).mono ?_
  rintro e w4 ⟨bX, ad, cut, qX, rfl, hX, hbX, hqX, hb4⟩
  replace C1 := Lib.hid (C1.out.later hb4)
  replace P1 := Lib.hid (P1.out.later hb4)
  replace MB := Lib.hid (MB.out.trans (hb4.mono MB.out.size))
  have B4 : Hid (Below w.heap.size w w4) := BU.out.trans (hb4.mono BU.out.size)
  have RX := Lib.hid hX
  have hcq := hX.cq
  have hc0 := hX.c0
  have hcn := hX.lay.cut cs.length (Nat.le_refl _)
  clear hb4 hX BU
  go_upto_region 9 with (fail)
  obtain ⟨u4, hu4⟩ : ∃ u4, u4 = w4.alloc (.cells #[.slice (some ⟨bX, 0, none⟩) cs.length cs.length, .slice (some ⟨qX, 0, none⟩) hs.length hs.length] 46) := ⟨_, rfl⟩
  rw [← hu4]
  have A4 : Hid (Below w4.heap.size w4 u4) := by rw [hu4]; exact (Below.refl _ _).alloc (Nat.le_refl _) _
  have X1 : Hid (Box2 u4 w4.heap.size (.slice (some ⟨bX, 0, none⟩) cs.length cs.length) (.slice (some ⟨qX, 0, none⟩) hs.length hs.length)) := by rw [hu4]; exact Box2.new w4 _ _ _
  replace C1 := Lib.hid (C1.out.later A4.out)
  replace P1 := Lib.hid (P1.out.later A4.out)
  replace RX := Lib.hid (RX.out.below A4.out)
  replace MB := Lib.hid (MB.out.trans (A4.out.mono MB.out.size))
  have B4u : Hid (Below w.heap.size w u4) := B4.out.trans (A4.out.mono B4.out.size)
  have zx := X1.out.lt
  clear hu4 A4 B4
  obtain ⟨_, d0, d1⟩ := X1.out
  go_wp2_with fail
  clear d0 d1
  refine (implRepoDrop_any _ _ _ _ cs hs x _ RX.out.at L1.out (Nat.le_refl _) (by omega)).mono ?_
  intro e w5 hA5
  obtain ⟨ag, cg, bg, dg, adG, SG, rfl, hRG, _, hb5⟩ := RoomAns.parts KI.law HV.out hA5
  have RGB := Lib.hid hRG.blocks
  have RG := Lib.hid hRG
  replace C1 := Lib.hid (C1.out.later hb5)
  replace P1 := Lib.hid (P1.out.later hb5)
  replace X1 := Lib.hid (X1.out.later hb5)
  replace RX := Lib.hid (RX.out.below hb5)
  replace MB := Lib.hid (MB.out.trans (hb5.mono MB.out.size))
  have B5 : Hid (Below w.heap.size w w5) := B4u.out.trans (hb5.mono B4u.out.size)
  have zx5 : w4.heap.size < w5.heap.size := by have := hb5.size; omega
  clear hb5 hA5 hRG B4u
  go_upto_region 10 with (fail)
  obtain ⟨u5, hu5⟩ : ∃ u5, u5 = w5.alloc (.cells #[.slice ag vc.length cg, .slice bg vh.length dg] 46) := ⟨_, rfl⟩
  rw [← hu5]
  have A5 : Hid (Below w5.heap.size w5 u5) := by rw [hu5]; exact (Below.refl _ _).alloc (Nat.le_refl _) _
  have G1 : Hid (Box2 u5 w5.heap.size (.slice ag vc.length cg) (.slice bg vh.length dg)) := by rw [hu5]; exact Box2.new w5 _ _ _
  replace C1 := Lib.hid (C1.out.later A5.out)
  replace P1 := Lib.hid (P1.out.later A5.out)
  replace X1 := Lib.hid (X1.out.later A5.out)
  replace RX := Lib.hid (RX.out.below A5.out)
  replace RG := Lib.hid (RG.out.below KI.law A5.out)
  replace MB := Lib.hid (MB.out.trans (A5.out.mono MB.out.size))
  have B5u : Hid (Below w.heap.size w u5) := B5.out.trans (A5.out.mono B5.out.size)
  have zg := G1.out.lt
  clear hu5 A5 B5
  have RA : Hid (∀ {u : World}, Room KI u u4.heap.size (.slice ag vc.length cg) (.slice bg vh.length dg) vc vh adG SG → RepoAt u ag bg vc vh) := fun h => by
    obtain ⟨_, _, _, _, e1, e2, _, _, h⟩ := h.form KI.law
    cases e1
    cases e2
    exact h
  have hne : (vk != vk) = false := by simp
  have hre : rpEq vc vc vh vh = true := rpEq_refl _ _
  obtain ⟨_, p0, p1⟩ := P1.out
  obtain ⟨_, g0, g1⟩ := G1.out
  go_wp2_with fail
  clear p0 p1 g0 g1
  refine (eqRepo_any _ _ _ _ _ _ _ _ vc vc vh vh _ (RA.out RG.out) (M0.out.below MB.out) FT.out.len FT.out.len).mono ?_
  rintro e w6 ⟨rfl, hb6⟩
  rw [hre]
  replace C1 := Lib.hid (C1.out.later hb6)
  replace P1 := Lib.hid (P1.out.later hb6)
  replace X1 := Lib.hid (X1.out.later hb6)
  replace G1 := Lib.hid (G1.out.later hb6)
  replace RX := Lib.hid (RX.out.below hb6)
  replace RG := Lib.hid (RG.out.below KI.law hb6)
  replace MB := Lib.hid (MB.out.trans (hb6.mono MB.out.size))
  have B6 : Hid (Below w.heap.size w w6) := B5u.out.trans (hb6.mono B5u.out.size)
  clear hb6 B5u
  go_upto_region 12 with (fail)
  go_cut [52] (fun s wx => s = .bool false ∧ Below w6.heap.size w6 wx)
  case first =>
    obtain ⟨_, c0, c1⟩ := C1.out
    obtain ⟨_, d0, d1⟩ := X1.out
    go_region_held3 (fun w' => w'.cell? ⟨w.heap.size, 0, none⟩ = some (.slice a cs.length ca) ∧ w'.cell? ⟨w.heap.size, 1, none⟩ = some (.slice b hs.length cb) ∧ w'.cell? ⟨w4.heap.size, 0, none⟩ = some (.slice (some ⟨bX, 0, none⟩) cs.length cs.length) ∧ w'.cell? ⟨w4.heap.size, 1, none⟩ = some (.slice (some ⟨qX, 0, none⟩) hs.length hs.length) ∧ Below w6.heap.size w6 w')
      (first
        | (go_split_ands
           rename_i hS0 hS1 hS2 hS3 hS4
           with_reducible exact ⟨cell_later hbn hS0, cell_later hbn hS1, cell_later hbn hS2, cell_later hbn hS3, hS4.trans (hbn.mono hS4.size)⟩)
        | exact ⟨c0, c1, d0, d1, (Below.refl _ _).drew⟩)
      (first
        | (go_at_call 41
           refine (toRepo_any _ _ _ _ _ _ _ ?_ ?_ L1.out).mono ?_
           · (go_split_ands; exact HC.out.reads.below (B6.out.trans (Below.mono (by assumption) B6.out.size)))
           · (go_split_ands; exact HH.out.reads.below (B6.out.trans (Below.mono (by assumption) B6.out.size)))
           rintro e wn ⟨aA, caA, bA, cbA, rfl, _, _, hRA, hbn⟩)
        | (go_at_call 44
           refine (eqRepo_any _ _ _ _ _ _ _ _ cs cs hs hs _ ?_ ?_ L1.out L1.out).mono ?_
           · (go_split_ands; exact RX.out.at.below (by assumption))
           · (assumption)
           rintro e wn ⟨rfl, hbn⟩))
    all_goals (go_wp2_with fail; go_meet; go_split_ands; exact ⟨by simp [rpEq_refl], by assumption⟩)
  case rest =>
    obtain ⟨rfl, hb7⟩ := hcut
    replace C1 := Lib.hid (C1.out.later hb7)
    replace P1 := Lib.hid (P1.out.later hb7)
    replace X1 := Lib.hid (X1.out.later hb7)
    replace G1 := Lib.hid (G1.out.later hb7)
    replace RX := Lib.hid (RX.out.below hb7)
    replace RG := Lib.hid (RG.out.below KI.law hb7)
    replace MB := Lib.hid (MB.out.trans (hb7.mono MB.out.size))
    have B7 : Hid (Below w.heap.size w wc) := B6.out.trans (hb7.mono B6.out.size)
    clear hb7 B6
    obtain ⟨_, d0, d1⟩ := X1.out
    go_wp2_with fail
    clear d0 d1
    refine (markRepo_lay bX qX ad cut cs hs 1 _ RX.out L1.out hW (by omega) (by omega)).mono ?_
    rintro e w8 ⟨⟨k8, rfl, hk8⟩, ht8⟩
    have zc := C1.out.lt
    have zq := RX.out.hds.lt
    have B8 : Hid (Below w.heap.size w w8) := B7.out.trans (ht8.below B7.out.size fun x hx => by omega)
    replace MB := Lib.hid (MB.out.trans (ht8.below MB.out.size fun x hx => by omega))
    replace C1 := Lib.hid (C1.out.turned ht8 (by omega))
    replace P1 := Lib.hid (P1.out.turned ht8 (by omega))
    replace G1 := Lib.hid (G1.out.turned ht8 (by omega))
    replace RG := Lib.hid (RG.out.turned KI.law ht8 fun x hx hy => by have := (RGB.out x hx).1; omega)
    clear ht8 B7 X1 RX
    obtain ⟨_, p0, p1⟩ := P1.out
    obtain ⟨_, g0, g1⟩ := G1.out
    have hk8' : ¬ k8 < 0 := by omega
    go_wp2_with fail
    clear p0 p1 g0 g1
    refine (eqRepo_any _ _ _ _ _ _ _ _ vc vc vh vh _ (RA.out RG.out) (M0.out.below MB.out) FT.out.len FT.out.len).mono ?_
    rintro e w9 ⟨rfl, hb9⟩
    rw [hre]
    replace C1 := Lib.hid (C1.out.later hb9)
    replace P1 := Lib.hid (P1.out.later hb9)
    replace G1 := Lib.hid (G1.out.later hb9)
    replace RG := Lib.hid (RG.out.below KI.law hb9)
    replace MB := Lib.hid (MB.out.trans (hb9.mono MB.out.size))
    have B9 : Hid (Below w.heap.size w w9) := B8.out.trans (hb9.mono B8.out.size)
    clear hb9 B8
    obtain ⟨_, g0, g1⟩ := G1.out
    go_wp2_with fail
    clear g0 g1
    refine (markRepo_own _ _ _ vc vh adG SG 1 _ RG.out FT.out.c FT.out.h FT.out.len.cms (by omega) (by omega)).mono ?_
    rintro e w10 ⟨rfl, hGM, ht10⟩
    have B10 : Hid (Below w.heap.size w w10) := B9.out.trans (ht10.below B9.out.size fun x hx => by have := (RGB.out x hx).1; omega)
    replace MB := Lib.hid (MB.out.trans (ht10.below MB.out.size fun x hx => by have := (RGB.out x hx).1; omega))
    replace C1 := Lib.hid (C1.out.turned ht10 fun hx => by have := (RGB.out _ hx).1; omega)
    replace P1 := Lib.hid (P1.out.turned ht10 fun hx => by have := (RGB.out _ hx).1; omega)
    replace G1 := Lib.hid (G1.out.turned ht10 fun hx => by have := (RGB.out _ hx).2; omega)
    have IM : Hid (RepoAt w10 ag bg (mkdC vc 1 vc.length) (mkHd vh (cmk vc 1 vc.length) vh.length)) := by
      obtain ⟨_, _, _, _, e1, e2, _, _, h⟩ := hGM.form KI.law
      rw [mkdC_len] at e1
      rw [mkHd_len] at e2
      cases e1
      cases e2
      exact h
    clear ht10 hGM B9 RG RA
    obtain ⟨_, g0, g1⟩ := G1.out
    have hm1 : 0 ≤ cmk vc 1 vc.length := (cmk_le (k := 1) (by omega) (by omega) FT.out.c FT.out.len.cms _ (Nat.le_refl _)).1
    have hm2 : ¬ rmk vc vh 1 < 0 := by unfold rmk; omega
    have hm3 : (rmk vc vh 1 != rmk vc vh 1) = false := by simp
    clear hm1
    go_wp2_with fail
    clear g0 g1
    refine (heldRepo_any _ _ _ _ vc vh 1 _ IM.out FT.out.c FT.out.h FT.out.len.cms (by omega) (by omega)).mono ?_
    rintro e w11 ⟨rfl, hb11⟩
    replace C1 := Lib.hid (C1.out.later hb11)
    replace P1 := Lib.hid (P1.out.later hb11)
    replace G1 := Lib.hid (G1.out.later hb11)
    replace IM := Lib.hid (IM.out.below hb11)
    replace MB := Lib.hid (MB.out.trans (hb11.mono MB.out.size))
    have B11 : Hid (Below w.heap.size w w11) := B10.out.trans (hb11.mono B10.out.size)
    clear hb11 B10
    obtain ⟨_, c0, c1⟩ := C1.out
    go_wp2_with fail
    clear c0 c1
    refine (toRepo_any _ _ _ _ _ _ _ (HC.out.reads.below B11.out) (HH.out.reads.below B11.out) L1.out).mono ?_
    rintro e w12 ⟨a12, ca12, b12, cb12, rfl, hca12, _, hR12, hb12⟩
    replace P1 := Lib.hid (P1.out.later hb12)
    replace G1 := Lib.hid (G1.out.later hb12)
    replace IM := Lib.hid (IM.out.below hb12)
    replace MB := Lib.hid (MB.out.trans (hb12.mono MB.out.size))
    have B12 : Hid (Below w.heap.size w w12) := B11.out.trans (hb12.mono B11.out.size)
    have R12 := Lib.hid hR12
    clear hb12 hR12 B11 C1
    go_wp2_with fail
    refine (implRepoDrop_any _ _ _ _ cs hs x _ R12.out L1.out hca12 (by omega)).mono ?_
    intro e w13 hA13
    obtain ⟨ah, ch, bh, dh, adH, SH, rfl, _, hH, hb13⟩ := RoomAns.parts KI.law HV.out hA13
    have RH := Lib.hid hH
    replace P1 := Lib.hid (P1.out.later hb13)
    replace G1 := Lib.hid (G1.out.later hb13)
    replace IM := Lib.hid (IM.out.below hb13)
    replace MB := Lib.hid (MB.out.trans (hb13.mono MB.out.size))
    have B13 : Hid (Below w.heap.size w w13) := B12.out.trans (hb13.mono B12.out.size)
    clear hb13 hA13 hH B12 R12
    go_upto_region 27 with (fail)
    obtain ⟨u13, hu13⟩ : ∃ u13, u13 = w13.alloc (.cells #[.slice ah vc.length ch, .slice bh vh.length dh] 46) := ⟨_, rfl⟩
    rw [← hu13]
    have A13 : Hid (Below w13.heap.size w13 u13) := by rw [hu13]; exact (Below.refl _ _).alloc (Nat.le_refl _) _
    have H1 : Hid (Box2 u13 w13.heap.size (.slice ah vc.length ch) (.slice bh vh.length dh)) := by rw [hu13]; exact Box2.new w13 _ _ _
    replace P1 := Lib.hid (P1.out.later A13.out)
    replace G1 := Lib.hid (G1.out.later A13.out)
    replace IM := Lib.hid (IM.out.below A13.out)
    replace RH := Lib.hid (RH.out.below A13.out)
    replace MB := Lib.hid (MB.out.trans (A13.out.mono MB.out.size))
    have B13u : Hid (Below w.heap.size w u13) := B13.out.trans (A13.out.mono B13.out.size)
    clear hu13 A13 B13
    obtain ⟨_, p0, p1⟩ := P1.out
    obtain ⟨_, k0, k1⟩ := H1.out
    go_wp2_with fail
    clear p0 p1 k0 k1
    refine (eqRepo_any _ _ _ _ _ _ _ _ vc vc vh vh _ RH.out (M0.out.below MB.out) FT.out.len FT.out.len).mono ?_
    rintro e w14 ⟨rfl, hb14⟩
    rw [hre]
    replace G1 := Lib.hid (G1.out.later hb14)
    replace IM := Lib.hid (IM.out.below hb14)
    have B14 : Hid (Below w.heap.size w w14) := B13u.out.trans (hb14.mono B13u.out.size)
    clear hb14 B13u P1 H1 RH MB
    obtain ⟨_, g0, g1⟩ := G1.out
    go_wp2_with fail
    clear g0 g1
    refine (heldRepo_any _ _ _ _ vc vh 1 _ IM.out FT.out.c FT.out.h FT.out.len.cms (by omega) (by omega)).mono ?_
    rintro e w15 ⟨rfl, hb15⟩
    have B15 : Hid (Below w.heap.size w w15) := B14.out.trans (hb15.mono B14.out.size)
    clear hb15 B14 G1 IM
    go_wp2
    go_ret
    exact ⟨rfl, B15.out⟩

set_option maxRecDepth 100000 in
theorem fnExactRepoDrop_lifted (os : Os) (started : os.Started) (H : Type) (enc : TypeId × Value → H) :
    ReturnsInHanded {} Tryz.checked os 11 .any (Rows.fnExactRepoDropSpec.pre6 enc Tryz.prog Tryz.f11 Rows.fnExactRepoDropRow.domain false) (Rows.fnExactRepoDropSpec.post enc Tryz.prog Tryz.f11 false true false false) := by
  refine returnsInHanded_of_change (C := Tryz.checked) own started (by kernel_rfl) Tryz.func11
    (ChangeSpec.witness6 (enc := enc) (C := Tryz.checked) false ⟨#[], #[.agg #[.slice none 0 0, .slice none 0 0], .string .empty], []⟩ 8 (by kernel_rfl) (by kernel_rfl) (by kernel_rfl) (by kernel_rfl)) ?_
  intro W base args ds gs before hval0 hW _ _
  have hval : ∀ (j : Nat) t v, Tryz.f11.params[j]? = some t → args[j]? = some v → Value.okWide Tryz.prog W .any base t v := hval0
  have hW' := hW
  obtain ⟨p, q, hA0, hV, rfl, _, _⟩ := hW
  have hA : DataW.TrodAll enc Tryz.prog W 0 (fun _ => true) true Tryz.f11.params.toList args.toList ds p := hA0
  rw [Tryz.params11] at hA hval
  obtain ⟨v0, vs0, d0, ds0, p0, q0, hargs, rfl, rfl, h0, r0⟩ := trodAll_cons hA
  obtain ⟨v1, vs1, d1, ds1, p1, q1, rfl, rfl, rfl, h1, r1⟩ := trodAll_cons r0
  obtain ⟨rfl, rfl, rfl⟩ := trodAll_nil r1
  obtain rfl : args = #[v0, v1] := by cases args; simp_all
  obtain ⟨rfl, rfl⟩ := trodVars_none hV
  have k0 := h0
  have lt0 : ∀ x ∈ p0, x.block < W.heap.size := by obtain ⟨m, hm⟩ := k0; exact DataW.trod_lt m _ _ _ hm
  obtain ⟨a0, c0, s0, b0, e0, t0, rfl, f0, g0⟩ := open_repo (hval 0 63 v0 rfl rfl) h0
  obtain ⟨x1, rfl, rfl, rfl, w1⟩ := Go.ChangeMaps.open_string Tryz.underlying9 (hval 1 9 v1 rfl rfl) h1
  clear hA0 hval0
  refine (fnExactRepoDrop_walk a0 c0 s0 b0 e0 t0 x1 W f0 g0 w1).mono fun e W' ⟨he, bel⟩ => ?_
  subst he
  exact ⟨_, rfl, _, _, _, [], _, [], hW', trodAll_mk1 (shut_bool Tryz.underlying4 _), (trodAll_cons_mk (Below.trod laidOut (by kernel_rfl) (of_decide_eq_true (by kernel_rfl)) k0 bel lt0) (trodAll_cons_mk (Go.ChangeMaps.shut_string Tryz.underlying9 w1) trodAll_mk0)), rfl, bel.frame _, fun h => by cases h⟩

theorem fnExactRepoDrop_c1 : (Rows.fnExactRepoDropRow.inPlace == Tryz.prog.inPlace 11) = true := by kernel_rfl
theorem fnExactRepoDrop_c2 : (Rows.fnExactRepoDropRow.unfollowed == Tryz.prog.unfollowed 11) = true := by kernel_rfl
theorem fnExactRepoDrop_c3 : (Rows.fnExactRepoDropRow.recurses == Tryz.prog.recurses 11) = true := by kernel_rfl
theorem fnExactRepoDrop_c4 : (Rows.fnExactRepoDropRow.named == Tryz.prog.varsNamed 11) = true := by kernel_rfl
theorem fnExactRepoDrop_c5 : (Rows.fnExactRepoDropRow.plainKeys == Tryz.prog.plainKeys) = true := pf_plainKeys
theorem fnExactRepoDrop_c6 : (Rows.fnExactRepoDropRow.lifted == Tryz.prog.liftsFinal) = true := pf_lifted
theorem fnExactRepoDrop_c7 : (Tryz.prog.make == some Rows.fnExactRepoDropRow.make) = true := pf_make
theorem fnExactRepoDrop_closed : joinedFacts Tryz.prog 11 Tryz.f11 Rows.fnExactRepoDropSpec Rows.fnExactRepoDropRow = true := by
  unfold joinedFacts
  simp only [Bool.and_eq_true]
  repeat' apply And.intro
  all_goals first
    | with_reducible exact laidOut
    | with_reducible exact pf_mapsRowed
    | with_reducible exact pf_mayEnter
    | with_reducible exact pf_stopsHeard
    | with_reducible exact fnExactRepoDrop_c1
    | with_reducible exact fnExactRepoDrop_c2
    | with_reducible exact fnExactRepoDrop_c3
    | with_reducible exact fnExactRepoDrop_c4
    | with_reducible exact fnExactRepoDrop_c5
    | with_reducible exact fnExactRepoDrop_c6
    | with_reducible exact fnExactRepoDrop_c7
    | kernel_rfl

theorem fnExactRepoDrop_over : Rows.fnExactRepoDropRow.holds Tryz.pinned (OpenSpec.ofChange Rows.fnExactRepoDropSpec) :=
  OpenClaim.holds_of_wide 11 Tryz.f11 rfl rfl rfl rfl rfl rfl rfl ⟨rfl, rfl, rfl, rfl, rfl⟩ rfl rfl rfl rfl rfl (by kernel_rfl) Tryz.func11 fnExactRepoDrop_closed
    (of_decide_eq_true (by kernel_rfl)) (by unfold Func.isWrapper; first | (rw [if_pos (by decide +kernel)]; kernel_rfl) | (rw [if_neg (by decide +kernel)]; exact ⟨rfl, rfl⟩))
    (fun os started H enc _ => fnExactRepoDrop_lifted os started H enc)

/-- the given statement -/
theorem fnExactRepoDrop_holds : Rows.FnExactRepoDropSaid := fnExactRepoDrop_over

end Go.Proofs.YtdfadpejddhbkaaGreat
