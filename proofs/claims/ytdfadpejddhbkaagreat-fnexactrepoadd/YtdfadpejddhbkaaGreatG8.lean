/- Proved here: whether versions and branches are right, and the version of a branch, by the program and by the model; lists of at most 1,048,576. Proved here: what it is that a function answers a room in memory of its own and a code; plain facts of branches; no condition. Proved here: a row of versions in memory of its own is marked version by version, and nothing else is turned; at most 20 versions of at most 1,048,576 parts. Proved here: a room in memory of its own is marked whole, and asked for its marks; at most 20 versions and branches of at most 1,048,576 parts. Proved here: small facts for the laws whose answer is a room: the parts of an answer, and that it is small enough to be marked; no condition. Proved here: the model's map without a name holds copies of the other things; lists of at most 1,048,576 things, points and tags, texts of at most 1,048,576 bytes. Proved here: the model's copies of a version and of a room read as they should, their parts in blocks of their own; at most 1,000,000 versions and branches of at most 1,000,000 parts, each thing with a point. -/
import Derived.Test.YtdfadpejddhbkaaGreatG7
import Derived.Test.YtdfadpejddhbkaaGreatG6
import Derived.Deep.RegionHeld3
import Derived.Deep.DeepCutAuto
namespace Go.Proofs.YtdfadpejddhbkaaGreat
set_option linter.unusedVariables false
open Go.ChangeShapes Go.WideShapes Go.ChangeAt Go.RowKit

theorem good_and (cs : List Cm) (hs : List Hd) : repoOk cs hs = (cmsB cs && headsB hs cs.length) := by
  rw [Bool.eq_iff_iff, repoOk_iff]
  simp only [cmsB, headsB, Bool.and_eq_true, decide_eq_true_iff]
  exact ⟨fun g => ⟨⟨g.c1, g.c2, g.cms⟩, ⟨g.h1, g.h2, g.hds⟩⟩, fun g => ⟨g.1.1, g.1.2.1, g.2.1, g.2.2.1, g.1.2.2, g.2.2.2⟩⟩

theorem RepoGood.apart {cs : List Cm} {hs : List Hd} (g : RepoGood cs hs) : NamesApart hs hs.length := fun i j hj hi => (g.hds i hi).once j hj

set_option maxRecDepth 100000 in
set_option maxHeartbeats 4000000 in
theorem implRepoOk_any (a b : Option Addr) (ca cb : Nat) (cs : List Cm) (hs : List Hd) (w : World) (hr : RepoAt w a b cs hs) (hl : RpLen cs hs 1048576) (hca : cs.length ≤ ca) :
    Calls Tryz.prog 76 #[.agg #[.slice a cs.length ca, .slice b hs.length cb]] w fun e w' => e = .returned (.bool (repoOk cs hs)) ∧ Below w.heap.size w w' := by
  obtain ⟨l1, l2, l3, l4⟩ := hl
  have HR := Lib.hid hr
  have L3 := Lib.hid l3
  have L4 := Lib.hid l4
  clear hr l3 l4
  have A1 : Hid (∀ o, Below w.heap.size w (w.alloc o)) := fun o => (Below.refl _ _).alloc (Nat.le_refl _) _
  go_enter Tryz.func76, Tryz.ntmps76
  go_wp2_with fail
  refine (commitsOk_any _ _ _ _ (HR.out.cms.below (A1.out _)) (by omega) L3.out hca).mono ?_
  rintro e w1 ⟨rfl, hb1⟩
  have c0 := cell_later hb1 (a := ⟨w.heap.size, 0, none⟩) (v := .slice a cs.length ca) (by simp [go_sem])
  have c1 := cell_later hb1 (a := ⟨w.heap.size, 1, none⟩) (v := .slice b hs.length cb) (by simp [go_sem])
  have B1 : Hid (Below w.heap.size w w1) := (A1.out _).trans (hb1.mono (by simp))
  clear hb1
  have HE := Lib.hid (good_and cs hs)
  cases hq : cmsB cs
  · rw [hq] at HE
    go_wp2
    go_ret
    exact ⟨by rw [HE.out]; rfl, B1.out⟩
  · rw [hq] at HE
    clear hq
    go_wp2_with fail
    refine (headsOk_any _ _ _ _ _ (HR.out.hds.below B1.out) (by omega) L4.out (by omega)).mono ?_
    rintro e w2 ⟨rfl, hb2⟩
    have B2 : Hid (Below w.heap.size w w2) := B1.out.trans (hb2.mono B1.out.size)
    clear hb2 c0 c1
    go_wp2
    go_ret
    exact ⟨by rw [HE.out]; rfl, B2.out⟩

/-- the version of a branch -/
noncomputable def atV (cs : List Cm) (hs : List Hd) (x : ByteArray) : Int :=
  if repoOk cs hs then (match lastH hs x hs.length with | some j => hda hs j | none => -1) else -1

end Go.Proofs.YtdfadpejddhbkaaGreat

namespace Go.Proofs.YtdfadpejddhbkaaGreat
set_option linter.unusedVariables false
open Go.ChangeShapes Go.WideShapes Go.ChangeAt Go.RowKit Go.Deep

/-- a room whose branches are turned -/
theorem Room.heads {K : World → Cm → PlO → (Nat → Prop) → Prop} (L : KLaw K) {w w' : World} {lo : Nat} {cv hv hv' : Value} {cs : List Cm} {hs hs' : List Hd} {ad : Nat → PlO} {S : Nat → Nat → Prop} (h : Room K w lo cv hv cs hs ad S) (ht : Turned w w' (fun x => hv.ownBlock = some x)) (hg : GrowH lo hs' w' hv') (hb : ∀ x, hv'.ownBlock = some x → hv.ownBlock = some x ∨ w.heap.size ≤ x) : Room K w' lo cv hv' cs hs' ad S :=
  ⟨h.cms.turned L ht fun x hx hy => h.far x hy hx, hg, fun x hx hc => (hb x hx).elim (fun e => h.far x e hc) fun e => by have := (h.cms.blocks x hc).2; omega⟩

/-- versions, branches and a code -/
abbrev RpV := List Cm × List Hd × Int

/-- what a function of rooms answers: a room in memory of its own, and a code -/
def RoomAns (K : World → Cm → PlO → (Nat → Prop) → Prop) (v : RpV) (w : World) (e : Ending) (w' : World) : Prop :=
  ∃ cv hv ad S, e = .returned (.tuple #[.agg #[cv, hv], .int .i64 v.2.2]) ∧ Room K w' w.heap.size cv hv v.1 v.2.1 ad S ∧ Below w.heap.size w w'

/-- a branch taken away -/
noncomputable def dropV (cs : List Cm) (hs : List Hd) (x : ByteArray) : RpV :=
  if repoOk cs hs then (match lastH hs x hs.length with | none => (cs, hs, 1) | some j => if hs.length = 1 then (cs, hs, 2) else (cs, hs.eraseIdx j, 0)) else ([], [], 4)

theorem RpLen.less {cs : List Cm} {hs : List Hd} {m n : Int} (h : RpLen cs hs m) (hm : m ≤ n) : RpLen cs hs n := ⟨Int.le_trans h.cl hm, Int.le_trans h.hl hm, h.cms.mono hm, h.hds.mono hm⟩

/-- what stands in the box of the answer -/
theorem BK.two {w : World} {b : Nat} {v0 v1 : Value} {t : TypeId} (h : BK w b #[v0, v1] t) : w.cell? ⟨b, 0, none⟩ = some v0 ∧ w.cell? ⟨b, 1, none⟩ = some v1 ∧ w.frozen? ⟨b, 0, none⟩ = false ∧ w.frozen? ⟨b, 1, none⟩ = false :=
  ⟨h.cell 0 rfl, h.cell 1 rfl, h.frozen 0, h.frozen 1⟩

/-- the end of a function that answers a room by a box at 'r': the box lies below the room -/
theorem room_fin {K : World → Cm → PlO → (Nat → Prop) → Prop} (L : KLaw K) {w wx : World} {r lo : Nat} {cv hv x0 x1 : Value} {cs : List Cm} {hs : List Hd} {ad : Nat → PlO} {S : Nat → Nat → Prop} (h : Room K wx lo cv hv cs hs ad S) (hb : Below w.heap.size w wx) (h1 : w.heap.size ≤ r) (h2 : r < lo) :
    Room K ((wx.setCell ⟨r, 0, none⟩ x0).setCell ⟨r, 1, none⟩ x1) w.heap.size cv hv cs hs ad S ∧ Below w.heap.size w ((wx.setCell ⟨r, 0, none⟩ x0).setCell ⟨r, 1, none⟩ x1) := by
  have T : Turned wx ((wx.setCell ⟨r, 0, none⟩ x0).setCell ⟨r, 1, none⟩ x1) (fun x => x = r) := (Turned.of_set (S := fun x => x = r) _ _ _ rfl).trans (Turned.of_set _ _ _ rfl)
  exact ⟨(h.low (by omega)).turned L T fun x hx e => by have := (h.blocks x hx).1; omega, hb.trans (T.below hb.size fun x hx => by omega)⟩


/-- of branches that are apart, the first of a name is the last -/
theorem first_last {hs : List Hd} {x : ByteArray} {r : Int} (ha : NamesApart hs hs.length) (h : FirstHd hs x r) : (r = -1 ∧ lastH hs x hs.length = none) ∨ ∃ j : Nat, r = j ∧ j < hs.length ∧ lastH hs x hs.length = some j := by
  rcases h with ⟨h1, h2⟩ | ⟨k, h1, h2, h3, _⟩
  · refine .inl ⟨h1, ?_⟩
    cases hq : lastH hs x hs.length with
    | none => rfl
    | some j => obtain ⟨q1, q2, _⟩ := lastH_some hq; exact absurd q2 (h2 j q1)
  · exact .inr ⟨k, h1, h2, lastH_first ha h2 h3⟩

/-- a room that is right has few of all -/
theorem RepoGood.few {cs : List Cm} {hs : List Hd} (g : RepoGood cs hs) : RpFew cs hs := ⟨by have := g.c2; omega, by have := g.h2; omega, fun j hj => by have := (g.cms j hj).up.2.1; omega⟩

/-- each thing of a version that is right has a point -/
theorem RepoGood.pos {cs : List Cm} {hs : List Hd} (g : RepoGood cs hs) : ∀ j, j < cs.length → ∀ i, i < (mg cs j).2.1.length → 0 < (fps (mg cs j).2.1 i).length := fun j hj i hi => ftOk_pts (good_ok (g.cms j hj).sheet hi)
end Go.Proofs.YtdfadpejddhbkaaGreat

namespace Go.Proofs.YtdfadpejddhbkaaGreat
set_option linter.unusedVariables false
open Go.ChangeShapes Go.WideShapes Go.ChangeAt Go.RowKit Go.Deep

/-- the number of a version's first mark -/
def cmk (cs : List Cm) (k : Int) : Nat → Int
  | 0 => k
  | i + 1 => cmk cs k i + ((mg cs i).1.length : Int) + 2 * ((wF (mg cs i).2.1 (mg cs i).2.1.length : Nat) : Int) + 1
/-- a version, marked -/
def mkCm (c : Cm) (m : Int) : Cm := (marksI m c.1.length, lmkTo c.2.1 (m + (c.1.length : Int)) c.2.1.length, markT (m + (c.1.length : Int) + 2 * ((wF c.2.1 c.2.1.length : Nat) : Int)))
/-- the versions, the first ones marked -/
def mkdC (cs : List Cm) (k : Int) (j : Nat) : List Cm := (List.range cs.length).map fun i => if i < j then mkCm (mg cs i) (cmk cs k i) else mg cs i

theorem mkdC_len (cs : List Cm) (k : Int) (j : Nat) : (mkdC cs k j).length = cs.length := by simp [mkdC]
theorem mkdC_at {cs : List Cm} (k : Int) (j : Nat) {i : Nat} (h : i < cs.length) : mg (mkdC cs k j) i = if i < j then mkCm (mg cs i) (cmk cs k i) else mg cs i := by simp [mg, mkdC, h]
theorem mkdC_zero (cs : List Cm) (k : Int) : mkdC cs k 0 = cs := by
  refine List.ext_getElem (mkdC_len _ _ _) fun i h1 h2 => ?_
  rw [← mg_get h1, ← mg_get h2, mkdC_at k 0 h2, if_neg (by omega)]

theorem wF_le {fs : List Ft} (hL : FeatsLen fs 1048576) : ∀ i, i ≤ fs.length → wF fs i ≤ i * 2097153
  | 0, _ => Nat.le_refl _
  | i + 1, hi => by
    have ih := wF_le hL i (by omega)
    obtain ⟨_, h3, h5, _⟩ := hL i (by omega)
    have e : wF fs (i + 1) = wF fs i + (1 + (fps fs i).length + (fts fs i).length) := rfl
    omega

theorem cmk_le {cs : List Cm} {k : Int} (h0 : 0 ≤ k) (h4 : k ≤ 1000) (hl : cs.length ≤ 20) (hL : CmsLen cs 1048576) : ∀ i, i ≤ cs.length → 0 ≤ cmk cs k i ∧ cmk cs k i ≤ k + i * 4398049656833
  | 0, _ => ⟨h0, by show k ≤ _; omega⟩
  | i + 1, hi => by
    obtain ⟨h1, h2⟩ := cmk_le h0 h4 hl hL i (by omega)
    obtain ⟨l1, l2, l3, l4⟩ := hL i (by omega)
    have hw := wF_le l3 _ (Nat.le_refl _)
    have e : cmk cs k (i + 1) = cmk cs k i + ((mg cs i).1.length : Int) + 2 * ((wF (mg cs i).2.1 (mg cs i).2.1.length : Nat) : Int) + 1 := rfl
    rw [e]
    omega

theorem markFeatS_o (v : Value) (fs : List Ft) (ad : Nat → Pl) (k : Int) (w : World) (h : ListO w v fs ad) (hl : fs.length ≤ 1048576) (hL : FeatsLen fs 1048576) (h0 : 0 ≤ k) (h4 : k ≤ 1000000000000000) :
    Calls Tryz.prog 47 #[v, .int .i64 k] w fun e w' => e = .returned (.int .i64 (k + 2 * ((wF fs fs.length : Nat) : Int))) ∧ ListO w' v (lmkTo fs k fs.length) ad ∧ Turned w w' (inList v fs.length ad) := by
  rcases h with ⟨rfl, rfl⟩ | ⟨b, cap, rfl, h1, h2⟩
  · refine (markFeatS_nil none 0 k w).mono fun e w' ⟨he, hw⟩ => ?_
    subst hw
    exact ⟨by rw [he]; simp [wF], .inl ⟨rfl, rfl⟩, Turned.refl _ _⟩
  · refine (markFeatS_some b 0 cap fs ad k w hl hL h0 h4 h1 h2).mono fun e w' ⟨he, hlie, ht⟩ => ?_
    refine ⟨by rw [he, lmk_sum], .inr ⟨b, cap, by rw [lmkTo_len], hlie, by rw [lmkTo_len]; exact h2⟩, ht.wide fun x hx => inList_blocks.2 hx⟩

theorem flatM_mark (cs : List Cm) (ad : Nat → PlO) (k : Int) (j : Nat) (hj : j < cs.length) :
    (flatM (mkdC cs k j) ad cs.length).set (j * 3 + 2) (.string (mkCm (mg cs j) (cmk cs k j)).2.2) = flatM (mkdC cs k (j + 1)) ad cs.length := by
  refine List.ext_getElem? fun q => ?_
  by_cases hq : q < cs.length * 3
  · have e : q = q / 3 * 3 + q % 3 := by omega
    have hi : q / 3 < cs.length := by omega
    have h1 := flatM_at (mkdC cs k j) ad cs.length (q / 3) (q % 3) hi (by omega)
    have h2 := flatM_at (mkdC cs k (j + 1)) ad cs.length (q / 3) (q % 3) hi (by omega)
    rw [← e] at h1 h2
    rw [h2, List.getElem?_set]
    by_cases e2 : j * 3 + 2 = q
    · rw [if_pos e2, if_pos (by rw [flatM_len]; omega)]
      have e3 : q / 3 = j := by omega
      have e4 : q % 3 = 2 := by omega
      rw [e3, e4, mkdC_at _ _ hj, if_pos (by omega)]
      rfl
    · rw [if_neg e2, h1, mkdC_at _ _ hi, mkdC_at _ _ hi]
      by_cases e3 : q / 3 < j
      · rw [if_pos e3, if_pos (by omega)]
      · rw [if_neg e3]
        by_cases e5 : q / 3 = j
        · rw [if_pos (by omega)]
          have : q % 3 = 0 ∨ q % 3 = 1 := by omega
          rcases this with r | r <;> rw [r] <;> rfl
        · rw [if_neg (by omega)]
  · rw [List.getElem?_eq_none (by rw [List.length_set, flatM_len]; omega), List.getElem?_eq_none (by rw [flatM_len]; omega)]

/-- one version marked -/
theorem Cms.marked {wr w1 w2 w3 : World} {lo g cap : Nat} {cs : List Cm} {ad : Nat → PlO} {S : Nat → Nat → Prop} {k : Int} {j : Nat} (hj : j < cs.length) (h : Cms KI wr lo (.slice (some ⟨g, 0, none⟩) cs.length cap) cs.length (mkdC cs k j) ad S)
    (g1 : GrowI 0 (marksI (cmk cs k j) (mg cs j).1.length) w1 (ad j).1) (t1 : Turned wr w1 (fun x => (ad j).1.ownBlock = some x))
    (g2 : ListO w2 (ad j).2.1 (lmkTo (mg cs j).2.1 (cmk cs k j + ((mg cs j).1.length : Int)) (mg cs j).2.1.length) (ad j).2.2) (t2 : Turned w1 w2 (inList (ad j).2.1 (mg cs j).2.1.length (ad j).2.2)) (hb : Below w2.heap.size w2 w3) :
    Cms KI (w3.setCell ⟨g, j * 3 + 2, none⟩ (.string (mkCm (mg cs j) (cmk cs k j)).2.2)) lo (.slice (some ⟨g, 0, none⟩) cs.length cap) cs.length (mkdC cs k (j + 1)) ad S := by
  have hpj := h.part j hj
  rw [mkdC_at k j hj, if_neg (by omega)] at hpj
  have T : Turned wr w3 (S j) := ((t1.wide fun x hx => hpj.ub x hx).trans (t2.wide fun x hx => hpj.sb x hx)).trans (Turned.of_below hb)
  have ng : ∀ i, i < cs.length → ∀ x, S i x → ¬ x = g := fun i hi x hx e => (h.rng i hi x hx).2.2 (by rw [e]; rfl)
  have hr := ownsRow_turned h.row T fun x hx hs => (h.rng j hj x hs).2.2 hx
  have TS : Turned w3 (w3.setCell ⟨g, j * 3 + 2, none⟩ (.string (mkCm (mg cs j) (cmk cs k j)).2.2)) (fun x => x = g) := Turned.of_set _ _ _ rfl
  have hz1 := t1.size
  have hz2 := t2.size
  have hz3 := hb.size
  have hsz : ∀ i, i < cs.length → ∀ x, S i x → x < wr.heap.size := fun i hi x hx => (h.rng i hi x hx).2.1
  refine ⟨?_, fun i hi => ?_, fun i hi x hx => ⟨(h.rng i hi x hx).1, Nat.lt_of_lt_of_le (h.rng i hi x hx).2.1 (Nat.le_trans T.size TS.size), (h.rng i hi x hx).2.2⟩, h.far⟩
  · rw [← flatM_mark cs ad k j hj]
    exact (hr.stored (j * 3 + 2) _).1
  · rw [mkdC_at _ _ hi]
    by_cases e : i = j
    · subst e
      rw [if_pos (by omega)]
      have hK : KI w3 (mkCm (mg cs i) (cmk cs k i)) (ad i) (S i) := by
        refine ⟨?_, ?_, hpj.ub, fun x hx => hpj.sb x (by unfold mkCm at hx; rw [lmkTo_len] at hx; exact hx), fun x hx hy => hpj.two x hx (by unfold mkCm at hy; rw [lmkTo_len] at hy; exact hy)⟩
        · exact (g1.turned t2 fun x hx => hpj.two x hx).below hb
        · exact g2.turned (T := fun _ => False) (Turned.of_below hb) fun _ _ h => h
      exact KI.law.keep hK (fun x hx => by have := hsz i hi x hx; omega) TS (ng i hi)
    · have hpi := h.part i hi
      rw [mkdC_at _ _ hi] at hpi
      have ec : (if i < j + 1 then mkCm (mg cs i) (cmk cs k i) else mg cs i) = (if i < j then mkCm (mg cs i) (cmk cs k i) else mg cs i) := by
        by_cases e2 : i < j
        · rw [if_pos e2, if_pos (by omega)]
        · rw [if_neg e2, if_neg (by omega)]
      rw [ec]
      have nj : ∀ x, S i x → ¬ S j x := by
        rcases Nat.lt_or_gt_of_ne e with q | q
        · exact h.far i j q hj
        · exact fun x hx hy => h.far j i q hi x hy hx
      exact KI.law.keep (KI.law.keep hpi (fun x hx => hsz i hi x hx) T nj) (fun x hx => by have := hsz i hi x hx; omega) TS (ng i hi)

set_option maxRecDepth 100000 in
set_option maxHeartbeats 8000000 in
theorem markCommitS_own (v : Value) (lo : Nat) (cs : List Cm) (ad : Nat → PlO) (S : Nat → Nat → Prop) (k : Int) (w : World) (h : Cms KI w lo v cs.length cs ad S) (hl : cs.length ≤ 20) (hL : CmsLen cs 1048576) (h0 : 0 ≤ k) (h4 : k ≤ 1000) :
    Calls Tryz.prog 104 #[v, .int .i64 k] w fun e w' => e = .returned (.int .i64 (cmk cs k cs.length)) ∧ Cms KI w' lo v cs.length (mkdC cs k cs.length) ad S ∧ Turned w w' (inCms v cs.length S) := by
  rcases ownsRow_rows h.row with ⟨rfl, h2⟩ | ⟨g, cap, f0, rfl, h2, _⟩
  · obtain rfl : cs = [] := List.eq_nil_of_length_eq_zero h2
    have H := Lib.hid h
    clear h
    go_enter Tryz.func104, Tryz.ntmps104
    go_wp2
    go_loop [1, 5] (fun s1 i => s1 = .int .i64 k ∧ i = .int .i64 0) (fun _ _ => 0)
    case atStart => exact ⟨rfl, rfl⟩
    case round =>
      obtain ⟨rfl, rfl⟩ := hrel
      go_wp2
      go_ret
      exact ⟨rfl, H.out, Turned.refl _ _⟩
  · have H0 : Hid (Cms KI w lo (.slice (some ⟨g, 0, none⟩) cs.length cap) cs.length (mkdC cs k 0) ad S) := by rw [mkdC_zero]; exact h
    have HL := Lib.hid hL
    clear h hL
    go_enter Tryz.func104, Tryz.ntmps104
    go_wp2
    go_loopw [1, 5] (fun s1 i wr => ∃ (j : Nat), j ≤ cs.length ∧ s1 = .int .i64 (cmk cs k j) ∧ i = .int .i64 j ∧ Cms KI wr lo (.slice (some ⟨g, 0, none⟩) cs.length cap) cs.length (mkdC cs k j) ad S ∧ Turned w wr (inCms (.slice (some ⟨g, 0, none⟩) cs.length cap) cs.length S)) (fun _ i _ => cs.length - (intOf i).toNat)
    case atStart => exact ⟨0, Nat.zero_le _, rfl, rfl, H0.out, Turned.refl _ _⟩
    case round =>
      clear H0
      obtain ⟨j, hj, rfl, rfl, hcm, ht⟩ := hrel
      have HC := Lib.hid hcm
      have HT := Lib.hid ht
      obtain ⟨k0, k1⟩ := cmk_le h0 h4 hl HL.out j hj
      by_cases hlt : j < cs.length
      · have hpj := hcm.part j hlt
        rw [mkdC_at k j hlt, if_neg (by omega)] at hpj
        obtain ⟨ua, uc, sa, sc, e1, e2, _, _⟩ := KI.law.reads hpj
        have q : ∀ o, o < 3 → wr.cell? ⟨g, j * 3 + o, none⟩ = (cellsM (mg cs j) (ad j))[o]? := fun o ho => by
          rw [hcm.row.cellAt (j * 3 + o) (by omega), flatM_at _ _ _ _ _ hlt ho, mkdC_at k j hlt, if_neg (by omega)]
        have c0 : wr.cell? ⟨g, j * 3, none⟩ = some (.slice ua (mg cs j).1.length uc) := by
          have := q 0 (by omega)
          rw [← e1]
          exact this
        have c1 : wr.cell? ⟨g, j * 3 + 1, none⟩ = some (.slice sa (mg cs j).2.1.length sc) := by
          have := q 1 (by omega)
          rw [← e2]
          exact this
        have PJ := Lib.hid hpj
        have NG : Hid (∀ x, S j x → ¬ x = g) := fun x hx e => (hcm.rng j hlt x hx).2.2 (by rw [e]; rfl)
        obtain ⟨l1, l2, l3, l4⟩ := HL.out j hlt
        have L3 := Lib.hid l3
        have hw := wF_le l3 _ (Nat.le_refl _)
        have E1 := Lib.hid e1
        have E2 := Lib.hid e2
        have hgl : g < wr.heap.size := (hcm.row.lt g rfl).2
        clear hcm ht hpj q l3 e1 e2
        go_wp2_with fail
        refine (markIntS_any 0 (mg cs j).1 _ (cmk cs k j) _ (by rw [← E1.out]; exact PJ.out.ups) (by omega) k0 (by omega)).mono ?_
        rintro e w1 ⟨rfl, hG1, ht1⟩
        rw [← E1.out] at hG1 ht1
        have c1' : w1.cell? ⟨g, j * 3 + 1, none⟩ = some (.slice sa (mg cs j).2.1.length sc) := ht1.cell c1 fun hx => NG.out _ (PJ.out.ub _ hx) rfl
        have G1 := Lib.hid hG1
        have T1 := Lib.hid ht1
        have LO : Hid (ListO w1 (ad j).2.1 (mg cs j).2.1 (ad j).2.2) := PJ.out.sheet.turned ht1 fun x hx hy => PJ.out.two x hy hx
        clear hG1 ht1 c0 c1
        go_wp2_with fail
        refine (markFeatS_o _ (mg cs j).2.1 (ad j).2.2 (cmk cs k j + ((mg cs j).1.length : Int)) _ (by rw [← E2.out]; exact LO.out) (by omega) L3.out (by omega) (by omega)).mono ?_
        rintro e w2 ⟨rfl, hG2, ht2⟩
        rw [← E2.out] at hG2 ht2
        have G2 := Lib.hid hG2
        have T2 := Lib.hid ht2
        have hgl2 : g < w2.heap.size := by have := T1.out.size; have := ht2.size; omega
        clear hG2 ht2 c1' LO
        go_wp2_with fail
        refine (markText_any _ _ (by omega)).mono ?_
        rintro e w3 ⟨rfl, hb3⟩
        have TT : Turned wr w3 (S j) := ((T1.out.wide fun x hx => PJ.out.ub x hx).trans (T2.out.wide fun x hx => PJ.out.sb x hx)).trans (Turned.of_below hb3)
        have hr := ownsRow_turned HC.out.row TT fun x hx hs => (HC.out.rng j hlt x hs).2.2 hx
        have c2 : w3.cell? ⟨g, j * 3 + 2, none⟩ = some (.string (mg cs j).2.2) := by
          rw [hr.cellAt (j * 3 + 2) (by omega), flatM_at _ _ _ _ _ hlt (by omega), mkdC_at k j hlt, if_neg (by omega)]
          rfl
        have f2 := hr.frozenAt (j * 3 + 2)
        have B3 := Lib.hid hb3
        have T3 : Hid (Turned w w3 (inCms (.slice (some ⟨g, 0, none⟩) cs.length cap) cs.length S)) := HT.out.trans (TT.wide fun x hx => .inr ⟨j, hlt, hx⟩)
        clear hb3 TT hr
        go_wp2
        go_roundw
        case rel => exact ⟨j + 1, by omega, congrArg (Value.int .i64) (by show _ = cmk cs k j + ((mg cs j).1.length : Int) + 2 * ((wF (mg cs j).2.1 (mg cs j).2.1.length : Nat) : Int) + 1; omega), by go_num, Cms.marked hlt HC.out G1.out T1.out G2.out T2.out B3.out, T3.out.trans (Turned.of_set _ _ _ (.inl rfl))⟩
        case measure => simp [intOf]; omega
      · obtain rfl : j = cs.length := by omega
        clear hcm ht
        go_wp2
        go_ret
        exact ⟨rfl, HC.out, HT.out⟩
end Go.Proofs.YtdfadpejddhbkaaGreat

namespace Go.Proofs.YtdfadpejddhbkaaGreat
set_option linter.unusedVariables false
open Go.ChangeShapes Go.WideShapes Go.ChangeAt Go.RowKit Go.Deep

/-- branches, the first ones marked -/
def mkHd (hs : List Hd) (k : Int) (j : Nat) : List Hd := (List.range hs.length).map fun i => if i < j then (markT (k + 2 * (i : Int)), k + 2 * (i : Int) + 1) else (hdn hs i, hda hs i)
theorem mkHd_len (hs : List Hd) (k : Int) (j : Nat) : (mkHd hs k j).length = hs.length := by simp [mkHd]
theorem mkHd_at {hs : List Hd} (k : Int) (j : Nat) {i : Nat} (h : i < hs.length) : hdn (mkHd hs k j) i = (if i < j then markT (k + 2 * (i : Int)) else hdn hs i) ∧ hda (mkHd hs k j) i = (if i < j then k + 2 * (i : Int) + 1 else hda hs i) := by
  by_cases e : i < j <;> simp [hdn, hda, mkHd, h, e]
theorem mkHd_zero (hs : List Hd) (k : Int) : mkHd hs k 0 = hs := by
  refine List.ext_getElem (mkHd_len _ _ _) fun i h1 h2 => ?_
  rw [hd_get h1, hd_get h2, (mkHd_at k 0 h2).1, (mkHd_at k 0 h2).2, if_neg (by omega), if_neg (by omega)]

theorem flatH_mark (hs : List Hd) (k : Int) (j : Nat) (hj : j < hs.length) :
    ((flatH (mkHd hs k j)).set (j * 2) (.string (markT (k + 2 * (j : Int))))).set (j * 2 + 1) (.int .i64 (k + 2 * (j : Int) + 1)) = flatH (mkHd hs k (j + 1)) := by
  refine List.ext_getElem? fun q => ?_
  have hl1 := flatH_len (mkHd hs k j)
  have hl2 := flatH_len (mkHd hs k (j + 1))
  rw [mkHd_len] at hl1 hl2
  by_cases hq : q < hs.length * 2
  · rw [flatH_headCell _ q (by rw [mkHd_len]; exact hq), List.getElem?_set, List.getElem?_set, List.length_set, flatH_headCell _ q (by rw [mkHd_len]; exact hq)]
    have hi : q / 2 < hs.length := by omega
    have e1 := mkHd_at (hs := hs) k j hi
    have e2 := mkHd_at (hs := hs) k (j + 1) hi
    unfold headCell
    rw [e1.1, e1.2, e2.1, e2.2]
    by_cases c : q / 2 = j
    · have hm : q % 2 = 0 ∨ q % 2 = 1 := by omega
      rcases hm with m | m
      · rw [if_neg (by omega), if_pos (by omega), if_pos (by omega), if_pos m, if_pos (by omega), c]
      · rw [if_pos (by omega), if_pos (by omega), if_neg (by omega), if_pos (by omega), c]
    · rw [if_neg (by omega), if_neg (by omega)]
      by_cases d : q / 2 < j
      · simp only [if_pos d, if_pos (show q / 2 < j + 1 by omega)]
      · simp only [if_neg d, if_neg (show ¬ q / 2 < j + 1 by omega)]
  · rw [List.getElem?_eq_none (by rw [List.length_set, List.length_set]; omega), List.getElem?_eq_none (by omega)]

set_option maxRecDepth 100000 in
set_option maxHeartbeats 4000000 in
theorem markHeadS_own (v : Value) (lo : Nat) (hs : List Hd) (k : Int) (w : World) (h : GrowH lo hs w v) (hl : hs.length ≤ 1000) (h0 : 0 ≤ k) (h4 : k ≤ 1000000000000000) :
    Calls Tryz.prog 105 #[v, .int .i64 k] w fun e w' => e = .returned (.int .i64 (k + 2 * (hs.length : Int))) ∧ GrowH lo (mkHd hs k hs.length) w' v ∧ Turned w w' (fun x => v.ownBlock = some x) := by
  rcases ownsRow_rows h.own with ⟨rfl, h2⟩ | ⟨g, cap, f0, rfl, h2, _⟩
  · obtain rfl : hs = [] := List.eq_nil_of_length_eq_zero h2
    have H := Lib.hid h
    clear h
    go_enter Tryz.func105, Tryz.ntmps105
    go_wp2
    go_loop [1, 5] (fun s1 i => s1 = .int .i64 k ∧ i = .int .i64 0) (fun _ _ => 0)
    case atStart => exact ⟨rfl, rfl⟩
    case round =>
      obtain ⟨rfl, rfl⟩ := hrel
      go_wp2
      go_ret
      exact ⟨by simp, H.out, Turned.refl _ _⟩
  · have H0 : Hid (w.ownsRow lo 115 2 (.slice (some ⟨g, 0, none⟩) hs.length cap) hs.length (flatH (mkHd hs k 0))) := by rw [mkHd_zero]; exact h.own
    have hle := h.le
    clear h
    go_enter Tryz.func105, Tryz.ntmps105
    go_wp2
    go_loopw [1, 5] (fun s1 i wr => ∃ (j : Nat), j ≤ hs.length ∧ s1 = .int .i64 (k + 2 * (j : Int)) ∧ i = .int .i64 j ∧ wr.ownsRow lo 115 2 (.slice (some ⟨g, 0, none⟩) hs.length cap) hs.length (flatH (mkHd hs k j)) ∧ Turned w wr (fun x => (Value.slice (some ⟨g, 0, none⟩) hs.length cap).ownBlock = some x)) (fun _ i _ => hs.length - (intOf i).toNat)
    case atStart => exact ⟨0, Nat.zero_le _, by simp, rfl, H0.out, Turned.refl _ _⟩
    case round =>
      clear H0
      obtain ⟨j, hj, rfl, rfl, hrow, ht⟩ := hrel
      have HR := Lib.hid hrow
      have HT := Lib.hid ht
      by_cases hlt : j < hs.length
      · clear hrow ht
        go_wp2_with fail
        refine (markText_any _ _ (by omega)).mono ?_
        rintro e w1 ⟨rfl, hb1⟩
        have hr := ownsRow_below HR.out hb1
        have ef := flatH_at (mkHd hs k j) j (by rw [mkHd_len]; exact hlt)
        have c0 : w1.cell? ⟨g, j * 2, none⟩ = some (.string (hdn (mkHd hs k j) j)) := by rw [hr.cellAt (j * 2) (by omega), ef.1]
        have c1 : w1.cell? ⟨g, j * 2 + 1, none⟩ = some (.int .i64 (hda (mkHd hs k j) j)) := by rw [hr.cellAt (j * 2 + 1) (by omega), ef.2]
        have f0 := hr.frozenAt (j * 2)
        have f1 := hr.frozenAt (j * 2 + 1)
        have R1 := Lib.hid hr
        have T1 : Hid (Turned w w1 (fun x => (Value.slice (some ⟨g, 0, none⟩) hs.length cap).ownBlock = some x)) := HT.out.trans (Turned.of_below hb1)
        have NX : Hid (w1.ownsRow lo 115 2 (.slice (some ⟨g, 0, none⟩) hs.length cap) hs.length (flatH (mkHd hs k j)) → ((w1.setCell ⟨g, j * 2, none⟩ (.string (markT (k + 2 * (j : Int))))).setCell ⟨g, j * 2 + 1, none⟩ (.int .i64 (k + 2 * (j : Int) + 1))).ownsRow lo 115 2 (.slice (some ⟨g, 0, none⟩) hs.length cap) hs.length (flatH (mkHd hs k (j + 1)))) := fun h => by rw [← flatH_mark hs k j hlt]; exact ((h.stored (j * 2) _).1.stored (j * 2 + 1) _).1
        clear hb1 hr ef
        go_wp2
        go_roundw
        case rel => exact ⟨j + 1, by omega, by go_num, by go_num, NX.out R1.out, (T1.out.trans (Turned.of_set _ _ _ rfl)).trans (Turned.of_set _ _ _ rfl)⟩
        case measure => simp [intOf]; omega
      · obtain rfl : j = hs.length := by omega
        clear hrow ht
        go_wp2
        go_ret
        refine ⟨rfl, ⟨?_, Nat.le_trans hle HT.out.size⟩, HT.out⟩
        rw [mkHd_len]
        exact HR.out

set_option maxRecDepth 100000 in
set_option maxHeartbeats 4000000 in
theorem heldHeadS_any (a : Option Addr) (cap : Nat) (hs : List Hd) (k : Int) (w : World) (hp : HeadsAt w a (mkHd hs k hs.length)) (hl : hs.length ≤ 1000) (h0 : 0 ≤ k) (h4 : k ≤ 1000000000000000) :
    Calls Tryz.prog 110 #[.slice a hs.length cap, .int .i64 k] w fun e w' => e = .returned (.int .i64 (k + 2 * (hs.length : Int))) ∧ Below w.heap.size w w' := by
  have HP := Lib.hid hp
  clear hp
  go_enter Tryz.func110, Tryz.ntmps110
  go_wp2
  go_loopw [1, 5] (fun q i wr => ∃ j : Nat, j ≤ hs.length ∧ i = .int .i64 j ∧ q = .int .i64 (k + 2 * (j : Int)) ∧ Below w.heap.size w wr) (fun _ i _ => hs.length - (intOf i).toNat)
  case atStart => exact ⟨0, Nat.zero_le _, rfl, by simp, Below.refl _ _⟩
  case round =>
    obtain ⟨j, hj, rfl, rfl, hbel⟩ := hrel
    have HB := Lib.hid hbel
    by_cases hlt : j < hs.length
    · obtain ⟨b, off, rfl, hb, d1, d2⟩ := HP.out j (by rw [mkHd_len]; exact hlt)
      have ef := mkHd_at (hs := hs) k hs.length hlt
      rw [ef.1, if_pos hlt] at d1
      rw [ef.2, if_pos hlt] at d2
      rw [← hbel.cell (p := ⟨b, _, none⟩) hb] at d1 d2
      clear hbel ef
      have HN : Hid (k + 2 * ((j + 1 : Nat) : Int) = k + 2 * (j : Int) + 2) := by show _ = _; omega
      generalize hm : k + 2 * (j : Int) = m at *
      have hm0 : 0 ≤ m := by omega
      have hm1 : m ≤ 1000000000002000 := by omega
      clear hm
      have e1 : ((markT m).toList == (markT m).toList) = true := by simp
      have e2 : (m + 1 != m + 1) = false := by simp
      go_upto_region 4 with (fail)
      go_cut [19] (fun s19 wx => s19 = .bool false ∧ Below wr.heap.size wr wx)
      case first =>
        go_region_held3 (fun w' => w'.cell? ⟨b, off + j * 2, none⟩ = some (.string (markT m)) ∧ Below wr.heap.size wr w')
          (first
            | exact ⟨d1, (Below.refl _ _).drew⟩
            | (go_split_ands
               rename_i hS0 hS1
               exact ⟨cell_later hbn hS0, hS1.trans (hbn.mono hS1.size)⟩))
          (first
            | (go_at_call 106
               refine (markText_any _ _ (by omega)).mono ?_
               rintro e wn ⟨rfl, hbn⟩))
        all_goals (go_wp2_with fail; go_meet; go_split_ands; exact ⟨by simp, by assumption⟩)
      case rest =>
        obtain ⟨rfl, hB⟩ := hcut
        replace d2 := cell_later hB d2
        have B1 : Hid (Below w.heap.size w _) := HB.out.trans (hB.mono HB.out.size)
        clear hB d1 e1
        go_wp2
        go_roundw
        case rel => exact ⟨j + 1, by omega, by go_num, congrArg (Value.int .i64) (by rw [HN.out]; omega), B1.out⟩
        case measure => simp [intOf]; omega
    · obtain rfl : j = hs.length := by omega
      clear hbel
      go_wp2
      go_ret
      exact ⟨rfl, HB.out⟩

set_option maxRecDepth 100000 in
set_option maxHeartbeats 8000000 in
theorem heldCommitS_any (a : Option Addr) (cap : Nat) (cs : List Cm) (k : Int) (w : World) (hp : CommitsAt w a (mkdC cs k cs.length)) (hl : cs.length ≤ 20) (hL : CmsLen cs 1048576) (h0 : 0 ≤ k) (h4 : k ≤ 1000) :
    Calls Tryz.prog 109 #[.slice a cs.length cap, .int .i64 k] w fun e w' => e = .returned (.int .i64 (cmk cs k cs.length)) ∧ Below w.heap.size w w' := by
  have HP := Lib.hid hp
  have HL := Lib.hid hL
  clear hp hL
  go_enter Tryz.func109, Tryz.ntmps109
  go_wp2
  go_loopw [1, 5] (fun q i wr => ∃ j : Nat, j ≤ cs.length ∧ i = .int .i64 j ∧ q = .int .i64 (cmk cs k j) ∧ Below w.heap.size w wr) (fun _ i _ => cs.length - (intOf i).toNat)
  case atStart => exact ⟨0, Nat.zero_le _, rfl, rfl, Below.refl _ _⟩
  case round =>
    obtain ⟨j, hj, rfl, rfl, hbel⟩ := hrel
    have HB := Lib.hid hbel
    obtain ⟨k0, k1⟩ := cmk_le h0 h4 hl HL.out j hj
    by_cases hlt : j < cs.length
    · obtain ⟨b, off, ua, uc, sa, sc, rfl, hx⟩ := HP.out j (by rw [mkdC_len]; exact hlt)
      obtain ⟨hb, d0, d1, d2, hii, hff⟩ := hx.below hbel
      rw [mkdC_at _ _ hlt, if_pos hlt] at d0 d1 d2 hii hff
      obtain ⟨l1, l2, l3, l4⟩ := HL.out j hlt
      have hw := wF_le l3 _ (Nat.le_refl _)
      have HN : Hid (cmk cs k (j + 1) = cmk cs k j + ((mg cs j).1.length : Int) + 2 * ((wF (mg cs j).2.1 (mg cs j).2.1.length : Nat) : Int) + 1) := rfl
      have L3 := Lib.hid l3
      have HLM : Hid (lmk (mg cs j).2.1 (cmk cs k j + ((mg cs j).1.length : Int)) (mg cs j).2.1.length = cmk cs k j + ((mg cs j).1.length : Int) + 2 * ((wF (mg cs j).2.1 (mg cs j).2.1.length : Nat) : Int)) := lmk_sum _ _ _
      unfold mkCm at d0 d1 d2 hii hff
      simp only [marksI_len, lmkTo_len] at d0 d1 d2
      have D1 := Lib.hid hii
      have D2 := Lib.hid hff
      clear hbel hx hii hff l3 l4
      generalize cmk cs k j = m at *
      go_wp2_with fail
      refine (heldIntS_any _ _ (mg cs j).1.length _ _ D1.out (by omega) (by omega) (by omega)).mono ?_
      rintro e w1 ⟨rfl, rfl⟩
      go_wp2_with fail
      refine (heldFeatS_any _ _ (mg cs j).2.1 _ _ D2.out (by omega) L3.out (by omega) (by omega)).mono ?_
      rintro e w2 ⟨rfl, hb2⟩
      rw [HLM.out]
      replace d2 := cell_later hb2 d2
      have B2 : Hid (Below w.heap.size w w2) := HB.out.trans (hb2.mono HB.out.size)
      clear hb2 d0 d1 HLM D1 D2
      generalize hm2 : m + ((mg cs j).1.length : Int) + 2 * ((wF (mg cs j).2.1 (mg cs j).2.1.length : Nat) : Int) = m2 at *
      have hm0 : 0 ≤ m2 := by omega
      have hm3 : m2 ≤ 1000000000000000 := by omega
      clear hm2
      have e1 : ((markT m2).toList == (markT m2).toList) = true := by simp
      go_upto_region 10 with (fail)
      go_cut [37] (fun s37 wx => s37 = .bool false ∧ Below w2.heap.size w2 wx)
      case first =>
        go_region_held3 (fun w' => w'.cell? ⟨b, off + j * 3 + 2, none⟩ = some (.string (markT m2)) ∧ Below w2.heap.size w2 w')
          (first
            | exact ⟨d2, (Below.refl _ _).drew⟩
            | (go_split_ands
               rename_i hS0 hS1
               exact ⟨cell_later hbn hS0, hS1.trans (hbn.mono hS1.size)⟩))
          (first
            | (go_at_call 106
               refine (markText_any _ _ (by omega)).mono ?_
               rintro e wn ⟨rfl, hbn⟩))
        all_goals (go_wp2_with fail; go_meet; go_split_ands; exact ⟨by simp, by assumption⟩)
      case rest =>
        obtain ⟨rfl, hB⟩ := hcut
        have B3 : Hid (Below w.heap.size w _) := B2.out.trans (hB.mono B2.out.size)
        clear hB d2 e1
        go_wp2
        go_roundw
        case rel => exact ⟨j + 1, by omega, by go_num, congrArg (Value.int .i64) (by rw [HN.out]), B3.out⟩
        case measure => simp [intOf]; omega
    · obtain rfl : j = cs.length := by omega
      clear hbel
      go_wp2
      go_ret
      exact ⟨rfl, HB.out⟩

/-- the sum of a room's marks -/
def rmk (cs : List Cm) (hs : List Hd) (k : Int) : Int := cmk cs k cs.length + 2 * (hs.length : Int)

set_option maxRecDepth 100000 in
set_option maxHeartbeats 4000000 in
theorem markRepo_own (cv hv : Value) (lo : Nat) (cs : List Cm) (hs : List Hd) (ad : Nat → PlO) (S : Nat → Nat → Prop) (k : Int) (w : World) (h : Room KI w lo cv hv cs hs ad S) (hl : cs.length ≤ 20) (hl2 : hs.length ≤ 1000) (hL : CmsLen cs 1048576) (h0 : 0 ≤ k) (h4 : k ≤ 1000) :
    Calls Tryz.prog 46 #[.agg #[cv, hv], .int .i64 k] w fun e w' => e = .returned (.int .i64 (rmk cs hs k)) ∧ Room KI w' lo cv hv (mkdC cs k cs.length) (mkHd hs (cmk cs k cs.length) hs.length) ad S ∧ Turned w w' (inRoom cv hv cs.length S) := by
  obtain ⟨a, ca, b, cb, rfl, rfl, _, _, _⟩ := h.form KI.law
  have hb0 : Below w.heap.size w (w.alloc (.cells #[.slice a cs.length ca, .slice b hs.length cb] 46)) := (Below.refl _ _).alloc (Nat.le_refl _) _
  have H0 := Lib.hid (h.below KI.law hb0)
  have X0 : Hid (Box2 (w.alloc (.cells #[.slice a cs.length ca, .slice b hs.length cb] 46)) w.heap.size (.slice a cs.length ca) (.slice b hs.length cb)) := Box2.new w _ _ _
  have T0 := Lib.hid (Turned.of_below (S := inRoom (.slice a cs.length ca) (.slice b hs.length cb) cs.length S) hb0)
  have HBK := Lib.hid h.blocks
  have NF : Hid (¬ inCms (.slice a cs.length ca) cs.length S w.heap.size) := fun hx => by have := (HBK.out _ (.inl hx)).2; omega
  have HL := Lib.hid hL
  obtain ⟨k0, k1⟩ := cmk_le h0 h4 hl hL _ (Nat.le_refl _)
  clear h hb0 hL
  go_enter Tryz.func46, Tryz.ntmps46
  go_wp2_with fail
  refine (markCommitS_own _ lo cs ad S k _ H0.out.cms hl HL.out h0 h4).mono ?_
  rintro e w1 ⟨rfl, hC, ht1⟩
  have c1 := ht1.cell X0.out.c1 NF.out
  have G1 : Hid (GrowH lo hs w1 (.slice b hs.length cb)) := H0.out.hds.turned ht1 fun x hx hy => H0.out.far x hx hy
  have C1 := Lib.hid hC
  have T1 : Hid (Turned w w1 (inRoom (.slice a cs.length ca) (.slice b hs.length cb) cs.length S)) := T0.out.trans (ht1.wide fun x hx => .inl hx)
  clear hC ht1
  go_wp2_with fail
  refine (markHeadS_own _ lo hs (cmk cs k cs.length) _ G1.out hl2 (by omega) (by omega)).mono ?_
  rintro e w2 ⟨rfl, hG, ht2⟩
  have C2 := Lib.hid (C1.out.turned KI.law ht2 fun x hx hy => H0.out.far x hy hx)
  have T2 : Hid (Turned w w2 (inRoom (.slice a cs.length ca) (.slice b hs.length cb) cs.length S)) := T1.out.trans (ht2.wide fun x hx => .inr hx)
  have G2 := Lib.hid hG
  clear hG ht2 c1
  go_wp2
  go_ret
  refine ⟨rfl, ⟨?_, G2.out, fun x hx hy => H0.out.far x hx ?_⟩, T2.out⟩
  · rw [mkdC_len]; exact C2.out
  · rw [mkdC_len] at hy; exact hy

set_option maxRecDepth 100000 in
set_option maxHeartbeats 4000000 in
theorem heldRepo_any (a b : Option Addr) (ca cb : Nat) (cs : List Cm) (hs : List Hd) (k : Int) (w : World) (hr : RepoAt w a b (mkdC cs k cs.length) (mkHd hs (cmk cs k cs.length) hs.length)) (hl : cs.length ≤ 20) (hl2 : hs.length ≤ 1000) (hL : CmsLen cs 1048576) (h0 : 0 ≤ k) (h4 : k ≤ 1000) :
    Calls Tryz.prog 48 #[.agg #[.slice a cs.length ca, .slice b hs.length cb], .int .i64 k] w fun e w' => e = .returned (.int .i64 (rmk cs hs k)) ∧ Below w.heap.size w w' := by
  have A1 : Hid (∀ o, Below w.heap.size w (w.alloc o)) := fun o => (Below.refl _ _).alloc (Nat.le_refl _) _
  have HC := Lib.hid hr.cms
  have HH := Lib.hid hr.hds
  have HL := Lib.hid hL
  obtain ⟨k0, k1⟩ := cmk_le h0 h4 hl hL _ (Nat.le_refl _)
  clear hr hL
  go_enter Tryz.func48, Tryz.ntmps48
  go_wp2_with fail
  refine (heldCommitS_any _ _ cs k _ (HC.out.below (A1.out _)) hl HL.out h0 h4).mono ?_
  rintro e w1 ⟨rfl, hb1⟩
  have c1 := cell_later hb1 (a := ⟨w.heap.size, 1, none⟩) (v := .slice b hs.length cb) (by simp [go_sem])
  have B1 : Hid (Below w.heap.size w w1) := (A1.out _).trans (hb1.mono (by simp))
  clear hb1
  go_wp2_with fail
  refine (heldHeadS_any _ _ hs _ _ (HH.out.below B1.out) hl2 k0 (by omega)).mono ?_
  rintro e w2 ⟨rfl, hb2⟩
  have B2 : Hid (Below w.heap.size w w2) := B1.out.trans (hb2.mono B1.out.size)
  clear hb2 c1
  go_wp2
  go_ret
  exact ⟨rfl, B2.out⟩
end Go.Proofs.YtdfadpejddhbkaaGreat

namespace Go.Proofs.YtdfadpejddhbkaaGreat
set_option linter.unusedVariables false
open Go.ChangeShapes Go.WideShapes Go.ChangeAt Go.RowKit Go.Deep

/-- small enough to be marked -/
structure RpFit (v : RpV) : Prop where
  c : v.1.length ≤ 20
  h : v.2.1.length ≤ 1000
  len : RpLen v.1 v.2.1 1048576

/-- the parts of an answer -/
theorem RoomAns.parts {K : World → Cm → PlO → (Nat → Prop) → Prop} (L : KLaw K) {v : RpV} {vc : List Cm} {vh : List Hd} {vk : Int} (hv : v = (vc, vh, vk)) {w w' : World} {e : Ending} (h : RoomAns K v w e w') :
    ∃ am cm bm dm ad S, e = .returned (.tuple #[.agg #[.slice am vc.length cm, .slice bm vh.length dm], .int .i64 vk]) ∧ Room K w' w.heap.size (.slice am vc.length cm) (.slice bm vh.length dm) vc vh ad S ∧ RepoAt w' am bm vc vh ∧ Below w.heap.size w w' := by
  subst hv
  obtain ⟨cv, hv, ad, S, rfl, hR, hb⟩ := h
  obtain ⟨am, cm, bm, dm, rfl, rfl, _, _, hA⟩ := hR.form L
  exact ⟨am, cm, bm, dm, ad, S, rfl, hR, hA, hb⟩

theorem RepoAt.under {w w' : World} {a b : Option Addr} {cs : List Cm} {hs : List Hd} (h : RepoAt w a b cs hs) (hb : Below w.heap.size w w') : RepoAt w' a b cs hs := h.below hb

theorem RpLen.none : RpLen [] [] 1048576 := ⟨by decide, by decide, fun j hj => absurd hj (Nat.not_lt_zero _), fun j hj => absurd hj (Nat.not_lt_zero _)⟩

theorem headsLen_iff {hs : List Hd} {m : Int} : HeadsLen hs m ↔ ∀ h ∈ hs, (h.1.size : Int) ≤ m := by
  constructor
  · intro h x hx
    obtain ⟨j, hj, e⟩ := List.getElem_of_mem hx
    have := h j hj
    rw [← e, hd_get hj]
    exact this
  · intro h j hj
    have := h hs[j] (List.getElem_mem hj)
    rwa [hd_get hj] at this

theorem cmsLen_iff {cs : List Cm} {m : Int} : CmsLen cs m ↔ ∀ c ∈ cs, CmLen c m := by
  constructor
  · intro h x hx
    obtain ⟨j, hj, e⟩ := List.getElem_of_mem hx
    have := h j hj
    rwa [mg_get hj, e] at this
  · intro h j hj
    rw [mg_get hj]
    exact h _ (List.getElem_mem hj)

theorem RpFit.none (k : Int) : RpFit ([], [], k) := ⟨by show 0 ≤ 20; omega, by show 0 ≤ 1000; omega, RpLen.none⟩

theorem dropV_fit {cs : List Cm} {hs : List Hd} (x : ByteArray) (hl : RpLen cs hs 1048576) : RpFit (dropV cs hs x) := by
  unfold dropV
  by_cases hg : RepoGood cs hs
  · rw [repoOk_true hg, if_pos rfl]
    have c2 := hg.c2
    have h2 := hg.h2
    cases lastH hs x hs.length with
    | none => exact ⟨by show cs.length ≤ 20; omega, by show hs.length ≤ 1000; omega, hl⟩
    | some j =>
      show RpFit (if hs.length = 1 then (cs, hs, 2) else (cs, hs.eraseIdx j, 0))
      split
      · exact ⟨by show cs.length ≤ 20; omega, by show hs.length ≤ 1000; omega, hl⟩
      · have hle : (hs.eraseIdx j).length ≤ hs.length := List.length_eraseIdx_le _ _
        refine ⟨by show cs.length ≤ 20; omega, by show (hs.eraseIdx j).length ≤ 1000; omega, hl.cl, by show ((hs.eraseIdx j).length : Int) ≤ _; omega, hl.cms, headsLen_iff.2 fun h hh => headsLen_iff.1 hl.hds h (List.mem_of_mem_eraseIdx hh)⟩
  · rw [repoOk_false hg, if_neg (by simp)]
    exact RpFit.none 4
end Go.Proofs.YtdfadpejddhbkaaGreat

namespace Go.Proofs.YtdfadpejddhbkaaGreat
set_option linter.unusedVariables false
open Go.ChangeShapes Go.WideShapes Go.ChangeAt Go.RowKit Go.Deep

set_option maxRecDepth 100000 in
set_option maxHeartbeats 4000000 in
theorem l3Cut_any (a : Option Addr) (cap : Nat) (fs : List Ft) (id : ByteArray) (w : World) (hp : FeatsAt w a fs) (hl : fs.length ≤ 1048576) :
    Calls Tryz.prog 61 #[.slice a fs.length cap, .string id] w fun e w' => (∃ a' cap', e = .returned (.slice a' (cutL fs id).length cap') ∧ FeatsAt w' a' (cutL fs id)) ∧ Below w.heap.size w w' := by
  obtain ⟨i0, hi, hz0, hz1, hz2⟩ := info_parts infoF
  have HI := Lib.hid hi
  have HZ0 := Lib.hid hz0
  have HZ1 := Lib.hid hz1
  have HZ2 := Lib.hid hz2
  have HP := Lib.hid hp
  clear hi hz0 hz1 hz2 hp
  go_enter Tryz.func61, Tryz.ntmps61
  go_wp2
  go_loopw [5, 6] (fun s i wr => ∃ (j : Nat) (v : Value) (ad : Nat → Pl), j ≤ fs.length ∧ i = .int .i64 j ∧ v = s ∧ Row wr (fun x => x < w.heap.size) w.heap.size v (cutN fs id j) (cutL fs id) ad ∧ Below w.heap.size w wr) (fun _ i _ => fs.length - (intOf i).toNat)
  case atStart => exact ⟨0, _, fun _ => ((none, 0), (none, 0)), Nat.zero_le _, rfl, rfl, ⟨World.ownsRow_made w #[] 0 (Nat.le_refl _) (by unfold maxLen; omega) rfl, fun _ h => absurd h (Nat.not_lt_zero _), fun _ h => absurd h (Nat.not_lt_zero _), fun _ h => absurd h (Nat.not_lt_zero _), fun _ h => absurd h (Nat.not_lt_zero _)⟩, (Below.refl _ _).alloc (Nat.le_refl _) _⟩
  case round =>
    obtain ⟨j, v, ad, hj, rfl, rfl, hro, hbel⟩ := hrel
    have hsz := hbel.size
    have HR := Lib.hid hro
    have HB := Lib.hid hbel
    by_cases hlt : j < fs.length
    · obtain ⟨b, off, pa, pc, ta, tc, rfl, hb, hc1, hc2, hc3, hc4, hpp, htt⟩ := HP.out j hlt
      rw [← hbel.cell (p := ⟨b, _, none⟩) hb] at hc1 hc2 hc3 hc4
      have zb : b < wr.heap.size := by omega
      have hbq := bytes_beq (fid fs j) id
      have PL : Hid ((fps fs j).length = 0 ∨ ∀ x, blk pa = some x → x < w.heap.size) := by
        by_cases h : (fps fs j).length = 0
        · exact .inl h
        · obtain ⟨b', o', rfl, h1, _⟩ := hpp 0 (by omega)
          exact .inr fun x hx => by obtain rfl : b' = x := (by simpa [blk] using hx); exact h1
      have TL : Hid ((fts fs j).length = 0 ∨ ∀ x, blk ta = some x → x < w.heap.size) := by
        by_cases h : (fts fs j).length = 0
        · exact .inl h
        · obtain ⟨b', o', rfl, h1, _⟩ := htt 0 (by omega)
          exact .inr fun x hx => by obtain rfl : b' = x := (by simpa [blk] using hx); exact h1
      have D1 := Lib.hid (hpp.below hbel)
      have D2 := Lib.hid (htt.below hbel)
      have HV : Hid (∀ x, v.ownBlock = some x → w.heap.size ≤ x) := fun x hx => (hro.row.lt x hx).1
      clear hro hbel hpp htt
      by_cases hs : fid fs j = id
      · rw [decide_eq_true hs] at hbq
        have HN := Lib.hid (cutN_no hlt hs)
        clear hs
        go_wp2
        go_roundw
        case rel => exact ⟨j + 1, v, ad, by omega, by go_num, rfl, by rw [HN.out]; exact HR.out, HB.out⟩
        case measure => simp [intOf]; omega
      · rw [decide_eq_false hs] at hbq
        have HN := Lib.hid (cutN_yes hlt hs)
        have hkl : cutN fs id j < 1048576 := by have := HN.out.2.2; have := cutL_len fs id; omega
        clear hs
        have A3 : Hid (∀ o, Below wr.heap.size wr (wr.alloc o)) := fun o => (Below.refl _ _).alloc (Nat.le_refl _) _
        go_wp2_with (at_builtin; refine wpList_append_lies _ (by rfl) _ _ _ (by rfl) w.heap.size 33 i0 _ 4 72 Tryz.underlying23 HI.out HZ0.out HZ1.out HZ2.out rfl (by omega) v (cutN fs id j) (flatF (cutL fs id) ad (cutN fs id j)) (by rfl) (HR.out.row.alloc _) ⟨wr.heap.size, 0, none⟩ 1 1 (cellsF (fg fs j) ((pa, pc), (ta, tc))) (by rfl) (by rfl) (World.news_of_block (cs := #[.string (fid fs j), .int .i64 (fkd fs j), .slice pa (fps fs j).length pc, .slice ta (fts fs j).length tc]) (t := 33) (fr := (0, 0)) (heap_alloc_new wr _)) (by simp [Value.oneCell', cellsF]) (by omega) (by unfold maxLen; omega) (by omega) (by simp; omega) (wr.heap.size + 1) (by simp) ?_; intro gg cap' wa hown1 hgrow hat hlt')
        have eg : fg (cutL fs id) (cutN fs id j) = fg fs j := HN.out.2.1
        have ep : fps (cutL fs id) (cutN fs id j) = fps fs j := by unfold fps; rw [eg]
        have et : fts (cutL fs id) (cutN fs id j) = fts fs j := by unfold fts; rw [eg]
        have HS : Hid (Row wa (fun x => x < w.heap.size) w.heap.size (.slice (some ⟨gg, 0, none⟩) (cutN fs id j + 1) cap') (cutN fs id j + 1) (cutL fs id) (plSet ad (cutN fs id j) ((pa, pc), (ta, tc)))) := by
          refine HR.out.step (Below.refl _ _) (A3.out _) (by simp) (by rw [ep]; exact D1.out) ?_ (by rw [et]; exact D2.out) ?_ (by rw [eg]; exact hown1) hgrow hat
          · rw [ep]
            exact PL.out.imp (fun h => h) fun q x hx => ⟨q x hx, by have := q x hx; omega, fun e => by have h1 := HV.out x e; have h2 := q x hx; omega⟩
          · rw [et]
            exact TL.out.imp (fun h => h) fun q x hx => ⟨q x hx, by have := q x hx; omega, fun e => by have h1 := HV.out x e; have h2 := q x hx; omega⟩
        have HG := Lib.hid hgrow
        clear hown1 hgrow hat eg ep et
        go_roundw
        case rel => exact ⟨j + 1, _, _, by omega, by go_num, rfl, by rw [HN.out.1]; exact HS.out, (HB.out.alloc hsz _).grown HG.out (by simp; omega) (fun x hx => HV.out x hx)⟩
        case measure => simp [intOf]; omega
    · obtain rfl : j = fs.length := by omega
      have HR' : Hid (Row wr (fun x => x < w.heap.size) w.heap.size v (cutL fs id).length (cutL fs id) ad) := by rw [← cutN_all fs id]; exact HR.out
      obtain ⟨a', cap', rfl, hF, _⟩ := HR'.out.reads
      have HF := Lib.hid hF
      clear hro hbel hF
      go_wp2
      go_ret
      exact ⟨⟨a', cap', rfl, HF.out⟩, HB.out⟩

set_option maxRecDepth 100000 in
set_option maxHeartbeats 4000000 in
theorem l3Copy_any (a : Option Addr) (cap : Nat) (fs : List Ft) (w : World) (hp : FeatsAt w a fs) (hl : fs.length ≤ 1048576) (hL : FeatsLen fs 1048576) (hpos : ∀ i, i < fs.length → 0 < (fps fs i).length) :
    Calls Tryz.prog 60 #[.slice a fs.length cap] w fun e w' => (∃ v, e = .returned v ∧ GotL w.heap.size w'.heap.size w' v fs) ∧ Below w.heap.size w w' := by
  obtain ⟨i0, hi, hz0, hz1, hz2⟩ := info_parts infoF
  have HI := Lib.hid hi
  have HZ0 := Lib.hid hz0
  have HZ1 := Lib.hid hz1
  have HZ2 := Lib.hid hz2
  have HP := Lib.hid hp
  have HL := Lib.hid hL
  have HQ := Lib.hid hpos
  clear hi hz0 hz1 hz2 hp hL hpos
  go_enter Tryz.func60, Tryz.ntmps60
  go_wp2
  go_loopw [3, 4] (fun s i wr => ∃ (k : Nat) (v : Value) (ad : Nat → Pl), k ≤ fs.length ∧ i = .int .i64 k ∧ v = s ∧ Row wr (fun x => w.heap.size ≤ x) w.heap.size v k fs ad ∧ Below w.heap.size w wr) (fun _ i _ => fs.length - (intOf i).toNat)
  case atStart => exact ⟨0, _, fun _ => ((none, 0), (none, 0)), Nat.zero_le _, rfl, rfl, ⟨World.ownsRow_made w #[] 0 (Nat.le_refl _) (by unfold maxLen; omega) rfl, fun _ h => absurd h (Nat.not_lt_zero _), fun _ h => absurd h (Nat.not_lt_zero _), fun _ h => absurd h (Nat.not_lt_zero _), fun _ h => absurd h (Nat.not_lt_zero _)⟩, (Below.refl _ _).alloc (Nat.le_refl _) _⟩
  case round =>
    obtain ⟨k, v, ad, hk, rfl, rfl, hro, hbel⟩ := hrel
    have hsz := hbel.size
    have HR := Lib.hid hro
    have HB := Lib.hid hbel
    by_cases hlt : k < fs.length
    · obtain ⟨b, off, pa, pc, ta, tc, rfl, hb, hc1, hc2, hc3, hc4, hpp, htt⟩ := HP.out k hlt
      rw [← hbel.cell (p := ⟨b, _, none⟩) hb] at hc1 hc2 hc3 hc4
      obtain ⟨l1, l2, l3, _⟩ := HL.out k hlt
      have h0 := HQ.out k hlt
      have D1 := Lib.hid (hpp.below hbel)
      have D2 := Lib.hid (htt.below hbel)
      have HV : Hid (∀ x, v.ownBlock = some x → w.heap.size ≤ x ∧ x < wr.heap.size) := fun x hx => hro.row.lt x hx
      clear hro hbel hpp htt
      go_wp2_with fail
      refine (l2Copy_got _ _ _ _ _ _ _ _ _ D1.out D2.out (by omega) h0 (by omega)).mono ?_
      rintro e w3 ⟨⟨v3, rfl, hg3⟩, hb3⟩
      obtain ⟨qa, qc, sa, sc, rfl, q1, q2, q3, q4⟩ := hg3
      have E1 := Lib.hid q1
      have E2 := Lib.hid q2
      have E3 := Lib.hid q3
      have E4 := Lib.hid q4
      have B3 := Lib.hid hb3
      have R3 : Hid (w3.ownsRow w.heap.size 33 4 v k (flatF fs ad k)) := ownsRow_below HR.out.row hb3
      have hz3 := hb3.size
      have A3 : Hid (∀ o, Below w3.heap.size w3 (w3.alloc o)) := fun o => (Below.refl _ _).alloc (Nat.le_refl _) _
      clear hb3 q1 q2 q3 q4 hc1 hc2 hc3 hc4
      go_wp2_with (at_builtin; refine wpList_append_lies _ (by rfl) _ _ _ (by rfl) w.heap.size 33 i0 _ 4 72 Tryz.underlying23 HI.out HZ0.out HZ1.out HZ2.out rfl (by omega) v k (flatF fs ad k) (by rfl) (R3.out.alloc _) ⟨w3.heap.size, 0, none⟩ 1 1 (cellsF (fg fs k) ((qa, qc), (sa, sc))) (by rfl) (by rfl) (World.news_of_block (cs := #[.string (fid fs k), .int .i64 (fkd fs k), .slice qa (fps fs k).length qc, .slice sa (fts fs k).length sc]) (t := 33) (fr := (0, 0)) (heap_alloc_new w3 _)) (by simp [Value.oneCell', cellsF]) (by omega) (by unfold maxLen; omega) (by omega) (by simp; omega) (w3.heap.size + 1) (by simp) ?_; intro gg cap' wa hown1 hgrow hat hlt')
      have HS : Hid (Row wa (fun x => w.heap.size ≤ x) w.heap.size (.slice (some ⟨gg, 0, none⟩) (k + 1) cap') (k + 1) fs (plSet ad k ((qa, qc), (sa, sc)))) := by
        refine HR.out.step B3.out (A3.out _) (by simp) E1.out ?_ E2.out ?_ hown1 hgrow hat
        · exact E3.out.imp (fun h => h) fun q x hx => ⟨by have := (q x hx).1; omega, (q x hx).2, fun e => by have h1 := (HV.out x e).2; have h2 := (q x hx).1; omega⟩
        · exact E4.out.imp (fun h => h) fun q x hx => ⟨by have := (q x hx).1; omega, (q x hx).2, fun e => by have h1 := (HV.out x e).2; have h2 := (q x hx).1; omega⟩
      have HG := Lib.hid hgrow
      clear hown1 hgrow hat
      go_roundw
      case rel => exact ⟨k + 1, _, _, by omega, by go_num, rfl, HS.out, ((HB.out.trans (B3.out.mono hsz)).alloc (by omega) _).grown HG.out (by simp; omega) (fun x hx => (HV.out x hx).1)⟩
      case measure => simp [intOf]; omega
    · obtain rfl : k = fs.length := by omega
      have HG := Lib.hid HR.out.got
      clear hro hbel
      go_wp2
      go_ret
      exact ⟨⟨v, rfl, HG.out⟩, HB.out⟩

theorem cutL_pos {fs : List Ft} (id : ByteArray) (hok : sheetOk fs = true) : ∀ i, i < (cutL fs id).length → 0 < (fps (cutL fs id) i).length := by
  intro i hi
  have hm : (cutL fs id)[i] ∈ fs := (List.mem_filter.1 (List.getElem_mem hi)).1
  obtain ⟨j, hj, e⟩ := List.getElem_of_mem hm
  have := ftOk_pts (good_ok hok hj)
  unfold fps at this ⊢
  rwa [fg_get hi, ← e, ← fg_get hj]

set_option maxRecDepth 100000 in
set_option maxHeartbeats 4000000 in
theorem specSheetCut_any (a : Option Addr) (cap : Nat) (fs : List Ft) (id : ByteArray) (w : World) (hp : FeatsAt w a fs) (hl : fs.length ≤ 1048576) (ht : FeatsLen fs 1048576) :
    Calls Tryz.prog 16 #[.slice a fs.length cap, .string id] w fun e w' => (∃ v, e = .returned (.tuple #[v, .bool (getHas fs id)]) ∧ GotL w.heap.size w'.heap.size w' v (cutR fs id)) ∧ Below w.heap.size w w' := by
  have HP := Lib.hid hp
  have HL := Lib.hid ht
  clear hp ht
  go_enter Tryz.func16, Tryz.ntmps16
  go_wp2_with fail
  refine (specSheetOk_any _ _ _ _ HP.out hl HL.out).mono ?_
  rintro e w1 ⟨rfl, hb1⟩
  have B1 := Lib.hid hb1
  clear hb1
  by_cases hok : sheetOk fs = true
  · rw [hok]
    go_wp2_with fail
    refine (l3Find_any _ _ _ _ _ (HP.out.below B1.out) hl).mono ?_
    rintro e w2 ⟨rfl, rfl⟩
    by_cases hlt : firstF fs id < fs.length
    · have hfv : findV fs id = (firstF fs id : Int) := by unfold findV; rw [if_pos hlt]
      have HH : Hid (getHas fs id = true) := by show _ = _; simp [getHas, hok, hlt]
      have HG : Hid (cutR fs id = cutL fs id) := by show _ = _; unfold cutR; rw [HH.out, if_pos rfl]
      have HQ := Lib.hid (cutL_pos id hok)
      have hcl := cutL_len fs id
      rw [hfv]
      generalize firstF fs id = i at *
      clear hok
      go_wp2_with fail
      refine (l3Cut_any _ _ _ _ _ (HP.out.below B1.out) hl).mono ?_
      rintro e w2 ⟨⟨a2, cap2, rfl, hF⟩, hb2⟩
      have B2 : Hid (Below w.heap.size w w2) := B1.out.trans (hb2.mono B1.out.size)
      have HF := Lib.hid hF
      clear hb2 hF
      go_wp2_with fail
      refine (l3Copy_any _ _ _ _ HF.out (by omega) (cutL_lens id HL.out) HQ.out).mono ?_
      rintro e w3 ⟨⟨v, rfl, hg⟩, hb3⟩
      have B3 : Hid (Below w.heap.size w w3) := B2.out.trans (hb3.mono B2.out.size)
      have GG : Hid (GotL w.heap.size w3.heap.size w3 v (cutL fs id)) := hg.mono B2.out.size (Nat.le_refl _)
      clear hb3 hg
      go_wp2
      go_ret2
      rw [HH.out, HG.out]
      exact ⟨⟨v, rfl, GG.out⟩, B3.out⟩
    · have hfv : findV fs id = -1 := by unfold findV; rw [if_neg hlt]
      have HH : Hid (getHas fs id = false) := by show _ = _; simp [getHas, hlt]
      have HG : Hid (cutR fs id = []) := by show _ = _; unfold cutR; rw [HH.out]; rfl
      rw [hfv]
      clear hok
      go_wp2
      go_ret2
      rw [HH.out, HG.out]
      exact ⟨⟨_, rfl, gotL_nil _ _ _ _ _⟩, B1.out.alloc B1.out.size _⟩
  · have hok' : sheetOk fs = false := by simpa using hok
    have HH : Hid (getHas fs id = false) := by show _ = _; simp [getHas, hok']
    have HG : Hid (cutR fs id = []) := by show _ = _; unfold cutR; rw [HH.out]; rfl
    rw [hok']
    clear hok hok'
    go_wp2
    go_ret2
    rw [HH.out, HG.out]
    exact ⟨⟨_, rfl, gotL_nil _ _ _ _ _⟩, B1.out.alloc B1.out.size _⟩
end Go.Proofs.YtdfadpejddhbkaaGreat

namespace Go.Proofs.YtdfadpejddhbkaaGreat
set_option linter.unusedVariables false
open Go.ChangeShapes Go.WideShapes Go.ChangeAt Go.RowKit Go.Deep

theorem wp_append_void {P : Program} (w : World) {o : Oper} {a : Act} {K : Act → World → Prop} {Q : Exit → Act → World → Prop} (s x : Operand) (t : TypeId) (hop : o.op = Op.call { callee := Callee.builtin Builtin.append, args := #[s, x], argTypes := #[t, t] })
    (e : TypeId) (i : TypeInfo) (ht : P.underlying t = some (.slice e)) (hi : P.info? e = some i)
    (p q : Option Addr) (k c d : Nat) (h : k ≤ c) (hs : a.eval s = .slice p k c) (hx : a.eval x = .slice q 0 d) (hK : K (a.put o.dst (.slice p k c)) w) : Oper.wp P o a w K Q := by
  have hr := run_append_void (P := P) w t o.type e i ht hi p q k c d h
  unfold Oper.wp execOp
  simp only [hop, resolve, invoke, builtin, Sem.run_bind, Sem.run_pure, Result.andThen_ok, List.map_toArray, List.map_cons, List.map_nil, hs, hx, hr]
  exact hK

/-- appending a row of numbers, or nothing, at a step of a region that draws its order -/
theorem step_moreI {ops : Array Oper} {o : Oper} {a : Act} {K : Act → World → Prop} {Q : Exit → Act → World → Prop} {E : Prop} {lo : Nat} {W : World} {ml p : List Int} {v : Value} {pr : Option Addr} {cr : Nat}
    (hg : o.guard = none) (s x : Operand) (hop : o.op = Op.call { callee := Callee.builtin Builtin.append, args := #[s, x], argTypes := #[49, 49] })
    (hG : GrowI lo ml W v) (hp : IntsAt W pr p) (hs : a.eval s = v) (hx : a.eval x = .slice pr p.length cr) (hb : ml.length + p.length ≤ 1000000)
    (hK : ∀ r a' c' W', Hid (r = ml ++ p) → W.grownBy W' v.ownBlock → GrowI lo r W' (.slice a' r.length c') → (∀ j, v.ownBlock = some j → lo ≤ j) → K (a.put o.dst (.slice a' r.length c')) W') :
    if Region.wanted o (yielded ops a.tmps) = true then Oper.wp Tryz.prog o a W K Q else E := by
  have hw : Region.wanted o (yielded ops a.tmps) = true := by simp [Region.wanted, hg]
  rw [if_pos hw]
  obtain ⟨i0, hi, hz0, hz1, hz2⟩ := info_parts infoInt
  by_cases h0 : 0 < p.length
  · obtain ⟨b, off, rfl, hlt, _⟩ := hp 0 h0
    refine wp_append_lies W s x 49 hop lo 3 i0 _ 1 8 Tryz.underlying49 hi hz0 hz1 hz2 rfl (by omega) v ml.length (flatI ml) hs hG.own ⟨b, off, none⟩ p.length cr (flatI p) hx (by simp [flatI]) (news_ints hp) (by simp [flatI, Value.oneCell']) h0 (by unfold maxLen; omega) (by omega) hG.le W.heap.size rfl ?_
    intro g cap w' hown hgrow _ _
    have hf : flatI ml ++ flatI p = flatI (ml ++ p) := by simp [flatI]
    rw [hf, ← List.length_append] at hown
    rw [← List.length_append]
    exact hK _ _ _ _ rfl hgrow ⟨hown, Nat.le_trans hG.le hgrow.size⟩ hG.block
  · obtain rfl : p = [] := List.eq_nil_of_length_eq_zero (by omega)
    obtain ⟨av, cv, rfl, hcv, _⟩ := hG.form
    refine wp_append_void W s x 49 hop 3 i0 Tryz.underlying49 hi av pr ml.length cv cr hcv hs hx ?_
    exact hK ml av cv W (by show _ = _; rw [List.append_nil]) ⟨rfl, rfl, rfl, Nat.le_refl _, fun _ _ _ => rfl⟩ hG hG.block

/-- what the model's copy of a version answers -/
def OneAns (w : World) (c : Cm) (e : Ending) (w' : World) : Prop :=
  ∃ ua uc sa sc, e = .returned (.agg #[.slice ua c.1.length uc, .slice sa c.2.1.length sc, .string c.2.2]) ∧ KS w' c (.slice ua c.1.length uc, .slice sa c.2.1.length sc, fun _ => ((none, 0), (none, 0))) (fun x => w.heap.size ≤ x ∧ x < w'.heap.size) ∧ Below w.heap.size w w'

theorem KS.mk {w1 w2 w' : World} {lo lo1 lo2 hi2 : Nat} {c : Cm} {ua : Option Addr} {uc : Nat} {v : Value} (hI : GrowI lo1 c.1 w1 (.slice ua c.1.length uc)) (t1 : Below w1.heap.size w1 w') (hF : GotL lo2 hi2 w2 v c.2.1) (t2 : Below w2.heap.size w2 w') (h1 : lo ≤ lo1) (h2 : lo ≤ lo2) (h3 : hi2 ≤ w2.heap.size) :
    ∃ sa sc, v = .slice sa c.2.1.length sc ∧ KS w' c (.slice ua c.1.length uc, .slice sa c.2.1.length sc, fun _ => ((none, 0), (none, 0))) (fun x => lo ≤ x ∧ x < w'.heap.size) := by
  obtain ⟨sa, sc, rfl, hFA, hR⟩ := hF
  have hF : GotL lo2 hi2 w2 (.slice sa c.2.1.length sc) c.2.1 := ⟨sa, sc, rfl, hFA, hR⟩
  have hI' := hI.below t1
  have z2 := t2.size
  refine ⟨sa, sc, rfl, ua, uc, sa, sc, rfl, rfl, fun w2' T ht hn => ⟨?_, ?_⟩⟩
  · obtain ⟨_, _, e, _, h⟩ := (hI'.turned ht fun k hk => hn k ⟨Nat.le_trans h1 (hI'.own.lt k hk).1, (hI'.own.lt k hk).2⟩).form
    cases e
    exact h
  · have h := (hF.turned (S := fun _ => False) (Turned.of_below t2) fun _ _ _ h => h).turned ht fun x hx hy => hn x ⟨by omega, by omega⟩
    exact h.reads


theorem KS.wide {w : World} {c : Cm} {p : PlO} {S T : Nat → Prop} (h : KS w c p S) (hs : ∀ x, S x → T x) : KS w c p T := by
  obtain ⟨ua, uc, sa, sc, e1, e2, q⟩ := h
  exact ⟨ua, uc, sa, sc, e1, e2, fun w' U ht hn => q w' U ht fun x hx => hn x (hs x hx)⟩

set_option maxRecDepth 100000 in
set_option maxHeartbeats 8000000 in
theorem l7One_any (c : Cm) (ua : Option Addr) (uc : Nat) (sa : Option Addr) (sc : Nat) (w : World) (hu : IntsAt w ua c.1) (hs : FeatsAt w sa c.2.1) (hul : c.1.length ≤ 1000000) (hsl : c.2.1.length ≤ 1048576) (hL : FeatsLen c.2.1 1048576) (hpos : ∀ i, i < c.2.1.length → 0 < (fps c.2.1 i).length) :
    Calls Tryz.prog 112 #[.agg #[.slice ua c.1.length uc, .slice sa c.2.1.length sc, .string c.2.2]] w (OneAns w c) := by
  have HU := Lib.hid hu
  have HS := Lib.hid hs
  have HL := Lib.hid hL
  have HP := Lib.hid hpos
  clear hu hs hL hpos
  go_enter Tryz.func112, Tryz.ntmps112
  go_upto_region 1 with (fail)
  obtain ⟨W, hW⟩ : ∃ W, W = ((w.alloc (.cells #[.slice ua c.1.length uc, .slice sa c.2.1.length sc, .string c.2.2] 54)).alloc (.cells #[.slice none 0 0, .slice none 0 0, .string ⟨#[]⟩] 54)) := ⟨_, rfl⟩
  rw [← hW]
  have B0 : Hid (Below w.heap.size w W) := by rw [hW]; exact ((Below.refl _ _).alloc (Nat.le_refl _) _).alloc (by simp) _
  have zW : w.heap.size + 1 < W.heap.size := by rw [hW]; simp
  have KA : Hid (BK W w.heap.size #[.slice ua c.1.length uc, .slice sa c.2.1.length sc, .string c.2.2] 54) := by rw [hW]; exact (BK.new _ _ _).alloc _
  have KB : Hid (BK W (w.heap.size + 1) #[.slice none 0 0, .slice none 0 0, .string ⟨#[]⟩] 54) := by rw [hW]; exact BK.at _ _ _ (by simp)
  have SOF : Hid (∀ wy, Kept1 W (w.heap.size + 1) wy → wy.cell? ⟨w.heap.size, 0, none⟩ = some (.slice ua c.1.length uc) ∧ wy.cell? ⟨w.heap.size, 1, none⟩ = some (.slice sa c.2.1.length sc) ∧ wy.cell? ⟨w.heap.size, 2, none⟩ = some (.string c.2.2) ∧ wy.cell? ⟨w.heap.size + 1, 0, none⟩ = some (cellOf wy (w.heap.size + 1) 0) ∧ wy.cell? ⟨w.heap.size + 1, 1, none⟩ = some (cellOf wy (w.heap.size + 1) 1) ∧ wy.cell? ⟨w.heap.size + 1, 2, none⟩ = some (cellOf wy (w.heap.size + 1) 2) ∧ wy.frozen? ⟨w.heap.size + 1, 0, none⟩ = false ∧ wy.frozen? ⟨w.heap.size + 1, 1, none⟩ = false ∧ wy.frozen? ⟨w.heap.size + 1, 2, none⟩ = false ∧ Kept1 W (w.heap.size + 1) wy) := by
    intro wy hb
    have far : ∀ {x o : Nat} {u : Value}, W.cell? ⟨x, o, none⟩ = some u → x ≠ w.heap.size + 1 → wy.cell? ⟨x, o, none⟩ = some u := fun h hne => (hb.grown.cell_far _ (World.block_lt_of_cell? _ _ h) (by simpa using hne)).trans h
    have hf : ∀ o, wy.frozen? ⟨w.heap.size + 1, o, none⟩ = false := fun o => (hb.soft _ (by show w.heap.size + 1 < _; omega)).trans (KB.out.frozen o)
    exact ⟨far (KA.out.cell 0 rfl) (by omega), far (KA.out.cell 1 rfl) (by omega), far (KA.out.cell 2 rfl) (by omega), cellOf_some (hb.some _ (by rw [KB.out.cell 0 rfl]; rfl)), cellOf_some (hb.some _ (by rw [KB.out.cell 1 rfl]; rfl)), cellOf_some (hb.some _ (by rw [KB.out.cell 2 rfl]; rfl)), hf 0, hf 1, hf 2, hb⟩
  have m1 : ¬ w.heap.size = w.heap.size + 1 := by omega
  have m2 : ¬ w.heap.size + 1 = w.heap.size := by omega
  clear hW
  go_cut [12] (fun _ wx => ∃ ua uc sa sc, wx.cell? ⟨w.heap.size + 1, 0, none⟩ = some (.slice ua c.1.length uc) ∧ wx.cell? ⟨w.heap.size + 1, 1, none⟩ = some (.slice sa c.2.1.length sc) ∧ wx.cell? ⟨w.heap.size + 1, 2, none⟩ = some (.string c.2.2) ∧ KS wx c (.slice ua c.1.length uc, .slice sa c.2.1.length sc, fun _ => ((none, 0), (none, 0))) (fun x => w.heap.size ≤ x ∧ x < wx.heap.size) ∧ Below w.heap.size w wx)
  case first =>
    go_region_held3 (fun wy => wy.cell? ⟨w.heap.size, 0, none⟩ = some (.slice ua c.1.length uc) ∧ wy.cell? ⟨w.heap.size, 1, none⟩ = some (.slice sa c.2.1.length sc) ∧ wy.cell? ⟨w.heap.size, 2, none⟩ = some (.string c.2.2) ∧ wy.cell? ⟨w.heap.size + 1, 0, none⟩ = some (cellOf wy (w.heap.size + 1) 0) ∧ wy.cell? ⟨w.heap.size + 1, 1, none⟩ = some (cellOf wy (w.heap.size + 1) 1) ∧ wy.cell? ⟨w.heap.size + 1, 2, none⟩ = some (cellOf wy (w.heap.size + 1) 2) ∧ wy.frozen? ⟨w.heap.size + 1, 0, none⟩ = false ∧ wy.frozen? ⟨w.heap.size + 1, 1, none⟩ = false ∧ wy.frozen? ⟨w.heap.size + 1, 2, none⟩ = false ∧ Kept1 W (w.heap.size + 1) wy)
      (first
        | with_reducible exact HSa
        | with_reducible exact HSb
        | with_reducible exact SOF.out _ (Kept1.refl zW).drew
        | with_reducible exact SOF.out _ ((Kept1.refl zW).alloc _).drew
        | (go_split_ands; rename_i hS; with_reducible exact SOF.out _ (hS.alloc _))
        | (go_split_ands; rename_i hS; with_reducible exact SOF.out _ (((hS.set _ _).set _ _).set _ _)))
      (first
        | (go_at_call 60
           refine (l3Copy_any sa sc c.2.1 _ ?_ hsl HL.out HP.out).mono ?_
           · (go_split_ands; rename_i hS; exact HS.out.below (hS.under B0.out))
           rintro e wn ⟨⟨_, rfl, a3, c3, rfl, hgF, hgR⟩, hbn⟩
           have HSb := SOF.out wn (by first | exact (Kept1.refl zW).drew.below hbn | exact ((Kept1.refl zW).alloc _).drew.below hbn | exact (((Kept1.refl zW).alloc _).drew.grow hgrow hgb).below hbn))
        | (refine step_moreI (lo := W.heap.size) (by rfl) _ _ (by rfl) (by first | exact (GrowI.made W).below (drew_below _) | exact ((GrowI.made W).below (drew_below _)).below hbn | exact (GrowI.made _).low2 hbn.size) ?_ (by rfl) (by rfl) (by simp; omega) ?_
           · (go_split_ands; rename_i hS; exact HU.out.below (hS.under B0.out))
           intro r a2 c2 wa hr hgrow hG2 hgb
           have HSa := SOF.out wa (by first | exact (((Kept1.refl zW).alloc _).drew).grow hgrow hgb | exact ((((Kept1.refl zW).alloc _).drew).below hbn).grow hgrow hgb | exact ((((Kept1.refl zW).drew).below hbn).alloc _).grow hgrow hgb))
        | fail)
    all_goals
      obtain rfl : r = c.1 := hr.out
      go_wp2_with fail
      go_meet
      obtain ⟨sa', sc', es, hk⟩ := KS.mk (w' := wn) hG2 hbn (v := .slice a3 c.2.1.length c3) ⟨a3, c3, rfl, hgF, hgR⟩ (Below.refl _ _) (Nat.le_refl W.heap.size) (by have := hgrow.size; simp [World.drew] at this; omega) (Nat.le_refl _)
      cases es
      have T3 : Turned wn (((wn.setCell ⟨w.heap.size + 1, 0, none⟩ (.slice a2 c.1.length c2)).setCell ⟨w.heap.size + 1, 1, none⟩ (.slice a3 c.2.1.length c3)).setCell ⟨w.heap.size + 1, 2, none⟩ (.string c.2.2)) (fun x => x = w.heap.size + 1) := ((Turned.of_set (S := fun x => x = w.heap.size + 1) _ _ _ rfl).trans (Turned.of_set _ _ _ rfl)).trans (Turned.of_set _ _ _ rfl)
      have hgr : Below W.heap.size W wa := (((Below.refl W.heap.size W).alloc (Nat.le_refl _) _).drew).grown hgrow (by simp [World.drew]) hgb
      have hW := hgr.trans (hbn.mono hgr.size)
      have K := (((KB.out.later hW).set 0 (.slice a2 c.1.length c2)).set 1 (.slice a3 c.2.1.length c3)).set 2 (.string c.2.2)
      refine ⟨_, _, _, _, K.cell 0 (v := .slice a2 c.1.length c2) rfl, K.cell 1 (v := .slice a3 c.2.1.length c3) rfl, K.cell 2 (v := .string c.2.2) rfl, ?_, (B0.out.trans (hW.mono B0.out.size)).trans (T3.below (by have := hW.size; omega) fun x hx => by omega)⟩
      exact (KS.law.keep hk (fun x hx => hx.2) T3 fun x hx e => by have := hx.1; omega).wide fun x hx => ⟨by have := hx.1; omega, by have := hx.2; have := T3.size; omega⟩
  case rest =>
    obtain ⟨ua', uc', sa', sc', r0, r1, r2, hK, hB⟩ := hcut
    go_wp2
    refine bodyPost_ret (v := .agg #[.slice ua' c.1.length uc', .slice sa' c.2.1.length sc', .string c.2.2]) (by simp [results, Tryz.results112, go_sem, r0, r1, r2]) rfl ?_
    exact ⟨ua', uc', sa', sc', rfl, hK, hB⟩

set_option maxRecDepth 100000 in
set_option maxHeartbeats 8000000 in
theorem l7Copy_any (a b : Option Addr) (ca cb : Nat) (cs : List Cm) (hs : List Hd) (w : World) (hr : RepoAt w a b cs hs) (hl : RpLen cs hs 1048576) (hf : RpFew cs hs) (hpos : ∀ j, j < cs.length → ∀ i, i < (mg cs j).2.1.length → 0 < (fps (mg cs j).2.1 i).length) :
    Calls Tryz.prog 90 #[.agg #[.slice a cs.length ca, .slice b hs.length cb]] w (CopyAns KS w cs hs) := by
  obtain ⟨_, _, l3, _⟩ := hl
  obtain ⟨l1, l2, l4⟩ := hf
  have L4 := Lib.hid l4
  obtain ⟨i0, hi, hz0, hz1, hz2⟩ := info_parts infoCommit
  have HI := Lib.hid hi
  have HZ0 := Lib.hid hz0
  have HZ1 := Lib.hid hz1
  have HZ2 := Lib.hid hz2
  have HC := Lib.hid hr.cms
  have HH := Lib.hid hr.hds
  have L3 := Lib.hid l3
  have HP := Lib.hid hpos
  clear hr l3 l4 hi hz0 hz1 hz2 hpos
  go_enter Tryz.func90, Tryz.ntmps90
  go_upto_region 1 with (fail)
  obtain ⟨W, hW⟩ : ∃ W, W = ((w.alloc (.cells #[.slice a cs.length ca, .slice b hs.length cb] 46)).alloc (.cells #[.slice none 0 0, .slice none 0 0] 46)) := ⟨_, rfl⟩
  rw [← hW]
  have BW : Hid (Below w.heap.size w W) := by rw [hW]; exact ((Below.refl _ _).alloc (Nat.le_refl _) _).alloc (by simp) _
  have Y1 : Hid (BK W w.heap.size #[.slice a cs.length ca, .slice b hs.length cb] 46) := by rw [hW]; exact (BK.new _ _ _).alloc _
  have Y2 : Hid (BK W (w.heap.size + 1) #[.slice none 0 0, .slice none 0 0] 46) := by rw [hW]; exact BK.at _ _ _ (by simp)
  have zW : w.heap.size + 1 < W.heap.size := by rw [hW]; simp
  have zW0 : w.heap.size < W.heap.size := by omega
  have A1 : Hid (∀ o, Below W.heap.size W (W.alloc o)) := fun o => (Below.refl _ _).alloc (Nat.le_refl _) _
  have HM := Lib.hid (GrowH.made W)
  have hpW := Lib.hid (HH.out.below BW.out)
  clear hW HH
  have y0 := Y1.out.cell 1 (v := .slice b hs.length cb) rfl
  go_upto_region 2 with (at_builtin; refine wpList_moreH (by rfl) _ _ (by rfl) HM.out (hpW.out.below (A1.out _)) (by rfl) (by rfl) (by simp; omega) ?_; intro r bh ch w1 hr hgrow hG2 hat2; have RR := Lib.hid hr; have HGR := Lib.hid hgrow; have HG2 := Lib.hid hG2; clear hr hgrow hG2 hat2)
  obtain rfl : r = hs := RR.out
  have B1 : Hid (Below W.heap.size W w1) := (A1.out _).grown HGR.out (by simp) fun k hk => HM.out.block k hk
  have X1 := Lib.hid (Y1.out.later B1.out)
  have X2 := Lib.hid (Y2.out.later B1.out)
  have z1 := X2.out.lt
  have z0 := X1.out.lt
  have zW1 := B1.out.size
  clear y0 HM hpW A1 HGR RR Y1 Y2
  have c0 := X1.out.cell 0 (v := .slice a cs.length ca) rfl
  have X3 : Hid (BK (w1.alloc (.cells #[.slice none 0 0, .slice bh r.length ch] 46)) w1.heap.size #[.slice none 0 0, .slice bh r.length ch] 46) := BK.new _ _ _
  have BA : Hid (Below w1.heap.size w1 (w1.alloc (.cells #[.slice none 0 0, .slice bh r.length ch] 46))) := (Below.refl _ _).alloc (Nat.le_refl _) _
  go_wp2
  go_loopw [4] (fun i wr => ∃ (k : Nat) (cv : Value) (ad : Nat → PlO) (S : Nat → Nat → Prop), k ≤ cs.length ∧ i = .int .i64 k ∧ BK wr w1.heap.size #[cv, .slice bh r.length ch] 46 ∧ Cms KS wr (w1.heap.size + 1) cv k cs ad S ∧ Below w1.heap.size w1 wr) (fun i _ => cs.length - (intOf i).toNat)
  case atStart => exact ⟨0, _, fun _ => (.slice none 0 0, .slice none 0 0, fun _ => ((none, 0), (none, 0))), fun _ _ => False, Nat.zero_le _, rfl, X3.out, Cms.start _ _ _ _ _ _, BA.out⟩
  case round =>
    clear X3 BA c0
    obtain ⟨k, cv, ad, S, hk, rfl, hbk, hcm, hbel⟩ := hrel
    have KB := Lib.hid hbk
    have CM := Lib.hid hcm
    have HB := Lib.hid hbel
    have hsz := hbel.size
    have zB := hbk.lt
    have X1r := Lib.hid (X1.out.later hbel)
    have p0 := X1r.out.cell 0 (v := .slice a cs.length ca) rfl
    by_cases hlt : k < cs.length
    · obtain ⟨b', off, ua, uc, sa, sc, rfl, hx⟩ := HC.out k hlt
      have BWr : Below w.heap.size w wr := BW.out.trans ((B1.out.trans (hbel.mono zW1)).mono BW.out.size)
      obtain ⟨hb, d0, d1, d2, hii, hff⟩ := hx.below BWr
      have II := Lib.hid hii
      have FF := Lib.hid hff
      obtain ⟨m1, m2, m3, m4⟩ := L3.out k hlt
      have M3 := Lib.hid m3
      have m5 := L4.out k hlt
      have HPk := Lib.hid (HP.out k hlt)
      have f0 := KB.out.cell 0 (v := cv) rfl
      clear hbk hcm hbel hx hii hff BWr m3
      go_upto_region 5 with (fail)
      go_region_law (first
        | (have hq := NC; clear hq; refine step_append_lies _ (by rfl) _ _ _ (by rfl) (w1.heap.size + 1) 54 i0 _ 3 64 Tryz.underlying43 HI.out HZ0.out HZ1.out HZ2.out rfl (by omega) cv k (flatM cs ad k) (by rfl) (R3.out.alloc _) ⟨w3.heap.size, 0, none⟩ 1 1 (cellsM (mg cs k) (.slice a2 (mg cs k).1.length c2, .slice a3 (mg cs k).2.1.length c3, fun _ => ((none, 0), (none, 0)))) (by rfl) (by rfl) (World.news_of_block (cs := #[.slice a2 (mg cs k).1.length c2, .slice a3 (mg cs k).2.1.length c3, .string (mg cs k).2.2]) (t := 54) (fr := (0, 0)) (heap_alloc_new w3 _)) (by simp [Value.oneCell', cellsM]) (by omega) (by unfold maxLen; omega) (by omega) (by simp; omega) (w3.heap.size + 1) (by simp) ?_; intro gg cap' wa hown1 hgrow hat hlt'; have g0 : wa.cell? ⟨w1.heap.size, 0, none⟩ = some cv := alloc_grown_cell hgrow zB3 (K3.out.cell 0 (v := cv) rfl) NV.out; have g1 : wa.frozen? ⟨w1.heap.size, 0, none⟩ = false := (hgrow.frozen_far ⟨w1.heap.size, 0, none⟩ (by simp; omega) (fun e => NV.out e.symm)).trans ((Below.frozen (p := ⟨w1.heap.size, 0, none⟩) ((Below.refl w3.heap.size w3).alloc (Nat.le_refl _) _) zB3).trans (K3.out.frozen 0)); have OW := Lib.hid hown1; have GR := Lib.hid hgrow; have AT := Lib.hid hat; clear hown1 hgrow hat)
        | (go_simp; go_at_call 112; refine (l7One_any (mg cs k) ua uc sa sc _ (II.out.below (drew_below _)) (FF.out.below (drew_below _)) (by omega) (by omega) M3.out HPk.out).mono ?_; rintro e w3 ⟨a2, c2, a3, c3, rfl, hA, hbA⟩; have NC := Lib.hid hA; have B3 : Hid (Below wr.heap.size wr w3) := (drew_below wr).trans hbA; have K3 := Lib.hid (KB.out.later B3.out); have C3 := Lib.hid (CM.out.below KS.law B3.out); have R3 := Lib.hid C3.out.row; have zB3 := K3.out.lt; have f3 := K3.out.cell 0 (v := cv) rfl; have NV : Hid (cv.ownBlock ≠ some w1.heap.size) := (fun e => by have := (C3.out.row.lt _ e).1; omega); clear hA hbA; dsimp only)
        | fail)
      all_goals
        have P3 := NC.out
        have z3 := B3.out.size
        have HS : Hid (Cms KS wa (w1.heap.size + 1) (.slice (some ⟨gg, 0, none⟩) (k + 1) cap') (k + 1) cs _ _) := Cms.step KS.law (C3.out.below KS.law ((Below.refl _ _).alloc (Nat.le_refl _) _)) (KS.law.keep P3 (fun x hx => hx.2) (Turned.of_below (S := fun _ => False) ((Below.refl w3.heap.size w3).alloc (Nat.le_refl _) (.cells #[.slice a2 (mg cs k).1.length c2, .slice a3 (mg cs k).2.1.length c3, .string (mg cs k).2.2] 54))) fun _ _ h => h) (fun x hx => ⟨by have := hx.1; simp only [World.drew] at this; omega, by have := hx.2; simp; omega, fun e => by have h1 := (CM.out.row.lt x e).2; have := hx.1; simp only [World.drew] at this; omega, fun i hi hs => by have h1 := (CM.out.rng i hi x hs).2.1; have := hx.1; simp only [World.drew] at this; omega⟩) OW.out GR.out (AT.out.imp id fun e => by rw [e]; simp)
        have HE : Hid (Below w1.heap.size w1 wa) := (((HB.out.trans (B3.out.mono (by omega))).alloc (by omega) _).grown GR.out (by simp; omega) (fun j hj => by have := (C3.out.row.lt j hj).1; omega))
        have HK : Hid (BK wa w1.heap.size #[cv, .slice bh r.length ch] 46) := (GR.out.block _ (by simp; omega) (fun e => NV.out e.symm)).trans (K3.out.alloc _)
        clear g0 g1 f3 f0 p0 d0 d1 d2
        go_wp2
        go_roundw
        case rel => exact ⟨k + 1, _, _, _, by omega, by go_num, HK.out.set 0 _, HS.out.turned KS.law (Turned.of_set (S := fun x => x = w1.heap.size) _ _ _ rfl) (fun x hx e => by have := (HS.out.blocks x hx).1; omega), HE.out.setCell (Nat.le_refl _) _⟩
        case measure => simp [intOf]; omega
    · obtain rfl : k = cs.length := by omega
      clear hbk hcm hbel
      have f1 := KB.out.cell 1 (v := .slice bh r.length ch) rfl
      have X2r := Lib.hid (X2.out.later HB.out)
      have r0 := X2r.out.cell 0 (v := .slice none 0 0) rfl
      have r1 := X2r.out.cell 1 (v := .slice none 0 0) rfl
      have r2 := X2r.out.frozen 0
      have r3 := X2r.out.frozen 1
      obtain ⟨ac, cc, rfl, _, _⟩ := CM.out.form KS.law
      have f0 := KB.out.cell 0 (v := .slice ac cs.length cc) rfl
      go_wp2
      have KR := (X2r.out.set 0 (.slice ac cs.length cc)).set 1 (.slice bh r.length ch)
      have r4 := KR.cell 0 (v := .slice ac cs.length cc) rfl
      have r5 := KR.cell 1 (v := .slice bh r.length ch) rfl
      refine bodyPost_ret (v := .agg #[.slice ac cs.length cc, .slice bh r.length ch]) (by simp [results, Tryz.results90, go_sem, r4, r5]) rfl ?_
      have T2 : Turned wr ((wr.setCell ⟨w.heap.size + 1, 0, none⟩ (.slice ac cs.length cc)).setCell ⟨w.heap.size + 1, 1, none⟩ (.slice bh r.length ch)) (fun x => x = w.heap.size + 1) := (Turned.of_set (S := fun x => x = w.heap.size + 1) _ _ _ rfl).trans (Turned.of_set _ _ _ rfl)
      have GE := HG2.out.below HB.out
      have zh := HG2.out.own.lt
      refine ⟨_, _, ad, S, rfl, ⟨(CM.out.low (by omega)).turned KS.law T2 fun x hx e => by have := (CM.out.blocks x hx).1; omega, (GE.low (by omega)).turned T2 fun x hx e => by have := (zh x hx).1; omega, fun x hx hc => by have h1 := (zh x hx).2; have := (CM.out.blocks x hc).1; omega⟩, (BW.out.trans ((B1.out.trans (HB.out.mono zW1)).mono BW.out.size)).trans (T2.below (by have := BW.out.size; omega) fun x hx => by omega)⟩
end Go.Proofs.YtdfadpejddhbkaaGreat
