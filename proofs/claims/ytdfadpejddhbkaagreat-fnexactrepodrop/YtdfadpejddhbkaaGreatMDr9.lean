/- Proved here: whether versions and branches are right, and the version of a branch, by the program and by the model; lists of at most 1,048,576. Proved here: what it is that a function answers a room in memory of its own and a code; plain facts of branches; no condition. Proved here: the library's removal of one branch from a row of its own; rows of at most 1,000,000. Proved here: what taking a branch away answers, by the program; rooms of at most 1,048,576 parts each. Proved here: the model's map without a name holds copies of the other things; lists of at most 1,048,576 things, points and tags, texts of at most 1,048,576 bytes. Proved here: the model's copies of a version and of a room read as they should, their parts in blocks of their own; at most 1,000,000 versions and branches of at most 1,000,000 parts, each thing with a point. -/
import Derived.Test.YtdfadpejddhbkaaGreatMDr8
import Derived.Test.YtdfadpejddhbkaaGreatMDr7
import Derived.Deep.RegionLaw
import Derived.Laws.IdiomCopy
import Derived.Deep.RegionHeld3
import Derived.Deep.DeepCutAuto
namespace Go.Proofs.YtdfadpejddhbkaaGreat
set_option linter.unusedVariables false
open Go.ChangeShapes Go.WideShapes Go.ChangeAt Go.RowKit

theorem good_and (cs : List Cm) (hs : List Hd) : repoOk cs hs = (cmsB cs && headsB hs cs.length) := by
  rw [Bool.eq_iff_iff, repoOk_iff]
  simp only [cmsB, headsB, Bool.and_eq_true, decide_eq_true_iff]
  exact ⟨fun g => ⟨⟨g.c1, g.c2, g.cms⟩, ⟨g.h1, g.h2, g.hds⟩⟩, fun g => ⟨g.1.1, g.1.2.1, g.2.1, g.2.2.1, g.1.2.2, g.2.2.2⟩⟩

theorem RepoGood.apart {cs : List Cm} {hs : List Hd} (g : RepoGood cs hs) : NamesApart hs hs.length := fun i j hj hi => (g.hds i hi).once j hj

set_option maxRecDepth 100000 in
set_option maxHeartbeats 4000000 in
theorem implRepoOk_any (a b : Option Addr) (ca cb : Nat) (cs : List Cm) (hs : List Hd) (w : World) (hr : RepoAt w a b cs hs) (hl : RpLen cs hs 1048576) (hca : cs.length ≤ ca) :
    Calls Tryz.prog 76 #[.agg #[.slice a cs.length ca, .slice b hs.length cb]] w fun e w' => e = .returned (.bool (repoOk cs hs)) ∧ Below w.heap.size w w' := by
  obtain ⟨l1, l2, l3, l4⟩ := hl
  have HR := Lib.hid hr
  have L3 := Lib.hid l3
  have L4 := Lib.hid l4
  clear hr l3 l4
  have A1 : Hid (∀ o, Below w.heap.size w (w.alloc o)) := fun o => (Below.refl _ _).alloc (Nat.le_refl _) _
  go_enter Tryz.func76, Tryz.ntmps76
  go_wp2_with fail
  refine (commitsOk_any _ _ _ _ (HR.out.cms.below (A1.out _)) (by omega) L3.out hca).mono ?_
  rintro e w1 ⟨rfl, hb1⟩
  have c0 := cell_later hb1 (a := ⟨w.heap.size, 0, none⟩) (v := .slice a cs.length ca) (by simp [go_sem])
  have c1 := cell_later hb1 (a := ⟨w.heap.size, 1, none⟩) (v := .slice b hs.length cb) (by simp [go_sem])
  have B1 : Hid (Below w.heap.size w w1) := (A1.out _).trans (hb1.mono (by simp))
  clear hb1
  have HE := Lib.hid (good_and cs hs)
  cases hq : cmsB cs
  · rw [hq] at HE
    go_wp2
    go_ret
    exact ⟨by rw [HE.out]; rfl, B1.out⟩
  · rw [hq] at HE
    clear hq
    go_wp2_with fail
    refine (headsOk_any _ _ _ _ _ (HR.out.hds.below B1.out) (by omega) L4.out (by omega)).mono ?_
    rintro e w2 ⟨rfl, hb2⟩
    have B2 : Hid (Below w.heap.size w w2) := B1.out.trans (hb2.mono B1.out.size)
    clear hb2 c0 c1
    go_wp2
    go_ret
    exact ⟨by rw [HE.out]; rfl, B2.out⟩

/-- the version of a branch -/
noncomputable def atV (cs : List Cm) (hs : List Hd) (x : ByteArray) : Int :=
  if repoOk cs hs then (match lastH hs x hs.length with | some j => hda hs j | none => -1) else -1

end Go.Proofs.YtdfadpejddhbkaaGreat

namespace Go.Proofs.YtdfadpejddhbkaaGreat
set_option linter.unusedVariables false
open Go.ChangeShapes Go.WideShapes Go.ChangeAt Go.RowKit Go.Deep

/-- a room whose branches are turned -/
theorem Room.heads {K : World → Cm → PlO → (Nat → Prop) → Prop} (L : KLaw K) {w w' : World} {lo : Nat} {cv hv hv' : Value} {cs : List Cm} {hs hs' : List Hd} {ad : Nat → PlO} {S : Nat → Nat → Prop} (h : Room K w lo cv hv cs hs ad S) (ht : Turned w w' (fun x => hv.ownBlock = some x)) (hg : GrowH lo hs' w' hv') (hb : ∀ x, hv'.ownBlock = some x → hv.ownBlock = some x ∨ w.heap.size ≤ x) : Room K w' lo cv hv' cs hs' ad S :=
  ⟨h.cms.turned L ht fun x hx hy => h.far x hy hx, hg, fun x hx hc => (hb x hx).elim (fun e => h.far x e hc) fun e => by have := (h.cms.blocks x hc).2; omega⟩

/-- versions, branches and a code -/
abbrev RpV := List Cm × List Hd × Int

/-- what a function of rooms answers: a room in memory of its own, and a code -/
def RoomAns (K : World → Cm → PlO → (Nat → Prop) → Prop) (v : RpV) (w : World) (e : Ending) (w' : World) : Prop :=
  ∃ cv hv ad S, e = .returned (.tuple #[.agg #[cv, hv], .int .i64 v.2.2]) ∧ Room K w' w.heap.size cv hv v.1 v.2.1 ad S ∧ Below w.heap.size w w'

/-- a branch taken away -/
noncomputable def dropV (cs : List Cm) (hs : List Hd) (x : ByteArray) : RpV :=
  if repoOk cs hs then (match lastH hs x hs.length with | none => (cs, hs, 1) | some j => if hs.length = 1 then (cs, hs, 2) else (cs, hs.eraseIdx j, 0)) else ([], [], 4)

theorem RpLen.less {cs : List Cm} {hs : List Hd} {m n : Int} (h : RpLen cs hs m) (hm : m ≤ n) : RpLen cs hs n := ⟨Int.le_trans h.cl hm, Int.le_trans h.hl hm, h.cms.mono hm, h.hds.mono hm⟩

/-- what stands in the box of the answer -/
theorem BK.two {w : World} {b : Nat} {v0 v1 : Value} {t : TypeId} (h : BK w b #[v0, v1] t) : w.cell? ⟨b, 0, none⟩ = some v0 ∧ w.cell? ⟨b, 1, none⟩ = some v1 ∧ w.frozen? ⟨b, 0, none⟩ = false ∧ w.frozen? ⟨b, 1, none⟩ = false :=
  ⟨h.cell 0 rfl, h.cell 1 rfl, h.frozen 0, h.frozen 1⟩

/-- the end of a function that answers a room by a box at 'r': the box lies below the room -/
theorem room_fin {K : World → Cm → PlO → (Nat → Prop) → Prop} (L : KLaw K) {w wx : World} {r lo : Nat} {cv hv x0 x1 : Value} {cs : List Cm} {hs : List Hd} {ad : Nat → PlO} {S : Nat → Nat → Prop} (h : Room K wx lo cv hv cs hs ad S) (hb : Below w.heap.size w wx) (h1 : w.heap.size ≤ r) (h2 : r < lo) :
    Room K ((wx.setCell ⟨r, 0, none⟩ x0).setCell ⟨r, 1, none⟩ x1) w.heap.size cv hv cs hs ad S ∧ Below w.heap.size w ((wx.setCell ⟨r, 0, none⟩ x0).setCell ⟨r, 1, none⟩ x1) := by
  have T : Turned wx ((wx.setCell ⟨r, 0, none⟩ x0).setCell ⟨r, 1, none⟩ x1) (fun x => x = r) := (Turned.of_set (S := fun x => x = r) _ _ _ rfl).trans (Turned.of_set _ _ _ rfl)
  exact ⟨(h.low (by omega)).turned L T fun x hx e => by have := (h.blocks x hx).1; omega, hb.trans (T.below hb.size fun x hx => by omega)⟩


/-- of branches that are apart, the first of a name is the last -/
theorem first_last {hs : List Hd} {x : ByteArray} {r : Int} (ha : NamesApart hs hs.length) (h : FirstHd hs x r) : (r = -1 ∧ lastH hs x hs.length = none) ∨ ∃ j : Nat, r = j ∧ j < hs.length ∧ lastH hs x hs.length = some j := by
  rcases h with ⟨h1, h2⟩ | ⟨k, h1, h2, h3, _⟩
  · refine .inl ⟨h1, ?_⟩
    cases hq : lastH hs x hs.length with
    | none => rfl
    | some j => obtain ⟨q1, q2, _⟩ := lastH_some hq; exact absurd q2 (h2 j q1)
  · exact .inr ⟨k, h1, h2, lastH_first ha h2 h3⟩

/-- a room that is right has few of all -/
theorem RepoGood.few {cs : List Cm} {hs : List Hd} (g : RepoGood cs hs) : RpFew cs hs := ⟨by have := g.c2; omega, by have := g.h2; omega, fun j hj => by have := (g.cms j hj).up.2.1; omega⟩

/-- each thing of a version that is right has a point -/
theorem RepoGood.pos {cs : List Cm} {hs : List Hd} (g : RepoGood cs hs) : ∀ j, j < cs.length → ∀ i, i < (mg cs j).2.1.length → 0 < (fps (mg cs j).2.1 i).length := fun j hj i hi => ftOk_pts (good_ok (g.cms j hj).sheet hi)
end Go.Proofs.YtdfadpejddhbkaaGreat

namespace Go.Proofs.YtdfadpejddhbkaaGreat
set_option linter.unusedVariables false
open Go.ChangeShapes Go.WideShapes Go.ChangeAt Go.RowKit Go.Deep

/-- a list with others laid over it -/
def over (xs : List Value) (o : Nat) : List Value → List Value
  | [] => xs
  | v :: r => over (xs.set o v) (o + 1) r
theorem over_len : ∀ (vs : List Value) (xs : List Value) (o : Nat), (over xs o vs).length = xs.length
  | [], _, _ => rfl
  | v :: r, xs, o => by
    show (over (xs.set o v) (o + 1) r).length = _
    rw [over_len r, List.length_set]
theorem over_at : ∀ (vs : List Value) (xs : List Value) (o i : Nat), (over xs o vs)[i]? = if o ≤ i ∧ i < o + vs.length ∧ i < xs.length then vs[i - o]? else xs[i]?
  | [], xs, o, i => by
    rw [if_neg (by simp; omega)]
    rfl
  | v :: r, xs, o, i => by
    show (over (xs.set o v) (o + 1) r)[i]? = _
    rw [over_at r, List.length_set, List.getElem?_set]
    by_cases e : o = i
    · subst e
      rw [if_neg (by omega), if_pos rfl]
      by_cases h : o < xs.length
      · rw [if_pos h, if_pos ⟨Nat.le_refl _, by simp, h⟩, Nat.sub_self]
        rfl
      · rw [if_neg h, if_neg (by omega)]
        exact (List.getElem?_eq_none (by omega)).symm
    · by_cases h : o + 1 ≤ i ∧ i < o + 1 + r.length ∧ i < xs.length
      · rw [if_pos h, if_pos ⟨by omega, by simp; omega, h.2.2⟩, show i - o = (i - (o + 1)) + 1 by omega, List.getElem?_cons_succ]
      · rw [if_neg h, if_neg e, if_neg (by simp; omega)]

theorem ownsRow_setCells {base : Nat} {e : TypeId} {size g n cap : Nat} : ∀ (vs : List Value) (o : Nat) (w : World) (xs : List Value), w.ownsRow base e size (.slice (some ⟨g, 0, none⟩) n cap) n xs → (w.setCells g o vs).ownsRow base e size (.slice (some ⟨g, 0, none⟩) n cap) n (over xs o vs)
  | [], _, _, _, h => h
  | v :: r, o, w, xs, h => ownsRow_setCells r (o + 1) _ _ (h.stored o v).1

theorem turned_setCells {g : Nat} {S : Nat → Prop} (hS : S g) : ∀ (vs : List Value) (o : Nat) (w : World), Turned w (w.setCells g o vs) S
  | [], _, w => Turned.refl w S
  | v :: r, o, w => (Turned.of_set w o v hS).trans (turned_setCells hS r (o + 1) _)

theorem ownsRow_take {w : World} {lo : Nat} {e : TypeId} {size g n n' cap : Nat} {xs : List Value} (h : w.ownsRow lo e size (.slice (some ⟨g, 0, none⟩) n cap) n xs) (hn : n' ≤ n) : w.ownsRow lo e size (.slice (some ⟨g, 0, none⟩) n' cap) n' (xs.take (n' * size)) := by
  rcases ownsRow_rows h with ⟨e1, _⟩ | ⟨g', cap', f, e1, h2, h3, h4, hr, hf⟩
  · simp at e1
  · obtain ⟨rfl, rfl⟩ : g = g' ∧ cap = cap' := by simpa using e1
    have hm : n' * size ≤ n * size := Nat.mul_le_mul_right _ hn
    refine ownsRow_of_rows hr (by rw [List.length_take, h.1]; omega) (fun i hi => ?_) (by omega) h3 h4
    rw [List.getElem?_take, if_pos hi]
    exact hf i (by omega)

theorem erase_heads (hs : List Hd) (j : Nat) (hj : j < hs.length) (z : List Value) :
    (over (over (flatH hs) (j * 2) (flatH (hs.drop (j + 1)))) ((hs.length - 1) * 2) z).take ((hs.length - 1) * 2) = flatH (hs.eraseIdx j) := by
  have hl := flatH_len hs
  have hl2 := flatH_len (hs.eraseIdx j)
  have hl3 := flatH_len (hs.drop (j + 1))
  rw [List.length_eraseIdx_of_lt hj] at hl2
  rw [List.length_drop] at hl3
  refine List.ext_getElem? fun i => ?_
  rw [List.getElem?_take]
  by_cases hi : i < (hs.length - 1) * 2
  · rw [if_pos hi, over_at, if_neg (by omega), over_at, hl, hl3, flatH_headCell (hs.eraseIdx j) i (by rw [List.length_eraseIdx_of_lt hj]; exact hi)]
    have hk : i / 2 < (hs.eraseIdx j).length := by rw [List.length_eraseIdx_of_lt hj]; omega
    have er : (hs.eraseIdx j)[i / 2]'hk = if h : i / 2 < j then hs[i / 2]'(by omega) else hs[i / 2 + 1]'(by rw [List.length_eraseIdx_of_lt hj] at hk; omega) := by
      rw [List.getElem_eraseIdx]
    rw [hd_get hk] at er
    by_cases h : j * 2 ≤ i
    · rw [dif_neg (by omega), hd_get] at er
      obtain ⟨e1, e2⟩ := Prod.mk.inj er
      rw [if_pos ⟨h, by omega, by omega⟩, flatH_headCell _ _ (by rw [List.length_drop]; omega)]
      have d1 : hdn (hs.drop (j + 1)) ((i - j * 2) / 2) = hdn hs (i / 2 + 1) := by
        simp only [hdn, List.getD, List.getElem?_drop]
        congr 3
        omega
      have d2 : hda (hs.drop (j + 1)) ((i - j * 2) / 2) = hda hs (i / 2 + 1) := by
        simp only [hda, List.getD, List.getElem?_drop]
        congr 3
        omega
      unfold headCell
      rw [d1, d2, e1, e2, show (i - j * 2) % 2 = i % 2 by omega]
    · rw [dif_pos (by omega), hd_get] at er
      obtain ⟨e1, e2⟩ := Prod.mk.inj er
      rw [if_neg (by omega), flatH_headCell _ _ (by omega)]
      unfold headCell
      rw [e1, e2]
  · rw [if_neg hi]
    exact (List.getElem?_eq_none (by omega)).symm

theorem run_clear_head (w : World) (ty : TypeId) (b o c : Nat) (hc : ∀ j, j < 2 → (w.cell? ⟨b, o + j, none⟩).isSome = true) (hf : ∀ j, j < 2 → w.frozen? ⟨b, o + j, none⟩ = false) :
    (Builtin.clear_ #[44] ty #[.slice (some ⟨b, o, none⟩) 1 c]).run Tryz.prog w = .ok (.tuple #[]) (w.setCells b o [.string .empty, .int .i64 0]) := by
  have hv : ∀ w, (zeroValue 115).run Tryz.prog w = .ok (.agg #[.string .empty, .int .i64 0]) w := fun w => by kernel_rfl
  have hzc : (Builtin.zeroCells (Value.agg #[.string .empty, .int .i64 0]).cells 1).toList = [.string .empty, .int .i64 0] := by simp [Builtin.zeroCells, Value.cells, List.range, List.range.loop]
  have hst := run_storeCells_cells (P := Tryz.prog) b o [.string .empty, .int .i64 0] 0 w (by simpa using hc) (by simpa using hf) (by intro v hv'; simp at hv'; rcases hv' with rfl | rfl <;> rfl)
  simp only [Nat.add_zero] at hst
  simp [Builtin.clear_, run_underlying Tryz.underlying44, hv, hzc, hst]

set_option maxRecDepth 100000 in
set_option maxHeartbeats 4000000 in
theorem deleteH_any (v : Value) (lo : Nat) (hs : List Hd) (j q : Nat) (w : World) (h : GrowH lo hs w v) (hj : j < hs.length) (hq : q = j + 1) (hl : hs.length ≤ 1000000) :
    Calls Tryz.prog 111 #[v, .int .i64 j, .int .i64 q] w fun e w' => ∃ v', e = .returned v' ∧ GrowH lo (hs.eraseIdx j) w' v' ∧ v'.ownBlock = v.ownBlock ∧ Turned w w' (fun x => v.ownBlock = some x) := by
  rcases ownsRow_rows h.own with ⟨rfl, h2⟩ | ⟨g, cap, f0, rfl, h2, h3, _⟩
  · omega
  obtain ⟨i0, hi0, hz0, hz1, hz2⟩ := info_parts infoHead
  have hle := h.le
  have HO := Lib.hid h.own
  obtain ⟨news, hnews⟩ : ∃ news, news = flatH (hs.drop (j + 1)) := ⟨_, rfl⟩
  have hlen : news.length = (hs.length - q) * 2 := by rw [hnews, flatH_len, List.length_drop, hq]
  obtain ⟨A, hA, hsrc⟩ : ∃ A : Addr, (if cap = q then some (⟨g, 0, none⟩ : Addr) else some ⟨g, q * 2, none⟩) = some A ∧ Hid (∀ t u, news[t]? = some u → w.drew.cell? (A.add t) = some u) := by
    by_cases hc : cap = q
    · refine ⟨⟨g, 0, none⟩, by simp [hc], fun t u hu => ?_⟩
      have h0 : news.length = 0 := by rw [hlen]; omega
      rw [List.length_eq_zero_iff.1 h0] at hu
      simp at hu
    · refine ⟨⟨g, q * 2, none⟩, by simp [hc], fun t u hu => ?_⟩
      have ht : t < (hs.length - q) * 2 := by
        have := (List.getElem?_eq_some_iff.1 hu).1
        rwa [hlen] at this
      rw [add_plain]
      show w.cell? ⟨g, q * 2 + t, none⟩ = some u
      rw [HO.out.cellAt (q * 2 + t) (by omega), flatH_headCell hs _ (by omega)]
      rw [hnews, flatH_headCell _ _ (by rw [List.length_drop]; omega)] at hu
      rw [← hu]
      have d1 : hdn (hs.drop (j + 1)) (t / 2) = hdn hs ((q * 2 + t) / 2) := by
        simp only [hdn, List.getD, List.getElem?_drop]
        congr 3
        omega
      have d2 : hda (hs.drop (j + 1)) (t / 2) = hda hs ((q * 2 + t) / 2) := by
        simp only [hda, List.getD, List.getElem?_drop]
        congr 3
        omega
      unfold headCell
      rw [d1, d2, show (q * 2 + t) % 2 = t % 2 by omega]
  have s1 := Lib.hid hlen
  have s2 : Hid (∀ u ∈ news, u.oneCell' = true) := by rw [Hid, hnews]; exact flatH_one _
  have s3 : Hid (∀ t, t < news.length → (w.drew.cell? ⟨g, 0 + j * 2 + t, none⟩).isSome = true ∧ w.drew.frozen? ⟨g, 0 + j * 2 + t, none⟩ = false) := by
    intro t ht
    rw [hlen] at ht
    refine ⟨?_, HO.out.frozenAt _⟩
    show (w.cell? _).isSome = true
    rw [HO.out.cellAt _ (by omega), flatH_headCell hs _ (by omega)]
    rfl
  obtain ⟨W1, hW1⟩ : ∃ W1, W1 = w.drew.setCells g (0 + j * 2) news := ⟨_, rfl⟩
  have O1 : Hid (W1.ownsRow lo 115 2 (.slice (some ⟨g, 0, none⟩) hs.length cap) hs.length (over (flatH hs) (j * 2) news)) := by
    rw [Hid, hW1, Nat.zero_add]
    exact ownsRow_setCells news (j * 2) _ _ (ownsRow_below HO.out (Below.refl _ _).drew)
  have T1 : Hid (Turned w W1 (fun x => (Value.slice (some ⟨g, 0, none⟩) hs.length cap).ownBlock = some x)) := by
    rw [Hid, hW1]
    exact (Turned.of_below (Below.refl _ _).drew).trans (turned_setCells (g := g) (S := fun x => (Value.slice (some ⟨g, 0, none⟩) hs.length cap).ownBlock = some x) rfl _ _ _)
  have hcl : ∀ ty, (Builtin.clear_ #[44] ty #[.slice (some ⟨g, (j + (hs.length - q)) * 2, none⟩) (hs.length - (j + (hs.length - q))) (cap - (j + (hs.length - q)))]).run Tryz.prog W1 = .ok (.tuple #[]) (W1.setCells g ((hs.length - 1) * 2) [.string .empty, .int .i64 0]) := fun ty => by
    rw [show hs.length - (j + (hs.length - q)) = 1 by omega, show (j + (hs.length - q)) * 2 = (hs.length - 1) * 2 by omega]
    refine run_clear_head W1 ty g _ _ (fun t ht => ?_) (fun t ht => O1.out.frozenAt _)
    rw [O1.out.cellAt _ (by omega), List.getElem?_eq_getElem (by rw [over_len, flatH_len]; omega)]
    rfl
  have hW : Hid (W1 = w.drew.setCells g (0 + j * 2) news) := hW1
  have NW := Lib.hid hnews
  have q1 : q ≤ j + 1 := by omega
  have q3 : q ≤ hs.length := by omega
  have q2 : j + 1 ≤ q := by omega
  clear hW1 h hnews hlen hq
  have b1 : (j : Int) ≤ (cap : Int) := by omega
  have b2 : (q : Int) ≤ (cap : Int) := by omega
  have b3 : ¬ ((j : Int) = (q : Int)) := by omega
  go_enter Tryz.func111, Tryz.ntmps111
  go_wp2_with fail
  go_region_law (refine step_append_room rfl (.tmp 22) (.tmp 25) 44 rfl 115 i0 2 Tryz.underlying44 hi0 hz1 g 0 j cap (by simp [Act.eval, Act.put]) A (hs.length - q) (cap - q) news (by simp [Act.eval, Act.put]) s1.out hsrc.out s2.out (by omega) s3.out ?_; rw [← hW.out])
  go_wp2
  go_ret
  have O2 := ownsRow_take (ownsRow_setCells [.string .empty, .int .i64 0] ((hs.length - 1) * 2) _ _ O1.out) (n' := hs.length - 1) (by omega)
  rw [NW.out, erase_heads hs j hj] at O2
  have T2 := T1.out.trans (turned_setCells (g := g) (S := fun x => (Value.slice (some ⟨g, 0, none⟩) hs.length cap).ownBlock = some x) rfl [.string .empty, .int .i64 0] ((hs.length - 1) * 2) W1)
  refine ⟨_, rfl, ⟨?_, Nat.le_trans hle T2.size⟩, rfl, T2⟩
  rw [List.length_eraseIdx_of_lt hj, show j + (hs.length - q) = hs.length - 1 by omega]
  exact O2
end Go.Proofs.YtdfadpejddhbkaaGreat

namespace Go.Proofs.YtdfadpejddhbkaaGreat
set_option linter.unusedVariables false
open Go.ChangeShapes Go.WideShapes Go.ChangeAt Go.RowKit Go.Deep

set_option maxRecDepth 100000 in
set_option maxHeartbeats 8000000 in
theorem implRepoDrop_any (a b : Option Addr) (ca cb : Nat) (cs : List Cm) (hs : List Hd) (x : ByteArray) (w : World) (hr : RepoAt w a b cs hs) (hl : RpLen cs hs 1048576) (hca : cs.length ≤ ca) (hx : x.size ≤ 1048576) :
    Calls Tryz.prog 52 #[.agg #[.slice a cs.length ca, .slice b hs.length cb], .string x] w (RoomAns KI (dropV cs hs x) w) := by
  have HR := Lib.hid hr
  have HL := Lib.hid hl
  have l1 := hl.cl
  have l2 := hl.hl
  clear hr hl
  go_enter Tryz.func52, Tryz.ntmps52
  go_upto_region 1 with (fail)
  obtain ⟨W, hW⟩ : ∃ W, W = ((w.alloc (.cells #[.slice a cs.length ca, .slice b hs.length cb] 46)).alloc (.cells #[.slice none 0 0, .slice none 0 0] 46)) := ⟨_, rfl⟩
  rw [← hW]
  have B0 : Hid (Below w.heap.size w W) := by rw [hW]; exact ((Below.refl _ _).alloc (Nat.le_refl _) _).alloc (by simp) _
  have KA : Hid (BK W w.heap.size #[.slice a cs.length ca, .slice b hs.length cb] 46) := by rw [hW]; exact (BK.new _ _ _).alloc _
  have KB : Hid (BK W (w.heap.size + 1) #[.slice none 0 0, .slice none 0 0] 46) := by rw [hW]; exact BK.at _ _ _ (by simp)
  have z1 : w.heap.size + 1 < W.heap.size := by rw [hW]; simp
  have z0 : w.heap.size < W.heap.size := by omega
  clear hW
  obtain ⟨a0, a1, _, _⟩ := KA.out.two
  go_wp2_with fail
  refine (implRepoOk_any _ _ _ _ _ _ _ (HR.out.below B0.out) HL.out hca).mono ?_
  rintro e w1 ⟨rfl, hb1⟩
  replace KA := Lib.hid (KA.out.later hb1)
  replace KB := Lib.hid (KB.out.later hb1)
  have B1 : Hid (Below w.heap.size w w1) := B0.out.trans (hb1.mono B0.out.size)
  replace z1 := KB.out.lt
  replace z0 := KA.out.lt
  clear hb1 B0 a0 a1
  by_cases hg : RepoGood cs hs
  · rw [repoOk_true hg]
    have HG := Lib.hid hg
    clear hg
    obtain ⟨a0, a1, _, _⟩ := KA.out.two
    go_wp2_with fail
    clear a0 a1
    refine (repoCopy_any _ _ _ _ _ _ _ (HR.out.below B1.out) HL.out HG.out.few).mono ?_
    rintro e w2 ⟨cv, hv, ad, S, rfl, hRm, hb2⟩
    obtain ⟨pa, pc, pb, pd, rfl, rfl, _, _, _⟩ := hRm.form KI.law
    have RB := Lib.hid hRm.blocks
    have RM := Lib.hid hRm
    replace KA := Lib.hid (KA.out.later hb2)
    replace KB := Lib.hid (KB.out.later hb2)
    have B2 : Hid (Below w.heap.size w w2) := B1.out.trans (hb2.mono B1.out.size)
    have z12 := hb2.size
    clear hb2 hRm B1
    go_upto_region 4 with (fail)
    obtain ⟨W3, hW3⟩ : ∃ W3, W3 = w2.alloc (.cells #[.slice pa cs.length pc, .slice pb hs.length pd] 46) := ⟨_, rfl⟩
    rw [← hW3]
    have A3 : Hid (Below w2.heap.size w2 W3) := by rw [hW3]; exact (Below.refl _ _).alloc (Nat.le_refl _) _
    have KC : Hid (BK W3 w2.heap.size #[.slice pa cs.length pc, .slice pb hs.length pd] 46) := by rw [hW3]; exact BK.new _ _ _
    replace KA := Lib.hid (KA.out.later A3.out)
    replace KB := Lib.hid (KB.out.later A3.out)
    replace RM := Lib.hid (RM.out.below KI.law A3.out)
    have B3 : Hid (Below w.heap.size w W3) := B2.out.trans (A3.out.mono B2.out.size)
    have y0 := KA.out.lt
    have y1 := KB.out.lt
    have y2 := KC.out.lt
    clear hW3 A3 B2
    obtain ⟨a0, a1, _, _⟩ := KA.out.two
    go_wp2_with fail
    clear a0 a1
    refine (headsByName_any _ _ _ _ (HR.out.hds.below B3.out) (by omega) (HL.out.hds.mono (by omega))).mono ?_
    rintro e w4 ⟨rfl, hown, hb4⟩
    have hlook := look_head hown x (by unfold maxLen; omega)
    replace KA := Lib.hid (KA.out.later hb4)
    replace KB := Lib.hid (KB.out.later hb4)
    replace KC := Lib.hid (KC.out.later hb4)
    replace RM := Lib.hid (RM.out.below KI.law hb4)
    have B4 : Hid (Below w.heap.size w w4) := B3.out.trans (hb4.mono B3.out.size)
    replace y0 := KA.out.lt
    replace y1 := KB.out.lt
    replace y2 := KC.out.lt
    clear hb4 hown B3
    cases hq : lastH hs x hs.length with
    | none =>
      rw [hq] at hlook
      have HE : Hid (dropV cs hs x = (cs, hs, 1)) := by simp [Hid, dropV, repoOk_true HG.out, hq]
      clear hq
      simp only [Option.isSome_none] at hlook
      obtain ⟨b0, b1, b2, b3⟩ := KB.out.two
      obtain ⟨c0, c1, _, _⟩ := KC.out.two
      go_wp2
      have KF := (KB.out.set 0 (.slice pa cs.length pc)).set 1 (.slice pb hs.length pd)
      obtain ⟨r0, r1, _, _⟩ := BK.two KF
      refine bodyPost_ret (v := .tuple #[.agg #[.slice pa cs.length pc, .slice pb hs.length pd], .int .i64 1]) (by simp [results, Tryz.results52, go_sem, r0, r1]) rfl ?_
      obtain ⟨q1, q2⟩ := room_fin KI.law RM.out B4.out (r := w.heap.size + 1) (x0 := .slice pa cs.length pc) (x1 := .slice pb hs.length pd) (by omega) (by omega)
      rw [HE.out]
      exact ⟨_, _, _, _, rfl, q1, q2⟩
    | some j =>
      rw [hq] at hlook
      obtain ⟨hj, _, _⟩ := lastH_some hq
      simp only [Option.isSome_some] at hlook
      by_cases h1 : hs.length = 1
      · have HE : Hid (dropV cs hs x = (cs, hs, 2)) := by rw [Hid]; unfold dropV; rw [repoOk_true HG.out, if_pos rfl, hq]; exact if_pos h1
        have hb1 : ((hs.length : Int) == 1) = true := by simp; omega
        clear hq h1
        obtain ⟨a0, a1, _, _⟩ := KA.out.two
        obtain ⟨b0, b1, b2, b3⟩ := KB.out.two
        obtain ⟨c0, c1, _, _⟩ := KC.out.two
        go_wp2
        have KF := (KB.out.set 0 (.slice pa cs.length pc)).set 1 (.slice pb hs.length pd)
        obtain ⟨r0, r1, _, _⟩ := BK.two KF
        refine bodyPost_ret (v := .tuple #[.agg #[.slice pa cs.length pc, .slice pb hs.length pd], .int .i64 2]) (by simp [results, Tryz.results52, go_sem, r0, r1]) rfl ?_
        obtain ⟨q1, q2⟩ := room_fin KI.law RM.out B4.out (r := w.heap.size + 1) (x0 := .slice pa cs.length pc) (x1 := .slice pb hs.length pd) (by omega) (by omega)
        rw [HE.out]
        exact ⟨_, _, _, _, rfl, q1, q2⟩
      · have HE : Hid (dropV cs hs x = (cs, hs.eraseIdx j, 0)) := by rw [Hid]; unfold dropV; rw [repoOk_true HG.out, if_pos rfl, hq]; exact if_neg h1
        have hb1 : ((hs.length : Int) == 1) = false := by simp; omega
        clear hq h1
        obtain ⟨a0, a1, _, _⟩ := KA.out.two
        obtain ⟨b0, b1, b2, b3⟩ := KB.out.two
        obtain ⟨c0, c1, _, _⟩ := KC.out.two
        go_wp2_with fail
        rw [show (j : Int) + 1 = ((j + 1 : Nat) : Int) by omega]
        refine (deleteH_any _ _ hs j (j + 1) _ RM.out.hds hj rfl (by have := HG.out.h2; omega)).mono ?_
        rintro e w5 ⟨v', rfl, hG5, ho5, ht5⟩
        have hV := hG5.form
        obtain ⟨pe, pf, rfl, _, _⟩ := hV
        have hx4 : ∀ y, (Value.slice pb hs.length pd).ownBlock = some y → w1.heap.size ≤ y ∧ y < w2.heap.size := fun y hy => RB.out y (.inr hy)
        have RM5 := Lib.hid (RM.out.heads KI.law ht5 hG5 fun y hy => .inl (ho5 ▸ hy))
        have n1 : ¬ (Value.slice pb hs.length pd).ownBlock = some w.heap.size := fun e => by have := (hx4 _ e).1; omega
        have n2 : ¬ (Value.slice pb hs.length pd).ownBlock = some (w.heap.size + 1) := fun e => by have := (hx4 _ e).1; omega
        have n3 : ¬ (Value.slice pb hs.length pd).ownBlock = some w2.heap.size := fun e => by have := (hx4 _ e).2; omega
        have KB5 : Hid (BK w5 (w.heap.size + 1) #[.slice none 0 0, .slice none 0 0] 46) := (ht5.block _ KB.out.lt n2).trans KB.out
        have KC5 : Hid (BK w5 w2.heap.size #[.slice pa cs.length pc, .slice pb hs.length pd] 46) := (ht5.block _ KC.out.lt n3).trans KC.out
        have B5 : Hid (Below w.heap.size w w5) := B4.out.trans (ht5.below B4.out.size fun y hy => by have := (hx4 _ hy).1; omega)
        have RB5 : Hid (∀ y, inRoom (.slice pa cs.length pc) (.slice pe (hs.eraseIdx j).length pf) cs.length S y → y ≠ w2.heap.size) := fun y hy e => hy.elim (fun h => by have := (RB.out y (.inl h)).2; omega) fun h => by have := (hx4 y (ho5 ▸ h)).2; omega
        have y5 := KC5.out.lt
        have y6 := KB5.out.lt
        clear ht5 hG5 ho5 b0 b1 b2 b3 c0 c1 a0 a1 n1 n2 n3 hx4
        obtain ⟨b0, b1, b2, b3⟩ := KB5.out.two
        obtain ⟨c0, c1, c2, c3⟩ := KC5.out.two
        go_wp2
        have T6 : Turned w5 (w5.setCell ⟨w2.heap.size, 1, none⟩ (.slice pe (hs.eraseIdx j).length pf)) (fun y => y = w2.heap.size) := Turned.of_set _ _ _ rfl
        have RM6 := RM5.out.turned KI.law T6 fun y hy e => RB5.out y hy e
        have B6 := B5.out.setCell (p := ⟨w2.heap.size, 1, none⟩) (by show w.heap.size ≤ w2.heap.size; omega) (.slice pe (hs.eraseIdx j).length pf)
        have KF := ((KB5.out.setOther (c := w2.heap.size) 1 (.slice pe (hs.eraseIdx j).length pf) (by omega)).set 0 (.slice pa cs.length pc)).set 1 (.slice pe (hs.eraseIdx j).length pf)
        obtain ⟨r0, r1, _, _⟩ := BK.two KF
        refine bodyPost_ret (v := .tuple #[.agg #[.slice pa cs.length pc, .slice pe (hs.eraseIdx j).length pf], .int .i64 0]) (by simp [results, Tryz.results52, go_sem, r0, r1]) rfl ?_
        obtain ⟨q1, q2⟩ := room_fin KI.law RM6 B6 (r := w.heap.size + 1) (x0 := .slice pa cs.length pc) (x1 := .slice pe (hs.eraseIdx j).length pf) (by omega) (by omega)
        rw [HE.out]
        exact ⟨_, _, _, _, rfl, q1, q2⟩
  · rw [repoOk_false hg]
    have HE : Hid (dropV cs hs x = ([], [], 4)) := by simp [Hid, dropV, repoOk_false hg]
    clear hg
    obtain ⟨b0, b1, b2, b3⟩ := KB.out.two
    go_wp2
    have KF := (KB.out.set 0 (.slice none 0 0)).set 1 (.slice none 0 0)
    obtain ⟨r0, r1, _, _⟩ := BK.two KF
    refine bodyPost_ret (v := .tuple #[.agg #[.slice none 0 0, .slice none 0 0], .int .i64 4]) (by simp [results, Tryz.results52, go_sem, r0, r1]) rfl ?_
    obtain ⟨q1, q2⟩ := room_fin KI.law (Room.start KI w1 w1.heap.size (Nat.le_refl _) (fun _ => (.slice none 0 0, .slice none 0 0, fun _ => ((none, 0), (none, 0)))) (fun _ _ => False)) B1.out (r := w.heap.size + 1) (x0 := .slice none 0 0) (x1 := .slice none 0 0) (by omega) (by omega)
    rw [HE.out]
    exact ⟨_, _, _, _, rfl, q1, q2⟩
end Go.Proofs.YtdfadpejddhbkaaGreat

namespace Go.Proofs.YtdfadpejddhbkaaGreat
set_option linter.unusedVariables false
open Go.ChangeShapes Go.WideShapes Go.ChangeAt Go.RowKit Go.Deep

set_option maxRecDepth 100000 in
set_option maxHeartbeats 4000000 in
theorem l3Cut_any (a : Option Addr) (cap : Nat) (fs : List Ft) (id : ByteArray) (w : World) (hp : FeatsAt w a fs) (hl : fs.length ≤ 1048576) :
    Calls Tryz.prog 61 #[.slice a fs.length cap, .string id] w fun e w' => (∃ a' cap', e = .returned (.slice a' (cutL fs id).length cap') ∧ FeatsAt w' a' (cutL fs id)) ∧ Below w.heap.size w w' := by
  obtain ⟨i0, hi, hz0, hz1, hz2⟩ := info_parts infoF
  have HI := Lib.hid hi
  have HZ0 := Lib.hid hz0
  have HZ1 := Lib.hid hz1
  have HZ2 := Lib.hid hz2
  have HP := Lib.hid hp
  clear hi hz0 hz1 hz2 hp
  go_enter Tryz.func61, Tryz.ntmps61
  go_wp2
  go_loopw [5, 6] (fun s i wr => ∃ (j : Nat) (v : Value) (ad : Nat → Pl), j ≤ fs.length ∧ i = .int .i64 j ∧ v = s ∧ Row wr (fun x => x < w.heap.size) w.heap.size v (cutN fs id j) (cutL fs id) ad ∧ Below w.heap.size w wr) (fun _ i _ => fs.length - (intOf i).toNat)
  case atStart => exact ⟨0, _, fun _ => ((none, 0), (none, 0)), Nat.zero_le _, rfl, rfl, ⟨World.ownsRow_made w #[] 0 (Nat.le_refl _) (by unfold maxLen; omega) rfl, fun _ h => absurd h (Nat.not_lt_zero _), fun _ h => absurd h (Nat.not_lt_zero _), fun _ h => absurd h (Nat.not_lt_zero _), fun _ h => absurd h (Nat.not_lt_zero _)⟩, (Below.refl _ _).alloc (Nat.le_refl _) _⟩
  case round =>
    obtain ⟨j, v, ad, hj, rfl, rfl, hro, hbel⟩ := hrel
    have hsz := hbel.size
    have HR := Lib.hid hro
    have HB := Lib.hid hbel
    by_cases hlt : j < fs.length
    · obtain ⟨b, off, pa, pc, ta, tc, rfl, hb, hc1, hc2, hc3, hc4, hpp, htt⟩ := HP.out j hlt
      rw [← hbel.cell (p := ⟨b, _, none⟩) hb] at hc1 hc2 hc3 hc4
      have zb : b < wr.heap.size := by omega
      have hbq := bytes_beq (fid fs j) id
      have PL : Hid ((fps fs j).length = 0 ∨ ∀ x, blk pa = some x → x < w.heap.size) := by
        by_cases h : (fps fs j).length = 0
        · exact .inl h
        · obtain ⟨b', o', rfl, h1, _⟩ := hpp 0 (by omega)
          exact .inr fun x hx => by obtain rfl : b' = x := (by simpa [blk] using hx); exact h1
      have TL : Hid ((fts fs j).length = 0 ∨ ∀ x, blk ta = some x → x < w.heap.size) := by
        by_cases h : (fts fs j).length = 0
        · exact .inl h
        · obtain ⟨b', o', rfl, h1, _⟩ := htt 0 (by omega)
          exact .inr fun x hx => by obtain rfl : b' = x := (by simpa [blk] using hx); exact h1
      have D1 := Lib.hid (hpp.below hbel)
      have D2 := Lib.hid (htt.below hbel)
      have HV : Hid (∀ x, v.ownBlock = some x → w.heap.size ≤ x) := fun x hx => (hro.row.lt x hx).1
      clear hro hbel hpp htt
      by_cases hs : fid fs j = id
      · rw [decide_eq_true hs] at hbq
        have HN := Lib.hid (cutN_no hlt hs)
        clear hs
        go_wp2
        go_roundw
        case rel => exact ⟨j + 1, v, ad, by omega, by go_num, rfl, by rw [HN.out]; exact HR.out, HB.out⟩
        case measure => simp [intOf]; omega
      · rw [decide_eq_false hs] at hbq
        have HN := Lib.hid (cutN_yes hlt hs)
        have hkl : cutN fs id j < 1048576 := by have := HN.out.2.2; have := cutL_len fs id; omega
        clear hs
        have A3 : Hid (∀ o, Below wr.heap.size wr (wr.alloc o)) := fun o => (Below.refl _ _).alloc (Nat.le_refl _) _
        go_wp2_with (at_builtin; refine wpList_append_lies _ (by rfl) _ _ _ (by rfl) w.heap.size 33 i0 _ 4 72 Tryz.underlying23 HI.out HZ0.out HZ1.out HZ2.out rfl (by omega) v (cutN fs id j) (flatF (cutL fs id) ad (cutN fs id j)) (by rfl) (HR.out.row.alloc _) ⟨wr.heap.size, 0, none⟩ 1 1 (cellsF (fg fs j) ((pa, pc), (ta, tc))) (by rfl) (by rfl) (World.news_of_block (cs := #[.string (fid fs j), .int .i64 (fkd fs j), .slice pa (fps fs j).length pc, .slice ta (fts fs j).length tc]) (t := 33) (fr := (0, 0)) (heap_alloc_new wr _)) (by simp [Value.oneCell', cellsF]) (by omega) (by unfold maxLen; omega) (by omega) (by simp; omega) (wr.heap.size + 1) (by simp) ?_; intro gg cap' wa hown1 hgrow hat hlt')
        have eg : fg (cutL fs id) (cutN fs id j) = fg fs j := HN.out.2.1
        have ep : fps (cutL fs id) (cutN fs id j) = fps fs j := by unfold fps; rw [eg]
        have et : fts (cutL fs id) (cutN fs id j) = fts fs j := by unfold fts; rw [eg]
        have HS : Hid (Row wa (fun x => x < w.heap.size) w.heap.size (.slice (some ⟨gg, 0, none⟩) (cutN fs id j + 1) cap') (cutN fs id j + 1) (cutL fs id) (plSet ad (cutN fs id j) ((pa, pc), (ta, tc)))) := by
          refine HR.out.step (Below.refl _ _) (A3.out _) (by simp) (by rw [ep]; exact D1.out) ?_ (by rw [et]; exact D2.out) ?_ (by rw [eg]; exact hown1) hgrow hat
          · rw [ep]
            exact PL.out.imp (fun h => h) fun q x hx => ⟨q x hx, by have := q x hx; omega, fun e => by have h1 := HV.out x e; have h2 := q x hx; omega⟩
          · rw [et]
            exact TL.out.imp (fun h => h) fun q x hx => ⟨q x hx, by have := q x hx; omega, fun e => by have h1 := HV.out x e; have h2 := q x hx; omega⟩
        have HG := Lib.hid hgrow
        clear hown1 hgrow hat eg ep et
        go_roundw
        case rel => exact ⟨j + 1, _, _, by omega, by go_num, rfl, by rw [HN.out.1]; exact HS.out, (HB.out.alloc hsz _).grown HG.out (by simp; omega) (fun x hx => HV.out x hx)⟩
        case measure => simp [intOf]; omega
    · obtain rfl : j = fs.length := by omega
      have HR' : Hid (Row wr (fun x => x < w.heap.size) w.heap.size v (cutL fs id).length (cutL fs id) ad) := by rw [← cutN_all fs id]; exact HR.out
      obtain ⟨a', cap', rfl, hF, _⟩ := HR'.out.reads
      have HF := Lib.hid hF
      clear hro hbel hF
      go_wp2
      go_ret
      exact ⟨⟨a', cap', rfl, HF.out⟩, HB.out⟩

set_option maxRecDepth 100000 in
set_option maxHeartbeats 4000000 in
theorem l3Copy_any (a : Option Addr) (cap : Nat) (fs : List Ft) (w : World) (hp : FeatsAt w a fs) (hl : fs.length ≤ 1048576) (hL : FeatsLen fs 1048576) (hpos : ∀ i, i < fs.length → 0 < (fps fs i).length) :
    Calls Tryz.prog 60 #[.slice a fs.length cap] w fun e w' => (∃ v, e = .returned v ∧ GotL w.heap.size w'.heap.size w' v fs) ∧ Below w.heap.size w w' := by
  obtain ⟨i0, hi, hz0, hz1, hz2⟩ := info_parts infoF
  have HI := Lib.hid hi
  have HZ0 := Lib.hid hz0
  have HZ1 := Lib.hid hz1
  have HZ2 := Lib.hid hz2
  have HP := Lib.hid hp
  have HL := Lib.hid hL
  have HQ := Lib.hid hpos
  clear hi hz0 hz1 hz2 hp hL hpos
  go_enter Tryz.func60, Tryz.ntmps60
  go_wp2
  go_loopw [3, 4] (fun s i wr => ∃ (k : Nat) (v : Value) (ad : Nat → Pl), k ≤ fs.length ∧ i = .int .i64 k ∧ v = s ∧ Row wr (fun x => w.heap.size ≤ x) w.heap.size v k fs ad ∧ Below w.heap.size w wr) (fun _ i _ => fs.length - (intOf i).toNat)
  case atStart => exact ⟨0, _, fun _ => ((none, 0), (none, 0)), Nat.zero_le _, rfl, rfl, ⟨World.ownsRow_made w #[] 0 (Nat.le_refl _) (by unfold maxLen; omega) rfl, fun _ h => absurd h (Nat.not_lt_zero _), fun _ h => absurd h (Nat.not_lt_zero _), fun _ h => absurd h (Nat.not_lt_zero _), fun _ h => absurd h (Nat.not_lt_zero _)⟩, (Below.refl _ _).alloc (Nat.le_refl _) _⟩
  case round =>
    obtain ⟨k, v, ad, hk, rfl, rfl, hro, hbel⟩ := hrel
    have hsz := hbel.size
    have HR := Lib.hid hro
    have HB := Lib.hid hbel
    by_cases hlt : k < fs.length
    · obtain ⟨b, off, pa, pc, ta, tc, rfl, hb, hc1, hc2, hc3, hc4, hpp, htt⟩ := HP.out k hlt
      rw [← hbel.cell (p := ⟨b, _, none⟩) hb] at hc1 hc2 hc3 hc4
      obtain ⟨l1, l2, l3, _⟩ := HL.out k hlt
      have h0 := HQ.out k hlt
      have D1 := Lib.hid (hpp.below hbel)
      have D2 := Lib.hid (htt.below hbel)
      have HV : Hid (∀ x, v.ownBlock = some x → w.heap.size ≤ x ∧ x < wr.heap.size) := fun x hx => hro.row.lt x hx
      clear hro hbel hpp htt
      go_wp2_with fail
      refine (l2Copy_got _ _ _ _ _ _ _ _ _ D1.out D2.out (by omega) h0 (by omega)).mono ?_
      rintro e w3 ⟨⟨v3, rfl, hg3⟩, hb3⟩
      obtain ⟨qa, qc, sa, sc, rfl, q1, q2, q3, q4⟩ := hg3
      have E1 := Lib.hid q1
      have E2 := Lib.hid q2
      have E3 := Lib.hid q3
      have E4 := Lib.hid q4
      have B3 := Lib.hid hb3
      have R3 : Hid (w3.ownsRow w.heap.size 33 4 v k (flatF fs ad k)) := ownsRow_below HR.out.row hb3
      have hz3 := hb3.size
      have A3 : Hid (∀ o, Below w3.heap.size w3 (w3.alloc o)) := fun o => (Below.refl _ _).alloc (Nat.le_refl _) _
      clear hb3 q1 q2 q3 q4 hc1 hc2 hc3 hc4
      go_wp2_with (at_builtin; refine wpList_append_lies _ (by rfl) _ _ _ (by rfl) w.heap.size 33 i0 _ 4 72 Tryz.underlying23 HI.out HZ0.out HZ1.out HZ2.out rfl (by omega) v k (flatF fs ad k) (by rfl) (R3.out.alloc _) ⟨w3.heap.size, 0, none⟩ 1 1 (cellsF (fg fs k) ((qa, qc), (sa, sc))) (by rfl) (by rfl) (World.news_of_block (cs := #[.string (fid fs k), .int .i64 (fkd fs k), .slice qa (fps fs k).length qc, .slice sa (fts fs k).length sc]) (t := 33) (fr := (0, 0)) (heap_alloc_new w3 _)) (by simp [Value.oneCell', cellsF]) (by omega) (by unfold maxLen; omega) (by omega) (by simp; omega) (w3.heap.size + 1) (by simp) ?_; intro gg cap' wa hown1 hgrow hat hlt')
      have HS : Hid (Row wa (fun x => w.heap.size ≤ x) w.heap.size (.slice (some ⟨gg, 0, none⟩) (k + 1) cap') (k + 1) fs (plSet ad k ((qa, qc), (sa, sc)))) := by
        refine HR.out.step B3.out (A3.out _) (by simp) E1.out ?_ E2.out ?_ hown1 hgrow hat
        · exact E3.out.imp (fun h => h) fun q x hx => ⟨by have := (q x hx).1; omega, (q x hx).2, fun e => by have h1 := (HV.out x e).2; have h2 := (q x hx).1; omega⟩
        · exact E4.out.imp (fun h => h) fun q x hx => ⟨by have := (q x hx).1; omega, (q x hx).2, fun e => by have h1 := (HV.out x e).2; have h2 := (q x hx).1; omega⟩
      have HG := Lib.hid hgrow
      clear hown1 hgrow hat
      go_roundw
      case rel => exact ⟨k + 1, _, _, by omega, by go_num, rfl, HS.out, ((HB.out.trans (B3.out.mono hsz)).alloc (by omega) _).grown HG.out (by simp; omega) (fun x hx => (HV.out x hx).1)⟩
      case measure => simp [intOf]; omega
    · obtain rfl : k = fs.length := by omega
      have HG := Lib.hid HR.out.got
      clear hro hbel
      go_wp2
      go_ret
      exact ⟨⟨v, rfl, HG.out⟩, HB.out⟩

theorem cutL_pos {fs : List Ft} (id : ByteArray) (hok : sheetOk fs = true) : ∀ i, i < (cutL fs id).length → 0 < (fps (cutL fs id) i).length := by
  intro i hi
  have hm : (cutL fs id)[i] ∈ fs := (List.mem_filter.1 (List.getElem_mem hi)).1
  obtain ⟨j, hj, e⟩ := List.getElem_of_mem hm
  have := ftOk_pts (good_ok hok hj)
  unfold fps at this ⊢
  rwa [fg_get hi, ← e, ← fg_get hj]

set_option maxRecDepth 100000 in
set_option maxHeartbeats 4000000 in
theorem specSheetCut_any (a : Option Addr) (cap : Nat) (fs : List Ft) (id : ByteArray) (w : World) (hp : FeatsAt w a fs) (hl : fs.length ≤ 1048576) (ht : FeatsLen fs 1048576) :
    Calls Tryz.prog 16 #[.slice a fs.length cap, .string id] w fun e w' => (∃ v, e = .returned (.tuple #[v, .bool (getHas fs id)]) ∧ GotL w.heap.size w'.heap.size w' v (cutR fs id)) ∧ Below w.heap.size w w' := by
  have HP := Lib.hid hp
  have HL := Lib.hid ht
  clear hp ht
  go_enter Tryz.func16, Tryz.ntmps16
  go_wp2_with fail
  refine (specSheetOk_any _ _ _ _ HP.out hl HL.out).mono ?_
  rintro e w1 ⟨rfl, hb1⟩
  have B1 := Lib.hid hb1
  clear hb1
  by_cases hok : sheetOk fs = true
  · rw [hok]
    go_wp2_with fail
    refine (l3Find_any _ _ _ _ _ (HP.out.below B1.out) hl).mono ?_
    rintro e w2 ⟨rfl, rfl⟩
    by_cases hlt : firstF fs id < fs.length
    · have hfv : findV fs id = (firstF fs id : Int) := by unfold findV; rw [if_pos hlt]
      have HH : Hid (getHas fs id = true) := by show _ = _; simp [getHas, hok, hlt]
      have HG : Hid (cutR fs id = cutL fs id) := by show _ = _; unfold cutR; rw [HH.out, if_pos rfl]
      have HQ := Lib.hid (cutL_pos id hok)
      have hcl := cutL_len fs id
      rw [hfv]
      generalize firstF fs id = i at *
      clear hok
      go_wp2_with fail
      refine (l3Cut_any _ _ _ _ _ (HP.out.below B1.out) hl).mono ?_
      rintro e w2 ⟨⟨a2, cap2, rfl, hF⟩, hb2⟩
      have B2 : Hid (Below w.heap.size w w2) := B1.out.trans (hb2.mono B1.out.size)
      have HF := Lib.hid hF
      clear hb2 hF
      go_wp2_with fail
      refine (l3Copy_any _ _ _ _ HF.out (by omega) (cutL_lens id HL.out) HQ.out).mono ?_
      rintro e w3 ⟨⟨v, rfl, hg⟩, hb3⟩
      have B3 : Hid (Below w.heap.size w w3) := B2.out.trans (hb3.mono B2.out.size)
      have GG : Hid (GotL w.heap.size w3.heap.size w3 v (cutL fs id)) := hg.mono B2.out.size (Nat.le_refl _)
      clear hb3 hg
      go_wp2
      go_ret2
      rw [HH.out, HG.out]
      exact ⟨⟨v, rfl, GG.out⟩, B3.out⟩
    · have hfv : findV fs id = -1 := by unfold findV; rw [if_neg hlt]
      have HH : Hid (getHas fs id = false) := by show _ = _; simp [getHas, hlt]
      have HG : Hid (cutR fs id = []) := by show _ = _; unfold cutR; rw [HH.out]; rfl
      rw [hfv]
      clear hok
      go_wp2
      go_ret2
      rw [HH.out, HG.out]
      exact ⟨⟨_, rfl, gotL_nil _ _ _ _ _⟩, B1.out.alloc B1.out.size _⟩
  · have hok' : sheetOk fs = false := by simpa using hok
    have HH : Hid (getHas fs id = false) := by show _ = _; simp [getHas, hok']
    have HG : Hid (cutR fs id = []) := by show _ = _; unfold cutR; rw [HH.out]; rfl
    rw [hok']
    clear hok hok'
    go_wp2
    go_ret2
    rw [HH.out, HG.out]
    exact ⟨⟨_, rfl, gotL_nil _ _ _ _ _⟩, B1.out.alloc B1.out.size _⟩
end Go.Proofs.YtdfadpejddhbkaaGreat

namespace Go.Proofs.YtdfadpejddhbkaaGreat
set_option linter.unusedVariables false
open Go.ChangeShapes Go.WideShapes Go.ChangeAt Go.RowKit Go.Deep

theorem wp_append_void {P : Program} (w : World) {o : Oper} {a : Act} {K : Act → World → Prop} {Q : Exit → Act → World → Prop} (s x : Operand) (t : TypeId) (hop : o.op = Op.call { callee := Callee.builtin Builtin.append, args := #[s, x], argTypes := #[t, t] })
    (e : TypeId) (i : TypeInfo) (ht : P.underlying t = some (.slice e)) (hi : P.info? e = some i)
    (p q : Option Addr) (k c d : Nat) (h : k ≤ c) (hs : a.eval s = .slice p k c) (hx : a.eval x = .slice q 0 d) (hK : K (a.put o.dst (.slice p k c)) w) : Oper.wp P o a w K Q := by
  have hr := run_append_void (P := P) w t o.type e i ht hi p q k c d h
  unfold Oper.wp execOp
  simp only [hop, resolve, invoke, builtin, Sem.run_bind, Sem.run_pure, Result.andThen_ok, List.map_toArray, List.map_cons, List.map_nil, hs, hx, hr]
  exact hK

/-- appending a row of numbers, or nothing, at a step of a region that draws its order -/
theorem step_moreI {ops : Array Oper} {o : Oper} {a : Act} {K : Act → World → Prop} {Q : Exit → Act → World → Prop} {E : Prop} {lo : Nat} {W : World} {ml p : List Int} {v : Value} {pr : Option Addr} {cr : Nat}
    (hg : o.guard = none) (s x : Operand) (hop : o.op = Op.call { callee := Callee.builtin Builtin.append, args := #[s, x], argTypes := #[49, 49] })
    (hG : GrowI lo ml W v) (hp : IntsAt W pr p) (hs : a.eval s = v) (hx : a.eval x = .slice pr p.length cr) (hb : ml.length + p.length ≤ 1000000)
    (hK : ∀ r a' c' W', Hid (r = ml ++ p) → W.grownBy W' v.ownBlock → GrowI lo r W' (.slice a' r.length c') → (∀ j, v.ownBlock = some j → lo ≤ j) → K (a.put o.dst (.slice a' r.length c')) W') :
    if Region.wanted o (yielded ops a.tmps) = true then Oper.wp Tryz.prog o a W K Q else E := by
  have hw : Region.wanted o (yielded ops a.tmps) = true := by simp [Region.wanted, hg]
  rw [if_pos hw]
  obtain ⟨i0, hi, hz0, hz1, hz2⟩ := info_parts infoInt
  by_cases h0 : 0 < p.length
  · obtain ⟨b, off, rfl, hlt, _⟩ := hp 0 h0
    refine wp_append_lies W s x 49 hop lo 3 i0 _ 1 8 Tryz.underlying49 hi hz0 hz1 hz2 rfl (by omega) v ml.length (flatI ml) hs hG.own ⟨b, off, none⟩ p.length cr (flatI p) hx (by simp [flatI]) (news_ints hp) (by simp [flatI, Value.oneCell']) h0 (by unfold maxLen; omega) (by omega) hG.le W.heap.size rfl ?_
    intro g cap w' hown hgrow _ _
    have hf : flatI ml ++ flatI p = flatI (ml ++ p) := by simp [flatI]
    rw [hf, ← List.length_append] at hown
    rw [← List.length_append]
    exact hK _ _ _ _ rfl hgrow ⟨hown, Nat.le_trans hG.le hgrow.size⟩ hG.block
  · obtain rfl : p = [] := List.eq_nil_of_length_eq_zero (by omega)
    obtain ⟨av, cv, rfl, hcv, _⟩ := hG.form
    refine wp_append_void W s x 49 hop 3 i0 Tryz.underlying49 hi av pr ml.length cv cr hcv hs hx ?_
    exact hK ml av cv W (by show _ = _; rw [List.append_nil]) ⟨rfl, rfl, rfl, Nat.le_refl _, fun _ _ _ => rfl⟩ hG hG.block

/-- what the model's copy of a version answers -/
def OneAns (w : World) (c : Cm) (e : Ending) (w' : World) : Prop :=
  ∃ ua uc sa sc, e = .returned (.agg #[.slice ua c.1.length uc, .slice sa c.2.1.length sc, .string c.2.2]) ∧ KS w' c (.slice ua c.1.length uc, .slice sa c.2.1.length sc, fun _ => ((none, 0), (none, 0))) (fun x => w.heap.size ≤ x ∧ x < w'.heap.size) ∧ Below w.heap.size w w'

theorem KS.mk {w1 w2 w' : World} {lo lo1 lo2 hi2 : Nat} {c : Cm} {ua : Option Addr} {uc : Nat} {v : Value} (hI : GrowI lo1 c.1 w1 (.slice ua c.1.length uc)) (t1 : Below w1.heap.size w1 w') (hF : GotL lo2 hi2 w2 v c.2.1) (t2 : Below w2.heap.size w2 w') (h1 : lo ≤ lo1) (h2 : lo ≤ lo2) (h3 : hi2 ≤ w2.heap.size) :
    ∃ sa sc, v = .slice sa c.2.1.length sc ∧ KS w' c (.slice ua c.1.length uc, .slice sa c.2.1.length sc, fun _ => ((none, 0), (none, 0))) (fun x => lo ≤ x ∧ x < w'.heap.size) := by
  obtain ⟨sa, sc, rfl, hFA, hR⟩ := hF
  have hF : GotL lo2 hi2 w2 (.slice sa c.2.1.length sc) c.2.1 := ⟨sa, sc, rfl, hFA, hR⟩
  have hI' := hI.below t1
  have z2 := t2.size
  refine ⟨sa, sc, rfl, ua, uc, sa, sc, rfl, rfl, fun w2' T ht hn => ⟨?_, ?_⟩⟩
  · obtain ⟨_, _, e, _, h⟩ := (hI'.turned ht fun k hk => hn k ⟨Nat.le_trans h1 (hI'.own.lt k hk).1, (hI'.own.lt k hk).2⟩).form
    cases e
    exact h
  · have h := (hF.turned (S := fun _ => False) (Turned.of_below t2) fun _ _ _ h => h).turned ht fun x hx hy => hn x ⟨by omega, by omega⟩
    exact h.reads


theorem KS.wide {w : World} {c : Cm} {p : PlO} {S T : Nat → Prop} (h : KS w c p S) (hs : ∀ x, S x → T x) : KS w c p T := by
  obtain ⟨ua, uc, sa, sc, e1, e2, q⟩ := h
  exact ⟨ua, uc, sa, sc, e1, e2, fun w' U ht hn => q w' U ht fun x hx => hn x (hs x hx)⟩

set_option maxRecDepth 100000 in
set_option maxHeartbeats 8000000 in
theorem l7One_any (c : Cm) (ua : Option Addr) (uc : Nat) (sa : Option Addr) (sc : Nat) (w : World) (hu : IntsAt w ua c.1) (hs : FeatsAt w sa c.2.1) (hul : c.1.length ≤ 1000000) (hsl : c.2.1.length ≤ 1048576) (hL : FeatsLen c.2.1 1048576) (hpos : ∀ i, i < c.2.1.length → 0 < (fps c.2.1 i).length) :
    Calls Tryz.prog 112 #[.agg #[.slice ua c.1.length uc, .slice sa c.2.1.length sc, .string c.2.2]] w (OneAns w c) := by
  have HU := Lib.hid hu
  have HS := Lib.hid hs
  have HL := Lib.hid hL
  have HP := Lib.hid hpos
  clear hu hs hL hpos
  go_enter Tryz.func112, Tryz.ntmps112
  go_upto_region 1 with (fail)
  obtain ⟨W, hW⟩ : ∃ W, W = ((w.alloc (.cells #[.slice ua c.1.length uc, .slice sa c.2.1.length sc, .string c.2.2] 54)).alloc (.cells #[.slice none 0 0, .slice none 0 0, .string ⟨#[]⟩] 54)) := ⟨_, rfl⟩
  rw [← hW]
  have B0 : Hid (Below w.heap.size w W) := by rw [hW]; exact ((Below.refl _ _).alloc (Nat.le_refl _) _).alloc (by simp) _
  have zW : w.heap.size + 1 < W.heap.size := by rw [hW]; simp
  have KA : Hid (BK W w.heap.size #[.slice ua c.1.length uc, .slice sa c.2.1.length sc, .string c.2.2] 54) := by rw [hW]; exact (BK.new _ _ _).alloc _
  have KB : Hid (BK W (w.heap.size + 1) #[.slice none 0 0, .slice none 0 0, .string ⟨#[]⟩] 54) := by rw [hW]; exact BK.at _ _ _ (by simp)
  have SOF : Hid (∀ wy, Kept1 W (w.heap.size + 1) wy → wy.cell? ⟨w.heap.size, 0, none⟩ = some (.slice ua c.1.length uc) ∧ wy.cell? ⟨w.heap.size, 1, none⟩ = some (.slice sa c.2.1.length sc) ∧ wy.cell? ⟨w.heap.size, 2, none⟩ = some (.string c.2.2) ∧ wy.cell? ⟨w.heap.size + 1, 0, none⟩ = some (cellOf wy (w.heap.size + 1) 0) ∧ wy.cell? ⟨w.heap.size + 1, 1, none⟩ = some (cellOf wy (w.heap.size + 1) 1) ∧ wy.cell? ⟨w.heap.size + 1, 2, none⟩ = some (cellOf wy (w.heap.size + 1) 2) ∧ wy.frozen? ⟨w.heap.size + 1, 0, none⟩ = false ∧ wy.frozen? ⟨w.heap.size + 1, 1, none⟩ = false ∧ wy.frozen? ⟨w.heap.size + 1, 2, none⟩ = false ∧ Kept1 W (w.heap.size + 1) wy) := by
    intro wy hb
    have far : ∀ {x o : Nat} {u : Value}, W.cell? ⟨x, o, none⟩ = some u → x ≠ w.heap.size + 1 → wy.cell? ⟨x, o, none⟩ = some u := fun h hne => (hb.grown.cell_far _ (World.block_lt_of_cell? _ _ h) (by simpa using hne)).trans h
    have hf : ∀ o, wy.frozen? ⟨w.heap.size + 1, o, none⟩ = false := fun o => (hb.soft _ (by show w.heap.size + 1 < _; omega)).trans (KB.out.frozen o)
    exact ⟨far (KA.out.cell 0 rfl) (by omega), far (KA.out.cell 1 rfl) (by omega), far (KA.out.cell 2 rfl) (by omega), cellOf_some (hb.some _ (by rw [KB.out.cell 0 rfl]; rfl)), cellOf_some (hb.some _ (by rw [KB.out.cell 1 rfl]; rfl)), cellOf_some (hb.some _ (by rw [KB.out.cell 2 rfl]; rfl)), hf 0, hf 1, hf 2, hb⟩
  have m1 : ¬ w.heap.size = w.heap.size + 1 := by omega
  have m2 : ¬ w.heap.size + 1 = w.heap.size := by omega
  clear hW
  go_cut [12] (fun _ wx => ∃ ua uc sa sc, wx.cell? ⟨w.heap.size + 1, 0, none⟩ = some (.slice ua c.1.length uc) ∧ wx.cell? ⟨w.heap.size + 1, 1, none⟩ = some (.slice sa c.2.1.length sc) ∧ wx.cell? ⟨w.heap.size + 1, 2, none⟩ = some (.string c.2.2) ∧ KS wx c (.slice ua c.1.length uc, .slice sa c.2.1.length sc, fun _ => ((none, 0), (none, 0))) (fun x => w.heap.size ≤ x ∧ x < wx.heap.size) ∧ Below w.heap.size w wx)
  case first =>
    go_region_held3 (fun wy => wy.cell? ⟨w.heap.size, 0, none⟩ = some (.slice ua c.1.length uc) ∧ wy.cell? ⟨w.heap.size, 1, none⟩ = some (.slice sa c.2.1.length sc) ∧ wy.cell? ⟨w.heap.size, 2, none⟩ = some (.string c.2.2) ∧ wy.cell? ⟨w.heap.size + 1, 0, none⟩ = some (cellOf wy (w.heap.size + 1) 0) ∧ wy.cell? ⟨w.heap.size + 1, 1, none⟩ = some (cellOf wy (w.heap.size + 1) 1) ∧ wy.cell? ⟨w.heap.size + 1, 2, none⟩ = some (cellOf wy (w.heap.size + 1) 2) ∧ wy.frozen? ⟨w.heap.size + 1, 0, none⟩ = false ∧ wy.frozen? ⟨w.heap.size + 1, 1, none⟩ = false ∧ wy.frozen? ⟨w.heap.size + 1, 2, none⟩ = false ∧ Kept1 W (w.heap.size + 1) wy)
      (first
        | with_reducible exact HSa
        | with_reducible exact HSb
        | with_reducible exact SOF.out _ (Kept1.refl zW).drew
        | with_reducible exact SOF.out _ ((Kept1.refl zW).alloc _).drew
        | (go_split_ands; rename_i hS; with_reducible exact SOF.out _ (hS.alloc _))
        | (go_split_ands; rename_i hS; with_reducible exact SOF.out _ (((hS.set _ _).set _ _).set _ _)))
      (first
        | (go_at_call 60
           refine (l3Copy_any sa sc c.2.1 _ ?_ hsl HL.out HP.out).mono ?_
           · (go_split_ands; rename_i hS; exact HS.out.below (hS.under B0.out))
           rintro e wn ⟨⟨_, rfl, a3, c3, rfl, hgF, hgR⟩, hbn⟩
           have HSb := SOF.out wn (by first | exact (Kept1.refl zW).drew.below hbn | exact ((Kept1.refl zW).alloc _).drew.below hbn | exact (((Kept1.refl zW).alloc _).drew.grow hgrow hgb).below hbn))
        | (refine step_moreI (lo := W.heap.size) (by rfl) _ _ (by rfl) (by first | exact (GrowI.made W).below (drew_below _) | exact ((GrowI.made W).below (drew_below _)).below hbn | exact (GrowI.made _).low2 hbn.size) ?_ (by rfl) (by rfl) (by simp; omega) ?_
           · (go_split_ands; rename_i hS; exact HU.out.below (hS.under B0.out))
           intro r a2 c2 wa hr hgrow hG2 hgb
           have HSa := SOF.out wa (by first | exact (((Kept1.refl zW).alloc _).drew).grow hgrow hgb | exact ((((Kept1.refl zW).alloc _).drew).below hbn).grow hgrow hgb | exact ((((Kept1.refl zW).drew).below hbn).alloc _).grow hgrow hgb))
        | fail)
    all_goals
      obtain rfl : r = c.1 := hr.out
      go_wp2_with fail
      go_meet
      obtain ⟨sa', sc', es, hk⟩ := KS.mk (w' := wn) hG2 hbn (v := .slice a3 c.2.1.length c3) ⟨a3, c3, rfl, hgF, hgR⟩ (Below.refl _ _) (Nat.le_refl W.heap.size) (by have := hgrow.size; simp [World.drew] at this; omega) (Nat.le_refl _)
      cases es
      have T3 : Turned wn (((wn.setCell ⟨w.heap.size + 1, 0, none⟩ (.slice a2 c.1.length c2)).setCell ⟨w.heap.size + 1, 1, none⟩ (.slice a3 c.2.1.length c3)).setCell ⟨w.heap.size + 1, 2, none⟩ (.string c.2.2)) (fun x => x = w.heap.size + 1) := ((Turned.of_set (S := fun x => x = w.heap.size + 1) _ _ _ rfl).trans (Turned.of_set _ _ _ rfl)).trans (Turned.of_set _ _ _ rfl)
      have hgr : Below W.heap.size W wa := (((Below.refl W.heap.size W).alloc (Nat.le_refl _) _).drew).grown hgrow (by simp [World.drew]) hgb
      have hW := hgr.trans (hbn.mono hgr.size)
      have K := (((KB.out.later hW).set 0 (.slice a2 c.1.length c2)).set 1 (.slice a3 c.2.1.length c3)).set 2 (.string c.2.2)
      refine ⟨_, _, _, _, K.cell 0 (v := .slice a2 c.1.length c2) rfl, K.cell 1 (v := .slice a3 c.2.1.length c3) rfl, K.cell 2 (v := .string c.2.2) rfl, ?_, (B0.out.trans (hW.mono B0.out.size)).trans (T3.below (by have := hW.size; omega) fun x hx => by omega)⟩
      exact (KS.law.keep hk (fun x hx => hx.2) T3 fun x hx e => by have := hx.1; omega).wide fun x hx => ⟨by have := hx.1; omega, by have := hx.2; have := T3.size; omega⟩
  case rest =>
    obtain ⟨ua', uc', sa', sc', r0, r1, r2, hK, hB⟩ := hcut
    go_wp2
    refine bodyPost_ret (v := .agg #[.slice ua' c.1.length uc', .slice sa' c.2.1.length sc', .string c.2.2]) (by simp [results, Tryz.results112, go_sem, r0, r1, r2]) rfl ?_
    exact ⟨ua', uc', sa', sc', rfl, hK, hB⟩

set_option maxRecDepth 100000 in
set_option maxHeartbeats 8000000 in
theorem l7Copy_any (a b : Option Addr) (ca cb : Nat) (cs : List Cm) (hs : List Hd) (w : World) (hr : RepoAt w a b cs hs) (hl : RpLen cs hs 1048576) (hf : RpFew cs hs) (hpos : ∀ j, j < cs.length → ∀ i, i < (mg cs j).2.1.length → 0 < (fps (mg cs j).2.1 i).length) :
    Calls Tryz.prog 90 #[.agg #[.slice a cs.length ca, .slice b hs.length cb]] w (CopyAns KS w cs hs) := by
  obtain ⟨_, _, l3, _⟩ := hl
  obtain ⟨l1, l2, l4⟩ := hf
  have L4 := Lib.hid l4
  obtain ⟨i0, hi, hz0, hz1, hz2⟩ := info_parts infoCommit
  have HI := Lib.hid hi
  have HZ0 := Lib.hid hz0
  have HZ1 := Lib.hid hz1
  have HZ2 := Lib.hid hz2
  have HC := Lib.hid hr.cms
  have HH := Lib.hid hr.hds
  have L3 := Lib.hid l3
  have HP := Lib.hid hpos
  clear hr l3 l4 hi hz0 hz1 hz2 hpos
  go_enter Tryz.func90, Tryz.ntmps90
  go_upto_region 1 with (fail)
  obtain ⟨W, hW⟩ : ∃ W, W = ((w.alloc (.cells #[.slice a cs.length ca, .slice b hs.length cb] 46)).alloc (.cells #[.slice none 0 0, .slice none 0 0] 46)) := ⟨_, rfl⟩
  rw [← hW]
  have BW : Hid (Below w.heap.size w W) := by rw [hW]; exact ((Below.refl _ _).alloc (Nat.le_refl _) _).alloc (by simp) _
  have Y1 : Hid (BK W w.heap.size #[.slice a cs.length ca, .slice b hs.length cb] 46) := by rw [hW]; exact (BK.new _ _ _).alloc _
  have Y2 : Hid (BK W (w.heap.size + 1) #[.slice none 0 0, .slice none 0 0] 46) := by rw [hW]; exact BK.at _ _ _ (by simp)
  have zW : w.heap.size + 1 < W.heap.size := by rw [hW]; simp
  have zW0 : w.heap.size < W.heap.size := by omega
  have A1 : Hid (∀ o, Below W.heap.size W (W.alloc o)) := fun o => (Below.refl _ _).alloc (Nat.le_refl _) _
  have HM := Lib.hid (GrowH.made W)
  have hpW := Lib.hid (HH.out.below BW.out)
  clear hW HH
  have y0 := Y1.out.cell 1 (v := .slice b hs.length cb) rfl
  go_upto_region 2 with (at_builtin; refine wpList_moreH (by rfl) _ _ (by rfl) HM.out (hpW.out.below (A1.out _)) (by rfl) (by rfl) (by simp; omega) ?_; intro r bh ch w1 hr hgrow hG2 hat2; have RR := Lib.hid hr; have HGR := Lib.hid hgrow; have HG2 := Lib.hid hG2; clear hr hgrow hG2 hat2)
  obtain rfl : r = hs := RR.out
  have B1 : Hid (Below W.heap.size W w1) := (A1.out _).grown HGR.out (by simp) fun k hk => HM.out.block k hk
  have X1 := Lib.hid (Y1.out.later B1.out)
  have X2 := Lib.hid (Y2.out.later B1.out)
  have z1 := X2.out.lt
  have z0 := X1.out.lt
  have zW1 := B1.out.size
  clear y0 HM hpW A1 HGR RR Y1 Y2
  have c0 := X1.out.cell 0 (v := .slice a cs.length ca) rfl
  have X3 : Hid (BK (w1.alloc (.cells #[.slice none 0 0, .slice bh r.length ch] 46)) w1.heap.size #[.slice none 0 0, .slice bh r.length ch] 46) := BK.new _ _ _
  have BA : Hid (Below w1.heap.size w1 (w1.alloc (.cells #[.slice none 0 0, .slice bh r.length ch] 46))) := (Below.refl _ _).alloc (Nat.le_refl _) _
  go_wp2
  go_loopw [4] (fun i wr => ∃ (k : Nat) (cv : Value) (ad : Nat → PlO) (S : Nat → Nat → Prop), k ≤ cs.length ∧ i = .int .i64 k ∧ BK wr w1.heap.size #[cv, .slice bh r.length ch] 46 ∧ Cms KS wr (w1.heap.size + 1) cv k cs ad S ∧ Below w1.heap.size w1 wr) (fun i _ => cs.length - (intOf i).toNat)
  case atStart => exact ⟨0, _, fun _ => (.slice none 0 0, .slice none 0 0, fun _ => ((none, 0), (none, 0))), fun _ _ => False, Nat.zero_le _, rfl, X3.out, Cms.start _ _ _ _ _ _, BA.out⟩
  case round =>
    clear X3 BA c0
    obtain ⟨k, cv, ad, S, hk, rfl, hbk, hcm, hbel⟩ := hrel
    have KB := Lib.hid hbk
    have CM := Lib.hid hcm
    have HB := Lib.hid hbel
    have hsz := hbel.size
    have zB := hbk.lt
    have X1r := Lib.hid (X1.out.later hbel)
    have p0 := X1r.out.cell 0 (v := .slice a cs.length ca) rfl
    by_cases hlt : k < cs.length
    · obtain ⟨b', off, ua, uc, sa, sc, rfl, hx⟩ := HC.out k hlt
      have BWr : Below w.heap.size w wr := BW.out.trans ((B1.out.trans (hbel.mono zW1)).mono BW.out.size)
      obtain ⟨hb, d0, d1, d2, hii, hff⟩ := hx.below BWr
      have II := Lib.hid hii
      have FF := Lib.hid hff
      obtain ⟨m1, m2, m3, m4⟩ := L3.out k hlt
      have M3 := Lib.hid m3
      have m5 := L4.out k hlt
      have HPk := Lib.hid (HP.out k hlt)
      have f0 := KB.out.cell 0 (v := cv) rfl
      clear hbk hcm hbel hx hii hff BWr m3
      go_upto_region 5 with (fail)
      go_region_law (first
        | (have hq := NC; clear hq; refine step_append_lies _ (by rfl) _ _ _ (by rfl) (w1.heap.size + 1) 54 i0 _ 3 64 Tryz.underlying43 HI.out HZ0.out HZ1.out HZ2.out rfl (by omega) cv k (flatM cs ad k) (by rfl) (R3.out.alloc _) ⟨w3.heap.size, 0, none⟩ 1 1 (cellsM (mg cs k) (.slice a2 (mg cs k).1.length c2, .slice a3 (mg cs k).2.1.length c3, fun _ => ((none, 0), (none, 0)))) (by rfl) (by rfl) (World.news_of_block (cs := #[.slice a2 (mg cs k).1.length c2, .slice a3 (mg cs k).2.1.length c3, .string (mg cs k).2.2]) (t := 54) (fr := (0, 0)) (heap_alloc_new w3 _)) (by simp [Value.oneCell', cellsM]) (by omega) (by unfold maxLen; omega) (by omega) (by simp; omega) (w3.heap.size + 1) (by simp) ?_; intro gg cap' wa hown1 hgrow hat hlt'; have g0 : wa.cell? ⟨w1.heap.size, 0, none⟩ = some cv := alloc_grown_cell hgrow zB3 (K3.out.cell 0 (v := cv) rfl) NV.out; have g1 : wa.frozen? ⟨w1.heap.size, 0, none⟩ = false := (hgrow.frozen_far ⟨w1.heap.size, 0, none⟩ (by simp; omega) (fun e => NV.out e.symm)).trans ((Below.frozen (p := ⟨w1.heap.size, 0, none⟩) ((Below.refl w3.heap.size w3).alloc (Nat.le_refl _) _) zB3).trans (K3.out.frozen 0)); have OW := Lib.hid hown1; have GR := Lib.hid hgrow; have AT := Lib.hid hat; clear hown1 hgrow hat)
        | (go_simp; go_at_call 112; refine (l7One_any (mg cs k) ua uc sa sc _ (II.out.below (drew_below _)) (FF.out.below (drew_below _)) (by omega) (by omega) M3.out HPk.out).mono ?_; rintro e w3 ⟨a2, c2, a3, c3, rfl, hA, hbA⟩; have NC := Lib.hid hA; have B3 : Hid (Below wr.heap.size wr w3) := (drew_below wr).trans hbA; have K3 := Lib.hid (KB.out.later B3.out); have C3 := Lib.hid (CM.out.below KS.law B3.out); have R3 := Lib.hid C3.out.row; have zB3 := K3.out.lt; have f3 := K3.out.cell 0 (v := cv) rfl; have NV : Hid (cv.ownBlock ≠ some w1.heap.size) := (fun e => by have := (C3.out.row.lt _ e).1; omega); clear hA hbA; dsimp only)
        | fail)
      all_goals
        have P3 := NC.out
        have z3 := B3.out.size
        have HS : Hid (Cms KS wa (w1.heap.size + 1) (.slice (some ⟨gg, 0, none⟩) (k + 1) cap') (k + 1) cs _ _) := Cms.step KS.law (C3.out.below KS.law ((Below.refl _ _).alloc (Nat.le_refl _) _)) (KS.law.keep P3 (fun x hx => hx.2) (Turned.of_below (S := fun _ => False) ((Below.refl w3.heap.size w3).alloc (Nat.le_refl _) (.cells #[.slice a2 (mg cs k).1.length c2, .slice a3 (mg cs k).2.1.length c3, .string (mg cs k).2.2] 54))) fun _ _ h => h) (fun x hx => ⟨by have := hx.1; simp only [World.drew] at this; omega, by have := hx.2; simp; omega, fun e => by have h1 := (CM.out.row.lt x e).2; have := hx.1; simp only [World.drew] at this; omega, fun i hi hs => by have h1 := (CM.out.rng i hi x hs).2.1; have := hx.1; simp only [World.drew] at this; omega⟩) OW.out GR.out (AT.out.imp id fun e => by rw [e]; simp)
        have HE : Hid (Below w1.heap.size w1 wa) := (((HB.out.trans (B3.out.mono (by omega))).alloc (by omega) _).grown GR.out (by simp; omega) (fun j hj => by have := (C3.out.row.lt j hj).1; omega))
        have HK : Hid (BK wa w1.heap.size #[cv, .slice bh r.length ch] 46) := (GR.out.block _ (by simp; omega) (fun e => NV.out e.symm)).trans (K3.out.alloc _)
        clear g0 g1 f3 f0 p0 d0 d1 d2
        go_wp2
        go_roundw
        case rel => exact ⟨k + 1, _, _, _, by omega, by go_num, HK.out.set 0 _, HS.out.turned KS.law (Turned.of_set (S := fun x => x = w1.heap.size) _ _ _ rfl) (fun x hx e => by have := (HS.out.blocks x hx).1; omega), HE.out.setCell (Nat.le_refl _) _⟩
        case measure => simp [intOf]; omega
    · obtain rfl : k = cs.length := by omega
      clear hbk hcm hbel
      have f1 := KB.out.cell 1 (v := .slice bh r.length ch) rfl
      have X2r := Lib.hid (X2.out.later HB.out)
      have r0 := X2r.out.cell 0 (v := .slice none 0 0) rfl
      have r1 := X2r.out.cell 1 (v := .slice none 0 0) rfl
      have r2 := X2r.out.frozen 0
      have r3 := X2r.out.frozen 1
      obtain ⟨ac, cc, rfl, _, _⟩ := CM.out.form KS.law
      have f0 := KB.out.cell 0 (v := .slice ac cs.length cc) rfl
      go_wp2
      have KR := (X2r.out.set 0 (.slice ac cs.length cc)).set 1 (.slice bh r.length ch)
      have r4 := KR.cell 0 (v := .slice ac cs.length cc) rfl
      have r5 := KR.cell 1 (v := .slice bh r.length ch) rfl
      refine bodyPost_ret (v := .agg #[.slice ac cs.length cc, .slice bh r.length ch]) (by simp [results, Tryz.results90, go_sem, r4, r5]) rfl ?_
      have T2 : Turned wr ((wr.setCell ⟨w.heap.size + 1, 0, none⟩ (.slice ac cs.length cc)).setCell ⟨w.heap.size + 1, 1, none⟩ (.slice bh r.length ch)) (fun x => x = w.heap.size + 1) := (Turned.of_set (S := fun x => x = w.heap.size + 1) _ _ _ rfl).trans (Turned.of_set _ _ _ rfl)
      have GE := HG2.out.below HB.out
      have zh := HG2.out.own.lt
      refine ⟨_, _, ad, S, rfl, ⟨(CM.out.low (by omega)).turned KS.law T2 fun x hx e => by have := (CM.out.blocks x hx).1; omega, (GE.low (by omega)).turned T2 fun x hx e => by have := (zh x hx).1; omega, fun x hx hc => by have h1 := (zh x hx).2; have := (CM.out.blocks x hc).1; omega⟩, (BW.out.trans ((B1.out.trans (HB.out.mono zW1)).mono BW.out.size)).trans (T2.below (by have := BW.out.size; omega) fun x hx => by omega)⟩
end Go.Proofs.YtdfadpejddhbkaaGreat
