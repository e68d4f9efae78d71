/- Proved here: the model's copy of a thing is that thing in memory of its own; things with at least one point and one tag, at most 1,048,576 of each. -/
import Derived.Test.YtdfadpejddhbkaaWCopy
import Derived.Test.YtdfadpejddhbkaaWInOrder
import Derived.Test.YtdfadpejddhbkaaWMarkFeat
import Derived.Test.YtdfadpejddhbkaaWBox4
import Derived.Deep.RegionHeld3
import Derived.Deep.DeepCutAuto
namespace Go.Proofs.Ytdfadpejddhbkaa
set_option linter.unusedVariables false
open Go.ChangeShapes Go.WideShapes Go.ChangeAt Go.RowKit Go.Deep

theorem news_tags {w : World} {b off : Nat} {ts : List Tg} (h : TagsAt w (some ⟨b, off, none⟩) ts) : ∀ j u, (flatT ts)[j]? = some u → w.cell? ((⟨b, off, none⟩ : Addr).add j) = some u := by
  intro j u hu
  have hj : j < ts.length * 2 := by
    have := (List.getElem?_eq_some_iff.1 hu).1
    rw [flatT_len] at this
    exact this
  obtain ⟨b', off', e, _, h1, h2⟩ := h (j / 2) (by omega)
  obtain ⟨rfl, rfl⟩ : b = b' ∧ off = off' := by simpa using e
  obtain ⟨f1, f2⟩ := flatT_at ts (j / 2) (by omega)
  rw [add_plain]
  rcases (show j = j / 2 * 2 ∨ j = j / 2 * 2 + 1 by omega) with e | e
  · rw [← e] at f1 h1
    rw [hu] at f1
    rw [h1, f1]
  · rw [← e] at f2
    rw [Nat.add_assoc, ← e] at h2
    rw [hu] at f2
    rw [h2, f2]

theorem flatT_one (ts : List Tg) : ∀ u ∈ flatT ts, u.oneCell' = true := by
  intro u hu
  simp only [flatT, List.mem_flatMap] at hu
  obtain ⟨p, _, h⟩ := hu
  simp at h
  rcases h with rfl | rfl <;> rfl

theorem ownsRow_below {w w' : World} {base : Nat} {e : TypeId} {sz : Nat} {v : Value} {n : Nat} {xs : List Value} (h : w.ownsRow base e sz v n xs) (hb : Below w.heap.size w w') : w'.ownsRow base e sz v n xs := by
  obtain ⟨h1, h2 | ⟨g, cap, cur, h3, h4, hg, h5⟩⟩ := h
  · exact ⟨h1, .inl h2⟩
  · exact ⟨h1, .inr ⟨g, cap, cur, h3, h4, (hb.block g (Array.getElem?_eq_some_iff.1 hg).1).trans hg, h5⟩⟩

/-- what stands in a cell -/
def cellOf (w : World) (b o : Nat) : Value := (w.cell? ⟨b, o, none⟩).getD undef
theorem cellOf_some {w : World} {b o : Nat} (h : (w.cell? ⟨b, o, none⟩).isSome = true) : w.cell? ⟨b, o, none⟩ = some (cellOf w b o) := by
  unfold cellOf
  cases h1 : w.cell? ⟨b, o, none⟩
  · rw [h1] at h; cases h
  · rfl

/-- nothing that lay ahead has turned but one block's cells -/
structure Kept1 (W : World) (r : Nat) (wy : World) : Prop where
  grown : W.grownBy wy (some r)
  soft : ∀ p : Addr, p.block < W.heap.size → wy.frozen? p = W.frozen? p
  some : ∀ o, (W.cell? ⟨r, o, none⟩).isSome = true → (wy.cell? ⟨r, o, none⟩).isSome = true
  lt : r < W.heap.size

theorem Kept1.refl {W : World} {r : Nat} (h : r < W.heap.size) : Kept1 W r W := ⟨World.grownBy.refl _ _, fun _ _ => rfl, fun _ h => h, h⟩
theorem Kept1.drew {W wy : World} {r : Nat} (h : Kept1 W r wy) : Kept1 W r wy.drew := ⟨⟨h.grown.os, h.grown.tape, h.grown.output, h.grown.size, h.grown.block⟩, h.soft, h.some, h.lt⟩
theorem Kept1.below {W wy wn : World} {r : Nat} (h : Kept1 W r wy) (hb : Below wy.heap.size wy wn) : Kept1 W r wn :=
  ⟨h.grown.trans ⟨hb.os, hb.tape, hb.output, hb.size, fun k hk _ => hb.block k hk⟩, fun p hp => (hb.frozen (Nat.lt_of_lt_of_le hp h.grown.size)).trans (h.soft p hp), fun o ho => by rw [hb.cell (p := ⟨r, o, none⟩) (Nat.lt_of_lt_of_le h.lt h.grown.size)]; exact h.some o ho, h.lt⟩
theorem Kept1.alloc {W wy : World} {r : Nat} (h : Kept1 W r wy) (o : Obj) : Kept1 W r (wy.alloc o) := h.below ((Below.refl _ _).alloc (Nat.le_refl _) _)
theorem Kept1.set {W wy : World} {r : Nat} (h : Kept1 W r wy) (o : Nat) (v : Value) : Kept1 W r (wy.setCell ⟨r, o, none⟩ v) :=
  ⟨grown_set h.grown _ _, fun p hp => by rw [World.frozen?_setCell]; exact h.soft p hp, fun o' ho => by
    obtain ⟨u, hu⟩ := Option.isSome_iff_exists.1 (h.some o' ho)
    obtain ⟨v', hv'⟩ := cell?_setCell_some (p := ⟨r, o, none⟩) (x := v) hu
    rw [hv']; rfl, h.lt⟩
theorem Kept1.grow {W wy wa : World} {r : Nat} {x : Option Nat} (h : Kept1 W r wy) (hg : wy.grownBy wa x) (hx : ∀ j, x = Option.some j → W.heap.size ≤ j) : Kept1 W r wa :=
  ⟨h.grown.andThen hg (fun j e => .inl (hx j e)), fun p hp => (hg.frozen_far p (Nat.lt_of_lt_of_le hp h.grown.size) (fun e => by have := hx _ e.symm; omega)).trans (h.soft p hp), fun o ho => by
    rw [hg.cell_far ⟨r, o, none⟩ (Nat.lt_of_lt_of_le h.lt h.grown.size) (fun e => by have h1 := hx r e.symm; have h2 := h.lt; omega)]; exact h.some o ho, h.lt⟩
theorem Kept1.under {W wy : World} {B : Nat} {w : World} (h : Kept1 W (B + 1) wy) (hb : Below B w W) : Below B w wy := hb.grown h.grown (by have := h.lt; omega) (fun j e => by obtain rfl : B + 1 = j := (by simpa using e); omega)

/-- a copy of points and a copy of tags lie in two rows made since -/
def Copied (W : World) (ps : List (Int × Int)) (ts : List Tg) (g gg cap' : Nat) (wx : World) : Prop :=
  PtsAt wx (some ⟨g, 0, none⟩) ps ∧ Soft wx (some ⟨g, 0, none⟩) ps.length ∧ W.heap.size ≤ g ∧ g < wx.heap.size ∧ wx.ownsRow W.heap.size 52 2 (.slice (some ⟨gg, 0, none⟩) ts.length cap') ts.length (flatT ts) ∧ g ≠ gg

theorem Copied.grow {W wn wa : World} {ps : List (Int × Int)} {ts : List Tg} {g gg cap' x : Nat} (hgrow : wn.grownBy wa (some x)) (hpt : PtsAt wn (some ⟨g, 0, none⟩) ps) (hso : Soft wn (some ⟨g, 0, none⟩) ps.length) (hg : W.heap.size ≤ g) (hglt : g < wn.heap.size) (hx : g ≠ x) (hgg : g ≠ gg)
    (hO : wa.ownsRow W.heap.size 52 2 (.slice (some ⟨gg, 0, none⟩) ts.length cap') ts.length (flatT ts)) : Copied W ps ts g gg cap' wa :=
  ⟨hpt.grown hgrow (.inr (by simpa [blk] using hx)), hso.grown hgrow (fun y e => by obtain rfl : g = y := (by simpa [blk] using e); exact hglt) (.inr (by simpa [blk] using hx)), hg, Nat.lt_of_lt_of_le hglt hgrow.size, hO, hgg⟩

theorem ordA {W wn wa : World} {O : Obj} {ps : List (Int × Int)} {ts : List Tg} {g gg cap' : Nat} (hgrow : (wn.alloc O).grownBy wa (some wn.heap.size)) (hat : some wn.heap.size = some gg ∨ gg = (wn.alloc O).heap.size) (hO : wa.ownsRow W.heap.size 52 2 (.slice (some ⟨gg, 0, none⟩) ts.length cap') ts.length (flatT ts))
    (hpt : PtsAt wn (some ⟨g, 0, none⟩) ps) (hso : Soft wn (some ⟨g, 0, none⟩) ps.length) (hg : W.heap.size ≤ g) (hglt : g < wn.heap.size) : Copied W ps ts g gg cap' wa := by
  have ba : Below wn.heap.size wn (wn.alloc O) := (Below.refl _ _).alloc (Nat.le_refl _) _
  refine Copied.grow hgrow (hpt.below ba) (hso.below hpt ba) hg (by simp; omega) (by omega) ?_ hO
  rcases hat with h | h
  · have := Option.some.inj h
    omega
  · simp at h
    omega

theorem ordC {W wn wa : World} {O : Obj} {ps : List (Int × Int)} {ts : List Tg} {g gg cap' : Nat} (hgrow : wn.grownBy wa (some W.heap.size)) (hat : some W.heap.size = some gg ∨ gg = wn.heap.size) (hO : wa.ownsRow W.heap.size 52 2 (.slice (some ⟨gg, 0, none⟩) ts.length cap') ts.length (flatT ts))
    (hpt : PtsAt wn (some ⟨g, 0, none⟩) ps) (hso : Soft wn (some ⟨g, 0, none⟩) ps.length) (hg : (W.alloc O).heap.size ≤ g) (hglt : g < wn.heap.size) : Copied W ps ts g gg cap' wa := by
  rw [World.size_alloc] at hg
  refine Copied.grow hgrow hpt hso (by omega) hglt (by omega) ?_ hO
  rcases hat with h | h
  · have := Option.some.inj h
    omega
  · omega

theorem ordB {W wa wn : World} {ps : List (Int × Int)} {ts : List Tg} {g gg cap' : Nat} (hlt : gg < wa.heap.size) (hO : wa.ownsRow W.heap.size 52 2 (.slice (some ⟨gg, 0, none⟩) ts.length cap') ts.length (flatT ts)) (hbn : Below wa.heap.size wa wn)
    (hpt : PtsAt wn (some ⟨g, 0, none⟩) ps) (hso : Soft wn (some ⟨g, 0, none⟩) ps.length) (hg : wa.heap.size ≤ g) (hglt : g < wn.heap.size) (hW : W.heap.size ≤ wa.heap.size) : Copied W ps ts g gg cap' wn :=
  ⟨hpt, hso, Nat.le_trans hW hg, hglt, ownsRow_below hO hbn, by omega⟩

theorem Copied.store {W wy : World} {ps : List (Int × Int)} {ts : List Tg} {g gg cap' r : Nat} {v0 v1 v2 v3 : Value} (h : Copied W ps ts g gg cap' wy) (hk : Kept1 W r wy) (h4 : ∀ i, i < 4 → (W.cell? ⟨r, i, none⟩).isSome = true) :
    Box4 ((((wy.setCell ⟨r, 0, none⟩ v0).setCell ⟨r, 1, none⟩ v1).setCell ⟨r, 2, none⟩ v2).setCell ⟨r, 3, none⟩ v3) r v0 v1 v2 v3 ∧ Copied W ps ts g gg cap' ((((wy.setCell ⟨r, 0, none⟩ v0).setCell ⟨r, 1, none⟩ v1).setCell ⟨r, 2, none⟩ v2).setCell ⟨r, 3, none⟩ v3) := by
  have hr := hk.lt
  obtain ⟨k1, k2, k3, k4, k5, k6⟩ := h
  have hgg : W.heap.size ≤ gg := (k5.lt gg rfl).1
  have hne : blk (some ⟨g, 0, none⟩) ≠ some r := by simp [blk]; omega
  have own : ∀ {w : World} {o : Nat} {v : Value}, w.ownsRow W.heap.size 52 2 (.slice (some ⟨gg, 0, none⟩) ts.length cap') ts.length (flatT ts) → (w.setCell ⟨r, o, none⟩ v).ownsRow W.heap.size 52 2 (.slice (some ⟨gg, 0, none⟩) ts.length cap') ts.length (flatT ts) := fun h => World.ownsRow.kept h ⟨rfl, rfl, rfl, by simp [World.setCell], fun k _ hne => Below.heap_setCell _ _ _ _ (fun e => hne (by rw [e]))⟩ (row := some r) (.inr (by show some gg ≠ some r; simp; omega))
  have s0 := Option.isSome_iff_exists.1 (hk.some 0 (h4 0 (by omega)))
  have s1 := Option.isSome_iff_exists.1 (hk.some 1 (h4 1 (by omega)))
  have s2 := Option.isSome_iff_exists.1 (hk.some 2 (h4 2 (by omega)))
  have s3 := Option.isSome_iff_exists.1 (hk.some 3 (h4 3 (by omega)))
  obtain ⟨u0, s0⟩ := s0
  obtain ⟨u1, s1⟩ := s1
  obtain ⟨u2, s2⟩ := s2
  obtain ⟨u3, s3⟩ := s3
  have far : ∀ (w : World) (o o' : Nat) (v : Value), o ≠ o' → (w.setCell ⟨r, o, none⟩ v).cell? ⟨r, o', none⟩ = w.cell? ⟨r, o', none⟩ := fun w o o' v hne => World.cell?_setCell_other w ⟨r, o, none⟩ ⟨r, o', none⟩ v (fun h => hne (congrArg Addr.off h))
  refine ⟨⟨?_, ?_, ?_, ?_⟩, (((k1.set hne).set hne).set hne).set hne, (((k2.set _ _).set _ _).set _ _).set _ _, k3, by simpa [World.setCell] using k4, own (own (own (own k5))), k6⟩
  · rw [far _ _ _ _ (by omega), far _ _ _ _ (by omega), far _ _ _ _ (by omega)]
    exact World.cell?_setCell_same _ _ _ s0
  · rw [far _ _ _ _ (by omega), far _ _ _ _ (by omega)]
    exact World.cell?_setCell_same _ _ _ ((far _ _ _ _ (by omega)).trans s1)
  · rw [far _ _ _ _ (by omega)]
    exact World.cell?_setCell_same _ _ _ ((far _ _ _ _ (by omega)).trans ((far _ _ _ _ (by omega)).trans s2))
  · exact World.cell?_setCell_same _ _ _ ((far _ _ _ _ (by omega)).trans ((far _ _ _ _ (by omega)).trans ((far _ _ _ _ (by omega)).trans s3)))

/-- what a function that makes a thing answers -/
def FeatAns (w : World) (id : ByteArray) (k : Int) (ps : List (Int × Int)) (ts : List Tg) (v : Value) (w' : World) : Prop :=
  ∃ a cap c ca, v = .agg #[.string id, .int .i64 k, .slice a ps.length cap, .slice c ts.length ca] ∧ PtsAt w' a ps ∧ Soft w' a ps.length ∧ Fresh w w' a ∧ TagsAt w' c ts ∧ Soft w' c ts.length ∧ Fresh w w' c ∧ Apart a c ∧ Below w.heap.size w w'

set_option maxRecDepth 100000 in
set_option maxHeartbeats 6400000 in
theorem l2Copy_any (id : ByteArray) (k : Int) (b off cap : Nat) (ps : List (Int × Int)) (b2 off2 ca : Nat) (ts : List Tg) (w : World) (hp : PtsAt w (some ⟨b, off, none⟩) ps) (ht : TagsAt w (some ⟨b2, off2, none⟩) ts) (hl : ps.length ≤ 1048576) (h0 : 0 < ps.length) (hm : ts.length ≤ 1048576) (h1 : 0 < ts.length) :
    Calls Try.prog 49 #[.agg #[.string id, .int .i64 k, .slice (some ⟨b, off, none⟩) ps.length cap, .slice (some ⟨b2, off2, none⟩) ts.length ca]] w fun e w' => ∃ v, e = .returned v ∧ FeatAns w id k ps ts v w' := by
  have HP := Lib.hid hp
  have HT := Lib.hid ht
  clear hp ht
  obtain ⟨i0, hi, hz0, hz1, hz2⟩ := info_parts infoT
  have HI := Lib.hid hi
  have HZ0 := Lib.hid hz0
  have HZ1 := Lib.hid hz1
  have HZ2 := Lib.hid hz2
  clear hi hz0 hz1 hz2
  go_enter Try.func49, Try.ntmps49
  go_upto_region 1 with (fail)
  obtain ⟨W, hW⟩ : ∃ W, W = ((w.alloc (.cells #[.string id, .int .i64 k, .slice (some ⟨b, off, none⟩) ps.length cap, .slice (some ⟨b2, off2, none⟩) ts.length ca] 43)).alloc (.cells #[.string ⟨#[]⟩, .int .i64 0, .slice none 0 0, .slice none 0 0] 43)) := ⟨_, rfl⟩
  have B0 : Hid (Below w.heap.size w W) := by rw [hW]; exact ((Below.refl _ _).alloc (Nat.le_refl _) _).alloc (by simp) _
  have hz : Hid (W.heap.size = w.heap.size + 1 + 1) := by show _ = _; rw [hW]; simp
  have SOF : Hid (∀ wy, Kept1 W (w.heap.size + 1) wy → wy.cell? ⟨w.heap.size, 0, none⟩ = some (.string id) ∧ wy.cell? ⟨w.heap.size, 1, none⟩ = some (.int .i64 k) ∧ wy.cell? ⟨w.heap.size, 2, none⟩ = some (.slice (some ⟨b, off, none⟩) ps.length cap) ∧ wy.cell? ⟨w.heap.size, 3, none⟩ = some (.slice (some ⟨b2, off2, none⟩) ts.length ca) ∧ wy.cell? ⟨(w.heap.size + 1), 0, none⟩ = some (cellOf wy (w.heap.size + 1) 0) ∧ wy.cell? ⟨(w.heap.size + 1), 1, none⟩ = some (cellOf wy (w.heap.size + 1) 1) ∧ wy.cell? ⟨(w.heap.size + 1), 2, none⟩ = some (cellOf wy (w.heap.size + 1) 2) ∧ wy.cell? ⟨(w.heap.size + 1), 3, none⟩ = some (cellOf wy (w.heap.size + 1) 3) ∧ wy.frozen? ⟨(w.heap.size + 1), 0, none⟩ = false ∧ wy.frozen? ⟨(w.heap.size + 1), 1, none⟩ = false ∧ wy.frozen? ⟨(w.heap.size + 1), 2, none⟩ = false ∧ wy.frozen? ⟨(w.heap.size + 1), 3, none⟩ = false ∧ Kept1 W (w.heap.size + 1) wy) := by
    intro wy hb
    have hz := hz.out
    have hc : ∀ o, wy.cell? ⟨w.heap.size, o, none⟩ = W.cell? ⟨w.heap.size, o, none⟩ := fun o => hb.grown.cell_far ⟨w.heap.size, o, none⟩ (by show w.heap.size < _; omega) (by simp)
    have hf : ∀ o, wy.frozen? ⟨w.heap.size + 1, o, none⟩ = W.frozen? ⟨w.heap.size + 1, o, none⟩ := fun o => hb.soft _ (by show w.heap.size + 1 < _; omega)
    refine ⟨?_, ?_, ?_, ?_, cellOf_some (hb.some _ ?_), cellOf_some (hb.some _ ?_), cellOf_some (hb.some _ ?_), cellOf_some (hb.some _ ?_), ?_, ?_, ?_, ?_, hb⟩
    all_goals first | rw [hc, hW] | rw [hf, hW] | rw [hW]
    all_goals simp [go_sem]
  have H4 : Hid (∀ i, i < 4 → (W.cell? ⟨w.heap.size + 1, i, none⟩).isSome = true) := by
    intro i hi
    rw [hW]
    rcases (show i = 0 ∨ i = 1 ∨ i = 2 ∨ i = 3 by omega) with rfl | rfl | rfl | rfl <;> simp [go_sem]
  rw [← hW]
  have m1 : ¬ w.heap.size = W.heap.size := by have := hz.out; omega
  have m2 : ¬ w.heap.size + 1 = W.heap.size := by have := hz.out; omega
  clear hW
  go_cut [12] (fun s12 wx => ∃ g cap2 gg cap', Box4 wx (w.heap.size + 1) (.string id) (.int .i64 k) (.slice (some ⟨g, 0, none⟩) ps.length cap2) (.slice (some ⟨gg, 0, none⟩) ts.length cap') ∧ Copied W ps ts g gg cap' wx ∧ Below w.heap.size w wx)
  case first =>
    go_region_held3 (fun wy => wy.cell? ⟨w.heap.size, 0, none⟩ = some (.string id) ∧ wy.cell? ⟨w.heap.size, 1, none⟩ = some (.int .i64 k) ∧ wy.cell? ⟨w.heap.size, 2, none⟩ = some (.slice (some ⟨b, off, none⟩) ps.length cap) ∧ wy.cell? ⟨w.heap.size, 3, none⟩ = some (.slice (some ⟨b2, off2, none⟩) ts.length ca) ∧ wy.cell? ⟨(w.heap.size + 1), 0, none⟩ = some (cellOf wy (w.heap.size + 1) 0) ∧ wy.cell? ⟨(w.heap.size + 1), 1, none⟩ = some (cellOf wy (w.heap.size + 1) 1) ∧ wy.cell? ⟨(w.heap.size + 1), 2, none⟩ = some (cellOf wy (w.heap.size + 1) 2) ∧ wy.cell? ⟨(w.heap.size + 1), 3, none⟩ = some (cellOf wy (w.heap.size + 1) 3) ∧ wy.frozen? ⟨(w.heap.size + 1), 0, none⟩ = false ∧ wy.frozen? ⟨(w.heap.size + 1), 1, none⟩ = false ∧ wy.frozen? ⟨(w.heap.size + 1), 2, none⟩ = false ∧ wy.frozen? ⟨(w.heap.size + 1), 3, none⟩ = false ∧ Kept1 W (w.heap.size + 1) wy)
      (first
        | exact SOF.out _ (Kept1.refl (by have := hz.out; omega)).drew
        | exact SOF.out _ hbx
        | (go_split_ands
           rename_i hS
           exact SOF.out _ (hS.below hbn))
        | (go_split_ands
           rename_i hS
           exact SOF.out _ (hS.alloc _))
        | (go_split_ands
           rename_i hS
           exact SOF.out _ ((((hS.set _ _).set _ _).set _ _).set _ _)))
      (first
        | (go_at_call 43
           refine (l1Copy_any k b off cap ps _ ?_ hl h0).mono ?_
           · (go_split_ands; rename_i hS; exact HP.out.below (hS.under B0.out))
           rintro e wn ⟨g, cap2, rfl, hpt, hso, hg, hglt, hbn⟩
           try (have hF := ordB (W := W) hlt' hO2 hbn hpt hso hg hglt hbx.grown.size))
        | (refine step_append_lies _ (by rfl) _ _ _ (by rfl) W.heap.size 52 i0 _ 2 32 Try.underlying41 HI.out HZ0.out HZ1.out HZ2.out rfl (by omega) _ 0 [] (by rfl) ?_ ⟨b2, off2, none⟩ ts.length ca (flatT ts) (by rfl) (flatT_len ts) ?_ (flatT_one ts) h1 (by unfold maxLen; omega) (by omega) ?_ _ rfl ?_
           · (first
               | exact ownsRow_base (World.ownsRow_made wn #[] 0 (Nat.le_refl _) (by unfold maxLen; omega) rfl) hbn.size
               | exact (World.ownsRow_made W #[] 0 (Nat.le_refl _) (by unfold maxLen; omega) rfl).drew
               | exact ownsRow_below ((World.ownsRow_made W #[] 0 (Nat.le_refl _) (by unfold maxLen; omega) rfl).drew) hbn)
           · (go_split_ands; rename_i hS; exact news_tags (HT.out.below (hS.under B0.out)))
           · (go_split_ands; rename_i hS; exact hS.grown.size)
           intro gg cap' wa hown1 hgrow hat hlt'
           go_split_ands
           rename_i hS
           rw [Nat.zero_add, List.nil_append] at hown1
           have hO2 := hown1
           try (first | have hF := ordA (W := W) hgrow hat hO2 hpt hso hg hglt | have hF := ordC (W := W) hgrow hat hO2 hpt hso hg hglt)
           have hbx := hS.grow hgrow (fun j e => by first | (have h := hbn.size; obtain rfl : wn.heap.size = j := (Option.some.inj e); exact h) | (obtain rfl : W.heap.size = j := (Option.some.inj e); exact Nat.le_refl _))))
    all_goals (go_wp2_with fail; go_meet; first | exact ⟨g, cap2, gg, cap', (hF.store hbx H4.out).1, (hF.store hbx H4.out).2, ((((hbx.set _ _).set _ _).set _ _).set _ _).under B0.out⟩ | exact ⟨g, cap2, gg, cap', (hF.store (hbx.below hbn) H4.out).1, (hF.store (hbx.below hbn) H4.out).2, (((((hbx.below hbn).set _ _).set _ _).set _ _).set _ _).under B0.out⟩)
  case rest =>
    obtain ⟨g, cap2, gg, cap', hbox, hcp, hB⟩ := hcut
    obtain ⟨r0, r1, r2, r3⟩ := hbox
    have CP := Lib.hid hcp
    have B := Lib.hid hB
    clear hcp hB
    go_wp2
    refine bodyPost_ret (v := .agg #[.string id, .int .i64 k, .slice (some ⟨g, 0, none⟩) ps.length cap2, .slice (some ⟨gg, 0, none⟩) ts.length cap']) (by simp [results, Try.results49, go_sem, r0, r1, r2, r3]) rfl ?_
    obtain ⟨k1, k2, k3, k4, k5, k6⟩ := CP.out
    obtain ⟨a2, ca2, e2, t1, t2, t3⟩ := owned_tags k5 rfl
    obtain ⟨rfl, rfl⟩ : some ⟨gg, 0, none⟩ = a2 ∧ cap' = ca2 := by simpa using e2
    have hz' := hz.out
    exact ⟨_, rfl, _, _, _, _, rfl, k1, k2, fun x e => by obtain rfl : g = x := (by simpa [blk] using e); exact ⟨by omega, k4⟩, t1, t2, fun x e => ⟨by have := (t3 x e).1; omega, (t3 x e).2⟩, fun x e e' => k6 (by obtain rfl : g = x := (by simpa [blk] using e); obtain rfl : gg = g := (by simpa [blk] using e'); rfl), B.out⟩
end Go.Proofs.Ytdfadpejddhbkaa
