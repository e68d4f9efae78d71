/- Proved here: the model's copy of a thing ends whatever its lists hold, and holds the same points; at most 1,048,576 points and tags. -/
import Derived.Test.YtdfadpejddhbkaaWAppend0
import Derived.Test.YtdfadpejddhbkaaWWithTags
namespace Go.Proofs.Ytdfadpejddhbkaa
set_option linter.unusedVariables false
open Go.ChangeShapes Go.WideShapes Go.ChangeAt Go.RowKit Go.Deep

theorem keptA {W wn : World} {r : Nat} (hbn : Below W.drew.heap.size W.drew wn) (h : r < W.heap.size) : Kept1 W r wn := (Kept1.refl h).drew.below hbn
theorem keptB {W wn : World} {O : Obj} {r : Nat} (hbn : Below (W.alloc O).drew.heap.size (W.alloc O).drew wn) (h : r < W.heap.size) : Kept1 W r wn := ((Kept1.refl h).alloc O).drew.below hbn
theorem aBelow (wn : World) (O : Obj) : Below wn.heap.size wn (wn.alloc O) := (Below.refl _ _).alloc (Nat.le_refl _) _
theorem szA {W : World} {O : Obj} {B : Nat} (h : W.heap.size = B + 1 + 1) : (W.alloc O).drew.heap.size = B + 1 + 1 + 1 := by show (W.alloc O).heap.size = _; rw [World.size_alloc]; omega

theorem PP2 {V wn : World} {g : Nat} {ps : List (Int × Int)} {v0 v1 v2 v3 : Value} {B : Nat} (hpt : PtsAt wn (some ⟨g, 0, none⟩) ps) (hso : Soft wn (some ⟨g, 0, none⟩) ps.length) (hg : V.heap.size ≤ g) (hglt : g < wn.heap.size) (hW : V.heap.size = B + 1 + 1 + 1 ∨ V.heap.size = B + 1 + 1) :
    PtsAt ((((wn.setCell ⟨B + 1, 0, none⟩ v0).setCell ⟨B + 1, 1, none⟩ v1).setCell ⟨B + 1, 2, none⟩ v2).setCell ⟨B + 1, 3, none⟩ v3) (some ⟨g, 0, none⟩) ps ∧ Soft ((((wn.setCell ⟨B + 1, 0, none⟩ v0).setCell ⟨B + 1, 1, none⟩ v1).setCell ⟨B + 1, 2, none⟩ v2).setCell ⟨B + 1, 3, none⟩ v3) (some ⟨g, 0, none⟩) ps.length ∧
      ∀ x, blk (some ⟨g, 0, none⟩) = some x → B + 1 < x ∧ x < ((((wn.setCell ⟨B + 1, 0, none⟩ v0).setCell ⟨B + 1, 1, none⟩ v1).setCell ⟨B + 1, 2, none⟩ v2).setCell ⟨B + 1, 3, none⟩ v3).heap.size := by
  have hne : blk (some ⟨g, 0, none⟩) ≠ some (B + 1) := by simp [blk]; omega
  exact ⟨(((hpt.set hne).set hne).set hne).set hne, (((hso.set _ _).set _ _).set _ _).set _ _, fun x e => by obtain rfl : g = x := (by simpa [blk] using e); exact ⟨by omega, by simpa [World.setCell] using hglt⟩⟩

set_option maxRecDepth 100000 in
set_option maxHeartbeats 2000000 in
theorem l2Copy_n0 (id : ByteArray) (k : Int) (b off cap : Nat) (ps : List (Int × Int)) (c : Option Addr) (ca : Nat) (w : World) (hp : PtsAt w (some ⟨b, off, none⟩) ps) (hl : ps.length ≤ 1048576) (h0 : 0 < ps.length) :
    Calls Try.prog 49 #[.agg #[.string id, .int .i64 k, .slice (some ⟨b, off, none⟩) ps.length cap, .slice c 0 ca]] w fun e w' => ∃ ax cx ay cy, e = .returned (.agg #[.string id, .int .i64 k, .slice ax ps.length cx, .slice ay 0 cy]) ∧ (PtsAt w' ax ps ∧ Soft w' ax ps.length ∧ Fresh w w' ax) ∧ Below w.heap.size w w' := by
  have HP := Lib.hid hp
  clear hp
  obtain ⟨i0, hi, hz0, hz1, hz2⟩ := info_parts infoT
  have HI := Lib.hid hi
  have HZ0 := Lib.hid hz0
  have HZ1 := Lib.hid hz1
  have HZ2 := Lib.hid hz2
  clear hi hz0 hz1 hz2
  go_enter Try.func49, Try.ntmps49
  go_upto_region 1 with (fail)
  obtain ⟨W, hW⟩ : ∃ W, W = ((w.alloc (.cells #[.string id, .int .i64 k, .slice (some ⟨b, off, none⟩) ps.length cap, .slice c 0 ca] 43)).alloc (.cells #[.string ⟨#[]⟩, .int .i64 0, .slice none 0 0, .slice none 0 0] 43)) := ⟨_, rfl⟩
  have B0 : Hid (Below w.heap.size w W) := by rw [hW]; exact ((Below.refl _ _).alloc (Nat.le_refl _) _).alloc (by simp) _
  have hz : Hid (W.heap.size = w.heap.size + 1 + 1) := by show _ = _; rw [hW]; simp
  have SOF : Hid (∀ wy, Kept1 W (w.heap.size + 1) wy → wy.cell? ⟨w.heap.size, 0, none⟩ = some (.string id) ∧ wy.cell? ⟨w.heap.size, 1, none⟩ = some (.int .i64 k) ∧ wy.cell? ⟨w.heap.size, 2, none⟩ = some (.slice (some ⟨b, off, none⟩) ps.length cap) ∧ wy.cell? ⟨w.heap.size, 3, none⟩ = some (.slice c 0 ca) ∧ wy.cell? ⟨(w.heap.size + 1), 0, none⟩ = some (cellOf wy (w.heap.size + 1) 0) ∧ wy.cell? ⟨(w.heap.size + 1), 1, none⟩ = some (cellOf wy (w.heap.size + 1) 1) ∧ wy.cell? ⟨(w.heap.size + 1), 2, none⟩ = some (cellOf wy (w.heap.size + 1) 2) ∧ wy.cell? ⟨(w.heap.size + 1), 3, none⟩ = some (cellOf wy (w.heap.size + 1) 3) ∧ wy.frozen? ⟨(w.heap.size + 1), 0, none⟩ = false ∧ wy.frozen? ⟨(w.heap.size + 1), 1, none⟩ = false ∧ wy.frozen? ⟨(w.heap.size + 1), 2, none⟩ = false ∧ wy.frozen? ⟨(w.heap.size + 1), 3, none⟩ = false ∧ Kept1 W (w.heap.size + 1) wy) := by
    intro wy hb
    have hz := hz.out
    have hc : ∀ o, wy.cell? ⟨w.heap.size, o, none⟩ = W.cell? ⟨w.heap.size, o, none⟩ := fun o => hb.grown.cell_far ⟨w.heap.size, o, none⟩ (by show w.heap.size < _; omega) (by simp)
    have hf : ∀ o, wy.frozen? ⟨w.heap.size + 1, o, none⟩ = W.frozen? ⟨w.heap.size + 1, o, none⟩ := fun o => hb.soft _ (by show w.heap.size + 1 < _; omega)
    refine ⟨?_, ?_, ?_, ?_, cellOf_some (hb.some _ ?_), cellOf_some (hb.some _ ?_), cellOf_some (hb.some _ ?_), cellOf_some (hb.some _ ?_), ?_, ?_, ?_, ?_, hb⟩
    all_goals first | rw [hc, hW] | rw [hf, hW] | rw [hW]
    all_goals simp [go_sem]
  have zR : Hid (w.heap.size + 1 < W.heap.size) := by have := hz.out; show _ < _; omega
  have H4 : Hid (∀ i, i < 4 → (W.cell? ⟨w.heap.size + 1, i, none⟩).isSome = true) := by
    intro i hi
    rw [hW]
    rcases (show i = 0 ∨ i = 1 ∨ i = 2 ∨ i = 3 by omega) with rfl | rfl | rfl | rfl <;> simp [go_sem]
  rw [← hW]
  have m1 : ¬ w.heap.size = W.heap.size := by have := hz.out; omega
  have m2 : ¬ w.heap.size + 1 = W.heap.size := by have := hz.out; omega
  clear hW
  go_cut [12] (fun s12 wx => ∃ ax cx ay cy, Box4 wx (w.heap.size + 1) (.string id) (.int .i64 k) (.slice ax ps.length cx) (.slice ay 0 cy) ∧ PtsAt wx ax ps ∧ Soft wx ax ps.length ∧ (∀ x, blk ax = some x → w.heap.size + 1 < x ∧ x < wx.heap.size) ∧ Below w.heap.size w wx)
  case first =>
    go_region_held3 (fun wy => wy.cell? ⟨w.heap.size, 0, none⟩ = some (.string id) ∧ wy.cell? ⟨w.heap.size, 1, none⟩ = some (.int .i64 k) ∧ wy.cell? ⟨w.heap.size, 2, none⟩ = some (.slice (some ⟨b, off, none⟩) ps.length cap) ∧ wy.cell? ⟨w.heap.size, 3, none⟩ = some (.slice c 0 ca) ∧ wy.cell? ⟨(w.heap.size + 1), 0, none⟩ = some (cellOf wy (w.heap.size + 1) 0) ∧ wy.cell? ⟨(w.heap.size + 1), 1, none⟩ = some (cellOf wy (w.heap.size + 1) 1) ∧ wy.cell? ⟨(w.heap.size + 1), 2, none⟩ = some (cellOf wy (w.heap.size + 1) 2) ∧ wy.cell? ⟨(w.heap.size + 1), 3, none⟩ = some (cellOf wy (w.heap.size + 1) 3) ∧ wy.frozen? ⟨(w.heap.size + 1), 0, none⟩ = false ∧ wy.frozen? ⟨(w.heap.size + 1), 1, none⟩ = false ∧ wy.frozen? ⟨(w.heap.size + 1), 2, none⟩ = false ∧ wy.frozen? ⟨(w.heap.size + 1), 3, none⟩ = false ∧ Kept1 W (w.heap.size + 1) wy)
      (first
        | assumption
        | with_reducible exact SOF.out _ (Kept1.refl zR.out).drew
        | (go_split_ands
           rename_i hS
           with_reducible exact SOF.out _ (hS.below hbn))
        | (go_split_ands
           rename_i hS
           first | with_reducible exact SOF.out _ ((Kept1.refl zR.out).alloc _).drew | exact SOF.out _ (hS.alloc _))
        | (go_split_ands
           rename_i hS
           with_reducible exact SOF.out _ ((((hS.set _ _).set _ _).set _ _).set _ _)))
      (first
        | (go_at_call 43
           refine (l1Copy_any k b off cap ps _ ?_ hl h0).mono ?_
           · (go_split_ands; rename_i hS; exact HP.out.below (hS.under B0.out))
           rintro e wn ⟨g, cap2, rfl, hpt, hso, hg, hglt, hbn⟩
           first | have hk := keptA hbn zR.out | have hk := keptB hbn zR.out | skip)
        | (refine step_append0 _ (by rfl) _ _ _ (by rfl) 52 i0 Try.underlying41 HI.out _ _ _ (by rfl) (by rfl) ?_))
    all_goals (go_wp2_with fail; go_meet; first | ((with_reducible refine ⟨_, _, _, _, hk.box H4.out, ?_⟩); exact ⟨(PP2 (V := (W.alloc _).drew) hpt hso hg hglt (.inl (szA hz.out))).1, (PP2 (V := (W.alloc _).drew) hpt hso hg hglt (.inl (szA hz.out))).2.1, (PP2 (V := (W.alloc _).drew) hpt hso hg hglt (.inl (szA hz.out))).2.2, ((((hk.set _ _).set _ _).set _ _).set _ _).under B0.out⟩) | ((with_reducible refine ⟨_, _, _, _, (hk.alloc _).box H4.out, ?_⟩); exact ⟨(PP2 (V := W) (hpt.below (aBelow wn _)) (hso.below hpt (aBelow wn _)) hg (Nat.lt_of_lt_of_le hglt (aBelow wn _).size) (.inr hz.out)).1, (PP2 (V := W) (hpt.below (aBelow wn _)) (hso.below hpt (aBelow wn _)) hg (Nat.lt_of_lt_of_le hglt (aBelow wn _).size) (.inr hz.out)).2.1, (PP2 (V := W) (hpt.below (aBelow wn _)) (hso.below hpt (aBelow wn _)) hg (Nat.lt_of_lt_of_le hglt (aBelow wn _).size) (.inr hz.out)).2.2, (((((hk.alloc _).set _ _).set _ _).set _ _).set _ _).under B0.out⟩))
  case rest =>
    obtain ⟨ax, cx, ay, cy, ⟨r0, r1, r2, r3⟩, hQ1, hQ2, hQ3, hB⟩ := hcut
    have B := Lib.hid hB
    have Q1 := Lib.hid hQ1
    have Q2 := Lib.hid hQ2
    have Q3 := Lib.hid hQ3
    clear hQ1 hQ2 hQ3
    clear hB
    go_wp2
    refine bodyPost_ret (v := .agg #[.string id, .int .i64 k, .slice ax ps.length cx, .slice ay 0 cy]) (by simp [results, Try.results49, go_sem, r0, r1, r2, r3]) rfl ?_
    exact ⟨ax, cx, ay, cy, rfl, ⟨Q1.out, Q2.out, fun x e => ⟨by have := (Q3.out x e).1; omega, (Q3.out x e).2⟩⟩, B.out⟩

set_option maxRecDepth 100000 in
set_option maxHeartbeats 2000000 in
theorem l2Copy_0n (id : ByteArray) (k : Int) (a : Option Addr) (cap : Nat) (b2 off2 ca : Nat) (ts : List Tg) (w : World) (ht : TagsAt w (some ⟨b2, off2, none⟩) ts) (hm : ts.length ≤ 1048576) (h1 : 0 < ts.length) :
    Calls Try.prog 49 #[.agg #[.string id, .int .i64 k, .slice a 0 cap, .slice (some ⟨b2, off2, none⟩) ts.length ca]] w fun e w' => ∃ ax cx ay cy, e = .returned (.agg #[.string id, .int .i64 k, .slice ax 0 cx, .slice ay ts.length cy]) ∧ Below w.heap.size w w' := by
  have HT := Lib.hid ht
  clear ht
  obtain ⟨i0, hi, hz0, hz1, hz2⟩ := info_parts infoT
  have HI := Lib.hid hi
  have HZ0 := Lib.hid hz0
  have HZ1 := Lib.hid hz1
  have HZ2 := Lib.hid hz2
  clear hi hz0 hz1 hz2
  go_enter Try.func49, Try.ntmps49
  go_upto_region 1 with (fail)
  obtain ⟨W, hW⟩ : ∃ W, W = ((w.alloc (.cells #[.string id, .int .i64 k, .slice a 0 cap, .slice (some ⟨b2, off2, none⟩) ts.length ca] 43)).alloc (.cells #[.string ⟨#[]⟩, .int .i64 0, .slice none 0 0, .slice none 0 0] 43)) := ⟨_, rfl⟩
  have B0 : Hid (Below w.heap.size w W) := by rw [hW]; exact ((Below.refl _ _).alloc (Nat.le_refl _) _).alloc (by simp) _
  have hz : Hid (W.heap.size = w.heap.size + 1 + 1) := by show _ = _; rw [hW]; simp
  have SOF : Hid (∀ wy, Kept1 W (w.heap.size + 1) wy → wy.cell? ⟨w.heap.size, 0, none⟩ = some (.string id) ∧ wy.cell? ⟨w.heap.size, 1, none⟩ = some (.int .i64 k) ∧ wy.cell? ⟨w.heap.size, 2, none⟩ = some (.slice a 0 cap) ∧ wy.cell? ⟨w.heap.size, 3, none⟩ = some (.slice (some ⟨b2, off2, none⟩) ts.length ca) ∧ wy.cell? ⟨(w.heap.size + 1), 0, none⟩ = some (cellOf wy (w.heap.size + 1) 0) ∧ wy.cell? ⟨(w.heap.size + 1), 1, none⟩ = some (cellOf wy (w.heap.size + 1) 1) ∧ wy.cell? ⟨(w.heap.size + 1), 2, none⟩ = some (cellOf wy (w.heap.size + 1) 2) ∧ wy.cell? ⟨(w.heap.size + 1), 3, none⟩ = some (cellOf wy (w.heap.size + 1) 3) ∧ wy.frozen? ⟨(w.heap.size + 1), 0, none⟩ = false ∧ wy.frozen? ⟨(w.heap.size + 1), 1, none⟩ = false ∧ wy.frozen? ⟨(w.heap.size + 1), 2, none⟩ = false ∧ wy.frozen? ⟨(w.heap.size + 1), 3, none⟩ = false ∧ Kept1 W (w.heap.size + 1) wy) := by
    intro wy hb
    have hz := hz.out
    have hc : ∀ o, wy.cell? ⟨w.heap.size, o, none⟩ = W.cell? ⟨w.heap.size, o, none⟩ := fun o => hb.grown.cell_far ⟨w.heap.size, o, none⟩ (by show w.heap.size < _; omega) (by simp)
    have hf : ∀ o, wy.frozen? ⟨w.heap.size + 1, o, none⟩ = W.frozen? ⟨w.heap.size + 1, o, none⟩ := fun o => hb.soft _ (by show w.heap.size + 1 < _; omega)
    refine ⟨?_, ?_, ?_, ?_, cellOf_some (hb.some _ ?_), cellOf_some (hb.some _ ?_), cellOf_some (hb.some _ ?_), cellOf_some (hb.some _ ?_), ?_, ?_, ?_, ?_, hb⟩
    all_goals first | rw [hc, hW] | rw [hf, hW] | rw [hW]
    all_goals simp [go_sem]
  have zR : Hid (w.heap.size + 1 < W.heap.size) := by have := hz.out; show _ < _; omega
  have H4 : Hid (∀ i, i < 4 → (W.cell? ⟨w.heap.size + 1, i, none⟩).isSome = true) := by
    intro i hi
    rw [hW]
    rcases (show i = 0 ∨ i = 1 ∨ i = 2 ∨ i = 3 by omega) with rfl | rfl | rfl | rfl <;> simp [go_sem]
  rw [← hW]
  have m1 : ¬ w.heap.size = W.heap.size := by have := hz.out; omega
  have m2 : ¬ w.heap.size + 1 = W.heap.size := by have := hz.out; omega
  clear hW
  go_cut [12] (fun s12 wx => ∃ ax cx ay cy, Box4 wx (w.heap.size + 1) (.string id) (.int .i64 k) (.slice ax 0 cx) (.slice ay ts.length cy) ∧ Below w.heap.size w wx)
  case first =>
    go_region_held3 (fun wy => wy.cell? ⟨w.heap.size, 0, none⟩ = some (.string id) ∧ wy.cell? ⟨w.heap.size, 1, none⟩ = some (.int .i64 k) ∧ wy.cell? ⟨w.heap.size, 2, none⟩ = some (.slice a 0 cap) ∧ wy.cell? ⟨w.heap.size, 3, none⟩ = some (.slice (some ⟨b2, off2, none⟩) ts.length ca) ∧ wy.cell? ⟨(w.heap.size + 1), 0, none⟩ = some (cellOf wy (w.heap.size + 1) 0) ∧ wy.cell? ⟨(w.heap.size + 1), 1, none⟩ = some (cellOf wy (w.heap.size + 1) 1) ∧ wy.cell? ⟨(w.heap.size + 1), 2, none⟩ = some (cellOf wy (w.heap.size + 1) 2) ∧ wy.cell? ⟨(w.heap.size + 1), 3, none⟩ = some (cellOf wy (w.heap.size + 1) 3) ∧ wy.frozen? ⟨(w.heap.size + 1), 0, none⟩ = false ∧ wy.frozen? ⟨(w.heap.size + 1), 1, none⟩ = false ∧ wy.frozen? ⟨(w.heap.size + 1), 2, none⟩ = false ∧ wy.frozen? ⟨(w.heap.size + 1), 3, none⟩ = false ∧ Kept1 W (w.heap.size + 1) wy)
      (first
        | assumption
        | with_reducible exact SOF.out _ (Kept1.refl zR.out).drew
        | with_reducible exact SOF.out _ hbx
        | (go_split_ands
           rename_i hS
           with_reducible exact SOF.out _ (hS.below hbn))
        | (go_split_ands
           rename_i hS
           first | with_reducible exact SOF.out _ ((Kept1.refl zR.out).alloc _).drew | exact SOF.out _ (hS.alloc _))
        | (go_split_ands
           rename_i hS
           with_reducible exact SOF.out _ ((((hS.set _ _).set _ _).set _ _).set _ _)))
      (first
        | (go_at_call 43
           refine (l1Copy_nil k a cap _).mono ?_
           rintro e wn ⟨g, rfl, hbn⟩
           first | have hk := keptA hbn zR.out | have hk := keptB hbn zR.out | skip)
        | (refine step_append_lies _ (by rfl) _ _ _ (by rfl) W.heap.size 52 i0 _ 2 32 Try.underlying41 HI.out HZ0.out HZ1.out HZ2.out rfl (by omega) _ 0 [] (by rfl) ?_ ⟨b2, off2, none⟩ ts.length ca (flatT ts) (by rfl) (flatT_len ts) ?_ (flatT_one ts) h1 (by unfold maxLen; omega) (by omega) ?_ _ rfl ?_
           · (first
               | exact ownsRow_base (World.ownsRow_made wn #[] 0 (Nat.le_refl _) (by unfold maxLen; omega) rfl) hbn.size
               | exact (World.ownsRow_made W #[] 0 (Nat.le_refl _) (by unfold maxLen; omega) rfl).drew
               | exact ownsRow_below ((World.ownsRow_made W #[] 0 (Nat.le_refl _) (by unfold maxLen; omega) rfl).drew) hbn)
           · (go_split_ands; rename_i hS; exact news_tags (HT.out.below (hS.under B0.out)))
           · (go_split_ands; rename_i hS; exact hS.grown.size)
           intro gg cap' wa hown1 hgrow hat hlt'
           go_split_ands
           rename_i hS
           rw [Nat.zero_add, List.nil_append] at hown1
           have hbx := hS.grow hgrow (fun j e => by first | (have h := hbn.size; obtain rfl : wn.heap.size = j := (Option.some.inj e); exact h) | (obtain rfl : W.heap.size = j := (Option.some.inj e); exact Nat.le_refl _))))
    all_goals (go_wp2_with fail; go_meet; first | ((with_reducible refine ⟨_, _, _, _, hbx.box H4.out, ?_⟩); exact (((((hbx).set _ _).set _ _).set _ _).set _ _).under B0.out) | ((with_reducible refine ⟨_, _, _, _, (hbx.below hbn).box H4.out, ?_⟩); exact ((((((hbx.below hbn)).set _ _).set _ _).set _ _).set _ _).under B0.out))
  case rest =>
    obtain ⟨ax, cx, ay, cy, ⟨r0, r1, r2, r3⟩, hB⟩ := hcut
    have B := Lib.hid hB
    clear hB
    go_wp2
    refine bodyPost_ret (v := .agg #[.string id, .int .i64 k, .slice ax 0 cx, .slice ay ts.length cy]) (by simp [results, Try.results49, go_sem, r0, r1, r2, r3]) rfl ?_
    exact ⟨ax, cx, ay, cy, rfl, B.out⟩

set_option maxRecDepth 100000 in
set_option maxHeartbeats 2000000 in
theorem l2Copy_00 (id : ByteArray) (k : Int) (a : Option Addr) (cap : Nat) (c : Option Addr) (ca : Nat) (w : World) :
    Calls Try.prog 49 #[.agg #[.string id, .int .i64 k, .slice a 0 cap, .slice c 0 ca]] w fun e w' => ∃ ax cx ay cy, e = .returned (.agg #[.string id, .int .i64 k, .slice ax 0 cx, .slice ay 0 cy]) ∧ Below w.heap.size w w' := by
  obtain ⟨i0, hi, hz0, hz1, hz2⟩ := info_parts infoT
  have HI := Lib.hid hi
  have HZ0 := Lib.hid hz0
  have HZ1 := Lib.hid hz1
  have HZ2 := Lib.hid hz2
  clear hi hz0 hz1 hz2
  go_enter Try.func49, Try.ntmps49
  go_upto_region 1 with (fail)
  obtain ⟨W, hW⟩ : ∃ W, W = ((w.alloc (.cells #[.string id, .int .i64 k, .slice a 0 cap, .slice c 0 ca] 43)).alloc (.cells #[.string ⟨#[]⟩, .int .i64 0, .slice none 0 0, .slice none 0 0] 43)) := ⟨_, rfl⟩
  have B0 : Hid (Below w.heap.size w W) := by rw [hW]; exact ((Below.refl _ _).alloc (Nat.le_refl _) _).alloc (by simp) _
  have hz : Hid (W.heap.size = w.heap.size + 1 + 1) := by show _ = _; rw [hW]; simp
  have SOF : Hid (∀ wy, Kept1 W (w.heap.size + 1) wy → wy.cell? ⟨w.heap.size, 0, none⟩ = some (.string id) ∧ wy.cell? ⟨w.heap.size, 1, none⟩ = some (.int .i64 k) ∧ wy.cell? ⟨w.heap.size, 2, none⟩ = some (.slice a 0 cap) ∧ wy.cell? ⟨w.heap.size, 3, none⟩ = some (.slice c 0 ca) ∧ wy.cell? ⟨(w.heap.size + 1), 0, none⟩ = some (cellOf wy (w.heap.size + 1) 0) ∧ wy.cell? ⟨(w.heap.size + 1), 1, none⟩ = some (cellOf wy (w.heap.size + 1) 1) ∧ wy.cell? ⟨(w.heap.size + 1), 2, none⟩ = some (cellOf wy (w.heap.size + 1) 2) ∧ wy.cell? ⟨(w.heap.size + 1), 3, none⟩ = some (cellOf wy (w.heap.size + 1) 3) ∧ wy.frozen? ⟨(w.heap.size + 1), 0, none⟩ = false ∧ wy.frozen? ⟨(w.heap.size + 1), 1, none⟩ = false ∧ wy.frozen? ⟨(w.heap.size + 1), 2, none⟩ = false ∧ wy.frozen? ⟨(w.heap.size + 1), 3, none⟩ = false ∧ Kept1 W (w.heap.size + 1) wy) := by
    intro wy hb
    have hz := hz.out
    have hc : ∀ o, wy.cell? ⟨w.heap.size, o, none⟩ = W.cell? ⟨w.heap.size, o, none⟩ := fun o => hb.grown.cell_far ⟨w.heap.size, o, none⟩ (by show w.heap.size < _; omega) (by simp)
    have hf : ∀ o, wy.frozen? ⟨w.heap.size + 1, o, none⟩ = W.frozen? ⟨w.heap.size + 1, o, none⟩ := fun o => hb.soft _ (by show w.heap.size + 1 < _; omega)
    refine ⟨?_, ?_, ?_, ?_, cellOf_some (hb.some _ ?_), cellOf_some (hb.some _ ?_), cellOf_some (hb.some _ ?_), cellOf_some (hb.some _ ?_), ?_, ?_, ?_, ?_, hb⟩
    all_goals first | rw [hc, hW] | rw [hf, hW] | rw [hW]
    all_goals simp [go_sem]
  have zR : Hid (w.heap.size + 1 < W.heap.size) := by have := hz.out; show _ < _; omega
  have H4 : Hid (∀ i, i < 4 → (W.cell? ⟨w.heap.size + 1, i, none⟩).isSome = true) := by
    intro i hi
    rw [hW]
    rcases (show i = 0 ∨ i = 1 ∨ i = 2 ∨ i = 3 by omega) with rfl | rfl | rfl | rfl <;> simp [go_sem]
  rw [← hW]
  have m1 : ¬ w.heap.size = W.heap.size := by have := hz.out; omega
  have m2 : ¬ w.heap.size + 1 = W.heap.size := by have := hz.out; omega
  clear hW
  go_cut [12] (fun s12 wx => ∃ ax cx ay cy, Box4 wx (w.heap.size + 1) (.string id) (.int .i64 k) (.slice ax 0 cx) (.slice ay 0 cy) ∧ Below w.heap.size w wx)
  case first =>
    go_region_held3 (fun wy => wy.cell? ⟨w.heap.size, 0, none⟩ = some (.string id) ∧ wy.cell? ⟨w.heap.size, 1, none⟩ = some (.int .i64 k) ∧ wy.cell? ⟨w.heap.size, 2, none⟩ = some (.slice a 0 cap) ∧ wy.cell? ⟨w.heap.size, 3, none⟩ = some (.slice c 0 ca) ∧ wy.cell? ⟨(w.heap.size + 1), 0, none⟩ = some (cellOf wy (w.heap.size + 1) 0) ∧ wy.cell? ⟨(w.heap.size + 1), 1, none⟩ = some (cellOf wy (w.heap.size + 1) 1) ∧ wy.cell? ⟨(w.heap.size + 1), 2, none⟩ = some (cellOf wy (w.heap.size + 1) 2) ∧ wy.cell? ⟨(w.heap.size + 1), 3, none⟩ = some (cellOf wy (w.heap.size + 1) 3) ∧ wy.frozen? ⟨(w.heap.size + 1), 0, none⟩ = false ∧ wy.frozen? ⟨(w.heap.size + 1), 1, none⟩ = false ∧ wy.frozen? ⟨(w.heap.size + 1), 2, none⟩ = false ∧ wy.frozen? ⟨(w.heap.size + 1), 3, none⟩ = false ∧ Kept1 W (w.heap.size + 1) wy)
      (first
        | assumption
        | with_reducible exact SOF.out _ (Kept1.refl zR.out).drew
        | (go_split_ands
           rename_i hS
           with_reducible exact SOF.out _ (hS.below hbn))
        | (go_split_ands
           rename_i hS
           first | with_reducible exact SOF.out _ ((Kept1.refl zR.out).alloc _).drew | exact SOF.out _ (hS.alloc _))
        | (go_split_ands
           rename_i hS
           with_reducible exact SOF.out _ ((((hS.set _ _).set _ _).set _ _).set _ _)))
      (first
        | (go_at_call 43
           refine (l1Copy_nil k a cap _).mono ?_
           rintro e wn ⟨g, rfl, hbn⟩
           first | have hk := keptA hbn zR.out | have hk := keptB hbn zR.out | skip)
        | (refine step_append0 _ (by rfl) _ _ _ (by rfl) 52 i0 Try.underlying41 HI.out _ _ _ (by rfl) (by rfl) ?_))
    all_goals (go_wp2_with fail; go_meet; first | ((with_reducible refine ⟨_, _, _, _, hk.box H4.out, ?_⟩); exact ((((hk.set _ _).set _ _).set _ _).set _ _).under B0.out) | ((with_reducible refine ⟨_, _, _, _, (hk.alloc _).box H4.out, ?_⟩); exact (((((hk.alloc _).set _ _).set _ _).set _ _).set _ _).under B0.out))
  case rest =>
    obtain ⟨ax, cx, ay, cy, ⟨r0, r1, r2, r3⟩, hB⟩ := hcut
    have B := Lib.hid hB
    clear hB
    go_wp2
    refine bodyPost_ret (v := .agg #[.string id, .int .i64 k, .slice ax 0 cx, .slice ay 0 cy]) (by simp [results, Try.results49, go_sem, r0, r1, r2, r3]) rfl ?_
    exact ⟨ax, cx, ay, cy, rfl, B.out⟩
end Go.Proofs.Ytdfadpejddhbkaa
