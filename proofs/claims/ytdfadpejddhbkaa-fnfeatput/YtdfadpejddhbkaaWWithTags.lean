/- Proved here: a thing with other tags, told from a map in order, in memory of its own; things with at least one point. -/
import Derived.Test.YtdfadpejddhbkaaWFeatCutS
namespace Go.Proofs.Ytdfadpejddhbkaa
set_option linter.unusedVariables false
open Go.ChangeShapes Go.WideShapes Go.ChangeAt Go.RowKit Go.Deep

/-- a shape in a box made since, its points in a row made since -/
def ShBox (W : World) (k : Int) (ps : List (Int × Int)) (s g cap2 : Nat) (wx : World) : Prop :=
  wx.cell? ⟨s, 0, none⟩ = some (.int .i64 k) ∧ wx.cell? ⟨s, 1, none⟩ = some (.slice (some ⟨g, 0, none⟩) ps.length cap2) ∧ PtsAt wx (some ⟨g, 0, none⟩) ps ∧ Soft wx (some ⟨g, 0, none⟩) ps.length ∧ W.heap.size ≤ g ∧ g < wx.heap.size ∧ W.heap.size ≤ s ∧ s < wx.heap.size ∧ Below W.heap.size W wx

theorem shBox_late {W wn : World} {k : Int} {ps : List (Int × Int)} {g cap2 : Nat} {t : TypeId} (hpt : PtsAt wn (some ⟨g, 0, none⟩) ps) (hso : Soft wn (some ⟨g, 0, none⟩) ps.length) (hg : W.heap.size ≤ g) (hglt : g < wn.heap.size) (hb : Below W.heap.size W wn) :
    ShBox W k ps wn.heap.size g cap2 (wn.alloc (.cells #[.int .i64 k, .slice (some ⟨g, 0, none⟩) ps.length cap2] t)) := by
  have ba : Below wn.heap.size wn (wn.alloc (.cells #[.int .i64 k, .slice (some ⟨g, 0, none⟩) ps.length cap2] t)) := (Below.refl _ _).alloc (Nat.le_refl _) _
  exact ⟨by simp [go_sem], by simp [go_sem], hpt.below ba, hso.below hpt ba, hg, by simp; omega, hb.size, by simp, hb.trans (ba.mono hb.size)⟩

theorem shBox_soon {W wn : World} {k : Int} {ps : List (Int × Int)} {g cap2 : Nat} {O : Obj} {u0 u1 : Value} (hpt : PtsAt wn (some ⟨g, 0, none⟩) ps) (hso : Soft wn (some ⟨g, 0, none⟩) ps.length) (hg : (W.alloc O).heap.size ≤ g) (hglt : g < wn.heap.size) (hb : Below W.heap.size W wn) (c0 : wn.cell? ⟨W.heap.size, 0, none⟩ = some u0) (c1 : wn.cell? ⟨W.heap.size, 1, none⟩ = some u1) :
    ShBox W k ps W.heap.size g cap2 ((wn.setCell ⟨W.heap.size, 0, none⟩ (.int .i64 k)).setCell ⟨W.heap.size, 1, none⟩ (.slice (some ⟨g, 0, none⟩) ps.length cap2)) := by
  rw [World.size_alloc] at hg
  have hne : blk (some ⟨g, 0, none⟩) ≠ some W.heap.size := by simp [blk]; omega
  refine ⟨?_, ?_, (hpt.set hne).set hne, (hso.set _ _).set _ _, by omega, by simpa [World.setCell] using hglt, Nat.le_refl _, by have := World.block_lt_of_cell? _ _ c0; simpa [World.setCell] using this, (hb.setCell (Nat.le_refl _) _).setCell (Nat.le_refl _) _⟩
  · rw [World.cell?_setCell_other _ _ _ _ (by simp)]
    exact World.cell?_setCell_same _ _ _ c0
  · exact World.cell?_setCell_same _ _ _ ((World.cell?_setCell_other _ _ _ _ (by simp)).trans c1)

theorem boxFacts {W wn : World} (hbn : Below ((W.alloc (.cells #[.int .i64 0, .slice none 0 0] 25)).drew).heap.size ((W.alloc (.cells #[.int .i64 0, .slice none 0 0] 25)).drew) wn) :
    wn.cell? ⟨W.heap.size, 0, none⟩ = some (.int .i64 0) ∧ wn.cell? ⟨W.heap.size, 1, none⟩ = some (.slice none 0 0) ∧ wn.frozen? ⟨W.heap.size, 0, none⟩ = false ∧ wn.frozen? ⟨W.heap.size, 1, none⟩ = false := by
  refine ⟨cell_later hbn (by simp [go_sem]), cell_later hbn (by simp [go_sem]), ?_, ?_⟩
  · rw [hbn.frozen (p := ⟨W.heap.size, 0, none⟩) (by simp)]
    simp [go_sem]
  · rw [hbn.frozen (p := ⟨W.heap.size, 1, none⟩) (by simp)]
    simp [go_sem]

theorem Kept1.box {W wy : World} {r : Nat} {v0 v1 v2 v3 : Value} (hk : Kept1 W r wy) (h4 : ∀ i, i < 4 → (W.cell? ⟨r, i, none⟩).isSome = true) :
    Box4 ((((wy.setCell ⟨r, 0, none⟩ v0).setCell ⟨r, 1, none⟩ v1).setCell ⟨r, 2, none⟩ v2).setCell ⟨r, 3, none⟩ v3) r v0 v1 v2 v3 := by
  obtain ⟨u0, s0⟩ := Option.isSome_iff_exists.1 (hk.some 0 (h4 0 (by omega)))
  obtain ⟨u1, s1⟩ := Option.isSome_iff_exists.1 (hk.some 1 (h4 1 (by omega)))
  obtain ⟨u2, s2⟩ := Option.isSome_iff_exists.1 (hk.some 2 (h4 2 (by omega)))
  obtain ⟨u3, s3⟩ := Option.isSome_iff_exists.1 (hk.some 3 (h4 3 (by omega)))
  have far : ∀ (w : World) (o o' : Nat) (v : Value), o ≠ o' → (w.setCell ⟨r, o, none⟩ v).cell? ⟨r, o', none⟩ = w.cell? ⟨r, o', none⟩ := fun w o o' v hne => World.cell?_setCell_other w ⟨r, o, none⟩ ⟨r, o', none⟩ v (fun h => hne (congrArg Addr.off h))
  refine ⟨?_, ?_, ?_, ?_⟩
  · rw [far _ _ _ _ (by omega), far _ _ _ _ (by omega), far _ _ _ _ (by omega)]
    exact World.cell?_setCell_same _ _ _ s0
  · rw [far _ _ _ _ (by omega), far _ _ _ _ (by omega)]
    exact World.cell?_setCell_same _ _ _ ((far _ _ _ _ (by omega)).trans s1)
  · rw [far _ _ _ _ (by omega)]
    exact World.cell?_setCell_same _ _ _ ((far _ _ _ _ (by omega)).trans ((far _ _ _ _ (by omega)).trans s2))
  · exact World.cell?_setCell_same _ _ _ ((far _ _ _ _ (by omega)).trans ((far _ _ _ _ (by omega)).trans ((far _ _ _ _ (by omega)).trans s3)))

theorem drewBelow {W wn : World} (hbn : Below W.drew.heap.size W.drew wn) : Below W.heap.size W wn := ((Below.refl _ W).drew).trans hbn

theorem boxBelow {W wn : World} {O : Obj} (hbn : Below ((W.alloc O).drew).heap.size ((W.alloc O).drew) wn) : Below W.heap.size W wn :=
  (((Below.refl _ W).alloc (Nat.le_refl _) O).drew).trans (hbn.mono (by simp))

set_option maxRecDepth 100000 in
set_option maxHeartbeats 6400000 in
theorem withTags_any (id : ByteArray) (k : Int) (b off cap : Nat) (ps : List (Int × Int)) (c : Option Addr) (m ca : Nat) (bm n : Nat) (D : DataW Value) (us : List Tg) (w : World) (hp : PtsAt w (some ⟨b, off, none⟩) ps) (hl : ps.length ≤ 1048576) (h0 : 0 < ps.length)
    (hown : w.ownsMap Try.prog 9 heldElem bm n D) (ht : Tells D us) (hn : n ≤ 1048577) (hul : ∀ i, i < us.length → (tk us i).size ≤ maxLen) :
    Calls Try.prog 48 #[.agg #[.string id, .int .i64 k, .slice (some ⟨b, off, none⟩) ps.length cap, .slice c m ca], .map (some bm)] w fun e w' => ∃ v, e = .returned v ∧ FeatAns w id k ps us v w' := by
  have HP := Lib.hid hp
  have HO := Lib.hid hown
  have HT := Lib.hid ht
  have HU := Lib.hid hul
  have hbm := hown.lt
  clear hp hown ht hul
  go_enter Try.func48, Try.ntmps48
  go_upto_region 1 with (fail)
  obtain ⟨W, hW⟩ : ∃ W, W = ((w.alloc (.cells #[.string id, .int .i64 k, .slice (some ⟨b, off, none⟩) ps.length cap, .slice c m ca] 43)).alloc (.cells #[.string ⟨#[]⟩, .int .i64 0, .slice none 0 0, .slice none 0 0] 43)) := ⟨_, rfl⟩
  have B0 : Hid (Below w.heap.size w W) := by rw [hW]; exact ((Below.refl _ _).alloc (Nat.le_refl _) _).alloc (by simp) _
  have hz : Hid (W.heap.size = w.heap.size + 1 + 1) := by show _ = _; rw [hW]; simp
  have RB : Hid (BoxS W (w.heap.size + 1) (.string ⟨#[]⟩) (.int .i64 0) (.slice none 0 0) (.slice none 0 0)) := by
    have := BoxS.new (w.alloc (.cells #[.string id, .int .i64 k, .slice (some ⟨b, off, none⟩) ps.length cap, .slice c m ca] 43)) (.string ⟨#[]⟩) (.int .i64 0) (.slice none 0 0) (.slice none 0 0) 43
    rw [hW]
    simpa [Hid] using this
  have CB : Hid (Box4 W w.heap.size (.string id) (.int .i64 k) (.slice (some ⟨b, off, none⟩) ps.length cap) (.slice c m ca)) := by rw [hW]; exact (Box4.new w _ _ _ _ _).alloc _
  have SOF : Hid (∀ wy, Below W.heap.size W wy → wy.cell? ⟨w.heap.size, 0, none⟩ = some (.string id) ∧ wy.cell? ⟨w.heap.size, 1, none⟩ = some (.int .i64 k) ∧ wy.cell? ⟨w.heap.size, 2, none⟩ = some (.slice (some ⟨b, off, none⟩) ps.length cap) ∧ wy.cell? ⟨w.heap.size, 3, none⟩ = some (.slice c m ca) ∧ Below W.heap.size W wy) := by
    intro wy hb
    obtain ⟨q0, q1, q2, q3⟩ := CB.out.later hb
    exact ⟨q0, q1, q2, q3, hb⟩
  rw [← hW]
  have m1 : ¬ w.heap.size = W.heap.size := by have := hz.out; omega
  have m2 : ¬ w.heap.size + 1 = W.heap.size := by have := hz.out; omega
  clear hW
  go_cut [5] (fun s5 wx => ∃ s g cap2, s5 = .pointer (some ⟨s, 0, none⟩) ∧ ShBox W k ps s g cap2 wx)
  case first =>
    go_region_held3 (fun wy => wy.cell? ⟨w.heap.size, 0, none⟩ = some (.string id) ∧ wy.cell? ⟨w.heap.size, 1, none⟩ = some (.int .i64 k) ∧ wy.cell? ⟨w.heap.size, 2, none⟩ = some (.slice (some ⟨b, off, none⟩) ps.length cap) ∧ wy.cell? ⟨w.heap.size, 3, none⟩ = some (.slice c m ca) ∧ Below W.heap.size W wy)
      (first
        | exact SOF.out _ ((Below.refl _ _).drew)
        | (go_split_ands
           rename_i hS
           exact SOF.out _ (hS.trans (hbn.mono hS.size)))
        | (go_split_ands
           rename_i hS
           exact SOF.out _ (hS.alloc hS.size _))
        | exact SOF.out _ ((drewBelow hbn).alloc hbn.size _)
        | (go_split_ands
           rename_i hS
           exact SOF.out _ ((hS.setCell (Nat.le_refl _) _).setCell (Nat.le_refl _) _)))
      (first
        | (go_at_call 36
           refine (clone_any b off cap ps _ ?_ hl h0).mono ?_
           · (go_split_ands; rename_i hS; exact HP.out.below (B0.out.trans (hS.mono B0.out.size)))
           rintro e wn ⟨g, cap2, rfl, hpt, hso, hg, hglt, hbn⟩
           try (first | have tf := boxFacts hbn)
           try (obtain ⟨t0, t1, u0, u1⟩ := tf)))
    all_goals (go_wp2_with fail; go_meet; go_split_ands; first | exact ⟨_, g, cap2, rfl, shBox_late hpt hso hg hglt (drewBelow hbn)⟩ | exact ⟨_, g, cap2, rfl, shBox_soon hpt hso hg hglt (boxBelow hbn) t0 t1⟩)
  case rest =>
    obtain ⟨s, g, cap2, rfl, hsh⟩ := hcut
    obtain ⟨d0, d1, hpt, hso, hg, hglt, hs, hslt, hbW⟩ := hsh
    have hz' := hz.out
    have D0 := Lib.hid d0
    have D1 := Lib.hid d1
    have PC := Lib.hid hpt
    have SC := Lib.hid hso
    have RC := Lib.hid (RB.out.later hbW)
    have CC := Lib.hid (CB.out.later hbW)
    have BC : Hid (Below w.heap.size w wc) := B0.out.trans (hbW.mono B0.out.size)
    have OC : Hid (wc.ownsMap Try.prog 9 heldElem bm n D) := ownsMap_below HO.out BC.out
    have zc : w.heap.size + 1 < wc.heap.size := RC.out.1.lt
    have H4 : Hid (∀ i, i < 4 → (wc.cell? ⟨w.heap.size + 1, i, none⟩).isSome = true) := by
      intro i hi
      obtain ⟨⟨q0, q1, q2, q3⟩, _⟩ := RC.out
      rcases (show i = 0 ∨ i = 1 ∨ i = 2 ∨ i = 3 by omega) with rfl | rfl | rfl | rfl
      · rw [q0]; rfl
      · rw [q1]; rfl
      · rw [q2]; rfl
      · rw [q3]; rfl
    have SOF2 : Hid (∀ wy, Kept1 wc (w.heap.size + 1) wy → wy.cell? ⟨w.heap.size, 0, none⟩ = some (.string id) ∧ wy.cell? ⟨s, 0, none⟩ = some (.int .i64 k) ∧ wy.cell? ⟨s, 1, none⟩ = some (.slice (some ⟨g, 0, none⟩) ps.length cap2) ∧ wy.cell? ⟨(w.heap.size + 1), 0, none⟩ = some (cellOf wy (w.heap.size + 1) 0) ∧ wy.cell? ⟨(w.heap.size + 1), 1, none⟩ = some (cellOf wy (w.heap.size + 1) 1) ∧ wy.cell? ⟨(w.heap.size + 1), 2, none⟩ = some (cellOf wy (w.heap.size + 1) 2) ∧ wy.cell? ⟨(w.heap.size + 1), 3, none⟩ = some (cellOf wy (w.heap.size + 1) 3) ∧ wy.frozen? ⟨(w.heap.size + 1), 0, none⟩ = false ∧ wy.frozen? ⟨(w.heap.size + 1), 1, none⟩ = false ∧ wy.frozen? ⟨(w.heap.size + 1), 2, none⟩ = false ∧ wy.frozen? ⟨(w.heap.size + 1), 3, none⟩ = false ∧ Kept1 wc (w.heap.size + 1) wy) := by
      intro wy hb
      have far : ∀ {x o : Nat} {u : Value}, wc.cell? ⟨x, o, none⟩ = some u → x ≠ w.heap.size + 1 → wy.cell? ⟨x, o, none⟩ = some u := fun h hne => (hb.grown.cell_far _ (World.block_lt_of_cell? _ _ h) (by simpa using hne)).trans h
      have hf : ∀ o, wy.frozen? ⟨w.heap.size + 1, o, none⟩ = false := fun o => (hb.soft _ (by show w.heap.size + 1 < _; omega)).trans (RC.out.2 o)
      exact ⟨far CC.out.1 (by omega), far D0.out (by omega), far D1.out (by omega), cellOf_some (hb.some _ (H4.out 0 (by omega))), cellOf_some (hb.some _ (H4.out 1 (by omega))), cellOf_some (hb.some _ (H4.out 2 (by omega))), cellOf_some (hb.some _ (H4.out 3 (by omega))), hf 0, hf 1, hf 2, hf 3, hb⟩
    have ms1 : ¬ s = w.heap.size + 1 := by omega
    have ms2 : ¬ w.heap.size + 1 = s := by omega
    clear d0 d1 hpt hso hbW SOF
    go_upto_region 2 with (fail)
    go_cut [19] (fun s19 wx => ∃ a3 cap3, Box4 wx (w.heap.size + 1) (.string id) (.int .i64 k) (.slice (some ⟨g, 0, none⟩) ps.length cap2) (.slice a3 us.length cap3) ∧ PtsAt wx (some ⟨g, 0, none⟩) ps ∧ Soft wx (some ⟨g, 0, none⟩) ps.length ∧ TagsAt wx a3 us ∧ Soft wx a3 us.length ∧ (∀ x, blk a3 = some x → wc.heap.size ≤ x ∧ x < wx.heap.size) ∧ wc.heap.size ≤ wx.heap.size ∧ Below w.heap.size w wx)
    case first =>
      go_region_held3 (fun wy => wy.cell? ⟨w.heap.size, 0, none⟩ = some (.string id) ∧ wy.cell? ⟨s, 0, none⟩ = some (.int .i64 k) ∧ wy.cell? ⟨s, 1, none⟩ = some (.slice (some ⟨g, 0, none⟩) ps.length cap2) ∧ wy.cell? ⟨(w.heap.size + 1), 0, none⟩ = some (cellOf wy (w.heap.size + 1) 0) ∧ wy.cell? ⟨(w.heap.size + 1), 1, none⟩ = some (cellOf wy (w.heap.size + 1) 1) ∧ wy.cell? ⟨(w.heap.size + 1), 2, none⟩ = some (cellOf wy (w.heap.size + 1) 2) ∧ wy.cell? ⟨(w.heap.size + 1), 3, none⟩ = some (cellOf wy (w.heap.size + 1) 3) ∧ wy.frozen? ⟨(w.heap.size + 1), 0, none⟩ = false ∧ wy.frozen? ⟨(w.heap.size + 1), 1, none⟩ = false ∧ wy.frozen? ⟨(w.heap.size + 1), 2, none⟩ = false ∧ wy.frozen? ⟨(w.heap.size + 1), 3, none⟩ = false ∧ Kept1 wc (w.heap.size + 1) wy)
        (first
          | exact SOF2.out _ (Kept1.refl zc).drew
          | (go_split_ands
             rename_i hS
             exact SOF2.out _ (hS.below hbn))
          | (go_split_ands
             rename_i hS
             exact SOF2.out _ ((((hS.set _ _).set _ _).set _ _).set _ _)))
        (first
          | (go_at_call 65
             refine (tagsInOrder_any bm n D us _ ?_ HT.out hn HU.out).mono ?_
             · (go_split_ands; rename_i hS; exact OC.out.kept hS.grown (by simp; omega))
             rintro e wn ⟨v, rfl, hrow, hbn⟩
             obtain ⟨a3, cap3, rfl, hT, hTS, hTN⟩ := owned_tags hrow rfl))
      all_goals
        go_wp2_with fail
        go_meet
        have hk := (Kept1.refl zc).drew.below hbn
        have hb := drewBelow hbn
        have ng : blk (some ⟨g, 0, none⟩) ≠ some (w.heap.size + 1) := by simp [blk]; omega
        have na : blk a3 ≠ some (w.heap.size + 1) := fun e => by have h := (hTN _ e).1; change wc.heap.size ≤ _ at h; omega
        exact ⟨a3, cap3, hk.box H4.out, ((((PC.out.below hb).set ng).set ng).set ng).set ng, ((((SC.out.below PC.out hb).set _ _).set _ _).set _ _).set _ _, (((hT.set na).set na).set na).set na, (((hTS.set _ _).set _ _).set _ _).set _ _, fun x e => ⟨(hTN x e).1, by have := (hTN x e).2; simpa [World.setCell] using this⟩, by have := hb.size; simpa [World.setCell] using this, ((((hk.set _ _).set _ _).set _ _).set _ _).under BC.out⟩
    case rest =>
      obtain ⟨a3, cap3, ⟨r0, r1, r2, r3⟩, hP, hPS, hT, hTS, hTN, hsz, hB⟩ := hcut
      have E1 := Lib.hid hP
      have E2 := Lib.hid hPS
      have E3 := Lib.hid hT
      have E4 := Lib.hid hTS
      have E5 := Lib.hid hTN
      have E6 := Lib.hid hB
      clear hP hPS hT hTS hTN hB
      go_wp2
      refine bodyPost_ret (v := .agg #[.string id, .int .i64 k, .slice (some ⟨g, 0, none⟩) ps.length cap2, .slice a3 us.length cap3]) (by simp [results, Try.results48, go_sem, r0, r1, r2, r3]) rfl ?_
      exact ⟨_, rfl, _, cap2, a3, cap3, rfl, E1.out, E2.out, fun x e => by obtain rfl : g = x := (by simpa [blk] using e); exact ⟨by omega, by omega⟩, E3.out, E4.out, fun x e => ⟨by have := (E5.out x e).1; omega, (E5.out x e).2⟩, fun x e e' => by obtain rfl : g = x := (by simpa [blk] using e); have := (E5.out _ e').1; omega, E6.out⟩
end Go.Proofs.Ytdfadpejddhbkaa
