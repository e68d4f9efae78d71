/- Proved here: the program's thing of a name, by a map of names, is a copy of the first of that name, in memory of its own; lists of at most 1,048,576 things, points and tags, texts of at most 1,048,576 bytes. -/
import Derived.Test.YtjphlpjippojiaaGreatWSheetGetS
import Derived.Test.YtjphlpjippojiaaGreatWFeatCopy
namespace Go.Proofs.YtjphlpjippojiaaGreat
set_option linter.unusedVariables false
open Go.ChangeShapes Go.WideShapes Go.ChangeAt Go.RowKit Go.Deep Go.Maps

theorem ent_get {w : World} {es : List En} {fs : List Ft} (h : Ents w es fs) {i : Nat} (hi : i < fs.length) : es[i]'(by rw [h.1]; exact hi) = (fid fs i, ev es i) := by
  have h1 := (h.2 i hi).1
  have hi' : i < es.length := by rw [h.1]; exact hi
  rw [← h1]
  simp [ek, ev, hi']

theorem nothing_feat {w w1 : World} {r : Nat} {x0 x1 x2 x3 : Value} (hw : Below w.heap.size w w1) (hr : w.heap.size ≤ r) :
    FeatAns w ⟨#[]⟩ 0 [] [] (.agg #[.string ⟨#[]⟩, .int .i64 0, .slice none 0 0, .slice none 0 0]) ((((w1.setCell ⟨r, 0, none⟩ x0).setCell ⟨r, 1, none⟩ x1).setCell ⟨r, 2, none⟩ x2).setCell ⟨r, 3, none⟩ x3) :=
  ⟨none, 0, none, 0, rfl, PtsAt.nil _ _, fun i hi => absurd hi (Nat.not_lt_zero _), fun x h => by simp [blk] at h, TagsAt.nil _ _, fun i hi => absurd hi (Nat.not_lt_zero _), fun x h => by simp [blk] at h, fun x h => by simp [blk] at h, (((hw.setCell hr _).setCell hr _).setCell hr _).setCell hr _⟩

theorem ok_tells {w0 : World} {es : List En} {fs : List Ft} (he : Ents w0 es fs) (hok : sheetOk fs = true) : TellsF (mapF es) es := by
  have h := tellsF_mapF es
  rw [toldF_asc (ascF_of_good he (by simp [sheetOk] at hok; exact hok.1))] at h
  exact h

/-- a look-up of a name that is there -/
theorem look_hit {w0 w : World} {b n : Nat} {es : List En} {fs : List Ft} (hown : w.ownsMap Tryz.prog 9 heldElem b n (mapF es)) (he : Ents w0 es fs) (hok : sheetOk fs = true) {i : Nat} (hi : i < fs.length) (hl : (fid fs i).size ≤ maxLen) :
    (Instr.lookup 54 (.map (some b)) (.string (fid fs i)) true).run Tryz.prog w = .ok (.tuple #[ev es i, .bool true]) w := by
  have hz : (zeroValue 29).run Tryz.prog w = .ok (.agg #[.string .empty, .int .i64 0, .slice none 0 0, .slice none 0 0]) w := by kernel_rfl
  obtain ⟨v, ps, hrun, hv⟩ := hown.look_ok keyT Tryz.underlying54 hz (zd := .held (.agg #[.string .empty, .int .i64 0, .slice none 0 0, .slice none 0 0])) (zp := []) rfl (Go.WideMaps.keyOf_string_mk Tryz.underlying9 hl)
  simp only [heldElem, Option.some.injEq, Prod.mk.injEq] at hv
  have hm : ((fid fs i, ev es i) : En) ∈ es := by rw [← ent_get he hi]; exact List.getElem_mem _
  have h1 := (ok_tells he hok).at_ _ hm
  have hh : Maps.has (mapF es) (.string (fid fs i).data.toList) = true := has_true_of_atKey h1
  have h3 := hv.1
  rw [show (mapF es).atKey (.string (fid fs i).data.toList) _ = .held (ev es i) from h1 _] at h3
  rw [hrun, DataW.held.inj h3, hh]

/-- a look-up of a name that is not there -/
theorem look_miss {w0 w : World} {b n : Nat} {es : List En} {fs : List Ft} {id : ByteArray} (hown : w.ownsMap Tryz.prog 9 heldElem b n (mapF es)) (he : Ents w0 es fs) (hno : ∀ j, j < fs.length → fid fs j ≠ id) (hl : id.size ≤ maxLen) :
    (Instr.lookup 54 (.map (some b)) (.string id) true).run Tryz.prog w = .ok (.tuple #[.agg #[.string .empty, .int .i64 0, .slice none 0 0, .slice none 0 0], .bool false]) w := by
  have hz : (zeroValue 29).run Tryz.prog w = .ok (.agg #[.string .empty, .int .i64 0, .slice none 0 0, .slice none 0 0]) w := by kernel_rfl
  obtain ⟨v, ps, hrun, hv⟩ := hown.look_ok keyT Tryz.underlying54 hz (zd := .held (.agg #[.string .empty, .int .i64 0, .slice none 0 0, .slice none 0 0])) (zp := []) rfl (Go.WideMaps.keyOf_string_mk Tryz.underlying9 hl)
  simp only [heldElem, Option.some.injEq, Prod.mk.injEq] at hv
  have hn : Maps.has (mapF es) (.string id.data.toList) = false := by
    cases hh : Maps.has (mapF es) (.string id.data.toList)
    · rfl
    · obtain ⟨t, h1, h2⟩ := (tellsF_mapF es).has _ hh
      obtain ⟨j, hj, e⟩ := List.getElem_of_mem (toldF_mem h1)
      have hj' : j < fs.length := by rw [← he.1]; exact hj
      rw [ent_get he hj'] at e
      refine absurd ?_ (hno j hj')
      rw [← toList_inj, ByteArray.toList_eq, ByteArray.toList_eq, ← h2, ← e]
      rfl
  have h3 := hv.1
  rw [atKey_of_not_has hn] at h3
  rw [hrun, DataW.held.inj h3, hn]

theorem FeatAns.close {w u w3 : World} {id : ByteArray} {k : Int} {ps : List (Int × Int)} {ts : List Tg} {v : Value} {r : Nat} (h : FeatAns u id k ps ts v w3) (hu : Below w.heap.size w u) (hr : w.heap.size ≤ r) (hr' : r < u.heap.size) (x0 x1 x2 x3 : Value) :
    FeatAns w id k ps ts v ((((w3.setCell ⟨r, 0, none⟩ x0).setCell ⟨r, 1, none⟩ x1).setCell ⟨r, 2, none⟩ x2).setCell ⟨r, 3, none⟩ x3) := by
  obtain ⟨a, cap, c, ca, h1, h2, h3, h4, h5, h6, h7, h8, h9⟩ := h
  have na : blk a ≠ some r := fun e => by have := (h4 _ e).1; omega
  have nc : blk c ≠ some r := fun e => by have := (h7 _ e).1; omega
  have hs := hu.size
  exact ⟨a, cap, c, ca, h1, (((h2.set na).set na).set na).set na, (((h3.set _ _).set _ _).set _ _).set _ _, fun x e => ⟨by have := (h4 x e).1; omega, by have := (h4 x e).2; simpa [World.setCell] using this⟩, (((h5.set nc).set nc).set nc).set nc, (((h6.set _ _).set _ _).set _ _).set _ _, fun x e => ⟨by have := (h7 x e).1; omega, by have := (h7 x e).2; simpa [World.setCell] using this⟩, h8, ((((hu.trans (h9.mono hs)).setCell hr _).setCell hr _).setCell hr _).setCell hr _⟩

theorem firstF_none {fs : List Ft} {id : ByteArray} (h : ¬ firstF fs id < fs.length) : ∀ j, j < fs.length → fid fs j ≠ id := by
  intro j hj e
  refine h ?_
  unfold firstF
  exact List.findIdx_lt_length_of_exists ⟨fs[j], List.getElem_mem hj, by simp [fid_get hj, e]⟩

set_option maxRecDepth 100000 in
set_option maxHeartbeats 4000000 in
theorem implSheetGet_any (a : Option Addr) (cap : Nat) (fs : List Ft) (id : ByteArray) (w : World) (hp : FeatsAt w a fs) (hl : fs.length ≤ 1048576) (ht : FeatsLen fs 1048576) (hi : id.size ≤ 1048576) :
    Calls Tryz.prog 9 #[.slice a fs.length cap, .string id] w fun e w' => ∃ v, e = .returned (.tuple #[v, .bool (getHas fs id)]) ∧ FeatAns w (getFt fs id).1 (getFt fs id).2.1 (getFt fs id).2.2.1 (getFt fs id).2.2.2 v w' := by
  have HP := Lib.hid hp
  have HL := Lib.hid ht
  clear hp ht
  have A0 : Hid (∀ o, Below w.heap.size w (w.alloc o)) := fun o => (Below.refl _ _).alloc (Nat.le_refl _) _
  go_enter Tryz.func9, Tryz.ntmps9
  go_wp2_with fail
  refine (implSheetOk_any _ _ _ _ (HP.out.below (A0.out _)) hl HL.out).mono ?_
  rintro e w1 ⟨rfl, hb1⟩
  have R1 : Hid (BoxS w1 w.heap.size (.string ⟨#[]⟩) (.int .i64 0) (.slice none 0 0) (.slice none 0 0)) := (BoxS.new w _ _ _ _ _).later hb1
  have B1 : Hid (Below w.heap.size w w1) := (A0.out _).trans (hb1.mono (by simp))
  have hsz1 : w.heap.size < w1.heap.size := R1.out.1.lt
  clear hb1 A0
  by_cases hok : sheetOk fs = true
  · rw [hok]
    go_wp2_with fail
    refine (featsByName_any _ _ _ _ (HP.out.below B1.out) hl HL.out).mono ?_
    rintro e w2 ⟨rfl, ⟨es, he, ho⟩, hb2⟩
    have R2 := Lib.hid (R1.out.later hb2)
    have B2 : Hid (Below w.heap.size w w2) := B1.out.trans (hb2.mono B1.out.size)
    have HE := Lib.hid (he.below hb2)
    have hsz2 := hb2.size
    clear hb2 R1 B1
    by_cases hlt : firstF fs id < fs.length
    · have hat := firstF_at hlt
      have HH : Hid (getHas fs id = true) := by show _ = _; simp [getHas, hok, hlt]
      have HG : Hid (getFt fs id = fg fs (firstF fs id)) := by show _ = _; unfold getFt; rw [HH.out, if_pos rfl]
      obtain ⟨l1, l2, l3, _⟩ := HL.out (firstF fs id) hlt
      have hlk := look_hit ho he hok hlt (by unfold maxLen; omega)
      rw [hat] at hlk
      obtain ⟨pa, pc, ta, tc, hev, hpp, htt⟩ := (HE.out.2 _ hlt).2
      rw [hev] at hlk
      generalize firstF fs id = i at *
      have D1 := Lib.hid hpp
      have D2 := Lib.hid htt
      clear hpp htt hev ho he hok
      have A2 : Hid (∀ o, Below w2.heap.size w2 (w2.alloc o)) := fun o => (Below.refl _ _).alloc (Nat.le_refl _) _
      go_wp2_with fail
      refine (featCopy_any _ _ _ _ _ _ _ _ _ (D1.out.below (A2.out _)) (D2.out.below (A2.out _)) (by show (fps fs i).length ≤ _; omega) (by show (fts fs i).length ≤ _; omega)).mono ?_
      rintro e w3 ⟨v, rfl, hg⟩
      have hb3 := hg.got.2
      have GG := Lib.hid hg
      have U2 : Hid (∀ o, Below w.heap.size w (w2.alloc o)) := fun o => B2.out.alloc B2.out.size _
      obtain ⟨⟨r0, r1, r2, r3⟩, rf⟩ := (R2.out.later (A2.out (.cells #[.string (fg fs i).1, .int .i64 (fg fs i).2.1, .slice pa (fg fs i).2.2.1.length pc, .slice ta (fg fs i).2.2.2.length tc] 29))).later hb3
      have f0 := rf 0
      have f1 := rf 1
      have f2 := rf 2
      have f3 := rf 3
      clear rf hb3 hlk
      obtain ⟨ax, cx, ay, cy, rfl, _⟩ := hg
      go_wp2
      refine bodyPost_ret (v := .tuple #[.agg #[.string (fg fs i).1, .int .i64 (fg fs i).2.1, .slice ax (fg fs i).2.2.1.length cx, .slice ay (fg fs i).2.2.2.length cy], .bool true]) (by simp [results, Tryz.results9, go_sem, r0, r1, r2, r3]) rfl ?_
      refine ⟨_, by rw [HH.out], ?_⟩
      rw [HG.out]
      exact GG.out.close (U2.out _) (Nat.le_refl _) (by simp; omega) _ _ _ _
    · have HH : Hid (getHas fs id = false) := by show _ = _; simp [getHas, hlt]
      have HG : Hid (getFt fs id = (⟨#[]⟩, 0, [], [])) := by show _ = _; unfold getFt; rw [HH.out]; rfl
      have hlk := look_miss ho he (firstF_none hlt) (by unfold maxLen; omega)
      rw [show (ByteArray.empty) = ⟨#[]⟩ from rfl] at hlk
      clear ho he hok hlt
      have A2 : Hid (∀ o, Below w2.heap.size w2 (w2.alloc o)) := fun o => (Below.refl _ _).alloc (Nat.le_refl _) _
      go_wp2_with fail
      refine (featCopy_any ⟨#[]⟩ 0 none 0 [] none 0 [] _ (PtsAt.nil _ _) (TagsAt.nil _ _) (Nat.zero_le _) (Nat.zero_le _)).mono ?_
      rintro e w3 ⟨v, rfl, hg⟩
      have hb3 := hg.got.2
      have GG := Lib.hid hg
      have U2 : Hid (∀ o, Below w.heap.size w (w2.alloc o)) := fun o => B2.out.alloc B2.out.size _
      obtain ⟨⟨r0, r1, r2, r3⟩, rf⟩ := (R2.out.later (A2.out (.cells #[.string ⟨#[]⟩, .int .i64 0, .slice none 0 0, .slice none 0 0] 29))).later hb3
      have f0 := rf 0
      have f1 := rf 1
      have f2 := rf 2
      have f3 := rf 3
      clear rf hb3 hlk
      obtain ⟨ax, cx, ay, cy, rfl, _⟩ := hg
      go_wp2
      refine bodyPost_ret (v := .tuple #[.agg #[.string ⟨#[]⟩, .int .i64 0, .slice ax 0 cx, .slice ay 0 cy], .bool false]) (by simp [results, Tryz.results9, go_sem, r0, r1, r2, r3]) rfl ?_
      refine ⟨_, by rw [HH.out], ?_⟩
      rw [HG.out]
      exact GG.out.close (U2.out _) (Nat.le_refl _) (by simp; omega) _ _ _ _
  · have hok' : sheetOk fs = false := by simpa using hok
    have HH : Hid (getHas fs id = false) := by show _ = _; simp [getHas, hok']
    have HG : Hid (getFt fs id = (⟨#[]⟩, 0, [], [])) := by show _ = _; unfold getFt; rw [HH.out]; rfl
    rw [hok']
    clear hok hok'
    obtain ⟨⟨r0, r1, r2, r3⟩, rf⟩ := R1.out
    have f0 := rf 0
    have f1 := rf 1
    have f2 := rf 2
    have f3 := rf 3
    clear rf
    go_wp2
    refine bodyPost_ret (v := .tuple #[.agg #[.string ⟨#[]⟩, .int .i64 0, .slice none 0 0, .slice none 0 0], .bool false]) (by simp [results, Tryz.results9, go_sem, r0, r1, r2, r3]) rfl ?_
    exact ⟨_, by rw [HH.out], by rw [HG.out]; exact nothing_feat B1.out (Nat.le_refl _)⟩
end Go.Proofs.YtjphlpjippojiaaGreat
