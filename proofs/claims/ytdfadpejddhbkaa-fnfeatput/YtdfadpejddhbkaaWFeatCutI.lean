/- Proved here: the program's FeatCut answers the thing without the key, in memory of its own, or nothing and false; rows of at most 1,048,576 points and tags, texts of at most 1,048,576 bytes. -/
import Derived.Test.YtdfadpejddhbkaaWWithTags
import Derived.Maps.OwnSet
namespace Go.Proofs.Ytdfadpejddhbkaa
set_option linter.unusedVariables false
open Go.ChangeShapes Go.WideShapes Go.ChangeAt Go.RowKit Go.Deep Go.Maps

theorem FeatAns.stored {w w4 w5 : World} {id : ByteArray} {k : Int} {ps : List (Int × Int)} {us : List Tg} {v : Value} {r : Nat} {x0 x1 x2 x3 : Value} (h : FeatAns w4 id k ps us v w5) (hb : Below w.heap.size w w4) (hr : r < w4.heap.size) (hr0 : w.heap.size ≤ r) :
    FeatAns w id k ps us v ((((w5.setCell ⟨r, 0, none⟩ x0).setCell ⟨r, 1, none⟩ x1).setCell ⟨r, 2, none⟩ x2).setCell ⟨r, 3, none⟩ x3) := by
  obtain ⟨a, cap, c, ca, rfl, h1, h2, h3, h4, h5, h6, h7, h8⟩ := h
  have hs := hb.size
  have na : blk a ≠ some r := fun e => by have := (h3 r e).1; omega
  have nc : blk c ≠ some r := fun e => by have := (h6 r e).1; omega
  exact ⟨a, cap, c, ca, rfl, (((h1.set na).set na).set na).set na, (((h2.set _ _).set _ _).set _ _).set _ _, fun x e => ⟨Nat.le_trans hs (h3 x e).1, by have := (h3 x e).2; simpa [World.setCell] using this⟩, (((h4.set nc).set nc).set nc).set nc, (((h5.set _ _).set _ _).set _ _).set _ _, fun x e => ⟨Nat.le_trans hs (h6 x e).1, by have := (h6 x e).2; simpa [World.setCell] using this⟩, h7, ((((hb.trans (h8.mono hs)).setCell hr0 _).setCell hr0 _).setCell hr0 _).setCell hr0 _⟩

theorem FeatAns.later {w w5 w6 : World} {id : ByteArray} {k : Int} {ps : List (Int × Int)} {us : List Tg} {v : Value} (h : FeatAns w id k ps us v w5) (hb : Below w5.heap.size w5 w6) : FeatAns w id k ps us v w6 := by
  obtain ⟨a, cap, c, ca, rfl, h1, h2, h3, h4, h5, h6, h7, h8⟩ := h
  exact ⟨a, cap, c, ca, rfl, h1.below hb, h2.below h1 hb, fun x e => ⟨(h3 x e).1, Nat.lt_of_lt_of_le (h3 x e).2 hb.size⟩, h4.below hb, h5.belowT h4 hb, fun x e => ⟨(h6 x e).1, Nat.lt_of_lt_of_le (h6 x e).2 hb.size⟩, h7, h8.trans (hb.mono h8.size)⟩

theorem Box4.grown {w w' : World} {b : Nat} {v0 v1 v2 v3 : Value} {r : Option Nat} (h : Box4 w b v0 v1 v2 v3) (hg : w.grownBy w' r) (hne : some b ≠ r) : Box4 w' b v0 v1 v2 v3 :=
  ⟨(hg.cell_far _ h.lt hne).trans h.1, (hg.cell_far _ h.lt hne).trans h.2.1, (hg.cell_far _ h.lt hne).trans h.2.2.1, (hg.cell_far _ h.lt hne).trans h.2.2.2⟩
theorem BoxS.grown {w w' : World} {b : Nat} {v0 v1 v2 v3 : Value} {r : Option Nat} (h : BoxS w b v0 v1 v2 v3) (hg : w.grownBy w' r) (hne : some b ≠ r) : BoxS w' b v0 v1 v2 v3 :=
  ⟨h.1.grown hg hne, fun o => (hg.frozen_far ⟨b, o, none⟩ h.1.lt hne).trans (h.2 o)⟩

theorem cutS_mem {ts : List Tg} {x : List UInt8} {s : Tg} (h : s ∈ cutS ts x) : s ∈ ts := (List.mem_filter.1 h).1

theorem tags_le {ts us : List Tg} {m : Int} (hl : TagsLen ts m) (h : ∀ s ∈ us, s ∈ ts) : TagsLen us m := by
  intro i hi
  have := mem_tk (h _ (List.getElem_mem hi)) hl
  simpa [tk, tv, hi] using this

set_option maxRecDepth 100000 in
set_option maxHeartbeats 6400000 in
theorem implFeatCut_no (id : ByteArray) (k : Int) (a : Option Addr) (cap : Nat) (ps : List (Int × Int)) (c : Option Addr) (ca : Nat) (ts : List Tg) (key : ByteArray) (w : World) (hp : PtsAt w a ps) (ht : TagsAt w c ts) (hi : id.size ≤ 1048576) (hl : ps.length ≤ 1048576) (hm : ts.length ≤ 1048576) (hx : TagsLen ts 1048576) (hk : key.size ≤ 1048576) (hno : fgB id k ps ts key = false) :
    Calls Try.prog 25 #[.agg #[.string id, .int .i64 k, .slice a ps.length cap, .slice c ts.length ca], .string key] w (PutAns w ⟨#[]⟩ 0 [] [] false) := by
  have HP := Lib.hid hp
  have HT := Lib.hid ht
  have HX := Lib.hid hx
  clear hp ht hx
  have A0 : Hid (∀ o o', Below w.heap.size w ((w.alloc o).alloc o')) := fun o o' => ((Below.refl _ _).alloc (Nat.le_refl _) _).alloc (by simp) _
  go_enter Try.func25, Try.ntmps25
  go_wp2_with fail
  refine (implFeatOk_any _ _ _ _ _ _ _ _ _ (HP.out.below (A0.out _ _)) (HT.out.below (A0.out _ _)) hi hl hm HX.out).mono ?_
  rintro e w1 ⟨rfl, hb1⟩
  have R1 : Hid (BoxS w1 (w.heap.size + 1) (.string ⟨#[]⟩) (.int .i64 0) (.slice none 0 0) (.slice none 0 0)) := by
    have := (BoxS.new (w.alloc (.cells #[.string id, .int .i64 k, .slice a ps.length cap, .slice c ts.length ca] 43)) (.string ⟨#[]⟩) (.int .i64 0) (.slice none 0 0) (.slice none 0 0) 43).later hb1
    simpa [Hid] using this
  have C1 : Hid (Box4 w1 w.heap.size (.string id) (.int .i64 k) (.slice a ps.length cap) (.slice c ts.length ca)) := ((Box4.new w _ _ _ _ _).alloc _).later hb1
  have B1 : Hid (Below w.heap.size w w1) := (A0.out _ _).trans (hb1.mono (by simp; omega))
  clear hb1
  by_cases h1 : featOk id k ps ts = true
  · have hg : getB ts key = false := by simpa [fgB, h1] using hno
    have TL := Lib.hid (tells_ok h1)
    rw [h1]
    clear h1 hno
    obtain ⟨c0, c1, c2, c3⟩ := C1.out
    go_wp2_with fail
    clear c0 c1 c2 c3
    refine (tagsByKey_any _ _ _ _ (HT.out.below B1.out) hm (HX.out.mono (by omega))).mono ?_
    rintro e w2 ⟨rfl, hown, hb2⟩
    have R2 := R1.out.later hb2
    have B2 : Hid (Below w.heap.size w w2) := B1.out.trans (hb2.mono B1.out.size)
    have hz2 := B2.out.size
    obtain ⟨x, hlk⟩ := look_ok_held hown TL.out key (by unfold maxLen; omega)
    rw [hg] at hlk
    obtain ⟨⟨r0, r1, r2, r3⟩, rf⟩ := R2
    have f0 := rf 0
    have f1 := rf 1
    have f2 := rf 2
    have f3 := rf 3
    have zr : w.heap.size + 1 < w2.heap.size := World.block_lt_of_cell? _ _ r0
    clear hown hb2 rf
    go_wp2
    refine bodyPost_ret (v := .tuple #[.agg #[.string ⟨#[]⟩, .int .i64 0, .slice none 0 0, .slice none 0 0], .bool false]) (by simp [results, Try.results25, go_sem, r0, r1, r2, r3, zr]) rfl ?_
    exact ⟨_, rfl, (nothing_feat B2.out (by omega)).later ((Below.refl _ _).alloc (Nat.le_refl _) _)⟩
  · have h1' : featOk id k ps ts = false := by simpa using h1
    rw [h1']
    clear h1 h1' hno
    obtain ⟨⟨r0, r1, r2, r3⟩, rf⟩ := R1.out
    have f0 := rf 0
    have f1 := rf 1
    have f2 := rf 2
    have f3 := rf 3
    clear rf
    go_wp2
    refine bodyPost_ret (v := .tuple #[.agg #[.string ⟨#[]⟩, .int .i64 0, .slice none 0 0, .slice none 0 0], .bool false]) (by simp [results, Try.results25, go_sem, r0, r1, r2, r3]) rfl ?_
    exact ⟨_, rfl, nothing_feat B1.out (by omega)⟩

set_option maxRecDepth 100000 in
set_option maxHeartbeats 6400000 in
theorem implFeatCut_yes (id : ByteArray) (k : Int) (b off cap : Nat) (ps : List (Int × Int)) (c : Option Addr) (ca : Nat) (ts : List Tg) (key : ByteArray) (w : World) (hp : PtsAt w (some ⟨b, off, none⟩) ps) (ht : TagsAt w c ts) (hi : id.size ≤ 1048576) (hl : ps.length ≤ 6) (hm : ts.length ≤ 4) (hl0 : 0 < ps.length) (hx : TagsLen ts 1048576) (hk : key.size ≤ 1048576) (hyes : fgB id k ps ts key = true) :
    Calls Try.prog 25 #[.agg #[.string id, .int .i64 k, .slice (some ⟨b, off, none⟩) ps.length cap, .slice c ts.length ca], .string key] w (PutAns w id k ps (cutS ts key.data.toList) true) := by
  have HP := Lib.hid hp
  have HT := Lib.hid ht
  have HX := Lib.hid hx
  clear hp ht hx
  have hok : featOk id k ps ts = true := by simp [fgB] at hyes; exact hyes.1
  have hg : getB ts key = true := by simp [fgB] at hyes; exact hyes.2
  have TL := Lib.hid (tells_ok hok)
  have A0 : Hid (∀ o o', Below w.heap.size w ((w.alloc o).alloc o')) := fun o o' => ((Below.refl _ _).alloc (Nat.le_refl _) _).alloc (by simp) _
  go_enter Try.func25, Try.ntmps25
  go_wp2_with fail
  refine (implFeatOk_any _ _ _ _ _ _ _ _ _ (HP.out.below (A0.out _ _)) (HT.out.below (A0.out _ _)) hi (by omega) (by omega) HX.out).mono ?_
  rintro e w1 ⟨rfl, hb1⟩
  have R1 : Hid (BoxS w1 (w.heap.size + 1) (.string ⟨#[]⟩) (.int .i64 0) (.slice none 0 0) (.slice none 0 0)) := by
    have := (BoxS.new (w.alloc (.cells #[.string id, .int .i64 k, .slice (some ⟨b, off, none⟩) ps.length cap, .slice c ts.length ca] 43)) (.string ⟨#[]⟩) (.int .i64 0) (.slice none 0 0) (.slice none 0 0) 43).later hb1
    simpa [Hid] using this
  have C1 : Hid (Box4 w1 w.heap.size (.string id) (.int .i64 k) (.slice (some ⟨b, off, none⟩) ps.length cap) (.slice c ts.length ca)) := ((Box4.new w _ _ _ _ _).alloc _).later hb1
  have B1 : Hid (Below w.heap.size w w1) := (A0.out _ _).trans (hb1.mono (by simp; omega))
  clear hb1
  rw [hok]
  clear hok hyes
  obtain ⟨c0, c1, c2, c3⟩ := C1.out
  go_wp2_with fail
  clear c0 c1 c2 c3
  refine (tagsByKey_any _ _ _ _ (HT.out.below B1.out) (by omega) (HX.out.mono (by omega))).mono ?_
  rintro e w2 ⟨rfl, hown, hb2⟩
  have R2 := Lib.hid (R1.out.later hb2)
  have C2 := Lib.hid (C1.out.later hb2)
  have B2 : Hid (Below w.heap.size w w2) := B1.out.trans (hb2.mono B1.out.size)
  have hz1 : w.heap.size + 1 < w1.heap.size := R1.out.1.lt
  have hz2 := hb2.size
  obtain ⟨x, hlk⟩ := look_ok_held hown TL.out key (by unfold maxLen; omega)
  rw [hg] at hlk
  have hkey : keyOf Try.prog 9 (.string key) = some (.string key.data.toList) := Go.WideMaps.keyOf_string_mk Try.underlying9 (by unfold maxLen; omega)
  clear hb2
  go_wp2_with (at_delete; refine wpList_delete_own _ rfl _ _ 73 9 rfl 52 keyT Try.underlying73 _ w1.heap.size ts.length (mapOf ts) rfl (hown.alloc _) _ _ rfl hkey ?_; intro w4 hown4 hturn4; have G4 := hturn4.grown; have R4 := Lib.hid ((R2.out.later ((Below.refl _ _).alloc (Nat.le_refl _) _)).grown G4 (by simp; omega)); have C4 := Lib.hid ((C2.out.alloc _).grown G4 (by simp; omega)); obtain ⟨c0, c1, c2, c3⟩ := C4.out; have B4 := Lib.hid ((B2.out.alloc B2.out.size _).grown G4 (by simp; omega) (fun j e => by obtain rfl : w1.heap.size = j := (by simpa using e); omega)); have O4 := Lib.hid hown4; clear hown4 hturn4 G4)
  clear c0 c1 c2 c3
  refine (withTags_any id k b off cap ps c ts.length ca w1.heap.size ts.length _ (cutS ts key.data.toList) _ (HP.out.below B4.out) (by omega) hl0 O4.out (TL.out.cut _) (by omega) (fun i hi => by have := (tags_le HX.out (fun s => cutS_mem) i hi).1; unfold maxLen; omega)).mono ?_
  rintro e w5 ⟨v, rfl, hA⟩
  have zr : w.heap.size + 1 < w4.heap.size := R4.out.1.lt
  have hA' := hA
  obtain ⟨a5, cap5, c5, ca5, rfl, -, -, -, -, -, -, -, hb5⟩ := hA'
  have R5 := R4.out.later hb5
  obtain ⟨⟨r0, r1, r2, r3⟩, rf⟩ := R5
  have f0 := rf 0
  have f1 := rf 1
  have f2 := rf 2
  have f3 := rf 3
  have FA := Lib.hid hA
  clear rf hb5 hA
  go_wp2
  refine bodyPost_ret (v := .tuple #[.agg #[.string id, .int .i64 k, .slice a5 ps.length cap5, .slice c5 (cutS ts key.data.toList).length ca5], .bool true]) (by simp [results, Try.results25, go_sem, r0, r1, r2, r3]) rfl ?_
  exact ⟨_, rfl, FA.out.stored B4.out zr (by omega)⟩

/-- what comes of a thing whose key is cut -/
def fcI (id : ByteArray) (k : Int) (ps : List (Int × Int)) (ts : List Tg) (key : ByteArray) : ByteArray := if fgB id k ps ts key then id else ⟨#[]⟩
def fcK (id : ByteArray) (k : Int) (ps : List (Int × Int)) (ts : List Tg) (key : ByteArray) : Int := if fgB id k ps ts key then k else 0
def fcP (id : ByteArray) (k : Int) (ps : List (Int × Int)) (ts : List Tg) (key : ByteArray) : List (Int × Int) := if fgB id k ps ts key then ps else []
def fcT (id : ByteArray) (k : Int) (ps : List (Int × Int)) (ts : List Tg) (key : ByteArray) : List Tg := if fgB id k ps ts key then cutS ts key.data.toList else []

theorem fgB_parts {id : ByteArray} {k : Int} {ps : List (Int × Int)} {ts : List Tg} {key : ByteArray} (h : fgB id k ps ts key = true) : ps.length ≤ 6 ∧ ts.length ≤ 4 ∧ 0 < ps.length ∧ 0 < ts.length := by
  simp [fgB] at h
  obtain ⟨h1, h2⟩ := h
  obtain ⟨_, _, h3, h4, h5⟩ := featOk_parts h1
  refine ⟨h4, h3, h5, ?_⟩
  cases ts with
  | nil => simp [getB, getT] at h2
  | cons => simp

theorem WFeatCutI_bounds (id : ByteArray) (k : Int) (ps : List (Int × Int)) (ts : List Tg) (key : ByteArray) (h1 : ps.length ≤ 1048576) (h2 : ts.length ≤ 1048576) : (fcP id k ps ts key).length ≤ 1048576 ∧ (fcT id k ps ts key).length ≤ 1048576 := by
  unfold fcP fcT
  split
  · exact ⟨h1, Nat.le_trans (List.length_filter_le _ _) h2⟩
  · exact ⟨Nat.zero_le _, Nat.zero_le _⟩

theorem addr_of {w : World} {a : Option Addr} {ps : List (Int × Int)} (h : PtsAt w a ps) (h0 : 0 < ps.length) : ∃ b off, a = some ⟨b, off, none⟩ := by
  obtain ⟨b, off, e, _⟩ := h 0 h0
  exact ⟨b, off, e⟩
theorem addr_ofT {w : World} {a : Option Addr} {ts : List Tg} (h : TagsAt w a ts) (h0 : 0 < ts.length) : ∃ b off, a = some ⟨b, off, none⟩ := by
  obtain ⟨b, off, e, _⟩ := h 0 h0
  exact ⟨b, off, e⟩

theorem specFeatCut_any (id : ByteArray) (k : Int) (a : Option Addr) (cap : Nat) (ps : List (Int × Int)) (c : Option Addr) (ca : Nat) (ts : List Tg) (key : ByteArray) (w : World) (hp : PtsAt w a ps) (ht : TagsAt w c ts) (hi : id.size ≤ 1048576) (hl : ps.length ≤ 1048576) (hm : ts.length ≤ 1048576) (hx : TagsLen ts 1048576) :
    Calls Try.prog 26 #[.agg #[.string id, .int .i64 k, .slice a ps.length cap, .slice c ts.length ca], .string key] w (PutAns w (fcI id k ps ts key) (fcK id k ps ts key) (fcP id k ps ts key) (fcT id k ps ts key) (fgB id k ps ts key)) := by
  by_cases h : fgB id k ps ts key = true
  · obtain ⟨g1, g2, g3, g4⟩ := fgB_parts h
    obtain ⟨b, off, rfl⟩ := addr_of hp g3
    obtain ⟨b2, off2, rfl⟩ := addr_ofT ht g4
    simp only [fcI, fcK, fcP, fcT, h, if_true]
    exact specFeatCut_yes id k b off cap ps b2 off2 ca ts key w hp ht hi g1 g2 g3 g4 hx h
  · have h' : fgB id k ps ts key = false := by simpa using h
    simp only [fcI, fcK, fcP, fcT, h', Bool.false_eq_true, if_false]
    exact specFeatCut_no id k a cap ps c ca ts key w hp ht hi hl hm hx h'

theorem implFeatCut_any (id : ByteArray) (k : Int) (a : Option Addr) (cap : Nat) (ps : List (Int × Int)) (c : Option Addr) (ca : Nat) (ts : List Tg) (key : ByteArray) (w : World) (hp : PtsAt w a ps) (ht : TagsAt w c ts) (hi : id.size ≤ 1048576) (hl : ps.length ≤ 1048576) (hm : ts.length ≤ 1048576) (hx : TagsLen ts 1048576) (hk : key.size ≤ 1048576) :
    Calls Try.prog 25 #[.agg #[.string id, .int .i64 k, .slice a ps.length cap, .slice c ts.length ca], .string key] w (PutAns w (fcI id k ps ts key) (fcK id k ps ts key) (fcP id k ps ts key) (fcT id k ps ts key) (fgB id k ps ts key)) := by
  by_cases h : fgB id k ps ts key = true
  · obtain ⟨g1, g2, g3, g4⟩ := fgB_parts h
    obtain ⟨b, off, rfl⟩ := addr_of hp g3
    simp only [fcI, fcK, fcP, fcT, h, if_true]
    exact implFeatCut_yes id k b off cap ps c ca ts key w hp ht hi g1 g2 g3 hx hk h
  · have h' : fgB id k ps ts key = false := by simpa using h
    simp only [fcI, fcK, fcP, fcT, h', Bool.false_eq_true, if_false]
    exact implFeatCut_no id k a cap ps c ca ts key w hp ht hi hl hm hx hk h'
end Go.Proofs.Ytdfadpejddhbkaa
