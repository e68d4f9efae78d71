/- Proved here: the model's FeatCut answers the thing without the key, in memory of its own, or nothing and false; rows of at most 1,048,576 points and tags, texts of at most 1,048,576 bytes. -/
import Derived.Test.YtdfadpejddhbkaaWCopyF
import Derived.Test.YtdfadpejddhbkaaWFeatGet
namespace Go.Proofs.Ytdfadpejddhbkaa
set_option linter.unusedVariables false
open Go.ChangeShapes Go.WideShapes Go.ChangeAt Go.RowKit Go.Deep

/-- tags laid by appends into a thing's box -/
structure LayF (W : World) (c : Nat) (us : List Tg) (wr : World) (v : Value) : Prop where
  own : wr.ownsRow W.heap.size 52 2 v us.length (flatT us)
  grown : W.grownBy wr (some c)
  low : ∀ o, o < 3 → wr.cell? ⟨c, o, none⟩ = W.cell? ⟨c, o, none⟩
  tag : wr.cell? ⟨c, 3, none⟩ = some v
  soft : wr.frozen? ⟨c, 3, none⟩ = false

theorem LayF.after {W wr wa : World} {c : Nat} {us : List Tg} {v : Value} {O : Obj} (h : LayF W c us wr v) (hc : c < W.heap.size) (hg0 : ((wr.alloc O).drew).grownBy wa v.ownBlock) :
    (∀ o, o < 3 → wa.cell? ⟨c, o, none⟩ = W.cell? ⟨c, o, none⟩) ∧ wa.cell? ⟨c, 3, none⟩ = some v ∧ wa.frozen? ⟨c, 3, none⟩ = false := by
  have hg : (wr.alloc O).grownBy wa v.ownBlock := ⟨hg0.os, hg0.tape, hg0.output, hg0.size, hg0.block⟩
  have hlt : c < wr.heap.size := Nat.lt_of_lt_of_le hc h.grown.size
  have hb : ∀ j, v.ownBlock = some j → W.heap.size ≤ j := fun j hj => (h.own.lt j hj).1
  have hne : some c ≠ v.ownBlock := fun e => by have := hb c e.symm; omega
  have hca : c < (wr.alloc O).heap.size := by simp; omega
  refine ⟨fun o ho => ?_, ?_, ?_⟩
  · rw [hg.cell_far _ hca hne, World.cell?_of_block (w := wr) (Below.heap_alloc _ _ _ hlt)]
    exact h.low o ho
  · rw [hg.cell_far _ hca hne, World.cell?_of_block (w := wr) (Below.heap_alloc _ _ _ hlt)]
    exact h.tag
  · rw [hg.frozen_far _ hca hne, World.frozen?_of_block (w := wr) (Below.heap_alloc _ _ _ hlt)]
    exact h.soft

theorem LayF.step {W wr wa : World} {c : Nat} {us : List Tg} {v v' : Value} {t : Tg} {O : Obj} (h : LayF W c us wr v) (hc : c < W.heap.size)
    (hown : wa.ownsRow W.heap.size 52 2 v' (us.length + 1) (flatT us ++ [.string t.1, .string t.2])) (hg0 : ((wr.alloc O).drew).grownBy wa v.ownBlock) :
    LayF W c (us ++ [t]) (wa.setCell ⟨c, 3, none⟩ v') v' := by
  obtain ⟨k1, k2, k3⟩ := h.after hc hg0
  have hg : (wr.alloc O).grownBy wa v.ownBlock := ⟨hg0.os, hg0.tape, hg0.output, hg0.size, hg0.block⟩
  have hb : ∀ j, v.ownBlock = some j → W.heap.size ≤ j := fun j hj => (h.own.lt j hj).1
  have g1 : W.grownBy wa (some c) := (h.grown.trans (World.grownBy_alloc wr O (some c))).andThen hg fun j hj => .inl (hb j hj)
  refine ⟨?_, grown_set g1 _ _, fun o ho => ?_, ?_, ?_⟩
  · rw [flatT_snoc, List.length_append]
    exact World.ownsRow.kept hown ⟨rfl, rfl, rfl, by simp [World.setCell], fun k _ hne => Below.heap_setCell _ _ _ _ (fun e => hne (by rw [e]))⟩ (row := some c) (by
      right
      intro e
      have := (hown.lt c e).1
      omega)
  · rw [World.cell?_setCell_other _ _ _ _ (by simp <;> omega)]
    exact k1 o ho
  · exact World.cell?_setCell_same _ _ _ k2
  · rw [World.frozen?_setCell]
    exact k3

theorem LayF.far {W wr : World} {c : Nat} {us : List Tg} {v : Value} (h : LayF W c us wr v) {b o : Nat} {x : Value} (hb : W.cell? ⟨b, o, none⟩ = some x) (hne : b ≠ c) : wr.cell? ⟨b, o, none⟩ = some x := by
  rw [h.grown.cell_far _ (World.block_lt_of_cell? _ _ hb) (by simpa using hne)]
  exact hb

/-- the first so many, without the key -/
def cutTo (ts : List Tg) (x : List UInt8) (j : Nat) : List Tg := cutS (ts.take j) x

theorem cutTo_step {ts : List Tg} {x : List UInt8} {j : Nat} (h : j < ts.length) : cutTo ts x (j + 1) = cutTo ts x j ++ (if kb ts j = x then [] else [(tk ts j, tv ts j)]) := by
  have h2 : (tk ts j, tv ts j) = ts[j] := by simp [tk, tv, h]
  unfold cutTo cutS
  rw [List.take_succ_eq_append_getElem h, List.filter_append, ← h2]
  congr 1
  by_cases e : kb ts j = x
  · rw [if_pos e]
    simp [kl, ← e, kb]
  · rw [if_neg e]
    have e' : (tk ts j).data.toList ≠ x := e
    simp [kl, e']

theorem cutTo_len (ts : List Tg) (x : List UInt8) (j : Nat) : (cutTo ts x j).length ≤ j := by
  unfold cutTo cutS
  have h1 := List.length_filter_le (fun s => decide (kl s ≠ x)) (ts.take j)
  have h2 : (ts.take j).length ≤ j := by rw [List.length_take]; omega
  omega

theorem TagsAt.set {w : World} {a : Option Addr} {ts : List Tg} (h : TagsAt w a ts) {c o : Nat} {v : Value} (hne : blk a ≠ some c) : TagsAt (w.setCell ⟨c, o, none⟩ v) a ts :=
  h.grown (r := some c) (grown_set (World.grownBy.refl _ _) _ _) (.inr hne)

/-- what a function answers that makes a thing, and says whether -/
def PutAns (w : World) (id : ByteArray) (k : Int) (ps : List (Int × Int)) (ts : List Tg) (b : Bool) (e : Ending) (w' : World) : Prop :=
  ∃ v, e = .returned (.tuple #[v, .bool b]) ∧ FeatAns w id k ps ts v w'

theorem nothing_feat {w w1 : World} {r : Nat} {x0 x1 x2 x3 : Value} (hw : Below w.heap.size w w1) (hr : w.heap.size ≤ r) :
    FeatAns w ⟨#[]⟩ 0 [] [] (.agg #[.string ⟨#[]⟩, .int .i64 0, .slice none 0 0, .slice none 0 0]) ((((w1.setCell ⟨r, 0, none⟩ x0).setCell ⟨r, 1, none⟩ x1).setCell ⟨r, 2, none⟩ x2).setCell ⟨r, 3, none⟩ x3) :=
  ⟨none, 0, none, 0, rfl, PtsAt.nil _ _, fun i hi => absurd hi (Nat.not_lt_zero _), fun x h => by simp [blk] at h, TagsAt.nil _ _, fun i hi => absurd hi (Nat.not_lt_zero _), fun x h => by simp [blk] at h, fun x h => by simp [blk] at h, (((hw.setCell hr _).setCell hr _).setCell hr _).setCell hr _⟩

/-- a box's cells and that they may be written -/
def BoxS (w : World) (b : Nat) (v0 v1 v2 v3 : Value) : Prop := Box4 w b v0 v1 v2 v3 ∧ ∀ o, w.frozen? ⟨b, o, none⟩ = false
theorem BoxS.later {w w' : World} {b : Nat} {v0 v1 v2 v3 : Value} (h : BoxS w b v0 v1 v2 v3) (hb : Below w.heap.size w w') : BoxS w' b v0 v1 v2 v3 := ⟨h.1.later hb, fun o => (hb.frozen (p := ⟨b, o, none⟩) h.1.lt).trans (h.2 o)⟩
theorem BoxS.new (w : World) (v0 v1 v2 v3 : Value) (t : TypeId) : BoxS (w.alloc (.cells #[v0, v1, v2, v3] t)) w.heap.size v0 v1 v2 v3 := ⟨Box4.new w v0 v1 v2 v3 t, fun o => by simp [go_sem]⟩

set_option maxRecDepth 100000 in
set_option maxHeartbeats 6400000 in
theorem specFeatCut_no (id : ByteArray) (k : Int) (a : Option Addr) (cap : Nat) (ps : List (Int × Int)) (c : Option Addr) (ca : Nat) (ts : List Tg) (key : ByteArray) (w : World) (hp : PtsAt w a ps) (ht : TagsAt w c ts) (hi : id.size ≤ 1048576) (hl : ps.length ≤ 1048576) (hm : ts.length ≤ 1048576) (hx : TagsLen ts 1048576) (hno : fgB id k ps ts key = false) :
    Calls Try.prog 26 #[.agg #[.string id, .int .i64 k, .slice a ps.length cap, .slice c ts.length ca], .string key] w (PutAns w ⟨#[]⟩ 0 [] [] false) := by
  have HP := Lib.hid hp
  have HT := Lib.hid ht
  have HX := Lib.hid hx
  clear hp ht hx
  have A0 : Hid (∀ o o', Below w.heap.size w ((w.alloc o).alloc o')) := fun o o' => ((Below.refl _ _).alloc (Nat.le_refl _) _).alloc (by simp) _
  go_enter Try.func26, Try.ntmps26
  go_wp2_with fail
  refine (specFeatGet_any _ _ _ _ _ _ _ _ _ _ (HP.out.below (A0.out _ _)) (HT.out.below (A0.out _ _)) hi hl hm HX.out).mono ?_
  rintro e w1 ⟨rfl, hb1⟩
  have R1 : BoxS w1 (w.heap.size + 1) (.string ⟨#[]⟩) (.int .i64 0) (.slice none 0 0) (.slice none 0 0) := by
    have := (BoxS.new (w.alloc (.cells #[.string id, .int .i64 k, .slice a ps.length cap, .slice c ts.length ca] 43)) (.string ⟨#[]⟩) (.int .i64 0) (.slice none 0 0) (.slice none 0 0) 43).later hb1
    simpa using this
  have B1 : Hid (Below w.heap.size w w1) := (A0.out _ _).trans (hb1.mono (by simp; omega))
  obtain ⟨⟨r0, r1, r2, r3⟩, rf⟩ := R1
  have f0 := rf 0
  have f1 := rf 1
  have f2 := rf 2
  have f3 := rf 3
  clear hb1 rf
  go_wp2
  refine bodyPost_ret (v := .tuple #[.agg #[.string ⟨#[]⟩, .int .i64 0, .slice none 0 0, .slice none 0 0], .bool false]) (by simp [results, Try.results26, go_sem, r0, r1, r2, r3]) rfl ?_
  exact ⟨_, rfl, nothing_feat B1.out (by omega)⟩

theorem featOk_parts {id : ByteArray} {k : Int} {ps : List (Int × Int)} {ts : List Tg} (h : featOk id k ps ts = true) : shapeOk k ps = true ∧ tagsGood ts = true ∧ ts.length ≤ 4 ∧ ps.length ≤ 6 ∧ 0 < ps.length := by
  simp [featOk] at h
  obtain ⟨⟨_, h1⟩, h2, h3⟩ := h
  refine ⟨h1, h2, h3, ?_⟩
  unfold shapeOk at h1
  simp at h1
  obtain ⟨⟨h4, h5⟩, _⟩ := h1
  refine ⟨h4, ?_⟩
  unfold kindHolds at h5
  split at h5
  · simp at h5; omega
  · split at h5
    · simp at h5; omega
    · split at h5
      · simp at h5; omega
      · cases h5

set_option maxRecDepth 100000 in
set_option maxHeartbeats 6400000 in
theorem specFeatCut_yes (id : ByteArray) (k : Int) (b off cap : Nat) (ps : List (Int × Int)) (b2 off2 ca : Nat) (ts : List Tg) (key : ByteArray) (w : World) (hp : PtsAt w (some ⟨b, off, none⟩) ps) (ht : TagsAt w (some ⟨b2, off2, none⟩) ts) (hi : id.size ≤ 1048576) (hl : ps.length ≤ 6) (hm : ts.length ≤ 4) (hl0 : 0 < ps.length) (hm0 : 0 < ts.length) (hx : TagsLen ts 1048576) (hyes : fgB id k ps ts key = true) :
    Calls Try.prog 26 #[.agg #[.string id, .int .i64 k, .slice (some ⟨b, off, none⟩) ps.length cap, .slice (some ⟨b2, off2, none⟩) ts.length ca], .string key] w (PutAns w id k ps (cutS ts key.data.toList) true) := by
  have HP := Lib.hid hp
  have HT := Lib.hid ht
  have HX := Lib.hid hx
  have hb2 : b2 < w.heap.size := by
    obtain ⟨b', off', e, hlt, _⟩ := ht 0 hm0
    obtain ⟨rfl, rfl⟩ : b2 = b' ∧ off2 = off' := by simpa using e
    exact hlt
  clear hp ht hx
  obtain ⟨i0, hii, hz0, hz1, hz2⟩ := info_parts infoT
  have HI := Lib.hid hii
  have HZ0 := Lib.hid hz0
  have HZ1 := Lib.hid hz1
  have HZ2 := Lib.hid hz2
  clear hii hz0 hz1 hz2
  have A0 : Hid (∀ o o', Below w.heap.size w ((w.alloc o).alloc o')) := fun o o' => ((Below.refl _ _).alloc (Nat.le_refl _) _).alloc (by simp) _
  go_enter Try.func26, Try.ntmps26
  go_wp2_with fail
  refine (specFeatGet_any _ _ _ _ _ _ _ _ _ _ (HP.out.below (A0.out _ _)) (HT.out.below (A0.out _ _)) hi (by omega) (by omega) HX.out).mono ?_
  rintro e w1 ⟨rfl, hb1⟩
  have R1 : Hid (BoxS w1 (w.heap.size + 1) (.string ⟨#[]⟩) (.int .i64 0) (.slice none 0 0) (.slice none 0 0)) := by
    have := (BoxS.new (w.alloc (.cells #[.string id, .int .i64 k, .slice (some ⟨b, off, none⟩) ps.length cap, .slice (some ⟨b2, off2, none⟩) ts.length ca] 43)) (.string ⟨#[]⟩) (.int .i64 0) (.slice none 0 0) (.slice none 0 0) 43).later hb1
    simpa [Hid] using this
  have C1 : Hid (Box4 w1 w.heap.size (.string id) (.int .i64 k) (.slice (some ⟨b, off, none⟩) ps.length cap) (.slice (some ⟨b2, off2, none⟩) ts.length ca)) := ((Box4.new w _ _ _ _ _).alloc _).later hb1
  have B1 : Hid (Below w.heap.size w w1) := (A0.out _ _).trans (hb1.mono (by simp; omega))
  clear hb1
  obtain ⟨c0, c1, c2, c3⟩ := C1.out
  rw [hyes]
  go_wp2_with fail
  clear c0 c1 c2 c3
  refine (l2Copy_any id k b off cap ps b2 off2 ca ts _ (HP.out.below B1.out) (HT.out.below B1.out) (by omega) hl0 (by omega) hm0).mono ?_
  rintro e w2 ⟨v, rfl, a2, cap2, c2, ca2, rfl, hpt, hso, hfr, -, -, -, -, hb2'⟩
  have R2 := Lib.hid (R1.out.later hb2')
  have C2 := Lib.hid (C1.out.later hb2')
  have B2 : Hid (Below w.heap.size w w2) := B1.out.trans (hb2'.mono B1.out.size)
  have P2 := Lib.hid hpt
  have S2 := Lib.hid hso
  have F2 : Hid (∀ x, blk a2 = some x → w.heap.size + 1 < x ∧ x < w2.heap.size) := fun x e => ⟨Nat.lt_of_lt_of_le R1.out.1.lt (hfr x e).1, (hfr x e).2⟩
  have z1 : w.heap.size + 1 < w2.heap.size := R2.out.1.lt
  have z0 : w.heap.size < w2.heap.size := by omega
  clear hb2' hpt hso hfr R1 C1 B1
  go_wp2
  have hWs : (w2.alloc (.cells #[.string id, .int .i64 k, .slice a2 ps.length cap2, .slice none 0 0] 43)).heap.size = w2.heap.size + 1 := by simp
  have ba : Below w2.heap.size w2 (w2.alloc (.cells #[.string id, .int .i64 k, .slice a2 ps.length cap2, .slice none 0 0] 43)) := (Below.refl _ _).alloc (Nat.le_refl _) _
  have RW := Lib.hid (R2.out.later ba)
  have CW := Lib.hid (C2.out.later ba)
  have BW := Lib.hid (B2.out.trans (ba.mono B2.out.size))
  have PW := Lib.hid (P2.out.below ba)
  have SW := Lib.hid (S2.out.below P2.out ba)
  have OW := Lib.hid (BoxS.new w2 (.string id) (.int .i64 k) (.slice a2 ps.length cap2) (.slice none 0 0) 43)
  generalize (w2.alloc (.cells #[.string id, .int .i64 k, .slice a2 ps.length cap2, .slice none 0 0] 43)) = W at *
  have L0 : Hid (LayF W w2.heap.size (cutTo ts key.data.toList 0) W (.slice none 0 0)) := ⟨by simpa [cutTo, cutS, flatT] using World.ownsRow_nil _ _ _ _, World.grownBy.refl _ _, fun _ _ => rfl, OW.out.1.2.2.2, OW.out.2 3⟩
  have y0 : w2.heap.size < W.heap.size := by omega
  clear hWs ba R2 C2 B2 P2 S2
  go_loopw [9] (fun i wr => ∃ (j : Nat) (v : Value), j ≤ ts.length ∧ i = .int .i64 j ∧ LayF W w2.heap.size (cutTo ts key.data.toList j) wr v) (fun i _ => ts.length - (intOf i).toNat)
  case atStart => exact ⟨0, _, Nat.zero_le _, rfl, L0.out⟩
  case round =>
    clear L0
    obtain ⟨j, v, hj, rfl, hL⟩ := hrel
    have c3 := hL.far CW.out.2.2.2 (by omega)
    have zr : w2.heap.size < wr.heap.size := World.block_lt_of_cell? _ _ hL.tag
    by_cases hlt : j < ts.length
    · obtain ⟨b', off', he, _, hd1, hd2⟩ := HT.out j hlt
      obtain ⟨rfl, rfl⟩ : b2 = b' ∧ off2 = off' := by simpa using he
      clear he
      rw [← BW.out.cell (p := ⟨b2, _, none⟩) hb2] at hd1 hd2
      replace hd1 := hL.far hd1 (by omega)
      replace hd2 := hL.far hd2 (by omega)
      have hst := cutTo_step (x := key.data.toList) hlt
      have hlen : (cutTo ts key.data.toList j).length ≤ 4 := by have := cutTo_len ts key.data.toList j; omega
      have e1 := bytes_beq (tk ts j) key
      by_cases hq : tk ts j = key
      · rw [decide_eq_true hq] at e1
        rw [if_pos (show kb ts j = key.data.toList by rw [← hq]; rfl), List.append_nil] at hst
        have HL := Lib.hid hL
        have HS := Lib.hid hst
        clear hL hst hq
        go_wp2
        go_roundw
        case rel => exact ⟨j + 1, v, by omega, by go_num, HS.out ▸ HL.out⟩
        case measure => simp [intOf]; omega
      · rw [decide_eq_false hq] at e1
        rw [if_neg (show ¬ kb ts j = key.data.toList from fun e => hq (by rw [← toList_inj, ByteArray.toList_eq, ByteArray.toList_eq]; exact e))] at hst
        have hv := hL.tag
        have hf := hL.soft
        have HL := Lib.hid hL
        have HO := Lib.hid hL.own
        have HS := Lib.hid hst
        have hn5 := hL.grown.size
        clear hL hst hq
        go_wp2
        go_region_law (refine step_append_lies _ (by rfl) _ _ _ (by rfl) W.heap.size 52 i0 _ 2 32 Try.underlying41 HI.out HZ0.out HZ1.out HZ2.out rfl (by omega) v (cutTo ts key.data.toList j).length (flatT (cutTo ts key.data.toList j)) (by rfl) ((HO.out.alloc _).drew) ⟨wr.heap.size, 0, none⟩ 1 1 [.string (tk ts j), .string (tv ts j)] (by rfl) (by rfl) (World.news_of_block (cs := #[.string (tk ts j), .string (tv ts j)]) (t := 52) (fr := (0, 0)) (heap_alloc_new wr _)) (by simp [Value.oneCell']) (by omega) (by unfold maxLen; omega) (by omega) (by simp; omega) (wr.heap.size + 1) (by simp) ?_; intro gg cap' wa hown1 hgrow hat hlt'; obtain ⟨x1, x2, x3⟩ := HL.out.after y0 hgrow; have HST2 := Lib.hid (HL.out.step (t := (tk ts j, tv ts j)) y0 hown1 hgrow); clear hown1 hgrow hat x1)
        all_goals go_wp2
        all_goals exact ⟨⟨j + 1, _, by omega, congrArg (Value.int .i64) (by omega), HS.out ▸ HST2.out⟩, by simp [intOf]; omega⟩
    · obtain rfl : j = ts.length := by omega
      have hct : cutTo ts key.data.toList ts.length = cutS ts key.data.toList := by unfold cutTo; rw [List.take_length]
      rw [hct] at hL
      clear hct
      obtain ⟨⟨q0, q1, q2, q3⟩, qf⟩ := RW.out
      have r0 := hL.far q0 (by omega)
      have r1 := hL.far q1 (by omega)
      have r2 := hL.far q2 (by omega)
      have r3 := hL.far q3 (by omega)
      have fz : ∀ o, wr.frozen? ⟨w.heap.size + 1, o, none⟩ = false := fun o => by rw [hL.grown.frozen_far ⟨w.heap.size + 1, o, none⟩ (by show w.heap.size + 1 < _; omega) (by simp; omega)]; exact qf o
      have f0 := fz 0
      have f1 := fz 1
      have f2 := fz 2
      have f3 := fz 3
      have d0 := (hL.low 0 (by omega)).trans OW.out.1.1
      have d1 := (hL.low 1 (by omega)).trans OW.out.1.2.1
      have d2 := (hL.low 2 (by omega)).trans OW.out.1.2.2.1
      obtain ⟨a3, cap3, rfl, hT, hS, hN⟩ := owned_tags hL.own rfl
      have d3 := hL.tag
      have BR : Hid (Below w.heap.size w wr) := BW.out.grown hL.grown BW.out.size (fun j e => by obtain rfl : w2.heap.size = j := (by simpa using e); omega)
      have na : blk a2 ≠ some w2.heap.size := fun e => by have := (F2.out _ e).2; omega
      have na' : blk a2 ≠ some (w.heap.size + 1) := fun e => by have := (F2.out _ e).1; omega
      have PR := Lib.hid (PW.out.grown hL.grown (.inr na))
      have SR := Lib.hid (SW.out.grown hL.grown (fun x e => by have := (F2.out x e).2; omega) (.inr na))
      have TR := Lib.hid hT
      have TS := Lib.hid hS
      have TN := Lib.hid hN
      have nc' : blk a3 ≠ some (w.heap.size + 1) := fun e => by have := (hN _ e).1; omega
      have NA := Lib.hid na'
      have NC := Lib.hid nc'
      have hgs := hL.grown.size
      clear hL q0 q1 q2 q3 qf fz hT hS hN na na' nc'
      go_wp2
      refine bodyPost_ret (v := .tuple #[.agg #[.string id, .int .i64 k, .slice a2 ps.length cap2, .slice a3 (cutS ts key.data.toList).length cap3], .bool true]) (by simp [results, Try.results26, go_sem, r0, r1, r2, r3]) rfl ?_
      refine ⟨_, rfl, a2, cap2, a3, cap3, rfl, (((PR.out.set NA.out).set NA.out).set NA.out).set NA.out, (((SR.out.set _ _).set _ _).set _ _).set _ _, fun x e => ⟨by have := (F2.out x e).1; omega, by have := (F2.out x e).2; simp [World.setCell]; omega⟩, (((TR.out.set NC.out).set NC.out).set NC.out).set NC.out, (((TS.out.set _ _).set _ _).set _ _).set _ _, fun x e => ⟨by have := (TN.out x e).1; omega, by have := (TN.out x e).2; simpa [World.setCell] using this⟩, fun x e e' => by have h1 := (F2.out x e).2; have h2 := (TN.out x e').1; omega, ?_⟩
      exact (((BR.out.setCell (by simp) _).setCell (by simp) _).setCell (by simp) _).setCell (by simp) _
end Go.Proofs.Ytdfadpejddhbkaa
