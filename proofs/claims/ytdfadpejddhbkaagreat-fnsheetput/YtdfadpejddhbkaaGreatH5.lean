/- Proved here: the model's list without a name, and its copy of a list, read as they should; lists of at most 1,048,576 things, points and tags. Proved here: a list that a function made in memory of its own is read, marked, and asked for its marks; lists of at most 1,048,576 things, points and tags. Proved here: what a list of things is with a thing put in, as the model goes through it and as a map by names tells it; a thing appended to a row of things; no condition. Proved here: the program's map with a thing holds copies of the things, in memory of its own; lists of at most 1,048,576 things, points and tags, texts of at most 1,048,576 bytes. Proved here: two things put on a map are there whichever is put first; no condition. Proved here: plain facts on a map with a thing taken off and put back. Proved here: the model's map without a name holds copies of the other things; lists of at most 1,048,576 things, points and tags, texts of at most 1,048,576 bytes. Proved here: the model's map with a thing holds copies of the things; lists of at most 1,048,576 things, points and tags, texts of at most 1,048,576 bytes. Proved here: the program holds two lists of things against each other thing by thing; lists of at most 1,048,576 things, points and tags. -/
import Derived.Test.YtdfadpejddhbkaaGreatH4
import Derived.Deep.RegionHeld3
import Derived.Deep.DeepCutAuto
import Derived.Test.YtdfadpejddhbkaaGreatH2
import Derived.Test.YtdfadpejddhbkaaGreatH1
namespace Go.Proofs.YtdfadpejddhbkaaGreat
set_option linter.unusedVariables false
open Go.ChangeShapes Go.WideShapes Go.ChangeAt Go.RowKit Go.Deep

/-- a list whose memory lies between these blocks -/
def GotL (lo hi : Nat) (w : World) (v : Value) (fs : List Ft) : Prop :=
  ∃ a cap, v = .slice a fs.length cap ∧ FeatsAt w a fs ∧ ∀ i, i < fs.length → ∃ b off pa pc ta tc, a = some ⟨b, off, none⟩ ∧ lo ≤ b ∧ b < hi ∧
    w.cell? ⟨b, off + i * 4 + 2, none⟩ = some (.slice pa (fps fs i).length pc) ∧ w.cell? ⟨b, off + i * 4 + 3, none⟩ = some (.slice ta (fts fs i).length tc) ∧
    ((fps fs i).length = 0 ∨ ∀ x, blk pa = some x → lo ≤ x ∧ x < hi) ∧ ((fts fs i).length = 0 ∨ ∀ x, blk ta = some x → lo ≤ x ∧ x < hi)

theorem GotL.turned {lo hi : Nat} {w w' : World} {v : Value} {fs : List Ft} {S : Nat → Prop} (h : GotL lo hi w v fs) (ht : Turned w w' S) (hS : ∀ x, lo ≤ x → x < hi → ¬ S x) : GotL lo hi w' v fs := by
  obtain ⟨a, cap, rfl, hF, hR⟩ := h
  refine ⟨a, cap, rfl, fun i hi => ?_, fun i hi => ?_⟩
  · obtain ⟨b, off, pa, pc, ta, tc, rfl, hb1, hb2, h3, h4, h5, h6⟩ := hR i hi
    obtain ⟨b', off', pa', pc', ta', tc', e, hlt, g1, g2, g3, g4, g5, g6⟩ := hF i hi
    obtain ⟨rfl, rfl⟩ : b = b' ∧ off = off' := by simpa using e
    rw [h3] at g3
    rw [h4] at g4
    obtain ⟨rfl, rfl⟩ : pa = pa' ∧ pc = pc' := by simpa using g3
    obtain ⟨rfl, rfl⟩ : ta = ta' ∧ tc = tc' := by simpa using g4
    have nb : ¬ S b := hS b hb1 hb2
    exact ⟨b, off, pa, pc, ta, tc, rfl, Nat.lt_of_lt_of_le hlt ht.size, ht.cell g1 nb, ht.cell g2 nb, ht.cell h3 nb, ht.cell h4 nb, g5.turned0 ht (h5.imp (fun h => h) fun q x hx => hS x (q x hx).1 (q x hx).2), g6.turned0 ht (h6.imp (fun h => h) fun q x hx => hS x (q x hx).1 (q x hx).2)⟩
  · obtain ⟨b, off, pa, pc, ta, tc, rfl, hb1, hb2, h3, h4, h5, h6⟩ := hR i hi
    have nb : ¬ S b := hS b hb1 hb2
    exact ⟨b, off, pa, pc, ta, tc, rfl, hb1, hb2, ht.cell h3 nb, ht.cell h4 nb, h5, h6⟩

theorem GotL.below {lo hi : Nat} {w w' : World} {v : Value} {fs : List Ft} (h : GotL lo hi w v fs) (hb : Below w.heap.size w w') : GotL lo hi w' v fs := h.turned (S := fun _ => False) (Turned.of_below hb) fun _ _ _ h => h
theorem GotL.mono {lo hi lo' hi' : Nat} {w : World} {v : Value} {fs : List Ft} (h : GotL lo hi w v fs) (h1 : lo' ≤ lo) (h2 : hi ≤ hi') : GotL lo' hi' w v fs := by
  obtain ⟨a, cap, rfl, hF, hR⟩ := h
  refine ⟨a, cap, rfl, hF, fun i hi => ?_⟩
  obtain ⟨b, off, pa, pc, ta, tc, rfl, hb1, hb2, h3, h4, h5, h6⟩ := hR i hi
  exact ⟨b, off, pa, pc, ta, tc, rfl, by omega, by omega, h3, h4, h5.imp (fun h => h) fun q x hx => ⟨by have := (q x hx).1; omega, by have := (q x hx).2; omega⟩, h6.imp (fun h => h) fun q x hx => ⟨by have := (q x hx).1; omega, by have := (q x hx).2; omega⟩⟩
theorem gotL_nil (lo hi : Nat) (w : World) (a : Option Addr) (cap : Nat) : GotL lo hi w (.slice a 0 cap) [] := ⟨a, cap, rfl, FeatsAt.nil _ _, fun _ h => absurd h (Nat.not_lt_zero _)⟩

theorem Row.got {w : World} {lo : Nat} {v : Value} {fs : List Ft} {ad : Nat → Pl} (h : Row w (fun x => lo ≤ x) lo v fs.length fs ad) : GotL lo w.heap.size w v fs := by
  obtain ⟨a, cap, rfl, hF, hR⟩ := h.reads
  refine ⟨a, cap, rfl, hF, fun i hi => ?_⟩
  obtain ⟨b, off, rfl, h1, h2, h3, h4⟩ := hR i hi
  exact ⟨b, off, _, _, _, _, rfl, h1, h2, h3, h4, (h.prng i hi).imp (fun h => h) fun q x hx => ⟨(q x hx).1, (q x hx).2.1⟩, (h.trng i hi).imp (fun h => h) fun q x hx => ⟨(q x hx).1, (q x hx).2.1⟩⟩

/-- how many of the first things stay -/
def cutN (fs : List Ft) (id : ByteArray) (j : Nat) : Nat := (cutL (fs.take j) id).length

theorem cutL_append (xs ys : List Ft) (id : ByteArray) : cutL (xs ++ ys) id = cutL xs id ++ cutL ys id := List.filter_append _ _
theorem cut_split {fs : List Ft} {j : Nat} (h : j < fs.length) : fs = fs.take j ++ fg fs j :: fs.drop (j + 1) := by
  rw [fg_get h, ← List.drop_eq_getElem_cons h, List.take_append_drop]
theorem cutN_yes {fs : List Ft} {id : ByteArray} {j : Nat} (h : j < fs.length) (hne : fid fs j ≠ id) : cutN fs id (j + 1) = cutN fs id j + 1 ∧ fg (cutL fs id) (cutN fs id j) = fg fs j ∧ cutN fs id j < (cutL fs id).length := by
  have e1 : cutL [fg fs j] id = [fg fs j] := by
    unfold cutL
    rw [List.filter_cons_of_pos (by simpa [fid] using hne)]
    rfl
  have e2 : cutL fs id = cutL (fs.take j) id ++ fg fs j :: cutL (fs.drop (j + 1)) id := by
    conv => lhs; rw [cut_split h]
    rw [cutL_append, show fg fs j :: fs.drop (j + 1) = [fg fs j] ++ fs.drop (j + 1) from rfl, cutL_append, e1]
    rfl
  refine ⟨?_, ?_, ?_⟩
  · unfold cutN
    rw [List.take_succ_eq_append_getElem h, ← fg_get h, cutL_append, e1]
    simp
  · rw [e2]
    unfold cutN fg
    simp
  · rw [e2]
    unfold cutN
    simp
theorem cutN_no {fs : List Ft} {id : ByteArray} {j : Nat} (h : j < fs.length) (he : fid fs j = id) : cutN fs id (j + 1) = cutN fs id j := by
  have e1 : cutL [fg fs j] id = [] := by
    unfold cutL
    rw [List.filter_cons_of_neg (by simpa [fid] using he)]
    rfl
  unfold cutN
  rw [List.take_succ_eq_append_getElem h, ← fg_get h, cutL_append, e1]
  simp
theorem cutN_all (fs : List Ft) (id : ByteArray) : cutN fs id fs.length = (cutL fs id).length := by unfold cutN; rw [List.take_length]
end Go.Proofs.YtdfadpejddhbkaaGreat

namespace Go.Proofs.YtdfadpejddhbkaaGreat
set_option linter.unusedVariables false
open Go.ChangeShapes Go.WideShapes Go.ChangeAt Go.RowKit

theorem lmkTo_full {fs : List Ft} (k : Int) {i : Nat} (h : i < fs.length) : fid (lmkTo fs k fs.length) i = markT (lmk fs k i) ∧ fkd (lmkTo fs k fs.length) i = lmk fs k i + 1 ∧ fps (lmkTo fs k fs.length) i = marks (lmk fs k i + 2) (fps fs i).length ∧ fts (lmkTo fs k fs.length) i = marksT (lmk fs k i + 2 + 2 * ((fps fs i).length : Int)) (fts fs i).length := by
  unfold fid fkd
  have e : fg (lmkTo fs k fs.length) i = lmkF fs k i := by rw [lmkTo_at k _ h, if_pos h]
  have e3 : fps (lmkTo fs k fs.length) i = (lmkF fs k i).2.2.1 := by rw [← e]; rfl
  have e4 : fts (lmkTo fs k fs.length) i = (lmkF fs k i).2.2.2 := by rw [← e]; rfl
  rw [e, e3, e4]
  exact ⟨rfl, rfl, rfl, rfl⟩

/-- a list that lies in memory of its own between these blocks -/
def ListH (lo hi : Nat) (w : World) (a : Option Addr) (gs : List Ft) : Prop :=
  gs = [] ∨ ∃ b ad, a = some ⟨b, 0, none⟩ ∧ Lies w b 0 gs ad ∧ Sep b gs.length ad ∧ ∀ x, blocksOf b gs.length ad x → lo ≤ x ∧ x < hi

theorem Built.listH {w : World} {lo : Nat} {v : Value} {gs : List Ft} {ad : Nat → Pl} (h : Built w lo v gs.length gs ad) : ∃ a cap, v = .slice a gs.length cap ∧ ListH lo w.heap.size w a gs := by
  obtain ⟨h1, ⟨h2, h3⟩ | ⟨b, cap, cur, rfl, _⟩⟩ := h.row
  · exact ⟨none, 0, by rw [h2, h3], .inl (List.eq_nil_of_length_eq_zero h3)⟩
  · exact ⟨some ⟨b, 0, none⟩, cap, rfl, .inr ⟨b, ad, rfl, h.lies.1, h.lies.2.1, h.lies.2.2⟩⟩

theorem ListH.reads {lo hi : Nat} {w : World} {a : Option Addr} {gs : List Ft} (h : ListH lo hi w a gs) : FeatsAt w a gs := by
  rcases h with rfl | ⟨b, ad, rfl, h, _⟩
  · exact FeatsAt.nil _ _
  · exact h.reads

theorem ListH.turned {lo hi : Nat} {w w' : World} {a : Option Addr} {gs : List Ft} {S : Nat → Prop} (h : ListH lo hi w a gs) (ht : Turned w w' S) (hS : ∀ x, lo ≤ x → x < hi → ¬ S x) : ListH lo hi w' a gs := by
  rcases h with rfl | ⟨b, ad, rfl, h, h2, h3⟩
  · exact .inl rfl
  · exact .inr ⟨b, ad, rfl, h.turned ht (fun x hx => hS x (h3 x hx).1 (h3 x hx).2), h2, h3⟩

theorem ListH.below {lo hi : Nat} {w w' : World} {a : Option Addr} {gs : List Ft} (h : ListH lo hi w a gs) (hb : Below w.heap.size w w') : ListH lo hi w' a gs := h.turned (S := fun _ => False) (Turned.of_below hb) fun _ _ _ h => h

theorem GotL.reads {lo hi : Nat} {w : World} {a : Option Addr} {cap : Nat} {gs : List Ft} (h : GotL lo hi w (.slice a gs.length cap) gs) : FeatsAt w a gs := by
  obtain ⟨a', cap', e, h, _⟩ := h
  obtain ⟨rfl, rfl⟩ : a = a' ∧ cap = cap' := by simpa using e
  exact h

set_option maxRecDepth 100000 in
theorem markFeatS_nil (a : Option Addr) (cap : Nat) (k : Int) (w : World) :
    Calls Tryz.prog 47 #[.slice a 0 cap, .int .i64 k] w fun e w' => e = .returned (.int .i64 k) ∧ w' = w := by
  go_enter Tryz.func47, Tryz.ntmps47
  go_wp2
  go_loop [1, 5] (fun s1 i => s1 = .int .i64 k ∧ i = .int .i64 0) (fun _ _ => 0)
  case atStart => exact ⟨rfl, rfl⟩
  case round =>
    obtain ⟨rfl, rfl⟩ := hrel
    go_wp2
    go_ret
    exact ⟨rfl, rfl⟩

theorem markFeatS_list (lo hi : Nat) (a : Option Addr) (cap : Nat) (gs : List Ft) (k : Int) (w : World) (hl : gs.length ≤ 1048576) (hL : FeatsLen gs 1048576) (h0 : 0 ≤ k) (h4 : k ≤ 1000000000000000) (h : ListH lo hi w a gs) :
    Calls Tryz.prog 47 #[.slice a gs.length cap, .int .i64 k] w fun e w' => e = .returned (.int .i64 (lmk gs k gs.length)) ∧ FeatsAt w' a (lmkTo gs k gs.length) ∧ Turned w w' (fun x => lo ≤ x ∧ x < hi) := by
  rcases h with rfl | ⟨b, ad, rfl, h, h2, h3⟩
  · refine (markFeatS_nil a cap k w).mono fun e w' ⟨he, hw⟩ => ?_
    subst hw
    exact ⟨he, FeatsAt.nil _ _, Turned.refl _ _⟩
  · refine (markFeatS_some b 0 cap gs ad k w hl hL h0 h4 h h2).mono fun e w' ⟨he, hlie, ht⟩ => ⟨he, hlie.reads, ht.os, ht.tape, ht.output, ht.size, fun x hx hn => ht.block x hx fun hb => hn (h3 x hb)⟩

set_option maxRecDepth 100000 in
set_option maxHeartbeats 4000000 in
theorem heldFeatS_any (a : Option Addr) (cap : Nat) (fs : List Ft) (k : Int) (w : World) (hp : FeatsAt w a (lmkTo fs k fs.length)) (hl : fs.length ≤ 1048576) (hL : FeatsLen fs 1048576) (h0 : 0 ≤ k) (h4 : k ≤ 1000000000000000) :
    Calls Tryz.prog 152 #[.slice a fs.length cap, .int .i64 k] w fun e w' => e = .returned (.int .i64 (lmk fs k fs.length)) ∧ Below w.heap.size w w' := by
  have HP := Lib.hid hp
  have HL := Lib.hid hL
  clear hp hL
  go_enter Tryz.func152, Tryz.ntmps152
  go_wp2
  go_loopw [1, 5] (fun q i wr => ∃ j : Nat, j ≤ fs.length ∧ i = .int .i64 j ∧ q = .int .i64 (lmk fs k j) ∧ Below w.heap.size w wr) (fun _ i _ => fs.length - (intOf i).toNat)
  case atStart => exact ⟨0, Nat.zero_le _, rfl, rfl, Below.refl _ _⟩
  case round =>
    obtain ⟨j, hj, rfl, rfl, hbel⟩ := hrel
    have HB := Lib.hid hbel
    by_cases hlt : j < fs.length
    · obtain ⟨b, off, pa, pc, ta, tc, rfl, hb, d1, d2, d3, d4, hpp, htt⟩ := HP.out j (by rw [lmkTo_len]; exact hlt)
      obtain ⟨f1, f2, f3, f4⟩ := lmkTo_full k hlt
      rw [f3, marks_len] at d3
      rw [f4, marksT_len] at d4
      rw [f3] at hpp
      rw [f4] at htt
      rw [f1] at d1
      rw [f2] at d2
      rw [← hbel.cell (p := ⟨b, _, none⟩) hb] at d1 d2 d3 d4
      obtain ⟨k0, k1⟩ := lmk_le h0 h4 HL.out j hj
      obtain ⟨l1, l2, l3, l4⟩ := HL.out j hlt
      have D1 := Lib.hid (hpp.below hbel)
      have D2 := Lib.hid (htt.below hbel)
      have HN : Hid (lmk fs k (j + 1) = lmk fs k j + 2 + 2 * ((fps fs j).length : Int) + 2 * ((fts fs j).length : Int)) := rfl
      clear hbel hpp htt l4 f1 f2 f3 f4
      generalize lmk fs k j = m at *
      have e1 : ((markT m).toList == (markT m).toList) = true := by simp
      have e2 : (m + 1 != m + 1) = false := by simp
      go_upto_region 4 with (fail)
      go_cut [19] (fun s19 wx => s19 = .bool false ∧ Below wr.heap.size wr wx)
      case first =>
        go_region_held3 (fun w' => w'.cell? ⟨b, off + j * 4, none⟩ = some (.string (markT m)) ∧ Below wr.heap.size wr w')
          (first
            | exact ⟨d1, (Below.refl _ _).drew⟩
            | (go_split_ands
               rename_i hS0 hS1
               exact ⟨cell_later hbn hS0, hS1.trans (hbn.mono hS1.size)⟩))
          (first
            | (go_at_call 106
               refine (markText_any _ _ (by omega)).mono ?_
               rintro e wn ⟨rfl, hbn⟩))
        all_goals (go_wp2_with fail; go_meet; go_split_ands; exact ⟨by simp, by assumption⟩)
      case rest =>
        obtain ⟨rfl, hB⟩ := hcut
        replace d2 := cell_later hB d2
        replace d3 := cell_later hB d3
        replace d4 := cell_later hB d4
        replace D1 := Lib.hid (D1.out.below hB)
        replace D2 := Lib.hid (D2.out.below hB)
        have B1 : Hid (Below w.heap.size w _) := HB.out.trans (hB.mono HB.out.size)
        clear hB d1 e1
        go_wp2_with fail
        refine (heldPtS_any _ _ _ _ _ (show PtsAt _ _ (marks (m + 1 + 1) _) by rw [show m + 1 + 1 = m + 2 by omega]; exact D1.out) (by omega) (by omega) (by omega)).mono ?_
        rintro e w2 ⟨rfl, rfl⟩
        go_wp2_with fail
        refine (heldTagS_any _ _ _ _ _ (show TagsAt _ _ (marksT (m + 1 + 1 + 2 * ((fps fs j).length : Int)) _) by rw [show m + 1 + 1 = m + 2 by omega]; exact D2.out) (by omega) (by omega) (by omega)).mono ?_
        rintro e w3 ⟨rfl, hb3⟩
        have B3 : Hid (Below w.heap.size w w3) := B1.out.trans (hb3.mono B1.out.size)
        clear hb3 d2 d3 d4
        go_wp2
        go_roundw
        case rel => exact ⟨j + 1, by omega, by go_num, congrArg (Value.int .i64) (by rw [HN.out]; omega), B3.out⟩
        case measure => simp [intOf]; omega
    · obtain rfl : j = fs.length := by omega
      clear hbel
      go_wp2
      go_ret
      exact ⟨rfl, HB.out⟩
end Go.Proofs.YtdfadpejddhbkaaGreat

namespace Go.Proofs.YtdfadpejddhbkaaGreat
set_option linter.unusedVariables false
open Go.ChangeShapes Go.WideShapes Go.ChangeAt Go.RowKit Go.Deep Go.Maps

theorem putL_pos {fs : List Ft} {t : Ft} (h : ∀ f ∈ fs, 0 < f.2.2.1.length) (ht : 0 < t.2.2.1.length) : ∀ f ∈ putL fs t, 0 < f.2.2.1.length := fun f hf => by
  rcases putL_mem hf with rfl | h'
  · exact ht
  · exact h f h'

/-- the map's entries with one put tell the things with one put -/
theorem ents_put {w : World} {e : En} {t : Ft} (he : e.1 = t.1) (hv : FeatV w e.2 t) : ∀ {es : List En} {fs : List Ft}, Ents w es fs → Ents w (putF es e) (putL fs t)
  | [], [], _ => by
    unfold putF putL
    exact ents_cons.2 ⟨⟨he, hv⟩, rfl, fun i hi => absurd hi (Nat.not_lt_zero _)⟩
  | [], f :: fs, h => absurd h.1 (by simp)
  | e' :: es, [], h => absurd h.1 (by simp)
  | e' :: es, f :: fs, h => by
    obtain ⟨⟨h1, h2⟩, h3⟩ := ents_cons.1 h
    have k1 : klF e' = kf f := by unfold klF kf; rw [h1]
    have k2 : klF e = kf t := by unfold klF kf; rw [he]
    unfold putF putL
    rw [k1, k2]
    by_cases hle : kf t ≤ kf f
    · rw [if_pos hle, if_pos hle]
      have hc := ents_cut t.1 h
      have c1 : cutF (e' :: es) t.1.data.toList = (e' :: es).filter (fun s => decide (klF s ≠ kf t)) := rfl
      have c2 : cutL (f :: fs) t.1 = (f :: fs).filter (fun s => decide (kf s ≠ kf t)) := by
        unfold cutL
        refine List.filter_congr fun x _ => ?_
        have : (x.1 ≠ t.1) ↔ (kf x ≠ kf t) := by
          constructor
          · intro h e
            refine h ?_
            rw [← toList_inj, ByteArray.toList_eq, ByteArray.toList_eq]
            exact e
          · intro h e
            exact h (by unfold kf; rw [e])
        exact decide_eq_decide.2 this
      rw [← c1, ← c2]
      exact ents_cons.2 ⟨⟨he, hv⟩, hc⟩
    · rw [if_neg hle, if_neg hle]
      exact ents_cons.2 ⟨⟨h1, h2⟩, ents_put he hv h3⟩

end Go.Proofs.YtdfadpejddhbkaaGreat

namespace Go.Proofs.YtdfadpejddhbkaaGreat
set_option linter.unusedVariables false
open Go.ChangeShapes Go.WideShapes Go.ChangeAt Go.RowKit Go.Deep Go.Maps

/-- is it a thing -/
def ftOk1 (f : Ft) : Bool := featOk f.1 f.2.1 f.2.2.1 f.2.2.2
/-- is there a map with it -/
def putHas (fs : List Ft) (f : Ft) : Bool := sheetOk fs && ftOk1 f && decide ((putL fs f).length ≤ 8)
/-- what the map with it is -/
def putRL (fs : List Ft) (f : Ft) : List Ft := if putHas fs f then putL fs f else []

/-- how many entries a map has that tells these -/
theorem size_tells {w : World} {b n : Nat} {D : DataW Value} {us : List En} (hown : w.ownsMap Tryz.prog 9 heldElem b n D) (ht : TellsF D us) : Maps.size D = us.length := by
  have h1 := (sorted_toldF hown ht (List.Perm.refl (strKeys D))).2
  have h2 : (strKeys D).length = Maps.size D := by
    obtain ⟨es, rfl⟩ := hown.isMap
    simp [strKeys, Maps.size]
  omega

set_option maxRecDepth 100000 in
set_option maxHeartbeats 4000000 in
theorem implSheetPut_any (a : Option Addr) (cap : Nat) (fs : List Ft) (f : Ft) (pa ta : Option Addr) (pc tc : Nat) (w : World) (hp : FeatsAt w a fs) (hl : fs.length ≤ 1048576) (ht : FeatsLen fs 1048576) (hpp : PtsAt w pa f.2.2.1) (htt : TagsAt w ta f.2.2.2) (hfl : FtLen f 1048576) :
    Calls Tryz.prog 21 #[.slice a fs.length cap, .agg #[.string f.1, .int .i64 f.2.1, .slice pa f.2.2.1.length pc, .slice ta f.2.2.2.length tc]] w (ListAns w (putRL fs f) (putHas fs f)) := by
  have HP := Lib.hid hp
  have HL := Lib.hid ht
  have PP := Lib.hid hpp
  have TT := Lib.hid htt
  have FL := Lib.hid hfl
  obtain ⟨x1, x2, x3, x4⟩ := hfl
  have X4 := Lib.hid x4
  clear hp ht hpp htt x4
  have A0 : Hid (∀ o, Below w.heap.size w (w.alloc o)) := fun o => (Below.refl _ _).alloc (Nat.le_refl _) _
  go_enter Tryz.func21, Tryz.ntmps21
  go_wp2_with fail
  refine (implSheetOk_any _ _ _ _ (HP.out.below (A0.out _)) hl HL.out).mono ?_
  rintro e w1 ⟨rfl, hb1⟩
  have C1 := Lib.hid ((Box4.new w (.string f.1) (.int .i64 f.2.1) (.slice pa f.2.2.1.length pc) (.slice ta f.2.2.2.length tc) 33).later hb1)
  have B1 : Hid (Below w.heap.size w w1) := (A0.out _).trans (hb1.mono (by simp))
  clear hb1
  by_cases hok : sheetOk fs = true
  · rw [hok]
    obtain ⟨c0, c1, c2, c3⟩ := C1.out
    go_wp2_with fail
    clear c0 c1 c2 c3
    refine (implFeatOk_any _ _ _ _ _ _ _ _ _ (PP.out.below B1.out) (TT.out.below B1.out) (by omega) (by omega) (by omega) X4.out).mono ?_
    rintro e w2 ⟨rfl, hb2⟩
    replace C1 := Lib.hid (C1.out.later hb2)
    have B2 : Hid (Below w.heap.size w w2) := B1.out.trans (hb2.mono B1.out.size)
    clear hb2
    by_cases hfo : featOk f.1 f.2.1 f.2.2.1 f.2.2.2 = true
    · rw [hfo]
      go_wp2_with fail
      refine (featsByName_any _ _ _ _ (HP.out.below B2.out) hl HL.out).mono ?_
      rintro e w3 ⟨rfl, ⟨es, he, ho⟩, hb3⟩
      replace C1 := Lib.hid (C1.out.later hb3)
      have B3 : Hid (Below w.heap.size w w3) := B2.out.trans (hb3.mono B2.out.size)
      have HE := Lib.hid he
      have BB3 := Lib.hid hb3
      have hz2 := B2.out.size
      have hz3 := hb3.size
      have holt := ho.lt
      have TL := Lib.hid ((ok_tells he hok).put (mapF_isMap es) (f.1, .agg #[.string f.1, .int .i64 f.2.1, .slice pa f.2.2.1.length pc, .slice ta f.2.2.2.length tc]))
      have hkey : keyOf Tryz.prog 9 (.string f.1) = some (keyL f.1) := Go.WideMaps.keyOf_string_mk Tryz.underlying9 (by unfold maxLen; omega)

      clear hb3
      have HFO : Hid (ftOk1 f = true) := hfo
      have HOK := Lib.hid hok
      clear hok hfo
      obtain ⟨c0, c1, c2, c3⟩ := C1.out
      by_cases hle : (putL fs f).length ≤ 8
      · have HH : Hid (putHas fs f = true) := by show _ = _; simp [putHas, HOK.out, HFO.out, hle]
        have HG : Hid (putRL fs f = putL fs f) := by show _ = _; unfold putRL; rw [HH.out, if_pos rfl]
        have hnn : ¬ (8 : Int) < ((putL fs f).length : Int) := by omega
        go_wp2_with (first | fail | (at_mapUpdate; refine wpList_mapUpdate_own _ rfl _ _ _ 81 rfl 9 33 keyT Tryz.underlying81 _ w2.heap.size fs.length (mapF es) rfl ho (by unfold maxLen; omega) _ _ _ rfl rfl hkey (.held (.agg #[.string f.1, .int .i64 f.2.1, .slice pa f.2.2.1.length pc, .slice ta f.2.2.2.length tc])) [] rfl ?_; intro w4 hown4 hgrow4; have B4 : Hid (Below w2.heap.size w2 w4) := BB3.out.grown hgrow4 (by omega) (fun j e => by obtain rfl : w2.heap.size = j := (by simpa using e); exact Nat.le_refl _); have EE : Hid (Ents w4 (putF es (f.1, .agg #[.string f.1, .int .i64 f.2.1, .slice pa f.2.2.1.length pc, .slice ta f.2.2.2.length tc])) (putL fs f)) := ents_put rfl ⟨pa, pc, ta, tc, rfl, (PP.out.below B2.out).below B4.out, (TT.out.below B2.out).below B4.out⟩ (HE.out.below B4.out); have O4 := Lib.hid hown4; have hlen := hown4.len Tryz.underlying81 3; rw [size_tells hown4 TL.out, EE.out.1] at hlen; clear hown4 hgrow4 c0 c1 c2 c3))
        refine (featsInOrder_any w2.heap.size _ _ _ (putL fs f) _ O4.out TL.out EE.out (by omega) (putL_lens HL.out FL.out)).mono ?_
        rintro e w5 ⟨⟨v, ad, rfl, hbu⟩, hl5, hb5⟩
        have B5 : Hid (Below w.heap.size w w5) := (B2.out.trans (B4.out.mono hz2)).trans (hb5.mono (Nat.le_trans hz2 B4.out.size))
        have HBu : Hid (Built w5 w.heap.size v (putL fs f).length (putL fs f) ad) := hbu.mono (Nat.le_trans hz2 B4.out.size)
        clear hbu hb5 hlen
        go_wp2
        go_ret2
        rw [HH.out, HG.out]
        exact ⟨⟨v, ad, rfl, HBu.out⟩, B5.out⟩
      · have HH : Hid (putHas fs f = false) := by show _ = _; simp [putHas, hle]
        have HG : Hid (putRL fs f = []) := by show _ = _; unfold putRL; rw [HH.out]; rfl
        have hnn : (8 : Int) < ((putL fs f).length : Int) := by omega
        go_wp2_with (first | fail | (at_mapUpdate; refine wpList_mapUpdate_own _ rfl _ _ _ 81 rfl 9 33 keyT Tryz.underlying81 _ w2.heap.size fs.length (mapF es) rfl ho (by unfold maxLen; omega) _ _ _ rfl rfl hkey (.held (.agg #[.string f.1, .int .i64 f.2.1, .slice pa f.2.2.1.length pc, .slice ta f.2.2.2.length tc])) [] rfl ?_; intro w4 hown4 hgrow4; have B4 : Hid (Below w2.heap.size w2 w4) := BB3.out.grown hgrow4 (by omega) (fun j e => by obtain rfl : w2.heap.size = j := (by simpa using e); exact Nat.le_refl _); have EE : Hid (Ents w4 (putF es (f.1, .agg #[.string f.1, .int .i64 f.2.1, .slice pa f.2.2.1.length pc, .slice ta f.2.2.2.length tc])) (putL fs f)) := ents_put rfl ⟨pa, pc, ta, tc, rfl, (PP.out.below B2.out).below B4.out, (TT.out.below B2.out).below B4.out⟩ (HE.out.below B4.out); have hlen := hown4.len Tryz.underlying81 3; rw [size_tells hown4 TL.out, EE.out.1] at hlen; clear hown4 hgrow4 c0 c1 c2 c3))
        go_ret2
        rw [HH.out, HG.out]
        exact ⟨⟨_, fun _ => ((none, 0), (none, 0)), rfl, built_none _ _ _ _⟩, B2.out.trans (B4.out.mono hz2)⟩
    · have hfo' : featOk f.1 f.2.1 f.2.2.1 f.2.2.2 = false := by simpa using hfo
      have HH : Hid (putHas fs f = false) := by show _ = _; simp [putHas, ftOk1, hfo']
      have HG : Hid (putRL fs f = []) := by show _ = _; unfold putRL; rw [HH.out]; rfl
      rw [hfo']
      clear hok hfo hfo'
      go_wp2
      go_ret2
      rw [HH.out, HG.out]
      exact ⟨⟨_, fun _ => ((none, 0), (none, 0)), rfl, built_none _ _ _ _⟩, B2.out⟩
  · have hok' : sheetOk fs = false := by simpa using hok
    have HH : Hid (putHas fs f = false) := by show _ = _; simp [putHas, hok']
    have HG : Hid (putRL fs f = []) := by show _ = _; unfold putRL; rw [HH.out]; rfl
    rw [hok']
    clear hok hok'
    go_wp2
    go_ret2
    rw [HH.out, HG.out]
    exact ⟨⟨_, fun _ => ((none, 0), (none, 0)), rfl, built_none _ _ _ _⟩, B1.out⟩
end Go.Proofs.YtdfadpejddhbkaaGreat

namespace Go.Proofs.YtdfadpejddhbkaaGreat
set_option linter.unusedVariables false
open Go.ChangeShapes Go.WideShapes Go.ChangeAt Go.RowKit

/-- things in the order of their names, each once -/
def AscL (fs : List Ft) : Prop := fs.Pairwise fun a b => kf a < kf b

theorem kf_ne_lt {a b : List UInt8} (h : a ≤ b) (hne : b ≠ a) : a < b := lt_of_le_ne h (fun e => hne (by first | exact e | exact e.symm))

theorem mem_putL (s t : Ft) : ∀ us : List Ft, s ∈ putL us t ↔ s = t ∨ (s ∈ us ∧ kf s ≠ kf t)
  | [] => by simp [putL]
  | u :: us => by
    unfold putL
    split
    · simp only [List.mem_cons, List.mem_filter, decide_eq_true_eq]
    · rename_i h
      have hu : kf u ≠ kf t := fun e => h (by rw [e]; exact List.le_refl _)
      rw [List.mem_cons, mem_putL s t us, List.mem_cons]
      constructor
      · rintro (rfl | rfl | ⟨h1, h2⟩)
        · exact .inr ⟨.inl rfl, hu⟩
        · exact .inl rfl
        · exact .inr ⟨.inr h1, h2⟩
      · rintro (rfl | ⟨rfl | h1, h2⟩)
        · exact .inr (.inl rfl)
        · exact .inl rfl
        · exact .inr (.inr ⟨h1, h2⟩)

theorem asc_putL (t : Ft) : ∀ {us : List Ft}, AscL us → AscL (putL us t)
  | [], _ => by simp [putL, AscL]
  | u :: us, h => by
    obtain ⟨h1, h2⟩ := List.pairwise_cons.1 h
    unfold putL
    split
    · rename_i hle
      refine List.pairwise_cons.2 ⟨fun s hs => ?_, List.Pairwise.filter _ h⟩
      simp only [List.mem_filter, decide_eq_true_eq] at hs
      obtain ⟨hm, hne⟩ := hs
      rcases List.mem_cons.1 hm with rfl | hm
      · exact kf_ne_lt hle hne
      · exact List.lt_of_le_of_lt hle (h1 s hm)
    · rename_i hle
      refine List.pairwise_cons.2 ⟨fun s hs => ?_, asc_putL t h2⟩
      rcases (mem_putL s t us).1 hs with rfl | ⟨hm, _⟩
      · exact List.not_le.1 hle
      · exact h1 s hm

theorem ascL_ext : ∀ {xs ys : List Ft}, AscL xs → AscL ys → (∀ s, s ∈ xs ↔ s ∈ ys) → xs = ys
  | [], [], _, _, _ => rfl
  | [], b :: ys, _, _, h => absurd ((h b).2 (.head _)) (by simp)
  | a :: xs, [], _, _, h => absurd ((h a).1 (.head _)) (by simp)
  | a :: xs, b :: ys, ha, hb, h => by
    obtain ⟨a1, a2⟩ := List.pairwise_cons.1 ha
    obtain ⟨b1, b2⟩ := List.pairwise_cons.1 hb
    have e : a = b := by
      rcases List.mem_cons.1 ((h a).1 (.head _)) with e | h1
      · exact e
      · rcases List.mem_cons.1 ((h b).2 (.head _)) with e | h2
        · exact e.symm
        · exact absurd (List.lt_trans (a1 b h2) (b1 a h1)) (List.lt_irrefl _)
    subst e
    refine congrArg (a :: ·) (ascL_ext a2 b2 fun s => ⟨fun hs => ?_, fun hs => ?_⟩)
    · rcases List.mem_cons.1 ((h s).1 (.tail _ hs)) with rfl | h1
      · exact absurd (a1 s hs) (List.lt_irrefl _)
      · exact h1
    · rcases List.mem_cons.1 ((h s).2 (.tail _ hs)) with rfl | h1
      · exact absurd (b1 s hs) (List.lt_irrefl _)
      · exact h1

theorem putL_same {s : List Ft} {f g : Ft} (h : AscL s) (e : kf f = kf g) : putL (putL s f) g = putL s g := by
  refine ascL_ext (asc_putL g (asc_putL f h)) (asc_putL g h) fun x => ?_
  rw [mem_putL, mem_putL, mem_putL, e]
  constructor
  · rintro (rfl | ⟨rfl | ⟨h1, _⟩, h2⟩)
    · exact .inl rfl
    · exact absurd e h2
    · exact .inr ⟨h1, h2⟩
  · rintro (rfl | ⟨h1, h2⟩)
    · exact .inl rfl
    · exact .inr ⟨.inr ⟨h1, h2⟩, h2⟩

theorem putL_comm {s : List Ft} {f g : Ft} (h : AscL s) (e : kf f ≠ kf g) : putL (putL s f) g = putL (putL s g) f := by
  refine ascL_ext (asc_putL g (asc_putL f h)) (asc_putL f (asc_putL g h)) fun x => ?_
  rw [mem_putL, mem_putL, mem_putL, mem_putL]
  constructor
  · rintro (rfl | ⟨rfl | ⟨h1, h3⟩, h2⟩)
    · exact .inr ⟨.inl rfl, fun q => e q.symm⟩
    · exact .inl rfl
    · exact .inr ⟨.inr ⟨h1, h2⟩, h3⟩
  · rintro (rfl | ⟨rfl | ⟨h1, h3⟩, h2⟩)
    · exact .inr ⟨.inl rfl, e⟩
    · exact .inl rfl
    · exact .inr ⟨.inr ⟨h1, h2⟩, h3⟩

theorem putL_len_same {f g : Ft} (e : kf f = kf g) : ∀ s : List Ft, (putL s f).length = (putL s g).length
  | [] => rfl
  | u :: us => by
    unfold putL
    rw [e]
    split
    · simp
    · simp [putL_len_same e us]

theorem putL_len_ge (t : Ft) : ∀ {us : List Ft}, AscL us → us.length ≤ (putL us t).length
  | [], _ => Nat.zero_le _
  | u :: us, h => by
    obtain ⟨h1, h2⟩ := List.pairwise_cons.1 h
    unfold putL
    split
    · rename_i hle
      have hf : us.filter (fun s => decide (kf s ≠ kf t)) = us := List.filter_eq_self.2 fun s hs => by
        have := List.lt_of_le_of_lt hle (h1 s hs)
        simp only [decide_eq_true_eq]
        exact fun e => absurd this (by rw [e]; exact List.lt_irrefl _)
      rw [List.length_cons, List.length_cons, List.filter_cons, hf]
      split
      · simp
      · simp
    · have := putL_len_ge t h2
      simp only [List.length_cons]
      omega

theorem fb_kf {fs : List Ft} {i : Nat} (h : i < fs.length) : fb fs i = kf fs[i] := by simp [fb, kf, fid, fg, h]
theorem ftOk_one {fs : List Ft} {i : Nat} (h : i < fs.length) : ftOk fs i = ftOk1 fs[i] := by simp [ftOk, ftOk1, fid, fkd, fps, fts, fg, h]

theorem ascL_of_ok {fs : List Ft} (h : sheetOk fs = true) : AscL fs ∧ (∀ f ∈ fs, ftOk1 f = true) ∧ fs.length ≤ 8 := by
  unfold sheetOk at h
  rw [Bool.and_eq_true, decide_eq_true_eq] at h
  have step : ∀ j, j + 1 < fs.length → fb fs j < fb fs (j + 1) := fun j hj => by
    have := featsGood_at h.1 hj
    simp [featGood] at this
    exact this.2
  have all : ∀ d i, i + d + 1 < fs.length → fb fs i < fb fs (i + d + 1) := by
    intro d
    induction d with
    | zero => exact fun i hi => step i hi
    | succ d ih => exact fun i hi => List.lt_trans (ih i (by omega)) (step _ hi)
  refine ⟨List.pairwise_iff_getElem.2 fun i j hi hj hij => ?_, fun f hf => ?_, h.2⟩
  · rw [← fb_kf hi, ← fb_kf hj]
    have := all (j - i - 1) i (by omega)
    rwa [show i + (j - i - 1) + 1 = j by omega] at this
  · obtain ⟨i, hi, rfl⟩ := List.getElem_of_mem hf
    have := featsGood_at h.1 hi
    unfold featGood at this
    rw [Bool.and_eq_true, ftOk_one hi] at this
    exact this.1

theorem ok_of_ascL {fs : List Ft} (h1 : AscL fs) (h2 : ∀ f ∈ fs, ftOk1 f = true) (h3 : fs.length ≤ 8) : sheetOk fs = true := by
  unfold sheetOk
  rw [Bool.and_eq_true, decide_eq_true_eq]
  refine ⟨featsGood_of fun j hj => ?_, h3⟩
  have ho : ftOk fs j = true := by rw [ftOk_one hj]; exact h2 _ (List.getElem_mem hj)
  by_cases h0 : 0 < j
  · have := List.pairwise_iff_getElem.1 h1 (j - 1) j (by omega) hj (by omega)
    rw [← fb_kf, ← fb_kf] at this
    have hn : ¬ fb fs j ≤ fb fs (j - 1) := fun hle => hle this
    simp [featGood, ho, hn]
  · simp [featGood, ho, h0]

theorem putHas_iff {fs : List Ft} {f : Ft} : putHas fs f = true ↔ sheetOk fs = true ∧ ftOk1 f = true ∧ (putL fs f).length ≤ 8 := by
  unfold putHas
  rw [Bool.and_eq_true, Bool.and_eq_true, decide_eq_true_eq, and_assoc]

theorem putRL_yes {fs : List Ft} {f : Ft} (h : putHas fs f = true) : putRL fs f = putL fs f := by unfold putRL; rw [if_pos h]

theorem putL_okS {s : List Ft} {f : Ft} (h : putHas s f = true) : sheetOk (putL s f) = true := by
  obtain ⟨h1, h2, h3⟩ := putHas_iff.1 h
  obtain ⟨q1, q2, _⟩ := ascL_of_ok h1
  refine ok_of_ascL (asc_putL f q1) (fun x hx => ?_) h3
  rcases (mem_putL x f s).1 hx with rfl | ⟨hx, _⟩
  · exact h2
  · exact q2 x hx

theorem two_same {s : List Ft} {f g : Ft} (h : putHas s f = true) (e : kf f = kf g) : putHas (putRL s f) g = putHas s g ∧ (putHas s g = true → putRL (putRL s f) g = putRL s g) := by
  rw [putRL_yes h]
  obtain ⟨h1, h2, h3⟩ := putHas_iff.1 h
  obtain ⟨q1, _, _⟩ := ascL_of_ok h1
  have hs := putL_same q1 e
  have hk := putL_okS h
  have he : putHas (putL s f) g = putHas s g := by
    unfold putHas
    rw [hk, h1, hs]
  exact ⟨he, fun hg => by rw [putRL_yes hg, putRL_yes (he.trans hg), hs]⟩

theorem two_diff {s : List Ft} {f g : Ft} (h : putHas s f = true) (e : kf f ≠ kf g) (ho : putHas (putRL s f) g = true) : putHas s g = true ∧ putHas (putRL s g) f = true ∧ putRL (putRL s f) g = putRL (putRL s g) f := by
  rw [putRL_yes h] at ho ⊢
  obtain ⟨h1, h2, h3⟩ := putHas_iff.1 h
  obtain ⟨q1, _, _⟩ := ascL_of_ok h1
  obtain ⟨o1, o2, o3⟩ := putHas_iff.1 ho
  have hc := putL_comm q1 e
  have hl : (putL s g).length ≤ 8 := by
    have := putL_len_ge f (asc_putL g q1)
    rw [← hc] at this
    omega
  have hg : putHas s g = true := putHas_iff.2 ⟨h1, o2, hl⟩
  rw [putRL_yes hg]
  have ht : putHas (putL s g) f = true := putHas_iff.2 ⟨putL_okS hg, h2, by rw [← hc]; exact o3⟩
  exact ⟨hg, ht, by rw [putRL_yes ho, putRL_yes ht, hc]⟩

theorem putRL_len (s : List Ft) (f : Ft) : (putRL s f).length ≤ s.length + 1 := by
  unfold putRL
  split
  · exact putL_len f s
  · exact Nat.zero_le _
theorem putRL_lens {s : List Ft} {f : Ft} {m : Int} (h : FeatsLen s m) (hf : FtLen f m) : FeatsLen (putRL s f) m := by
  unfold putRL
  split
  · exact putL_lens h hf
  · exact fun _ h => absurd h (Nat.not_lt_zero _)
end Go.Proofs.YtdfadpejddhbkaaGreat

namespace Go.Proofs.YtdfadpejddhbkaaGreat
set_option linter.unusedVariables false
open Go.ChangeShapes Go.WideShapes Go.ChangeAt Go.RowKit

theorem mem_cutL {s : Ft} {fs : List Ft} {id : ByteArray} : s ∈ cutL fs id ↔ s ∈ fs ∧ s.1 ≠ id := by
  unfold cutL
  rw [List.mem_filter, decide_eq_true_eq]

theorem cut_none (fs : List Ft) (id : ByteArray) : getHas (cutL fs id) id = false := by
  unfold getHas
  rw [firstF_miss fun j hj e => ?_]
  · simp
  · have := (mem_cutL.1 (List.getElem_mem hj)).2
    rw [fid_get hj] at this
    exact this e

theorem get_mem {fs : List Ft} {id : ByteArray} (h : getHas fs id = true) : sheetOk fs = true ∧ getFt fs id ∈ fs ∧ (getFt fs id).1 = id := by
  have h0 := h
  unfold getHas at h
  rw [Bool.and_eq_true, decide_eq_true_eq] at h
  unfold getFt
  rw [if_pos h0, fg_get h.2]
  exact ⟨h.1, List.getElem_mem h.2, by rw [fid_get h.2]; exact firstF_at h.2⟩

theorem ascL_one : ∀ {fs : List Ft}, AscL fs → ∀ {a b : Ft}, a ∈ fs → b ∈ fs → kf a = kf b → a = b
  | [], _, a, b, h, _, _ => by simp at h
  | x :: xs, hx, a, b, ha, hb, e => by
    obtain ⟨h1, h2⟩ := List.pairwise_cons.1 hx
    rcases List.mem_cons.1 ha with e1 | ha'
    · rcases List.mem_cons.1 hb with e2 | hb'
      · rw [e1, e2]
      · subst e1; exact absurd (h1 b hb') (by rw [e]; exact List.lt_irrefl _)
    · rcases List.mem_cons.1 hb with e2 | hb'
      · subst e2; exact absurd (h1 a ha') (by rw [e]; exact List.lt_irrefl _)
      · exact ascL_one h2 ha' hb' e

theorem putL_len_new (t : Ft) : ∀ {us : List Ft}, (∀ u ∈ us, kf u ≠ kf t) → (putL us t).length = us.length + 1
  | [], _ => rfl
  | u :: us, h => by
    unfold putL
    split
    · rw [List.length_cons, List.filter_eq_self.2 fun s hs => by simpa using h s hs]
    · rw [List.length_cons, putL_len_new t fun s hs => h s (.tail _ hs), List.length_cons]

theorem asc_cutL {fs : List Ft} (id : ByteArray) (h : AscL fs) : AscL (cutL fs id) := List.Pairwise.filter _ h

theorem put_back {fs : List Ft} {g : Ft} (h : AscL fs) (hg : g ∈ fs) : putL (cutL fs g.1) g = fs := by
  refine ascL_ext (asc_putL g (asc_cutL _ h)) h fun s => ?_
  rw [mem_putL, mem_cutL]
  constructor
  · rintro (rfl | ⟨⟨h1, _⟩, _⟩)
    · exact hg
    · exact h1
  · intro hs
    by_cases e : s.1 = g.1
    · exact .inl (ascL_one h hs hg (kf_eq.2 e))
    · exact .inr ⟨⟨hs, e⟩, fun q => e (kf_eq.1 q)⟩

/-- what is cut off and put back -/
theorem cut_back {fs : List Ft} {id : ByteArray} (h : getHas fs id = true) :
    getHas (cutR fs id) id = false ∧ sheetOk (cutR fs id) = true ∧ ((fs.length : Int) - 1 = ((cutR fs id).length : Int)) ∧ putHas (cutR fs id) (getFt fs id) = true ∧ putRL (cutR fs id) (getFt fs id) = fs := by
  obtain ⟨h1, h2, h3⟩ := get_mem h
  obtain ⟨q1, q2, q3⟩ := ascL_of_ok h1
  have ec : cutR fs id = cutL fs id := by unfold cutR; rw [if_pos h]
  rw [ec]
  generalize getFt fs id = g at *
  subst h3
  have hp := put_back q1 h2
  have hl := putL_len_new g (us := cutL fs g.1) fun u hu e => (mem_cutL.1 hu).2 (kf_eq.1 e)
  rw [hp] at hl
  have hok : sheetOk (cutL fs g.1) = true := ok_of_ascL (asc_cutL _ q1) (fun f hf => q2 f (mem_cutL.1 hf).1) (by omega)
  have hh : putHas (cutL fs g.1) g = true := putHas_iff.2 ⟨hok, q2 g h2, by rw [hp]; exact q3⟩
  exact ⟨cut_none _ _, hok, by omega, hh, by rw [putRL_yes hh, hp]⟩

theorem cutR_lens {fs : List Ft} {id : ByteArray} {m : Int} (h : FeatsLen fs m) : FeatsLen (cutR fs id) m := by
  unfold cutR
  split
  · exact cutL_lens id h
  · exact fun _ h => absurd h (Nat.not_lt_zero _)
theorem cutR_len (fs : List Ft) (id : ByteArray) : (cutR fs id).length ≤ fs.length := by
  unfold cutR
  split
  · exact cutL_len _ _
  · exact Nat.zero_le _
theorem getFt_len {fs : List Ft} {id : ByteArray} {m : Int} (h : FeatsLen fs m) (hm : 0 ≤ m) : FtLen (getFt fs id) m := by
  by_cases hh : getHas fs id = true
  · exact featsLen_iff.1 h _ (get_mem hh).2.1
  · unfold getFt
    rw [if_neg hh]
    exact ⟨hm, by simpa using hm, by simpa using hm, fun j hj => absurd hj (Nat.not_lt_zero _)⟩
end Go.Proofs.YtdfadpejddhbkaaGreat

namespace Go.Proofs.YtdfadpejddhbkaaGreat
set_option linter.unusedVariables false
open Go.ChangeShapes Go.WideShapes Go.ChangeAt Go.RowKit Go.Deep

set_option maxRecDepth 100000 in
set_option maxHeartbeats 4000000 in
theorem l3Cut_any (a : Option Addr) (cap : Nat) (fs : List Ft) (id : ByteArray) (w : World) (hp : FeatsAt w a fs) (hl : fs.length ≤ 1048576) :
    Calls Tryz.prog 61 #[.slice a fs.length cap, .string id] w fun e w' => (∃ a' cap', e = .returned (.slice a' (cutL fs id).length cap') ∧ FeatsAt w' a' (cutL fs id)) ∧ Below w.heap.size w w' := by
  obtain ⟨i0, hi, hz0, hz1, hz2⟩ := info_parts infoF
  have HI := Lib.hid hi
  have HZ0 := Lib.hid hz0
  have HZ1 := Lib.hid hz1
  have HZ2 := Lib.hid hz2
  have HP := Lib.hid hp
  clear hi hz0 hz1 hz2 hp
  go_enter Tryz.func61, Tryz.ntmps61
  go_wp2
  go_loopw [5, 6] (fun s i wr => ∃ (j : Nat) (v : Value) (ad : Nat → Pl), j ≤ fs.length ∧ i = .int .i64 j ∧ v = s ∧ Row wr (fun x => x < w.heap.size) w.heap.size v (cutN fs id j) (cutL fs id) ad ∧ Below w.heap.size w wr) (fun _ i _ => fs.length - (intOf i).toNat)
  case atStart => exact ⟨0, _, fun _ => ((none, 0), (none, 0)), Nat.zero_le _, rfl, rfl, ⟨World.ownsRow_made w #[] 0 (Nat.le_refl _) (by unfold maxLen; omega) rfl, fun _ h => absurd h (Nat.not_lt_zero _), fun _ h => absurd h (Nat.not_lt_zero _), fun _ h => absurd h (Nat.not_lt_zero _), fun _ h => absurd h (Nat.not_lt_zero _)⟩, (Below.refl _ _).alloc (Nat.le_refl _) _⟩
  case round =>
    obtain ⟨j, v, ad, hj, rfl, rfl, hro, hbel⟩ := hrel
    have hsz := hbel.size
    have HR := Lib.hid hro
    have HB := Lib.hid hbel
    by_cases hlt : j < fs.length
    · obtain ⟨b, off, pa, pc, ta, tc, rfl, hb, hc1, hc2, hc3, hc4, hpp, htt⟩ := HP.out j hlt
      rw [← hbel.cell (p := ⟨b, _, none⟩) hb] at hc1 hc2 hc3 hc4
      have zb : b < wr.heap.size := by omega
      have hbq := bytes_beq (fid fs j) id
      have PL : Hid ((fps fs j).length = 0 ∨ ∀ x, blk pa = some x → x < w.heap.size) := by
        by_cases h : (fps fs j).length = 0
        · exact .inl h
        · obtain ⟨b', o', rfl, h1, _⟩ := hpp 0 (by omega)
          exact .inr fun x hx => by obtain rfl : b' = x := (by simpa [blk] using hx); exact h1
      have TL : Hid ((fts fs j).length = 0 ∨ ∀ x, blk ta = some x → x < w.heap.size) := by
        by_cases h : (fts fs j).length = 0
        · exact .inl h
        · obtain ⟨b', o', rfl, h1, _⟩ := htt 0 (by omega)
          exact .inr fun x hx => by obtain rfl : b' = x := (by simpa [blk] using hx); exact h1
      have D1 := Lib.hid (hpp.below hbel)
      have D2 := Lib.hid (htt.below hbel)
      have HV : Hid (∀ x, v.ownBlock = some x → w.heap.size ≤ x) := fun x hx => (hro.row.lt x hx).1
      clear hro hbel hpp htt
      by_cases hs : fid fs j = id
      · rw [decide_eq_true hs] at hbq
        have HN := Lib.hid (cutN_no hlt hs)
        clear hs
        go_wp2
        go_roundw
        case rel => exact ⟨j + 1, v, ad, by omega, by go_num, rfl, by rw [HN.out]; exact HR.out, HB.out⟩
        case measure => simp [intOf]; omega
      · rw [decide_eq_false hs] at hbq
        have HN := Lib.hid (cutN_yes hlt hs)
        have hkl : cutN fs id j < 1048576 := by have := HN.out.2.2; have := cutL_len fs id; omega
        clear hs
        have A3 : Hid (∀ o, Below wr.heap.size wr (wr.alloc o)) := fun o => (Below.refl _ _).alloc (Nat.le_refl _) _
        go_wp2_with (at_builtin; refine wpList_append_lies _ (by rfl) _ _ _ (by rfl) w.heap.size 33 i0 _ 4 72 Tryz.underlying23 HI.out HZ0.out HZ1.out HZ2.out rfl (by omega) v (cutN fs id j) (flatF (cutL fs id) ad (cutN fs id j)) (by rfl) (HR.out.row.alloc _) ⟨wr.heap.size, 0, none⟩ 1 1 (cellsF (fg fs j) ((pa, pc), (ta, tc))) (by rfl) (by rfl) (World.news_of_block (cs := #[.string (fid fs j), .int .i64 (fkd fs j), .slice pa (fps fs j).length pc, .slice ta (fts fs j).length tc]) (t := 33) (fr := (0, 0)) (heap_alloc_new wr _)) (by simp [Value.oneCell', cellsF]) (by omega) (by unfold maxLen; omega) (by omega) (by simp; omega) (wr.heap.size + 1) (by simp) ?_; intro gg cap' wa hown1 hgrow hat hlt')
        have eg : fg (cutL fs id) (cutN fs id j) = fg fs j := HN.out.2.1
        have ep : fps (cutL fs id) (cutN fs id j) = fps fs j := by unfold fps; rw [eg]
        have et : fts (cutL fs id) (cutN fs id j) = fts fs j := by unfold fts; rw [eg]
        have HS : Hid (Row wa (fun x => x < w.heap.size) w.heap.size (.slice (some ⟨gg, 0, none⟩) (cutN fs id j + 1) cap') (cutN fs id j + 1) (cutL fs id) (plSet ad (cutN fs id j) ((pa, pc), (ta, tc)))) := by
          refine HR.out.step (Below.refl _ _) (A3.out _) (by simp) (by rw [ep]; exact D1.out) ?_ (by rw [et]; exact D2.out) ?_ (by rw [eg]; exact hown1) hgrow hat
          · rw [ep]
            exact PL.out.imp (fun h => h) fun q x hx => ⟨q x hx, by have := q x hx; omega, fun e => by have h1 := HV.out x e; have h2 := q x hx; omega⟩
          · rw [et]
            exact TL.out.imp (fun h => h) fun q x hx => ⟨q x hx, by have := q x hx; omega, fun e => by have h1 := HV.out x e; have h2 := q x hx; omega⟩
        have HG := Lib.hid hgrow
        clear hown1 hgrow hat eg ep et
        go_roundw
        case rel => exact ⟨j + 1, _, _, by omega, by go_num, rfl, by rw [HN.out.1]; exact HS.out, (HB.out.alloc hsz _).grown HG.out (by simp; omega) (fun x hx => HV.out x hx)⟩
        case measure => simp [intOf]; omega
    · obtain rfl : j = fs.length := by omega
      have HR' : Hid (Row wr (fun x => x < w.heap.size) w.heap.size v (cutL fs id).length (cutL fs id) ad) := by rw [← cutN_all fs id]; exact HR.out
      obtain ⟨a', cap', rfl, hF, _⟩ := HR'.out.reads
      have HF := Lib.hid hF
      clear hro hbel hF
      go_wp2
      go_ret
      exact ⟨⟨a', cap', rfl, HF.out⟩, HB.out⟩

set_option maxRecDepth 100000 in
set_option maxHeartbeats 4000000 in
theorem l3Copy_any (a : Option Addr) (cap : Nat) (fs : List Ft) (w : World) (hp : FeatsAt w a fs) (hl : fs.length ≤ 1048576) (hL : FeatsLen fs 1048576) (hpos : ∀ i, i < fs.length → 0 < (fps fs i).length) :
    Calls Tryz.prog 60 #[.slice a fs.length cap] w fun e w' => (∃ v, e = .returned v ∧ GotL w.heap.size w'.heap.size w' v fs) ∧ Below w.heap.size w w' := by
  obtain ⟨i0, hi, hz0, hz1, hz2⟩ := info_parts infoF
  have HI := Lib.hid hi
  have HZ0 := Lib.hid hz0
  have HZ1 := Lib.hid hz1
  have HZ2 := Lib.hid hz2
  have HP := Lib.hid hp
  have HL := Lib.hid hL
  have HQ := Lib.hid hpos
  clear hi hz0 hz1 hz2 hp hL hpos
  go_enter Tryz.func60, Tryz.ntmps60
  go_wp2
  go_loopw [3, 4] (fun s i wr => ∃ (k : Nat) (v : Value) (ad : Nat → Pl), k ≤ fs.length ∧ i = .int .i64 k ∧ v = s ∧ Row wr (fun x => w.heap.size ≤ x) w.heap.size v k fs ad ∧ Below w.heap.size w wr) (fun _ i _ => fs.length - (intOf i).toNat)
  case atStart => exact ⟨0, _, fun _ => ((none, 0), (none, 0)), Nat.zero_le _, rfl, rfl, ⟨World.ownsRow_made w #[] 0 (Nat.le_refl _) (by unfold maxLen; omega) rfl, fun _ h => absurd h (Nat.not_lt_zero _), fun _ h => absurd h (Nat.not_lt_zero _), fun _ h => absurd h (Nat.not_lt_zero _), fun _ h => absurd h (Nat.not_lt_zero _)⟩, (Below.refl _ _).alloc (Nat.le_refl _) _⟩
  case round =>
    obtain ⟨k, v, ad, hk, rfl, rfl, hro, hbel⟩ := hrel
    have hsz := hbel.size
    have HR := Lib.hid hro
    have HB := Lib.hid hbel
    by_cases hlt : k < fs.length
    · obtain ⟨b, off, pa, pc, ta, tc, rfl, hb, hc1, hc2, hc3, hc4, hpp, htt⟩ := HP.out k hlt
      rw [← hbel.cell (p := ⟨b, _, none⟩) hb] at hc1 hc2 hc3 hc4
      obtain ⟨l1, l2, l3, _⟩ := HL.out k hlt
      have h0 := HQ.out k hlt
      have D1 := Lib.hid (hpp.below hbel)
      have D2 := Lib.hid (htt.below hbel)
      have HV : Hid (∀ x, v.ownBlock = some x → w.heap.size ≤ x ∧ x < wr.heap.size) := fun x hx => hro.row.lt x hx
      clear hro hbel hpp htt
      go_wp2_with fail
      refine (l2Copy_got _ _ _ _ _ _ _ _ _ D1.out D2.out (by omega) h0 (by omega)).mono ?_
      rintro e w3 ⟨⟨v3, rfl, hg3⟩, hb3⟩
      obtain ⟨qa, qc, sa, sc, rfl, q1, q2, q3, q4⟩ := hg3
      have E1 := Lib.hid q1
      have E2 := Lib.hid q2
      have E3 := Lib.hid q3
      have E4 := Lib.hid q4
      have B3 := Lib.hid hb3
      have R3 : Hid (w3.ownsRow w.heap.size 33 4 v k (flatF fs ad k)) := ownsRow_below HR.out.row hb3
      have hz3 := hb3.size
      have A3 : Hid (∀ o, Below w3.heap.size w3 (w3.alloc o)) := fun o => (Below.refl _ _).alloc (Nat.le_refl _) _
      clear hb3 q1 q2 q3 q4 hc1 hc2 hc3 hc4
      go_wp2_with (at_builtin; refine wpList_append_lies _ (by rfl) _ _ _ (by rfl) w.heap.size 33 i0 _ 4 72 Tryz.underlying23 HI.out HZ0.out HZ1.out HZ2.out rfl (by omega) v k (flatF fs ad k) (by rfl) (R3.out.alloc _) ⟨w3.heap.size, 0, none⟩ 1 1 (cellsF (fg fs k) ((qa, qc), (sa, sc))) (by rfl) (by rfl) (World.news_of_block (cs := #[.string (fid fs k), .int .i64 (fkd fs k), .slice qa (fps fs k).length qc, .slice sa (fts fs k).length sc]) (t := 33) (fr := (0, 0)) (heap_alloc_new w3 _)) (by simp [Value.oneCell', cellsF]) (by omega) (by unfold maxLen; omega) (by omega) (by simp; omega) (w3.heap.size + 1) (by simp) ?_; intro gg cap' wa hown1 hgrow hat hlt')
      have HS : Hid (Row wa (fun x => w.heap.size ≤ x) w.heap.size (.slice (some ⟨gg, 0, none⟩) (k + 1) cap') (k + 1) fs (plSet ad k ((qa, qc), (sa, sc)))) := by
        refine HR.out.step B3.out (A3.out _) (by simp) E1.out ?_ E2.out ?_ hown1 hgrow hat
        · exact E3.out.imp (fun h => h) fun q x hx => ⟨by have := (q x hx).1; omega, (q x hx).2, fun e => by have h1 := (HV.out x e).2; have h2 := (q x hx).1; omega⟩
        · exact E4.out.imp (fun h => h) fun q x hx => ⟨by have := (q x hx).1; omega, (q x hx).2, fun e => by have h1 := (HV.out x e).2; have h2 := (q x hx).1; omega⟩
      have HG := Lib.hid hgrow
      clear hown1 hgrow hat
      go_roundw
      case rel => exact ⟨k + 1, _, _, by omega, by go_num, rfl, HS.out, ((HB.out.trans (B3.out.mono hsz)).alloc (by omega) _).grown HG.out (by simp; omega) (fun x hx => (HV.out x hx).1)⟩
      case measure => simp [intOf]; omega
    · obtain rfl : k = fs.length := by omega
      have HG := Lib.hid HR.out.got
      clear hro hbel
      go_wp2
      go_ret
      exact ⟨⟨v, rfl, HG.out⟩, HB.out⟩

theorem cutL_pos {fs : List Ft} (id : ByteArray) (hok : sheetOk fs = true) : ∀ i, i < (cutL fs id).length → 0 < (fps (cutL fs id) i).length := by
  intro i hi
  have hm : (cutL fs id)[i] ∈ fs := (List.mem_filter.1 (List.getElem_mem hi)).1
  obtain ⟨j, hj, e⟩ := List.getElem_of_mem hm
  have := ftOk_pts (good_ok hok hj)
  unfold fps at this ⊢
  rwa [fg_get hi, ← e, ← fg_get hj]

set_option maxRecDepth 100000 in
set_option maxHeartbeats 4000000 in
theorem specSheetCut_any (a : Option Addr) (cap : Nat) (fs : List Ft) (id : ByteArray) (w : World) (hp : FeatsAt w a fs) (hl : fs.length ≤ 1048576) (ht : FeatsLen fs 1048576) :
    Calls Tryz.prog 16 #[.slice a fs.length cap, .string id] w fun e w' => (∃ v, e = .returned (.tuple #[v, .bool (getHas fs id)]) ∧ GotL w.heap.size w'.heap.size w' v (cutR fs id)) ∧ Below w.heap.size w w' := by
  have HP := Lib.hid hp
  have HL := Lib.hid ht
  clear hp ht
  go_enter Tryz.func16, Tryz.ntmps16
  go_wp2_with fail
  refine (specSheetOk_any _ _ _ _ HP.out hl HL.out).mono ?_
  rintro e w1 ⟨rfl, hb1⟩
  have B1 := Lib.hid hb1
  clear hb1
  by_cases hok : sheetOk fs = true
  · rw [hok]
    go_wp2_with fail
    refine (l3Find_any _ _ _ _ _ (HP.out.below B1.out) hl).mono ?_
    rintro e w2 ⟨rfl, rfl⟩
    by_cases hlt : firstF fs id < fs.length
    · have hfv : findV fs id = (firstF fs id : Int) := by unfold findV; rw [if_pos hlt]
      have HH : Hid (getHas fs id = true) := by show _ = _; simp [getHas, hok, hlt]
      have HG : Hid (cutR fs id = cutL fs id) := by show _ = _; unfold cutR; rw [HH.out, if_pos rfl]
      have HQ := Lib.hid (cutL_pos id hok)
      have hcl := cutL_len fs id
      rw [hfv]
      generalize firstF fs id = i at *
      clear hok
      go_wp2_with fail
      refine (l3Cut_any _ _ _ _ _ (HP.out.below B1.out) hl).mono ?_
      rintro e w2 ⟨⟨a2, cap2, rfl, hF⟩, hb2⟩
      have B2 : Hid (Below w.heap.size w w2) := B1.out.trans (hb2.mono B1.out.size)
      have HF := Lib.hid hF
      clear hb2 hF
      go_wp2_with fail
      refine (l3Copy_any _ _ _ _ HF.out (by omega) (cutL_lens id HL.out) HQ.out).mono ?_
      rintro e w3 ⟨⟨v, rfl, hg⟩, hb3⟩
      have B3 : Hid (Below w.heap.size w w3) := B2.out.trans (hb3.mono B2.out.size)
      have GG : Hid (GotL w.heap.size w3.heap.size w3 v (cutL fs id)) := hg.mono B2.out.size (Nat.le_refl _)
      clear hb3 hg
      go_wp2
      go_ret2
      rw [HH.out, HG.out]
      exact ⟨⟨v, rfl, GG.out⟩, B3.out⟩
    · have hfv : findV fs id = -1 := by unfold findV; rw [if_neg hlt]
      have HH : Hid (getHas fs id = false) := by show _ = _; simp [getHas, hlt]
      have HG : Hid (cutR fs id = []) := by show _ = _; unfold cutR; rw [HH.out]; rfl
      rw [hfv]
      clear hok
      go_wp2
      go_ret2
      rw [HH.out, HG.out]
      exact ⟨⟨_, rfl, gotL_nil _ _ _ _ _⟩, B1.out.alloc B1.out.size _⟩
  · have hok' : sheetOk fs = false := by simpa using hok
    have HH : Hid (getHas fs id = false) := by show _ = _; simp [getHas, hok']
    have HG : Hid (cutR fs id = []) := by show _ = _; unfold cutR; rw [HH.out]; rfl
    rw [hok']
    clear hok hok'
    go_wp2
    go_ret2
    rw [HH.out, HG.out]
    exact ⟨⟨_, rfl, gotL_nil _ _ _ _ _⟩, B1.out.alloc B1.out.size _⟩
end Go.Proofs.YtdfadpejddhbkaaGreat

namespace Go.Proofs.YtdfadpejddhbkaaGreat
set_option linter.unusedVariables false
open Go.ChangeShapes Go.WideShapes Go.ChangeAt Go.RowKit Go.Deep

set_option maxRecDepth 100000 in
set_option maxHeartbeats 8000000 in
theorem l3Put_any (a : Option Addr) (cap : Nat) (fs : List Ft) (f : Ft) (pf tf : Option Addr) (pfc tfc : Nat) (w : World) (hp : FeatsAt w a fs) (hl : fs.length ≤ 1048576) (hpf : PtsAt w pf f.2.2.1) (htf : TagsAt w tf f.2.2.2) :
    Calls Tryz.prog 73 #[.slice a fs.length cap, .agg #[.string f.1, .int .i64 f.2.1, .slice pf f.2.2.1.length pfc, .slice tf f.2.2.2.length tfc]] w fun e w' => (∃ a' cap', e = .returned (.slice a' (putL fs f).length cap') ∧ FeatsAt w' a' (putL fs f)) ∧ Below w.heap.size w w' := by
  obtain ⟨i0, hi, hz0, hz1, hz2⟩ := info_parts infoF
  have HI := Lib.hid hi
  have HZ0 := Lib.hid hz0
  have HZ1 := Lib.hid hz1
  have HZ2 := Lib.hid hz2
  have HP := Lib.hid hp
  have FP := Lib.hid hpf
  have FT := Lib.hid htf
  have PF := Lib.hid (pts_low hpf)
  have TF := Lib.hid (tags_low htf)
  clear hi hz0 hz1 hz2 hp hpf htf
  go_enter Tryz.func73, Tryz.ntmps73
  go_wp2
  go_loopw [5, 6, 7] (fun s d i wr => ∃ (j : Nat) (v : Value) (o : List Ft) (q : Bool) (ad : Nat → Pl), j ≤ fs.length ∧ i = .int .i64 j ∧ d = .bool q ∧ v = s ∧ PutsL fs f j o q ∧ o.length ≤ j + q.toNat ∧ Row wr (fun x => x < w.heap.size) (w.heap.size + 1) v o.length o ad ∧ Box4 wr w.heap.size (.string f.1) (.int .i64 f.2.1) (.slice pf f.2.2.1.length pfc) (.slice tf f.2.2.2.length tfc) ∧ Below w.heap.size w wr) (fun _ _ i _ => fs.length - (intOf i).toNat)
  case atStart =>
    have hro := World.ownsRow_made (w.alloc (.cells #[.string f.1, .int .i64 f.2.1, .slice pf f.2.2.1.length pfc, .slice tf f.2.2.2.length tfc] 33)) #[] 0 (base := w.heap.size + 1) (by simp) (by unfold maxLen; omega) (e := 33) (size := 4) (by simp)
    refine ⟨0, _, [], false, fun _ => ((none, 0), (none, 0)), Nat.zero_le _, rfl, rfl, rfl, PutsL.start _ _, by simp, ⟨by simpa [flatF] using hro, fun _ h => absurd h (Nat.not_lt_zero _), fun _ h => absurd h (Nat.not_lt_zero _), fun _ h => absurd h (Nat.not_lt_zero _), fun _ h => absurd h (Nat.not_lt_zero _)⟩, (Box4.new w _ _ _ _ _).alloc _, ((Below.refl _ _).alloc (Nat.le_refl _) _).alloc (by simp) _⟩
  case round =>
    obtain ⟨j, v, o, q, ad, hj, rfl, rfl, rfl, hP, hol, hro, hbox, hbel⟩ := hrel
    have HR := Lib.hid hro
    have HBX := Lib.hid hbox
    have HB := Lib.hid hbel
    have hsz : w.heap.size < wr.heap.size := hbox.lt
    have HV : Hid (∀ x, v.ownBlock = some x → w.heap.size + 1 ≤ x) := fun x hx => (hro.row.lt x hx).1
    have hol' : o.length ≤ j + 1 := by cases q <;> simp at hol <;> omega
    have FPr := Lib.hid (FP.out.below hbel)
    have FTr := Lib.hid (FT.out.below hbel)
    obtain ⟨x0, x1, x2, x3⟩ := hbox
    by_cases hlt : j < fs.length
    · obtain ⟨b, off, pa, pc, ta, tc, rfl, hb, hc1, hc2, hc3, hc4, hpp, htt⟩ := HP.out j hlt
      rw [← hbel.cell (p := ⟨b, _, none⟩) hb] at hc1 hc2 hc3 hc4
      have hst := hP.step hlt
      have PL := Lib.hid (pts_low hpp)
      have TL := Lib.hid (tags_low htt)
      have D1 := Lib.hid (hpp.below hbel)
      have D2 := Lib.hid (htt.below hbel)
      clear hro hbel hP hpp htt
      have hblt : b < wr.heap.size := by omega
      have nbw : ¬ b = w.heap.size := by omega
      by_cases he : fid fs j = f.1
      · have hk : kf (fg fs j) = kf f := kf_eq.2 he
        have e2 := bytes_beq (fid fs j) f.1
        rw [decide_eq_true he] at e2
        have e1 : Op.bytesLess (fid fs j).toList f.1.toList = false := less_not (by show ¬ kf (fg fs j) < kf f; rw [hk]; exact List.lt_irrefl _)
        have hle : kf f ≤ kf (fg fs j) := by rw [hk]; exact List.le_refl _
        cases q
        · replace hol : o.length ≤ j := hol
          have HS : Hid (PutsL fs f (j + 1) (o ++ [f]) true) := by simpa [Hid, hle, hk] using hst
          clear hst he hle hk
          go_wp2
          go_quiet (fail)
          have Bq : Below wr.heap.size wr (wr.drewN nq) := below_drewN (Below.refl _ _) nq
          have zq : (wr.drewN nq).heap.size = wr.heap.size := rfl
          generalize wr.drewN nq = W1 at *
          replace HR := Lib.hid (HR.out.below Bq)
          replace HBX := Lib.hid (HBX.out.later Bq)
          replace HB := Lib.hid (HB.out.trans (Bq.mono HB.out.size))
          replace FPr := Lib.hid (FPr.out.below Bq)
          replace FTr := Lib.hid (FTr.out.below Bq)
          replace D1 := Lib.hid (D1.out.below Bq)
          replace D2 := Lib.hid (D2.out.below Bq)
          replace hc1 := cell_later Bq hc1
          replace hc2 := cell_later Bq hc2
          replace hc3 := cell_later Bq hc3
          replace hc4 := cell_later Bq hc4
          replace x0 := cell_later Bq x0
          replace x1 := cell_later Bq x1
          replace x2 := cell_later Bq x2
          replace x3 := cell_later Bq x3
          replace hsz : w.heap.size < W1.heap.size := by omega
          replace hblt : b < W1.heap.size := by omega
          clear Bq zq
          have ROW := Lib.hid HR.out.row
          go_wp2_with (at_builtin; refine wpList_append_lies _ (by rfl) _ _ _ (by rfl) (w.heap.size + 1) 33 i0 _ 4 72 Tryz.underlying23 HI.out HZ0.out HZ1.out HZ2.out rfl (by omega) (v) (o.length) (flatF (o) ad (o.length)) (by rfl) (ROW.out.alloc _) ⟨W1.heap.size, 0, none⟩ 1 1 (cellsF f ((pf, pfc), (tf, tfc))) (by rfl) (by rfl) (World.news_of_block (cs := #[.string f.1, .int .i64 f.2.1, .slice pf f.2.2.1.length pfc, .slice tf f.2.2.2.length tfc]) (t := 33) (fr := (0, 0)) (heap_alloc_new W1 _)) (by simp [Value.oneCell', cellsF]) (by omega) (by unfold maxLen; omega) (by omega) (by simp; omega) (W1.heap.size + 1) (by simp) ?_; intro gg1 cap1 wa1 hown1 hgrow1 hat1 hlt1; clear ROW; have vw : (v).ownBlock ≠ some w.heap.size := (fun e => by have := HV.out _ e; omega); replace HR : Hid (Row wa1 (fun x => x < w.heap.size) (w.heap.size + 1) (Value.slice (some ⟨gg1, 0, none⟩) (o.length + 1) cap1) (o ++ [f]).length (o ++ [f]) (plSet ad (o.length) ((pf, pfc), (tf, tfc)))) := HR.out.snoc FPr.out (PF.out.imp (fun h => h) fun q x hx => ⟨q x hx, by have := q x hx; omega, fun e => by have h1 := HV.out x e; have h2 := q x hx; omega⟩) FTr.out (TF.out.imp (fun h => h) fun q x hx => ⟨q x hx, by have := q x hx; omega, fun e => by have h1 := HV.out x e; have h2 := q x hx; omega⟩) (by simpa using hown1) hgrow1 hat1; replace HBX := Lib.hid (BoxF.grown HBX.out hgrow1 vw); replace HB : Hid (Below w.heap.size w wa1) := (HB.out.alloc HB.out.size _).grown hgrow1 (by simp; omega) (fun x hx => by have := HV.out x hx; omega); have vb : (v).ownBlock ≠ some b := (fun e => by have := HV.out b e; omega); replace hc1 := HGF_cell hgrow1 hblt hc1 vb; replace hc2 := HGF_cell hgrow1 hblt hc2 vb; replace hc3 := HGF_cell hgrow1 hblt hc3 vb; replace hc4 := HGF_cell hgrow1 hblt hc4 vb; replace x0 := HGF_cell hgrow1 hsz x0 vw; replace x1 := HGF_cell hgrow1 hsz x1 vw; replace x2 := HGF_cell hgrow1 hsz x2 vw; replace x3 := HGF_cell hgrow1 hsz x3 vw; replace D1 := Lib.hid (PtsKeep D1.out hgrow1 (PL.out.imp (fun h => h) fun q x hx e => by have h1 := q x hx; have h2 := HV.out x e; omega)); replace D2 := Lib.hid (TagsKeep D2.out hgrow1 (TL.out.imp (fun h => h) fun q x hx e => by have h1 := q x hx; have h2 := HV.out x e; omega)); replace FPr := Lib.hid (PtsKeep FPr.out hgrow1 (PF.out.imp (fun h => h) fun q x hx e => by have h1 := q x hx; have h2 := HV.out x e; omega)); replace FTr := Lib.hid (TagsKeep FTr.out hgrow1 (TF.out.imp (fun h => h) fun q x hx e => by have h1 := q x hx; have h2 := HV.out x e; omega)); have hszA : W1.heap.size < wa1.heap.size := (by have h := hgrow1.size; simp at h; omega); replace hsz : w.heap.size < wa1.heap.size := (by omega); replace hblt : b < wa1.heap.size := (by omega); replace HV : Hid (∀ x, (Value.slice (some ⟨gg1, 0, none⟩) (o.length + 1) cap1).ownBlock = some x → w.heap.size + 1 ≤ x) := (fun x e => (hown1.lt x e).1); clear vb; clear hown1 hgrow1 hat1 vw)
          go_wp2
          go_quiet (fail)
          have Bq : Below wa1.heap.size wa1 (wa1.drewN nq) := below_drewN (Below.refl _ _) nq
          have zq : (wa1.drewN nq).heap.size = wa1.heap.size := rfl
          generalize wa1.drewN nq = W2 at *
          replace HR := Lib.hid (HR.out.below Bq)
          replace HBX := Lib.hid (HBX.out.later Bq)
          replace HB := Lib.hid (HB.out.trans (Bq.mono HB.out.size))
          replace FPr := Lib.hid (FPr.out.below Bq)
          replace FTr := Lib.hid (FTr.out.below Bq)
          replace D1 := Lib.hid (D1.out.below Bq)
          replace D2 := Lib.hid (D2.out.below Bq)
          replace hc1 := cell_later Bq hc1
          replace hc2 := cell_later Bq hc2
          replace hc3 := cell_later Bq hc3
          replace hc4 := cell_later Bq hc4
          replace x0 := cell_later Bq x0
          replace x1 := cell_later Bq x1
          replace x2 := cell_later Bq x2
          replace x3 := cell_later Bq x3
          replace hsz : w.heap.size < W2.heap.size := by omega
          replace hblt : b < W2.heap.size := by omega
          clear Bq zq
          go_wp2
          go_roundw
          case rel => exact ⟨j + 1, _, o ++ [f], _, _, by omega, by go_num, rfl, rfl, HS.out, by simp; omega, HR.out, HBX.out, HB.out⟩
          case measure => simp [intOf]; omega
        · have HS : Hid (PutsL fs f (j + 1) o true) := by simpa [Hid, hk] using hst
          clear hst he hle hk
          go_wp2
          go_quiet (fail)
          have Bq : Below wr.heap.size wr (wr.drewN nq) := below_drewN (Below.refl _ _) nq
          have zq : (wr.drewN nq).heap.size = wr.heap.size := rfl
          generalize wr.drewN nq = W1 at *
          replace HR := Lib.hid (HR.out.below Bq)
          replace HBX := Lib.hid (HBX.out.later Bq)
          replace HB := Lib.hid (HB.out.trans (Bq.mono HB.out.size))
          replace FPr := Lib.hid (FPr.out.below Bq)
          replace FTr := Lib.hid (FTr.out.below Bq)
          replace D1 := Lib.hid (D1.out.below Bq)
          replace D2 := Lib.hid (D2.out.below Bq)
          replace hc1 := cell_later Bq hc1
          replace hc2 := cell_later Bq hc2
          replace hc3 := cell_later Bq hc3
          replace hc4 := cell_later Bq hc4
          replace x0 := cell_later Bq x0
          replace x1 := cell_later Bq x1
          replace x2 := cell_later Bq x2
          replace x3 := cell_later Bq x3
          replace hsz : w.heap.size < W1.heap.size := by omega
          replace hblt : b < W1.heap.size := by omega
          clear Bq zq
          go_wp2
          go_quiet (fail)
          have Bq : Below W1.heap.size W1 (W1.drewN nq) := below_drewN (Below.refl _ _) nq
          have zq : (W1.drewN nq).heap.size = W1.heap.size := rfl
          generalize W1.drewN nq = W2 at *
          replace HR := Lib.hid (HR.out.below Bq)
          replace HBX := Lib.hid (HBX.out.later Bq)
          replace HB := Lib.hid (HB.out.trans (Bq.mono HB.out.size))
          replace FPr := Lib.hid (FPr.out.below Bq)
          replace FTr := Lib.hid (FTr.out.below Bq)
          replace D1 := Lib.hid (D1.out.below Bq)
          replace D2 := Lib.hid (D2.out.below Bq)
          replace hc1 := cell_later Bq hc1
          replace hc2 := cell_later Bq hc2
          replace hc3 := cell_later Bq hc3
          replace hc4 := cell_later Bq hc4
          replace x0 := cell_later Bq x0
          replace x1 := cell_later Bq x1
          replace x2 := cell_later Bq x2
          replace x3 := cell_later Bq x3
          replace hsz : w.heap.size < W2.heap.size := by omega
          replace hblt : b < W2.heap.size := by omega
          clear Bq zq
          go_wp2
          go_roundw
          case rel => exact ⟨j + 1, _, o, _, _, by omega, by go_num, rfl, rfl, HS.out, by simp at hol ⊢; omega, HR.out, HBX.out, HB.out⟩
          case measure => simp [intOf]; omega
      · have hk : ¬ kf (fg fs j) = kf f := fun h => he (kf_eq.1 h)
        have e2 := bytes_beq (fid fs j) f.1
        rw [decide_eq_false he] at e2
        by_cases hq : kf (fg fs j) < kf f
        · have e1 : Op.bytesLess (fid fs j).toList f.1.toList = true := less_of hq
          have hle : ¬ kf f ≤ kf (fg fs j) := fun h => h hq
          have HS : Hid (PutsL fs f (j + 1) (o ++ [fg fs j]) q) := by simpa [Hid, hle, hk] using hst
          clear hst he hle hq hk
          cases q
          · replace hol : o.length ≤ j := hol
            go_wp2
            go_quiet (fail)
            have Bq : Below wr.heap.size wr (wr.drewN nq) := below_drewN (Below.refl _ _) nq
            have zq : (wr.drewN nq).heap.size = wr.heap.size := rfl
            generalize wr.drewN nq = W1 at *
            replace HR := Lib.hid (HR.out.below Bq)
            replace HBX := Lib.hid (HBX.out.later Bq)
            replace HB := Lib.hid (HB.out.trans (Bq.mono HB.out.size))
            replace FPr := Lib.hid (FPr.out.below Bq)
            replace FTr := Lib.hid (FTr.out.below Bq)
            replace D1 := Lib.hid (D1.out.below Bq)
            replace D2 := Lib.hid (D2.out.below Bq)
            replace hc1 := cell_later Bq hc1
            replace hc2 := cell_later Bq hc2
            replace hc3 := cell_later Bq hc3
            replace hc4 := cell_later Bq hc4
            replace x0 := cell_later Bq x0
            replace x1 := cell_later Bq x1
            replace x2 := cell_later Bq x2
            replace x3 := cell_later Bq x3
            replace hsz : w.heap.size < W1.heap.size := by omega
            replace hblt : b < W1.heap.size := by omega
            clear Bq zq
            go_wp2
            go_quiet (fail)
            have Bq : Below W1.heap.size W1 (W1.drewN nq) := below_drewN (Below.refl _ _) nq
            have zq : (W1.drewN nq).heap.size = W1.heap.size := rfl
            generalize W1.drewN nq = W2 at *
            replace HR := Lib.hid (HR.out.below Bq)
            replace HBX := Lib.hid (HBX.out.later Bq)
            replace HB := Lib.hid (HB.out.trans (Bq.mono HB.out.size))
            replace FPr := Lib.hid (FPr.out.below Bq)
            replace FTr := Lib.hid (FTr.out.below Bq)
            replace D1 := Lib.hid (D1.out.below Bq)
            replace D2 := Lib.hid (D2.out.below Bq)
            replace hc1 := cell_later Bq hc1
            replace hc2 := cell_later Bq hc2
            replace hc3 := cell_later Bq hc3
            replace hc4 := cell_later Bq hc4
            replace x0 := cell_later Bq x0
            replace x1 := cell_later Bq x1
            replace x2 := cell_later Bq x2
            replace x3 := cell_later Bq x3
            replace hsz : w.heap.size < W2.heap.size := by omega
            replace hblt : b < W2.heap.size := by omega
            clear Bq zq
            have ROW := Lib.hid HR.out.row
            go_wp2_with (at_builtin; refine wpList_append_lies _ (by rfl) _ _ _ (by rfl) (w.heap.size + 1) 33 i0 _ 4 72 Tryz.underlying23 HI.out HZ0.out HZ1.out HZ2.out rfl (by omega) (v) (o.length) (flatF (o) ad (o.length)) (by rfl) (ROW.out.alloc _) ⟨W2.heap.size, 0, none⟩ 1 1 (cellsF (fg fs j) ((pa, pc), (ta, tc))) (by rfl) (by rfl) (World.news_of_block (cs := #[.string (fid fs j), .int .i64 (fkd fs j), .slice pa (fps fs j).length pc, .slice ta (fts fs j).length tc]) (t := 33) (fr := (0, 0)) (heap_alloc_new W2 _)) (by simp [Value.oneCell', cellsF]) (by omega) (by unfold maxLen; omega) (by omega) (by simp; omega) (W2.heap.size + 1) (by simp) ?_; intro gg2 cap2 wa2 hown2 hgrow2 hat2 hlt2; clear ROW; have vw : (v).ownBlock ≠ some w.heap.size := (fun e => by have := HV.out _ e; omega); replace HR : Hid (Row wa2 (fun x => x < w.heap.size) (w.heap.size + 1) (Value.slice (some ⟨gg2, 0, none⟩) (o.length + 1) cap2) (o ++ [(fg fs j)]).length (o ++ [(fg fs j)]) (plSet ad (o.length) ((pa, pc), (ta, tc)))) := HR.out.snoc D1.out (PL.out.imp (fun h => h) fun q x hx => ⟨q x hx, by have := q x hx; omega, fun e => by have h1 := HV.out x e; have h2 := q x hx; omega⟩) D2.out (TL.out.imp (fun h => h) fun q x hx => ⟨q x hx, by have := q x hx; omega, fun e => by have h1 := HV.out x e; have h2 := q x hx; omega⟩) (by simpa using hown2) hgrow2 hat2; replace HBX := Lib.hid (BoxF.grown HBX.out hgrow2 vw); replace HB : Hid (Below w.heap.size w wa2) := (HB.out.alloc HB.out.size _).grown hgrow2 (by simp; omega) (fun x hx => by have := HV.out x hx; omega); clear hown2 hgrow2 hat2 vw)
            go_roundw
            case rel => exact ⟨j + 1, _, o ++ [fg fs j], _, _, by omega, by go_num, rfl, rfl, HS.out, by simp; omega, HR.out, HBX.out, HB.out⟩
            case measure => simp [intOf]; omega
          · replace hol : o.length ≤ j + 1 := hol
            go_wp2
            go_quiet (fail)
            have Bq : Below wr.heap.size wr (wr.drewN nq) := below_drewN (Below.refl _ _) nq
            have zq : (wr.drewN nq).heap.size = wr.heap.size := rfl
            generalize wr.drewN nq = W1 at *
            replace HR := Lib.hid (HR.out.below Bq)
            replace HBX := Lib.hid (HBX.out.later Bq)
            replace HB := Lib.hid (HB.out.trans (Bq.mono HB.out.size))
            replace FPr := Lib.hid (FPr.out.below Bq)
            replace FTr := Lib.hid (FTr.out.below Bq)
            replace D1 := Lib.hid (D1.out.below Bq)
            replace D2 := Lib.hid (D2.out.below Bq)
            replace hc1 := cell_later Bq hc1
            replace hc2 := cell_later Bq hc2
            replace hc3 := cell_later Bq hc3
            replace hc4 := cell_later Bq hc4
            replace x0 := cell_later Bq x0
            replace x1 := cell_later Bq x1
            replace x2 := cell_later Bq x2
            replace x3 := cell_later Bq x3
            replace hsz : w.heap.size < W1.heap.size := by omega
            replace hblt : b < W1.heap.size := by omega
            clear Bq zq
            go_wp2
            go_quiet (fail)
            have Bq : Below W1.heap.size W1 (W1.drewN nq) := below_drewN (Below.refl _ _) nq
            have zq : (W1.drewN nq).heap.size = W1.heap.size := rfl
            generalize W1.drewN nq = W2 at *
            replace HR := Lib.hid (HR.out.below Bq)
            replace HBX := Lib.hid (HBX.out.later Bq)
            replace HB := Lib.hid (HB.out.trans (Bq.mono HB.out.size))
            replace FPr := Lib.hid (FPr.out.below Bq)
            replace FTr := Lib.hid (FTr.out.below Bq)
            replace D1 := Lib.hid (D1.out.below Bq)
            replace D2 := Lib.hid (D2.out.below Bq)
            replace hc1 := cell_later Bq hc1
            replace hc2 := cell_later Bq hc2
            replace hc3 := cell_later Bq hc3
            replace hc4 := cell_later Bq hc4
            replace x0 := cell_later Bq x0
            replace x1 := cell_later Bq x1
            replace x2 := cell_later Bq x2
            replace x3 := cell_later Bq x3
            replace hsz : w.heap.size < W2.heap.size := by omega
            replace hblt : b < W2.heap.size := by omega
            clear Bq zq
            have ROW := Lib.hid HR.out.row
            go_wp2_with (at_builtin; refine wpList_append_lies _ (by rfl) _ _ _ (by rfl) (w.heap.size + 1) 33 i0 _ 4 72 Tryz.underlying23 HI.out HZ0.out HZ1.out HZ2.out rfl (by omega) (v) (o.length) (flatF (o) ad (o.length)) (by rfl) (ROW.out.alloc _) ⟨W2.heap.size, 0, none⟩ 1 1 (cellsF (fg fs j) ((pa, pc), (ta, tc))) (by rfl) (by rfl) (World.news_of_block (cs := #[.string (fid fs j), .int .i64 (fkd fs j), .slice pa (fps fs j).length pc, .slice ta (fts fs j).length tc]) (t := 33) (fr := (0, 0)) (heap_alloc_new W2 _)) (by simp [Value.oneCell', cellsF]) (by omega) (by unfold maxLen; omega) (by omega) (by simp; omega) (W2.heap.size + 1) (by simp) ?_; intro gg2 cap2 wa2 hown2 hgrow2 hat2 hlt2; clear ROW; have vw : (v).ownBlock ≠ some w.heap.size := (fun e => by have := HV.out _ e; omega); replace HR : Hid (Row wa2 (fun x => x < w.heap.size) (w.heap.size + 1) (Value.slice (some ⟨gg2, 0, none⟩) (o.length + 1) cap2) (o ++ [(fg fs j)]).length (o ++ [(fg fs j)]) (plSet ad (o.length) ((pa, pc), (ta, tc)))) := HR.out.snoc D1.out (PL.out.imp (fun h => h) fun q x hx => ⟨q x hx, by have := q x hx; omega, fun e => by have h1 := HV.out x e; have h2 := q x hx; omega⟩) D2.out (TL.out.imp (fun h => h) fun q x hx => ⟨q x hx, by have := q x hx; omega, fun e => by have h1 := HV.out x e; have h2 := q x hx; omega⟩) (by simpa using hown2) hgrow2 hat2; replace HBX := Lib.hid (BoxF.grown HBX.out hgrow2 vw); replace HB : Hid (Below w.heap.size w wa2) := (HB.out.alloc HB.out.size _).grown hgrow2 (by simp; omega) (fun x hx => by have := HV.out x hx; omega); clear hown2 hgrow2 hat2 vw)
            go_roundw
            case rel => exact ⟨j + 1, _, o ++ [fg fs j], _, _, by omega, by go_num, rfl, rfl, HS.out, by simp; omega, HR.out, HBX.out, HB.out⟩
            case measure => simp [intOf]; omega
        · have e1 : Op.bytesLess (fid fs j).toList f.1.toList = false := less_not hq
          have hle : kf f ≤ kf (fg fs j) := hq
          cases q
          · replace hol : o.length ≤ j := hol
            have HS : Hid (PutsL fs f (j + 1) (o ++ [f] ++ [fg fs j]) true) := by simpa [Hid, hle, hk] using hst
            clear hst he hle hq hk
            go_wp2
            go_quiet (fail)
            have Bq : Below wr.heap.size wr (wr.drewN nq) := below_drewN (Below.refl _ _) nq
            have zq : (wr.drewN nq).heap.size = wr.heap.size := rfl
            generalize wr.drewN nq = W1 at *
            replace HR := Lib.hid (HR.out.below Bq)
            replace HBX := Lib.hid (HBX.out.later Bq)
            replace HB := Lib.hid (HB.out.trans (Bq.mono HB.out.size))
            replace FPr := Lib.hid (FPr.out.below Bq)
            replace FTr := Lib.hid (FTr.out.below Bq)
            replace D1 := Lib.hid (D1.out.below Bq)
            replace D2 := Lib.hid (D2.out.below Bq)
            replace hc1 := cell_later Bq hc1
            replace hc2 := cell_later Bq hc2
            replace hc3 := cell_later Bq hc3
            replace hc4 := cell_later Bq hc4
            replace x0 := cell_later Bq x0
            replace x1 := cell_later Bq x1
            replace x2 := cell_later Bq x2
            replace x3 := cell_later Bq x3
            replace hsz : w.heap.size < W1.heap.size := by omega
            replace hblt : b < W1.heap.size := by omega
            clear Bq zq
            have ROW := Lib.hid HR.out.row
            go_wp2_with (at_builtin; refine wpList_append_lies _ (by rfl) _ _ _ (by rfl) (w.heap.size + 1) 33 i0 _ 4 72 Tryz.underlying23 HI.out HZ0.out HZ1.out HZ2.out rfl (by omega) (v) (o.length) (flatF (o) ad (o.length)) (by rfl) (ROW.out.alloc _) ⟨W1.heap.size, 0, none⟩ 1 1 (cellsF f ((pf, pfc), (tf, tfc))) (by rfl) (by rfl) (World.news_of_block (cs := #[.string f.1, .int .i64 f.2.1, .slice pf f.2.2.1.length pfc, .slice tf f.2.2.2.length tfc]) (t := 33) (fr := (0, 0)) (heap_alloc_new W1 _)) (by simp [Value.oneCell', cellsF]) (by omega) (by unfold maxLen; omega) (by omega) (by simp; omega) (W1.heap.size + 1) (by simp) ?_; intro gg1 cap1 wa1 hown1 hgrow1 hat1 hlt1; clear ROW; have vw : (v).ownBlock ≠ some w.heap.size := (fun e => by have := HV.out _ e; omega); replace HR : Hid (Row wa1 (fun x => x < w.heap.size) (w.heap.size + 1) (Value.slice (some ⟨gg1, 0, none⟩) (o.length + 1) cap1) (o ++ [f]).length (o ++ [f]) (plSet ad (o.length) ((pf, pfc), (tf, tfc)))) := HR.out.snoc FPr.out (PF.out.imp (fun h => h) fun q x hx => ⟨q x hx, by have := q x hx; omega, fun e => by have h1 := HV.out x e; have h2 := q x hx; omega⟩) FTr.out (TF.out.imp (fun h => h) fun q x hx => ⟨q x hx, by have := q x hx; omega, fun e => by have h1 := HV.out x e; have h2 := q x hx; omega⟩) (by simpa using hown1) hgrow1 hat1; replace HBX := Lib.hid (BoxF.grown HBX.out hgrow1 vw); replace HB : Hid (Below w.heap.size w wa1) := (HB.out.alloc HB.out.size _).grown hgrow1 (by simp; omega) (fun x hx => by have := HV.out x hx; omega); have vb : (v).ownBlock ≠ some b := (fun e => by have := HV.out b e; omega); replace hc1 := HGF_cell hgrow1 hblt hc1 vb; replace hc2 := HGF_cell hgrow1 hblt hc2 vb; replace hc3 := HGF_cell hgrow1 hblt hc3 vb; replace hc4 := HGF_cell hgrow1 hblt hc4 vb; replace x0 := HGF_cell hgrow1 hsz x0 vw; replace x1 := HGF_cell hgrow1 hsz x1 vw; replace x2 := HGF_cell hgrow1 hsz x2 vw; replace x3 := HGF_cell hgrow1 hsz x3 vw; replace D1 := Lib.hid (PtsKeep D1.out hgrow1 (PL.out.imp (fun h => h) fun q x hx e => by have h1 := q x hx; have h2 := HV.out x e; omega)); replace D2 := Lib.hid (TagsKeep D2.out hgrow1 (TL.out.imp (fun h => h) fun q x hx e => by have h1 := q x hx; have h2 := HV.out x e; omega)); replace FPr := Lib.hid (PtsKeep FPr.out hgrow1 (PF.out.imp (fun h => h) fun q x hx e => by have h1 := q x hx; have h2 := HV.out x e; omega)); replace FTr := Lib.hid (TagsKeep FTr.out hgrow1 (TF.out.imp (fun h => h) fun q x hx e => by have h1 := q x hx; have h2 := HV.out x e; omega)); have hszA : W1.heap.size < wa1.heap.size := (by have h := hgrow1.size; simp at h; omega); replace hsz : w.heap.size < wa1.heap.size := (by omega); replace hblt : b < wa1.heap.size := (by omega); replace HV : Hid (∀ x, (Value.slice (some ⟨gg1, 0, none⟩) (o.length + 1) cap1).ownBlock = some x → w.heap.size + 1 ≤ x) := (fun x e => (hown1.lt x e).1); clear vb; clear hown1 hgrow1 hat1 vw)
            go_wp2
            go_quiet (fail)
            have Bq : Below wa1.heap.size wa1 (wa1.drewN nq) := below_drewN (Below.refl _ _) nq
            have zq : (wa1.drewN nq).heap.size = wa1.heap.size := rfl
            generalize wa1.drewN nq = W2 at *
            replace HR := Lib.hid (HR.out.below Bq)
            replace HBX := Lib.hid (HBX.out.later Bq)
            replace HB := Lib.hid (HB.out.trans (Bq.mono HB.out.size))
            replace FPr := Lib.hid (FPr.out.below Bq)
            replace FTr := Lib.hid (FTr.out.below Bq)
            replace D1 := Lib.hid (D1.out.below Bq)
            replace D2 := Lib.hid (D2.out.below Bq)
            replace hc1 := cell_later Bq hc1
            replace hc2 := cell_later Bq hc2
            replace hc3 := cell_later Bq hc3
            replace hc4 := cell_later Bq hc4
            replace x0 := cell_later Bq x0
            replace x1 := cell_later Bq x1
            replace x2 := cell_later Bq x2
            replace x3 := cell_later Bq x3
            replace hsz : w.heap.size < W2.heap.size := by omega
            replace hblt : b < W2.heap.size := by omega
            clear Bq zq
            have hROW := HR.out.row
            rw [show (o ++ [f]).length = o.length + 1 by simp] at hROW
            have ROW := Lib.hid hROW
            clear hROW
            go_wp2_with (at_builtin; refine wpList_append_lies _ (by rfl) _ _ _ (by rfl) (w.heap.size + 1) 33 i0 _ 4 72 Tryz.underlying23 HI.out HZ0.out HZ1.out HZ2.out rfl (by omega) (Value.slice (some ⟨gg1, 0, none⟩) (o.length + 1) cap1) (o.length + 1) (flatF ((o ++ [f])) (plSet ad (o.length) ((pf, pfc), (tf, tfc))) (o.length + 1)) (by rfl) (ROW.out.alloc _) ⟨W2.heap.size, 0, none⟩ 1 1 (cellsF (fg fs j) ((pa, pc), (ta, tc))) (by rfl) (by rfl) (World.news_of_block (cs := #[.string (fid fs j), .int .i64 (fkd fs j), .slice pa (fps fs j).length pc, .slice ta (fts fs j).length tc]) (t := 33) (fr := (0, 0)) (heap_alloc_new W2 _)) (by simp [Value.oneCell', cellsF]) (by omega) (by unfold maxLen; omega) (by omega) (by simp; omega) (W2.heap.size + 1) (by simp) ?_; intro gg2 cap2 wa2 hown2 hgrow2 hat2 hlt2; clear ROW; have vw : (Value.slice (some ⟨gg1, 0, none⟩) (o.length + 1) cap1).ownBlock ≠ some w.heap.size := (fun e => by have := HV.out _ e; omega); replace HR : Hid (Row wa2 (fun x => x < w.heap.size) (w.heap.size + 1) (Value.slice (some ⟨gg2, 0, none⟩) ((o ++ [f]).length + 1) cap2) ((o ++ [f]) ++ [(fg fs j)]).length ((o ++ [f]) ++ [(fg fs j)]) (plSet (plSet ad (o.length) ((pf, pfc), (tf, tfc))) ((o ++ [f]).length) ((pa, pc), (ta, tc)))) := HR.out.snoc D1.out (PL.out.imp (fun h => h) fun q x hx => ⟨q x hx, by have := q x hx; omega, fun e => by have h1 := HV.out x e; have h2 := q x hx; omega⟩) D2.out (TL.out.imp (fun h => h) fun q x hx => ⟨q x hx, by have := q x hx; omega, fun e => by have h1 := HV.out x e; have h2 := q x hx; omega⟩) (by simpa using hown2) hgrow2 hat2; replace HBX := Lib.hid (BoxF.grown HBX.out hgrow2 vw); replace HB : Hid (Below w.heap.size w wa2) := (HB.out.alloc HB.out.size _).grown hgrow2 (by simp; omega) (fun x hx => by have := HV.out x hx; omega); clear hown2 hgrow2 hat2 vw)
            go_roundw
            case rel => exact ⟨j + 1, _, o ++ [f] ++ [fg fs j], _, _, by omega, by go_num, rfl, by simp, HS.out, by simp; omega, HR.out, HBX.out, HB.out⟩
            case measure => simp [intOf]; omega
          · replace hol : o.length ≤ j + 1 := hol
            have HS : Hid (PutsL fs f (j + 1) (o ++ [fg fs j]) true) := by simpa [Hid, hk] using hst
            clear hst he hle hq hk
            go_wp2
            go_quiet (fail)
            have Bq : Below wr.heap.size wr (wr.drewN nq) := below_drewN (Below.refl _ _) nq
            have zq : (wr.drewN nq).heap.size = wr.heap.size := rfl
            generalize wr.drewN nq = W1 at *
            replace HR := Lib.hid (HR.out.below Bq)
            replace HBX := Lib.hid (HBX.out.later Bq)
            replace HB := Lib.hid (HB.out.trans (Bq.mono HB.out.size))
            replace FPr := Lib.hid (FPr.out.below Bq)
            replace FTr := Lib.hid (FTr.out.below Bq)
            replace D1 := Lib.hid (D1.out.below Bq)
            replace D2 := Lib.hid (D2.out.below Bq)
            replace hc1 := cell_later Bq hc1
            replace hc2 := cell_later Bq hc2
            replace hc3 := cell_later Bq hc3
            replace hc4 := cell_later Bq hc4
            replace x0 := cell_later Bq x0
            replace x1 := cell_later Bq x1
            replace x2 := cell_later Bq x2
            replace x3 := cell_later Bq x3
            replace hsz : w.heap.size < W1.heap.size := by omega
            replace hblt : b < W1.heap.size := by omega
            clear Bq zq
            go_wp2
            go_quiet (fail)
            have Bq : Below W1.heap.size W1 (W1.drewN nq) := below_drewN (Below.refl _ _) nq
            have zq : (W1.drewN nq).heap.size = W1.heap.size := rfl
            generalize W1.drewN nq = W2 at *
            replace HR := Lib.hid (HR.out.below Bq)
            replace HBX := Lib.hid (HBX.out.later Bq)
            replace HB := Lib.hid (HB.out.trans (Bq.mono HB.out.size))
            replace FPr := Lib.hid (FPr.out.below Bq)
            replace FTr := Lib.hid (FTr.out.below Bq)
            replace D1 := Lib.hid (D1.out.below Bq)
            replace D2 := Lib.hid (D2.out.below Bq)
            replace hc1 := cell_later Bq hc1
            replace hc2 := cell_later Bq hc2
            replace hc3 := cell_later Bq hc3
            replace hc4 := cell_later Bq hc4
            replace x0 := cell_later Bq x0
            replace x1 := cell_later Bq x1
            replace x2 := cell_later Bq x2
            replace x3 := cell_later Bq x3
            replace hsz : w.heap.size < W2.heap.size := by omega
            replace hblt : b < W2.heap.size := by omega
            clear Bq zq
            have ROW := Lib.hid HR.out.row
            go_wp2_with (at_builtin; refine wpList_append_lies _ (by rfl) _ _ _ (by rfl) (w.heap.size + 1) 33 i0 _ 4 72 Tryz.underlying23 HI.out HZ0.out HZ1.out HZ2.out rfl (by omega) (v) (o.length) (flatF (o) ad (o.length)) (by rfl) (ROW.out.alloc _) ⟨W2.heap.size, 0, none⟩ 1 1 (cellsF (fg fs j) ((pa, pc), (ta, tc))) (by rfl) (by rfl) (World.news_of_block (cs := #[.string (fid fs j), .int .i64 (fkd fs j), .slice pa (fps fs j).length pc, .slice ta (fts fs j).length tc]) (t := 33) (fr := (0, 0)) (heap_alloc_new W2 _)) (by simp [Value.oneCell', cellsF]) (by omega) (by unfold maxLen; omega) (by omega) (by simp; omega) (W2.heap.size + 1) (by simp) ?_; intro gg2 cap2 wa2 hown2 hgrow2 hat2 hlt2; clear ROW; have vw : (v).ownBlock ≠ some w.heap.size := (fun e => by have := HV.out _ e; omega); replace HR : Hid (Row wa2 (fun x => x < w.heap.size) (w.heap.size + 1) (Value.slice (some ⟨gg2, 0, none⟩) (o.length + 1) cap2) (o ++ [(fg fs j)]).length (o ++ [(fg fs j)]) (plSet ad (o.length) ((pa, pc), (ta, tc)))) := HR.out.snoc D1.out (PL.out.imp (fun h => h) fun q x hx => ⟨q x hx, by have := q x hx; omega, fun e => by have h1 := HV.out x e; have h2 := q x hx; omega⟩) D2.out (TL.out.imp (fun h => h) fun q x hx => ⟨q x hx, by have := q x hx; omega, fun e => by have h1 := HV.out x e; have h2 := q x hx; omega⟩) (by simpa using hown2) hgrow2 hat2; replace HBX := Lib.hid (BoxF.grown HBX.out hgrow2 vw); replace HB : Hid (Below w.heap.size w wa2) := (HB.out.alloc HB.out.size _).grown hgrow2 (by simp; omega) (fun x hx => by have := HV.out x hx; omega); clear hown2 hgrow2 hat2 vw)
            go_roundw
            case rel => exact ⟨j + 1, _, o ++ [fg fs j], _, _, by omega, by go_num, rfl, rfl, HS.out, by simp; omega, HR.out, HBX.out, HB.out⟩
            case measure => simp [intOf]; omega
    · obtain rfl : j = fs.length := by omega
      have HD := Lib.hid hP.done
      clear hro hbel hP
      cases q
      · replace hol : o.length ≤ fs.length := hol
        have ROW := Lib.hid HR.out.row
        go_wp2_with (at_builtin; refine wpList_append_lies _ (by rfl) _ _ _ (by rfl) (w.heap.size + 1) 33 i0 _ 4 72 Tryz.underlying23 HI.out HZ0.out HZ1.out HZ2.out rfl (by omega) (v) (o.length) (flatF (o) ad (o.length)) (by rfl) (ROW.out.alloc _) ⟨wr.heap.size, 0, none⟩ 1 1 (cellsF f ((pf, pfc), (tf, tfc))) (by rfl) (by rfl) (World.news_of_block (cs := #[.string f.1, .int .i64 f.2.1, .slice pf f.2.2.1.length pfc, .slice tf f.2.2.2.length tfc]) (t := 33) (fr := (0, 0)) (heap_alloc_new wr _)) (by simp [Value.oneCell', cellsF]) (by omega) (by unfold maxLen; omega) (by omega) (by simp; omega) (wr.heap.size + 1) (by simp) ?_; intro gg1 cap1 wa1 hown1 hgrow1 hat1 hlt1; clear ROW; have vw : (v).ownBlock ≠ some w.heap.size := (fun e => by have := HV.out _ e; omega); replace HR : Hid (Row wa1 (fun x => x < w.heap.size) (w.heap.size + 1) (Value.slice (some ⟨gg1, 0, none⟩) (o.length + 1) cap1) (o ++ [f]).length (o ++ [f]) (plSet ad (o.length) ((pf, pfc), (tf, tfc)))) := HR.out.snoc FPr.out (PF.out.imp (fun h => h) fun q x hx => ⟨q x hx, by have := q x hx; omega, fun e => by have h1 := HV.out x e; have h2 := q x hx; omega⟩) FTr.out (TF.out.imp (fun h => h) fun q x hx => ⟨q x hx, by have := q x hx; omega, fun e => by have h1 := HV.out x e; have h2 := q x hx; omega⟩) (by simpa using hown1) hgrow1 hat1; replace HBX := Lib.hid (BoxF.grown HBX.out hgrow1 vw); replace HB : Hid (Below w.heap.size w wa1) := (HB.out.alloc HB.out.size _).grown hgrow1 (by simp; omega) (fun x hx => by have := HV.out x hx; omega); clear hown1 hgrow1 hat1 vw)
        go_wp2
        go_ret
        have e : o ++ [f] = putL fs f := by simpa using HD.out
        have hr := HR.out
        rw [e] at hr
        obtain ⟨a', cap', e', hF, _⟩ := hr.reads
        first | exact ⟨⟨a', cap', congrArg Ending.returned e', hF⟩, HB.out⟩ | exact ⟨⟨a', ⟨cap', congrArg Ending.returned e'⟩, hF⟩, HB.out⟩
      · have e : o = putL fs f := by simpa using HD.out
        have hr := HR.out
        rw [e] at hr
        obtain ⟨a', cap', rfl, hF, _⟩ := hr.reads
        have HF := Lib.hid hF
        clear hF hr HR HV
        go_wp2
        go_ret
        first | exact ⟨⟨a', cap', rfl, HF.out⟩, HB.out⟩ | exact ⟨⟨a', ⟨cap', rfl⟩, HF.out⟩, HB.out⟩

set_option maxRecDepth 100000 in
set_option maxHeartbeats 4000000 in
theorem specSheetPut_any (a : Option Addr) (cap : Nat) (fs : List Ft) (f : Ft) (pa ta : Option Addr) (pc tc : Nat) (w : World) (hp : FeatsAt w a fs) (hl : fs.length ≤ 1048576) (ht : FeatsLen fs 1048576) (hpp : PtsAt w pa f.2.2.1) (htt : TagsAt w ta f.2.2.2) (hfl : FtLen f 1048576) :
    Calls Tryz.prog 24 #[.slice a fs.length cap, .agg #[.string f.1, .int .i64 f.2.1, .slice pa f.2.2.1.length pc, .slice ta f.2.2.2.length tc]] w fun e w' => (∃ v, e = .returned (.tuple #[v, .bool (putHas fs f)]) ∧ GotL w.heap.size w'.heap.size w' v (putRL fs f)) ∧ Below w.heap.size w w' := by
  have HP := Lib.hid hp
  have HL := Lib.hid ht
  have PP := Lib.hid hpp
  have TT := Lib.hid htt
  have FL := Lib.hid hfl
  obtain ⟨x1, x2, x3, x4⟩ := hfl
  have X4 := Lib.hid x4
  clear hp ht hpp htt x4
  have A0 : Hid (∀ o, Below w.heap.size w (w.alloc o)) := fun o => (Below.refl _ _).alloc (Nat.le_refl _) _
  go_enter Tryz.func24, Tryz.ntmps24
  go_wp2_with fail
  refine (l3Put_any _ _ _ f _ _ _ _ _ (HP.out.below (A0.out _)) hl (PP.out.below (A0.out _)) (TT.out.below (A0.out _))).mono ?_
  rintro e w1 ⟨⟨a1, cap1, rfl, hF⟩, hb1⟩
  have C1 := Lib.hid ((Box4.new w (.string f.1) (.int .i64 f.2.1) (.slice pa f.2.2.1.length pc) (.slice ta f.2.2.2.length tc) 33).later hb1)
  have B1 : Hid (Below w.heap.size w w1) := (A0.out _).trans (hb1.mono (by simp))
  have HF := Lib.hid hF
  have hpl := putL_len f fs
  clear hb1 hF
  go_wp2_with fail
  refine (specSheetOk_any _ _ _ _ (HP.out.below B1.out) hl HL.out).mono ?_
  rintro e w2 ⟨rfl, hb2⟩
  replace C1 := Lib.hid (C1.out.later hb2)
  have B2 : Hid (Below w.heap.size w w2) := B1.out.trans (hb2.mono B1.out.size)
  replace HF := Lib.hid (HF.out.below hb2)
  clear hb2 B1
  by_cases hok : sheetOk fs = true
  · rw [hok]
    obtain ⟨c0, c1, c2, c3⟩ := C1.out
    go_wp2_with fail
    clear c0 c1 c2 c3
    refine (specFeatOk_any _ _ _ _ _ _ _ _ _ (PP.out.below B2.out) (TT.out.below B2.out) (by omega) (by omega) (by omega) X4.out).mono ?_
    rintro e w3 ⟨rfl, hb3⟩
    have B3 : Hid (Below w.heap.size w w3) := B2.out.trans (hb3.mono B2.out.size)
    replace HF := Lib.hid (HF.out.below hb3)
    clear hb3 C1
    by_cases hfo : featOk f.1 f.2.1 f.2.2.1 f.2.2.2 = true
    · rw [hfo]
      by_cases hle : (putL fs f).length ≤ 8
      · have HH : Hid (putHas fs f = true) := by show _ = _; simp [putHas, ftOk1, hok, hfo, hle]
        have HG : Hid (putRL fs f = putL fs f) := by show _ = _; unfold putRL; rw [HH.out, if_pos rfl]
        have hnn : ¬ (8 : Int) < ((putL fs f).length : Int) := by omega
        have HQ : Hid (∀ i, i < (putL fs f).length → 0 < (fps (putL fs f) i).length) := fun i hi => by
          have hm : (putL fs f)[i] ∈ putL fs f := List.getElem_mem hi
          have := putL_pos (fs := fs) (t := f) (fun g hg => by
            obtain ⟨j, hj, e⟩ := List.getElem_of_mem hg
            have := ftOk_pts (good_ok hok hj)
            unfold fps at this
            rwa [fg_get hj, e] at this) (ftOk_pts (fs := [f]) (i := 0) hfo) _ hm
          unfold fps
          rwa [fg_get hi]
        clear hok hfo
        go_wp2_with fail
        refine (l3Copy_any _ _ _ _ HF.out (by omega) (putL_lens HL.out FL.out) HQ.out).mono ?_
        rintro e w4 ⟨⟨v, rfl, hg⟩, hb4⟩
        have B4 : Hid (Below w.heap.size w w4) := B3.out.trans (hb4.mono B3.out.size)
        have GG : Hid (GotL w.heap.size w4.heap.size w4 v (putL fs f)) := hg.mono B3.out.size (Nat.le_refl _)
        clear hb4 hg
        go_wp2
        go_ret2
        rw [HH.out, HG.out]
        exact ⟨⟨v, rfl, GG.out⟩, B4.out⟩
      · have HH : Hid (putHas fs f = false) := by show _ = _; simp [putHas, hle]
        have HG : Hid (putRL fs f = []) := by show _ = _; unfold putRL; rw [HH.out]; rfl
        have hnn : (8 : Int) < ((putL fs f).length : Int) := by omega
        clear hok hfo
        go_wp2
        go_ret2
        rw [HH.out, HG.out]
        exact ⟨⟨_, rfl, gotL_nil _ _ _ _ _⟩, B3.out.alloc B3.out.size _⟩
    · have hfo' : featOk f.1 f.2.1 f.2.2.1 f.2.2.2 = false := by simpa using hfo
      have HH : Hid (putHas fs f = false) := by show _ = _; simp [putHas, ftOk1, hfo']
      have HG : Hid (putRL fs f = []) := by show _ = _; unfold putRL; rw [HH.out]; rfl
      rw [hfo']
      clear hok hfo hfo'
      go_wp2
      go_ret2
      rw [HH.out, HG.out]
      exact ⟨⟨_, rfl, gotL_nil _ _ _ _ _⟩, B3.out.alloc B3.out.size _⟩
  · have hok' : sheetOk fs = false := by simpa using hok
    have HH : Hid (putHas fs f = false) := by show _ = _; simp [putHas, hok']
    have HG : Hid (putRL fs f = []) := by show _ = _; unfold putRL; rw [HH.out]; rfl
    rw [hok']
    clear hok hok'
    go_wp2
    go_ret2
    rw [HH.out, HG.out]
    exact ⟨⟨_, rfl, gotL_nil _ _ _ _ _⟩, B2.out.alloc B2.out.size _⟩
end Go.Proofs.YtdfadpejddhbkaaGreat

namespace Go.Proofs.YtdfadpejddhbkaaGreat
set_option linter.unusedVariables false
open Go.ChangeShapes Go.WideShapes Go.ChangeAt Go.RowKit

set_option maxRecDepth 100000 in
set_option maxHeartbeats 2000000 in
theorem equalFunc_any (a a' : Option Addr) (cap cap' : Nat) (fs gs : List Ft) (w : World) (hp : FeatsAt w a fs) (hq : FeatsAt w a' gs) (hl : fs.length ≤ 1048576) (hl' : gs.length ≤ 1048576) (hs : FeatsLen fs 1048576) (hs' : FeatsLen gs 1048576) :
    Calls Tryz.prog 64 #[.slice a fs.length cap, .slice a' gs.length cap', .func (Fn.func 20) #[] #[]] w fun e w' => e = .returned (.bool (fsEq fs gs)) ∧ Below w.heap.size w w' := by
  have HP := Lib.hid hp
  have HQ := Lib.hid hq
  have HS := Lib.hid hs
  have HS' := Lib.hid hs'
  clear hp hq hs hs'
  by_cases he : fs.length = gs.length
  · have HE := Lib.hid he
    rw [← he]
    have h1 : ((fs.length : Int) != (fs.length : Int)) = false := by simp
    clear he
    go_enter Tryz.func64, Tryz.ntmps64
    go_wp2
    go_loopw [7, 8, 9, 17] (fun _ _ _ i wr => ∃ k : Nat, k ≤ fs.length ∧ i = .int .i64 k ∧ Below w.heap.size w wr ∧ ∀ j, j < k → fg fs j = fg gs j) (fun _ _ _ i _ => fs.length - (intOf i).toNat)
    case atStart => exact ⟨0, Nat.zero_le _, rfl, Below.refl _ _, fun j h => absurd h (Nat.not_lt_zero _)⟩
    case round =>
      obtain ⟨k, hk, rfl, hbel, hall⟩ := hrel
      have HA := Lib.hid hall
      have HB := Lib.hid hbel
      have hsz := hbel.size
      clear hall
      by_cases hlt : k < fs.length
      · obtain ⟨b, off, pa, pc, ta, tc, rfl, hb, hc1, hc2, hc3, hc4, hpp, htt⟩ := HP.out k hlt
        obtain ⟨b', off', pa', pc', ta', tc', rfl, hb', hd1, hd2, hd3, hd4, hpp', htt'⟩ := HQ.out k (by have := HE.out; omega)
        obtain ⟨l1, l2, l3, _⟩ := HS.out k hlt
        obtain ⟨m1, m2, m3, _⟩ := HS'.out k (by have := HE.out; omega)
        rw [← hbel.cell (p := ⟨b, _, none⟩) hb] at hc1 hc2 hc3 hc4
        rw [← hbel.cell (p := ⟨b', _, none⟩) hb'] at hd1 hd2 hd3 hd4
        have zb : b < wr.heap.size := by omega
        have zb' : b' < wr.heap.size := by omega
        have D1 := Lib.hid (hpp.below hbel)
        have D2 := Lib.hid (htt.below hbel)
        have D3 := Lib.hid (hpp'.below hbel)
        have D4 := Lib.hid (htt'.below hbel)
        clear hbel hpp htt hpp' htt'
        have hfe := featEq_fg fs gs k k
        have A0 : Hid (∀ o o', Below wr.heap.size wr ((wr.alloc o).alloc o')) := fun o o' => ((Below.refl _ _).alloc (Nat.le_refl _) _).alloc (by simp) _
        go_wp2_with fail
        clear hc1 hc2 hc3 hc4 hd1 hd2 hd3 hd4
        refine (implFeatSame_any _ _ _ _ _ _ _ _ _ _ _ _ _ _ _ _ _ (D1.out.below (A0.out _ _)) (D3.out.below (A0.out _ _)) (D2.out.below (A0.out _ _)) (D4.out.below (A0.out _ _)) (by omega) (by omega) (by omega) (by omega)).mono ?_
        rintro e w1 ⟨rfl, hb2⟩
        have B2 : Hid (Below w.heap.size w w1) := HB.out.trans (((A0.out _ _).trans (hb2.mono (by simp; omega))).mono hsz)
        clear hb2 A0
        by_cases hs : fg fs k = fg gs k
        · rw [hfe, decide_eq_true hs]
          have HG := Lib.hid hs
          clear hs hfe
          go_wp2
          go_roundw
          case rel => exact ⟨k + 1, by omega, by go_num, B2.out, fun j hj => by by_cases e : j = k; (subst e; exact HG.out); exact HA.out j (by omega)⟩
          case measure => simp [intOf]; omega
        · rw [hfe, decide_eq_false hs]
          have HG := Lib.hid (fsEq_ne hs)
          clear hs hfe
          go_wp2
          go_ret
          exact ⟨by rw [HG.out]; rfl, B2.out⟩
      · obtain rfl : k = fs.length := by omega
        have HT := Lib.hid (fsEq_of HE.out HA.out)
        clear hbel
        go_wp2
        go_ret
        exact ⟨by rw [HT.out]; rfl, HB.out⟩
  · have h1 : ((fs.length : Int) != (gs.length : Int)) = true := by simp; omega
    have HT := Lib.hid (fsEq_len he)
    clear he
    go_enter Tryz.func64, Tryz.ntmps64
    go_wp2
    go_ret
    exact ⟨by rw [HT.out]; rfl, Below.refl _ _⟩

set_option maxRecDepth 100000 in
set_option maxHeartbeats 2000000 in
theorem implSheetSame_any (a a' : Option Addr) (cap cap' : Nat) (fs gs : List Ft) (w : World) (hp : FeatsAt w a fs) (hq : FeatsAt w a' gs) (hl : fs.length ≤ 1048576) (hl' : gs.length ≤ 1048576) (hs : FeatsLen fs 1048576) (hs' : FeatsLen gs 1048576) :
    Calls Tryz.prog 19 #[.slice a fs.length cap, .slice a' gs.length cap'] w fun e w' => e = .returned (.bool (fsEq fs gs)) ∧ Below w.heap.size w w' := by
  have HP := Lib.hid hp
  have HQ := Lib.hid hq
  have HS := Lib.hid hs
  have HS' := Lib.hid hs'
  clear hp hq hs hs'
  go_enter Tryz.func19, Tryz.ntmps19
  go_wp2_with fail
  refine (equalFunc_any _ _ _ _ _ _ _ HP.out HQ.out hl hl' HS.out HS'.out).mono ?_
  rintro e w1 ⟨rfl, hb1⟩
  have B1 := Lib.hid hb1
  clear hb1
  go_wp2
  go_ret
  exact ⟨rfl, B1.out⟩

end Go.Proofs.YtdfadpejddhbkaaGreat
