/- Proved here: the model's list without a name, and its copy of a list, read as they should; lists of at most 1,048,576 things, points and tags. Proved here: the model's map without a name holds copies of the other things; lists of at most 1,048,576 things, points and tags, texts of at most 1,048,576 bytes. Proved here: a list that a function made in memory of its own is read, marked, and asked for its marks; lists of at most 1,048,576 things, points and tags. Proved here: the law FnExactSheetCut answers true at every list of things and every name, and leaves them as they were; no condition. -/
import Derived.Test.YtjphlpjippojiaaGreatWSheetCutI
import Derived.Deep.RegionHeld3
import Derived.Deep.DeepCutAuto
import Derived.Test.YtjphlpjippojiaaGreatWSheetArg
import Derived.Test.YtjphlpjippojiaaGreatLSheetGet
import Derived.BigQuiet
namespace Go.Proofs.YtjphlpjippojiaaGreat
set_option linter.unusedVariables false
open Go.ChangeShapes Go.WideShapes Go.ChangeAt Go.RowKit Go.Deep

/-- a list in a row of its own, its parts in blocks of a kind -/
structure Row (w : World) (R : Nat → Prop) (lo : Nat) (v : Value) (k : Nat) (fs : List Ft) (ad : Nat → Pl) : Prop where
  row : w.ownsRow lo 29 4 v k (flatF fs ad k)
  pts : ∀ i, i < k → PtsAt w (ad i).1.1 (fps fs i)
  tags : ∀ i, i < k → TagsAt w (ad i).2.1 (fts fs i)
  prng : ∀ i, i < k → (fps fs i).length = 0 ∨ ∀ x, blk (ad i).1.1 = some x → R x ∧ x < w.heap.size ∧ v.ownBlock ≠ some x
  trng : ∀ i, i < k → (fts fs i).length = 0 ∨ ∀ x, blk (ad i).2.1 = some x → R x ∧ x < w.heap.size ∧ v.ownBlock ≠ some x

theorem PtsAt.turned0 {w w' : World} {a : Option Addr} {ps : List (Int × Int)} {S : Nat → Prop} (h : PtsAt w a ps) (ht : Turned w w' S) (hn : ps.length = 0 ∨ ∀ x, blk a = some x → ¬ S x) : PtsAt w' a ps := by
  rcases hn with h0 | hn
  · exact fun i hi => absurd hi (by omega)
  · exact h.turned ht hn
theorem TagsAt.turned0 {w w' : World} {a : Option Addr} {ts : List Tg} {S : Nat → Prop} (h : TagsAt w a ts) (ht : Turned w w' S) (hn : ts.length = 0 ∨ ∀ x, blk a = some x → ¬ S x) : TagsAt w' a ts := by
  rcases hn with h0 | hn
  · exact fun i hi => absurd hi (by omega)
  · exact h.turned ht hn

theorem Row.below {w w' : World} {R : Nat → Prop} {lo : Nat} {v : Value} {k : Nat} {fs : List Ft} {ad : Nat → Pl} (h : Row w R lo v k fs ad) (hb : Below w.heap.size w w') : Row w' R lo v k fs ad :=
  ⟨ownsRow_below h.row hb, fun i hi => (h.pts i hi).below hb, fun i hi => (h.tags i hi).below hb, fun i hi => (h.prng i hi).imp (fun h => h) fun q x hx => ⟨(q x hx).1, Nat.lt_of_lt_of_le (q x hx).2.1 hb.size, (q x hx).2.2⟩, fun i hi => (h.trng i hi).imp (fun h => h) fun q x hx => ⟨(q x hx).1, Nat.lt_of_lt_of_le (q x hx).2.1 hb.size, (q x hx).2.2⟩⟩

theorem Row.step {wr w3 wb wa : World} {R : Nat → Prop} {lo : Nat} {v : Value} {k : Nat} {fs : List Ft} {ad : Nat → Pl} {p : Pl} {gg cap' : Nat} (h : Row wr R lo v k fs ad) (hb : Below wr.heap.size wr w3) (h3 : Below w3.heap.size w3 wb) (hz : wb.heap.size = w3.heap.size + 1)
    (hp : PtsAt w3 p.1.1 (fps fs k)) (hpf : (fps fs k).length = 0 ∨ ∀ x, blk p.1.1 = some x → R x ∧ x < w3.heap.size ∧ v.ownBlock ≠ some x) (ht : TagsAt w3 p.2.1 (fts fs k)) (htf : (fts fs k).length = 0 ∨ ∀ x, blk p.2.1 = some x → R x ∧ x < w3.heap.size ∧ v.ownBlock ≠ some x)
    (hrow : wa.ownsRow lo 29 4 (.slice (some ⟨gg, 0, none⟩) (k + 1) cap') (k + 1) (flatF fs ad k ++ cellsF (fg fs k) p)) (hg : wb.grownBy wa v.ownBlock) (hat : v.ownBlock = some gg ∨ gg = w3.heap.size + 1) :
    Row wa R lo (.slice (some ⟨gg, 0, none⟩) (k + 1) cap') (k + 1) fs (plSet ad k p) := by
  have hbb : Below wr.heap.size wr wb := hb.trans (h3.mono hb.size)
  have hB := h.below hbb
  have ht' : Turned wb wa (fun x => v.ownBlock = some x) := Turned.of_grown hg fun x hx => hx
  have hwz := hg.size
  have hs3 := hb.size
  have gne : ∀ x, x < w3.heap.size → v.ownBlock ≠ some x → (Value.slice (some ⟨gg, 0, none⟩) (k + 1) cap').ownBlock ≠ some x := fun x hx hn e => by
    obtain rfl : gg = x := by simpa [Value.ownBlock] using e
    rcases hat with h1 | h1
    · exact hn h1
    · omega
  refine ⟨?_, fun i hi => ?_, fun i hi => ?_, fun i hi => ?_, fun i hi => ?_⟩
  · rw [flatF_succ, flatF_set _ _ _ _ _ (Nat.le_refl _), plSet_at]
    exact hrow
  · by_cases e : i = k
    · subst e
      rw [plSet_at]
      exact (hp.below h3).turned0 ht' (hpf.imp (fun h => h) fun q x hx => (q x hx).2.2)
    · rw [plSet_lt (by omega)]
      exact (hB.pts i (by omega)).turned0 ht' ((h.prng i (by omega)).imp (fun h => h) fun q x hx => (q x hx).2.2)
  · by_cases e : i = k
    · subst e
      rw [plSet_at]
      exact (ht.below h3).turned0 ht' (htf.imp (fun h => h) fun q x hx => (q x hx).2.2)
    · rw [plSet_lt (by omega)]
      exact (hB.tags i (by omega)).turned0 ht' ((h.trng i (by omega)).imp (fun h => h) fun q x hx => (q x hx).2.2)
  · by_cases e : i = k
    · subst e
      rw [plSet_at]
      exact hpf.imp (fun h => h) fun q x hx => ⟨(q x hx).1, by have := (q x hx).2.1; omega, gne x (q x hx).2.1 (q x hx).2.2⟩
    · rw [plSet_lt (by omega)]
      exact (h.prng i (by omega)).imp (fun h => h) fun q x hx => ⟨(q x hx).1, by have := (q x hx).2.1; omega, gne x (by have := (q x hx).2.1; omega) (q x hx).2.2⟩
  · by_cases e : i = k
    · subst e
      rw [plSet_at]
      exact htf.imp (fun h => h) fun q x hx => ⟨(q x hx).1, by have := (q x hx).2.1; omega, gne x (q x hx).2.1 (q x hx).2.2⟩
    · rw [plSet_lt (by omega)]
      exact (h.trng i (by omega)).imp (fun h => h) fun q x hx => ⟨(q x hx).1, by have := (q x hx).2.1; omega, gne x (by have := (q x hx).2.1; omega) (q x hx).2.2⟩

/-- a list whose memory lies between these blocks -/
def GotL (lo hi : Nat) (w : World) (v : Value) (fs : List Ft) : Prop :=
  ∃ a cap, v = .slice a fs.length cap ∧ FeatsAt w a fs ∧ ∀ i, i < fs.length → ∃ b off pa pc ta tc, a = some ⟨b, off, none⟩ ∧ lo ≤ b ∧ b < hi ∧
    w.cell? ⟨b, off + i * 4 + 2, none⟩ = some (.slice pa (fps fs i).length pc) ∧ w.cell? ⟨b, off + i * 4 + 3, none⟩ = some (.slice ta (fts fs i).length tc) ∧
    ((fps fs i).length = 0 ∨ ∀ x, blk pa = some x → lo ≤ x ∧ x < hi) ∧ ((fts fs i).length = 0 ∨ ∀ x, blk ta = some x → lo ≤ x ∧ x < hi)

theorem GotL.turned {lo hi : Nat} {w w' : World} {v : Value} {fs : List Ft} {S : Nat → Prop} (h : GotL lo hi w v fs) (ht : Turned w w' S) (hS : ∀ x, lo ≤ x → x < hi → ¬ S x) : GotL lo hi w' v fs := by
  obtain ⟨a, cap, rfl, hF, hR⟩ := h
  refine ⟨a, cap, rfl, fun i hi => ?_, fun i hi => ?_⟩
  · obtain ⟨b, off, pa, pc, ta, tc, rfl, hb1, hb2, h3, h4, h5, h6⟩ := hR i hi
    obtain ⟨b', off', pa', pc', ta', tc', e, hlt, g1, g2, g3, g4, g5, g6⟩ := hF i hi
    obtain ⟨rfl, rfl⟩ : b = b' ∧ off = off' := by simpa using e
    rw [h3] at g3
    rw [h4] at g4
    obtain ⟨rfl, rfl⟩ : pa = pa' ∧ pc = pc' := by simpa using g3
    obtain ⟨rfl, rfl⟩ : ta = ta' ∧ tc = tc' := by simpa using g4
    have nb : ¬ S b := hS b hb1 hb2
    exact ⟨b, off, pa, pc, ta, tc, rfl, Nat.lt_of_lt_of_le hlt ht.size, ht.cell g1 nb, ht.cell g2 nb, ht.cell h3 nb, ht.cell h4 nb, g5.turned0 ht (h5.imp (fun h => h) fun q x hx => hS x (q x hx).1 (q x hx).2), g6.turned0 ht (h6.imp (fun h => h) fun q x hx => hS x (q x hx).1 (q x hx).2)⟩
  · obtain ⟨b, off, pa, pc, ta, tc, rfl, hb1, hb2, h3, h4, h5, h6⟩ := hR i hi
    have nb : ¬ S b := hS b hb1 hb2
    exact ⟨b, off, pa, pc, ta, tc, rfl, hb1, hb2, ht.cell h3 nb, ht.cell h4 nb, h5, h6⟩

theorem GotL.below {lo hi : Nat} {w w' : World} {v : Value} {fs : List Ft} (h : GotL lo hi w v fs) (hb : Below w.heap.size w w') : GotL lo hi w' v fs := h.turned (S := fun _ => False) (Turned.of_below hb) fun _ _ _ h => h
theorem GotL.mono {lo hi lo' hi' : Nat} {w : World} {v : Value} {fs : List Ft} (h : GotL lo hi w v fs) (h1 : lo' ≤ lo) (h2 : hi ≤ hi') : GotL lo' hi' w v fs := by
  obtain ⟨a, cap, rfl, hF, hR⟩ := h
  refine ⟨a, cap, rfl, hF, fun i hi => ?_⟩
  obtain ⟨b, off, pa, pc, ta, tc, rfl, hb1, hb2, h3, h4, h5, h6⟩ := hR i hi
  exact ⟨b, off, pa, pc, ta, tc, rfl, by omega, by omega, h3, h4, h5.imp (fun h => h) fun q x hx => ⟨by have := (q x hx).1; omega, by have := (q x hx).2; omega⟩, h6.imp (fun h => h) fun q x hx => ⟨by have := (q x hx).1; omega, by have := (q x hx).2; omega⟩⟩
theorem gotL_nil (lo hi : Nat) (w : World) (a : Option Addr) (cap : Nat) : GotL lo hi w (.slice a 0 cap) [] := ⟨a, cap, rfl, FeatsAt.nil _ _, fun _ h => absurd h (Nat.not_lt_zero _)⟩

/-- a row of its own reads as its things -/
theorem Row.reads {w : World} {R : Nat → Prop} {lo : Nat} {v : Value} {fs : List Ft} {ad : Nat → Pl} (h : Row w R lo v fs.length fs ad) : ∃ a cap, v = .slice a fs.length cap ∧ FeatsAt w a fs ∧ ∀ i, i < fs.length → ∃ b off, a = some ⟨b, off, none⟩ ∧ lo ≤ b ∧ b < w.heap.size ∧
    w.cell? ⟨b, off + i * 4 + 2, none⟩ = some (.slice (ad i).1.1 (fps fs i).length (ad i).1.2) ∧ w.cell? ⟨b, off + i * 4 + 3, none⟩ = some (.slice (ad i).2.1 (fts fs i).length (ad i).2.2) := by
  obtain ⟨h1, ⟨h2, h3⟩ | ⟨b, cap, cur, rfl, hb, hg, hc, hm, hs, hx⟩⟩ := h.row
  · have e : fs = [] := List.eq_nil_of_length_eq_zero (by omega)
    subst e
    exact ⟨none, 0, h2, FeatsAt.nil _ _, fun _ h => absurd h (Nat.not_lt_zero _)⟩
  · have hlt : b < w.heap.size := (Array.getElem?_eq_some_iff.1 hg).1
    have cell : ∀ j v, j < fs.length * 4 → (flatF fs ad fs.length)[j]? = some v → w.cell? ⟨b, 0 + j, none⟩ = some v := by
      intro j v hj hv
      rw [← hx, List.getElem?_take, if_pos hj] at hv
      simp only [World.cell?, hg, Option.isSome_none, Bool.false_eq_true, if_false, Nat.zero_add]
      simpa using hv
    refine ⟨some ⟨b, 0, none⟩, cap, rfl, fun i hi => ?_, fun i hi => ?_⟩
    · have f := fun o ho => flatF_at fs ad fs.length i o hi ho
      exact ⟨b, 0, _, _, _, _, rfl, hlt, cell _ _ (by omega) (f 0 (by omega)), cell _ _ (by omega) (f 1 (by omega)), cell _ _ (by omega) (f 2 (by omega)), cell _ _ (by omega) (f 3 (by omega)), h.pts i hi, h.tags i hi⟩
    · have f := fun o ho => flatF_at fs ad fs.length i o hi ho
      exact ⟨b, 0, rfl, hb, hlt, cell _ _ (by omega) (f 2 (by omega)), cell _ _ (by omega) (f 3 (by omega))⟩

theorem Row.got {w : World} {lo : Nat} {v : Value} {fs : List Ft} {ad : Nat → Pl} (h : Row w (fun x => lo ≤ x) lo v fs.length fs ad) : GotL lo w.heap.size w v fs := by
  obtain ⟨a, cap, rfl, hF, hR⟩ := h.reads
  refine ⟨a, cap, rfl, hF, fun i hi => ?_⟩
  obtain ⟨b, off, rfl, h1, h2, h3, h4⟩ := hR i hi
  exact ⟨b, off, _, _, _, _, rfl, h1, h2, h3, h4, (h.prng i hi).imp (fun h => h) fun q x hx => ⟨(q x hx).1, (q x hx).2.1⟩, (h.trng i hi).imp (fun h => h) fun q x hx => ⟨(q x hx).1, (q x hx).2.1⟩⟩

/-- how many of the first things stay -/
def cutN (fs : List Ft) (id : ByteArray) (j : Nat) : Nat := (cutL (fs.take j) id).length

theorem cutL_append (xs ys : List Ft) (id : ByteArray) : cutL (xs ++ ys) id = cutL xs id ++ cutL ys id := List.filter_append _ _
theorem cut_split {fs : List Ft} {j : Nat} (h : j < fs.length) : fs = fs.take j ++ fg fs j :: fs.drop (j + 1) := by
  rw [fg_get h, ← List.drop_eq_getElem_cons h, List.take_append_drop]
theorem cutN_yes {fs : List Ft} {id : ByteArray} {j : Nat} (h : j < fs.length) (hne : fid fs j ≠ id) : cutN fs id (j + 1) = cutN fs id j + 1 ∧ fg (cutL fs id) (cutN fs id j) = fg fs j ∧ cutN fs id j < (cutL fs id).length := by
  have e1 : cutL [fg fs j] id = [fg fs j] := by
    unfold cutL
    rw [List.filter_cons_of_pos (by simpa [fid] using hne)]
    rfl
  have e2 : cutL fs id = cutL (fs.take j) id ++ fg fs j :: cutL (fs.drop (j + 1)) id := by
    conv => lhs; rw [cut_split h]
    rw [cutL_append, show fg fs j :: fs.drop (j + 1) = [fg fs j] ++ fs.drop (j + 1) from rfl, cutL_append, e1]
    rfl
  refine ⟨?_, ?_, ?_⟩
  · unfold cutN
    rw [List.take_succ_eq_append_getElem h, ← fg_get h, cutL_append, e1]
    simp
  · rw [e2]
    unfold cutN fg
    simp
  · rw [e2]
    unfold cutN
    simp
theorem cutN_no {fs : List Ft} {id : ByteArray} {j : Nat} (h : j < fs.length) (he : fid fs j = id) : cutN fs id (j + 1) = cutN fs id j := by
  have e1 : cutL [fg fs j] id = [] := by
    unfold cutL
    rw [List.filter_cons_of_neg (by simpa [fid] using he)]
    rfl
  unfold cutN
  rw [List.take_succ_eq_append_getElem h, ← fg_get h, cutL_append, e1]
  simp
theorem cutN_all (fs : List Ft) (id : ByteArray) : cutN fs id fs.length = (cutL fs id).length := by unfold cutN; rw [List.take_length]
end Go.Proofs.YtjphlpjippojiaaGreat

namespace Go.Proofs.YtjphlpjippojiaaGreat
set_option linter.unusedVariables false
open Go.ChangeShapes Go.WideShapes Go.ChangeAt Go.RowKit Go.Deep

set_option maxRecDepth 100000 in
set_option maxHeartbeats 4000000 in
theorem l3Cut_any (a : Option Addr) (cap : Nat) (fs : List Ft) (id : ByteArray) (w : World) (hp : FeatsAt w a fs) (hl : fs.length ≤ 1048576) :
    Calls Tryz.prog 46 #[.slice a fs.length cap, .string id] w fun e w' => (∃ a' cap', e = .returned (.slice a' (cutL fs id).length cap') ∧ FeatsAt w' a' (cutL fs id)) ∧ Below w.heap.size w w' := by
  obtain ⟨i0, hi, hz0, hz1, hz2⟩ := info_parts infoF
  have HI := Lib.hid hi
  have HZ0 := Lib.hid hz0
  have HZ1 := Lib.hid hz1
  have HZ2 := Lib.hid hz2
  have HP := Lib.hid hp
  clear hi hz0 hz1 hz2 hp
  go_enter Tryz.func46, Tryz.ntmps46
  go_wp2
  go_loopw [5, 6] (fun s i wr => ∃ (j : Nat) (v : Value) (ad : Nat → Pl), j ≤ fs.length ∧ i = .int .i64 j ∧ v = s ∧ Row wr (fun x => x < w.heap.size) w.heap.size v (cutN fs id j) (cutL fs id) ad ∧ Below w.heap.size w wr) (fun _ i _ => fs.length - (intOf i).toNat)
  case atStart => exact ⟨0, _, fun _ => ((none, 0), (none, 0)), Nat.zero_le _, rfl, rfl, ⟨World.ownsRow_made w #[] 0 (Nat.le_refl _) (by unfold maxLen; omega) rfl, fun _ h => absurd h (Nat.not_lt_zero _), fun _ h => absurd h (Nat.not_lt_zero _), fun _ h => absurd h (Nat.not_lt_zero _), fun _ h => absurd h (Nat.not_lt_zero _)⟩, (Below.refl _ _).alloc (Nat.le_refl _) _⟩
  case round =>
    obtain ⟨j, v, ad, hj, rfl, rfl, hro, hbel⟩ := hrel
    have hsz := hbel.size
    have HR := Lib.hid hro
    have HB := Lib.hid hbel
    by_cases hlt : j < fs.length
    · obtain ⟨b, off, pa, pc, ta, tc, rfl, hb, hc1, hc2, hc3, hc4, hpp, htt⟩ := HP.out j hlt
      rw [← hbel.cell (p := ⟨b, _, none⟩) hb] at hc1 hc2 hc3 hc4
      have zb : b < wr.heap.size := by omega
      have hbq := bytes_beq (fid fs j) id
      have PL : Hid ((fps fs j).length = 0 ∨ ∀ x, blk pa = some x → x < w.heap.size) := by
        by_cases h : (fps fs j).length = 0
        · exact .inl h
        · obtain ⟨b', o', rfl, h1, _⟩ := hpp 0 (by omega)
          exact .inr fun x hx => by obtain rfl : b' = x := (by simpa [blk] using hx); exact h1
      have TL : Hid ((fts fs j).length = 0 ∨ ∀ x, blk ta = some x → x < w.heap.size) := by
        by_cases h : (fts fs j).length = 0
        · exact .inl h
        · obtain ⟨b', o', rfl, h1, _⟩ := htt 0 (by omega)
          exact .inr fun x hx => by obtain rfl : b' = x := (by simpa [blk] using hx); exact h1
      have D1 := Lib.hid (hpp.below hbel)
      have D2 := Lib.hid (htt.below hbel)
      have HV : Hid (∀ x, v.ownBlock = some x → w.heap.size ≤ x) := fun x hx => (hro.row.lt x hx).1
      clear hro hbel hpp htt
      by_cases hs : fid fs j = id
      · rw [decide_eq_true hs] at hbq
        have HN := Lib.hid (cutN_no hlt hs)
        clear hs
        go_wp2
        go_roundw
        case rel => exact ⟨j + 1, v, ad, by omega, by go_num, rfl, by rw [HN.out]; exact HR.out, HB.out⟩
        case measure => simp [intOf]; omega
      · rw [decide_eq_false hs] at hbq
        have HN := Lib.hid (cutN_yes hlt hs)
        have hkl : cutN fs id j < 1048576 := by have := HN.out.2.2; have := cutL_len fs id; omega
        clear hs
        have A3 : Hid (∀ o, Below wr.heap.size wr (wr.alloc o)) := fun o => (Below.refl _ _).alloc (Nat.le_refl _) _
        go_wp2_with (at_builtin; refine wpList_append_lies _ (by rfl) _ _ _ (by rfl) w.heap.size 29 i0 _ 4 72 Tryz.underlying32 HI.out HZ0.out HZ1.out HZ2.out rfl (by omega) v (cutN fs id j) (flatF (cutL fs id) ad (cutN fs id j)) (by rfl) (HR.out.row.alloc _) ⟨wr.heap.size, 0, none⟩ 1 1 (cellsF (fg fs j) ((pa, pc), (ta, tc))) (by rfl) (by rfl) (World.news_of_block (cs := #[.string (fid fs j), .int .i64 (fkd fs j), .slice pa (fps fs j).length pc, .slice ta (fts fs j).length tc]) (t := 29) (fr := (0, 0)) (heap_alloc_new wr _)) (by simp [Value.oneCell', cellsF]) (by omega) (by unfold maxLen; omega) (by omega) (by simp; omega) (wr.heap.size + 1) (by simp) ?_; intro gg cap' wa hown1 hgrow hat hlt')
        have eg : fg (cutL fs id) (cutN fs id j) = fg fs j := HN.out.2.1
        have ep : fps (cutL fs id) (cutN fs id j) = fps fs j := by unfold fps; rw [eg]
        have et : fts (cutL fs id) (cutN fs id j) = fts fs j := by unfold fts; rw [eg]
        have HS : Hid (Row wa (fun x => x < w.heap.size) w.heap.size (.slice (some ⟨gg, 0, none⟩) (cutN fs id j + 1) cap') (cutN fs id j + 1) (cutL fs id) (plSet ad (cutN fs id j) ((pa, pc), (ta, tc)))) := by
          refine HR.out.step (Below.refl _ _) (A3.out _) (by simp) (by rw [ep]; exact D1.out) ?_ (by rw [et]; exact D2.out) ?_ (by rw [eg]; exact hown1) hgrow hat
          · rw [ep]
            exact PL.out.imp (fun h => h) fun q x hx => ⟨q x hx, by have := q x hx; omega, fun e => by have h1 := HV.out x e; have h2 := q x hx; omega⟩
          · rw [et]
            exact TL.out.imp (fun h => h) fun q x hx => ⟨q x hx, by have := q x hx; omega, fun e => by have h1 := HV.out x e; have h2 := q x hx; omega⟩
        have HG := Lib.hid hgrow
        clear hown1 hgrow hat eg ep et
        go_roundw
        case rel => exact ⟨j + 1, _, _, by omega, by go_num, rfl, by rw [HN.out.1]; exact HS.out, (HB.out.alloc hsz _).grown HG.out (by simp; omega) (fun x hx => HV.out x hx)⟩
        case measure => simp [intOf]; omega
    · obtain rfl : j = fs.length := by omega
      have HR' : Hid (Row wr (fun x => x < w.heap.size) w.heap.size v (cutL fs id).length (cutL fs id) ad) := by rw [← cutN_all fs id]; exact HR.out
      obtain ⟨a', cap', rfl, hF, _⟩ := HR'.out.reads
      have HF := Lib.hid hF
      clear hro hbel hF
      go_wp2
      go_ret
      exact ⟨⟨a', cap', rfl, HF.out⟩, HB.out⟩

set_option maxRecDepth 100000 in
set_option maxHeartbeats 4000000 in
theorem l3Copy_any (a : Option Addr) (cap : Nat) (fs : List Ft) (w : World) (hp : FeatsAt w a fs) (hl : fs.length ≤ 1048576) (hL : FeatsLen fs 1048576) (hpos : ∀ i, i < fs.length → 0 < (fps fs i).length) :
    Calls Tryz.prog 40 #[.slice a fs.length cap] w fun e w' => (∃ v, e = .returned v ∧ GotL w.heap.size w'.heap.size w' v fs) ∧ Below w.heap.size w w' := by
  obtain ⟨i0, hi, hz0, hz1, hz2⟩ := info_parts infoF
  have HI := Lib.hid hi
  have HZ0 := Lib.hid hz0
  have HZ1 := Lib.hid hz1
  have HZ2 := Lib.hid hz2
  have HP := Lib.hid hp
  have HL := Lib.hid hL
  have HQ := Lib.hid hpos
  clear hi hz0 hz1 hz2 hp hL hpos
  go_enter Tryz.func40, Tryz.ntmps40
  go_wp2
  go_loopw [3, 4] (fun s i wr => ∃ (k : Nat) (v : Value) (ad : Nat → Pl), k ≤ fs.length ∧ i = .int .i64 k ∧ v = s ∧ Row wr (fun x => w.heap.size ≤ x) w.heap.size v k fs ad ∧ Below w.heap.size w wr) (fun _ i _ => fs.length - (intOf i).toNat)
  case atStart => exact ⟨0, _, fun _ => ((none, 0), (none, 0)), Nat.zero_le _, rfl, rfl, ⟨World.ownsRow_made w #[] 0 (Nat.le_refl _) (by unfold maxLen; omega) rfl, fun _ h => absurd h (Nat.not_lt_zero _), fun _ h => absurd h (Nat.not_lt_zero _), fun _ h => absurd h (Nat.not_lt_zero _), fun _ h => absurd h (Nat.not_lt_zero _)⟩, (Below.refl _ _).alloc (Nat.le_refl _) _⟩
  case round =>
    obtain ⟨k, v, ad, hk, rfl, rfl, hro, hbel⟩ := hrel
    have hsz := hbel.size
    have HR := Lib.hid hro
    have HB := Lib.hid hbel
    by_cases hlt : k < fs.length
    · obtain ⟨b, off, pa, pc, ta, tc, rfl, hb, hc1, hc2, hc3, hc4, hpp, htt⟩ := HP.out k hlt
      rw [← hbel.cell (p := ⟨b, _, none⟩) hb] at hc1 hc2 hc3 hc4
      obtain ⟨l1, l2, l3, _⟩ := HL.out k hlt
      have h0 := HQ.out k hlt
      have D1 := Lib.hid (hpp.below hbel)
      have D2 := Lib.hid (htt.below hbel)
      have HV : Hid (∀ x, v.ownBlock = some x → w.heap.size ≤ x ∧ x < wr.heap.size) := fun x hx => hro.row.lt x hx
      clear hro hbel hpp htt
      go_wp2_with fail
      refine (l2Copy_got _ _ _ _ _ _ _ _ _ D1.out D2.out (by omega) h0 (by omega)).mono ?_
      rintro e w3 ⟨⟨v3, rfl, hg3⟩, hb3⟩
      obtain ⟨qa, qc, sa, sc, rfl, q1, q2, q3, q4⟩ := hg3
      have E1 := Lib.hid q1
      have E2 := Lib.hid q2
      have E3 := Lib.hid q3
      have E4 := Lib.hid q4
      have B3 := Lib.hid hb3
      have R3 : Hid (w3.ownsRow w.heap.size 29 4 v k (flatF fs ad k)) := ownsRow_below HR.out.row hb3
      have hz3 := hb3.size
      have A3 : Hid (∀ o, Below w3.heap.size w3 (w3.alloc o)) := fun o => (Below.refl _ _).alloc (Nat.le_refl _) _
      clear hb3 q1 q2 q3 q4 hc1 hc2 hc3 hc4
      go_wp2_with (at_builtin; refine wpList_append_lies _ (by rfl) _ _ _ (by rfl) w.heap.size 29 i0 _ 4 72 Tryz.underlying32 HI.out HZ0.out HZ1.out HZ2.out rfl (by omega) v k (flatF fs ad k) (by rfl) (R3.out.alloc _) ⟨w3.heap.size, 0, none⟩ 1 1 (cellsF (fg fs k) ((qa, qc), (sa, sc))) (by rfl) (by rfl) (World.news_of_block (cs := #[.string (fid fs k), .int .i64 (fkd fs k), .slice qa (fps fs k).length qc, .slice sa (fts fs k).length sc]) (t := 29) (fr := (0, 0)) (heap_alloc_new w3 _)) (by simp [Value.oneCell', cellsF]) (by omega) (by unfold maxLen; omega) (by omega) (by simp; omega) (w3.heap.size + 1) (by simp) ?_; intro gg cap' wa hown1 hgrow hat hlt')
      have HS : Hid (Row wa (fun x => w.heap.size ≤ x) w.heap.size (.slice (some ⟨gg, 0, none⟩) (k + 1) cap') (k + 1) fs (plSet ad k ((qa, qc), (sa, sc)))) := by
        refine HR.out.step B3.out (A3.out _) (by simp) E1.out ?_ E2.out ?_ hown1 hgrow hat
        · exact E3.out.imp (fun h => h) fun q x hx => ⟨by have := (q x hx).1; omega, (q x hx).2, fun e => by have h1 := (HV.out x e).2; have h2 := (q x hx).1; omega⟩
        · exact E4.out.imp (fun h => h) fun q x hx => ⟨by have := (q x hx).1; omega, (q x hx).2, fun e => by have h1 := (HV.out x e).2; have h2 := (q x hx).1; omega⟩
      have HG := Lib.hid hgrow
      clear hown1 hgrow hat
      go_roundw
      case rel => exact ⟨k + 1, _, _, by omega, by go_num, rfl, HS.out, ((HB.out.trans (B3.out.mono hsz)).alloc (by omega) _).grown HG.out (by simp; omega) (fun x hx => (HV.out x hx).1)⟩
      case measure => simp [intOf]; omega
    · obtain rfl : k = fs.length := by omega
      have HG := Lib.hid HR.out.got
      clear hro hbel
      go_wp2
      go_ret
      exact ⟨⟨v, rfl, HG.out⟩, HB.out⟩

theorem cutL_pos {fs : List Ft} (id : ByteArray) (hok : sheetOk fs = true) : ∀ i, i < (cutL fs id).length → 0 < (fps (cutL fs id) i).length := by
  intro i hi
  have hm : (cutL fs id)[i] ∈ fs := (List.mem_filter.1 (List.getElem_mem hi)).1
  obtain ⟨j, hj, e⟩ := List.getElem_of_mem hm
  have := ftOk_pts (good_ok hok hj)
  unfold fps at this ⊢
  rwa [fg_get hi, ← e, ← fg_get hj]

set_option maxRecDepth 100000 in
set_option maxHeartbeats 4000000 in
theorem specSheetCut_any (a : Option Addr) (cap : Nat) (fs : List Ft) (id : ByteArray) (w : World) (hp : FeatsAt w a fs) (hl : fs.length ≤ 1048576) (ht : FeatsLen fs 1048576) :
    Calls Tryz.prog 20 #[.slice a fs.length cap, .string id] w fun e w' => (∃ v, e = .returned (.tuple #[v, .bool (getHas fs id)]) ∧ GotL w.heap.size w'.heap.size w' v (cutR fs id)) ∧ Below w.heap.size w w' := by
  have HP := Lib.hid hp
  have HL := Lib.hid ht
  clear hp ht
  go_enter Tryz.func20, Tryz.ntmps20
  go_wp2_with fail
  refine (specSheetOk_any _ _ _ _ HP.out hl HL.out).mono ?_
  rintro e w1 ⟨rfl, hb1⟩
  have B1 := Lib.hid hb1
  clear hb1
  by_cases hok : sheetOk fs = true
  · rw [hok]
    go_wp2_with fail
    refine (l3Find_any _ _ _ _ _ (HP.out.below B1.out) hl).mono ?_
    rintro e w2 ⟨rfl, rfl⟩
    by_cases hlt : firstF fs id < fs.length
    · have hfv : findV fs id = (firstF fs id : Int) := by unfold findV; rw [if_pos hlt]
      have HH : Hid (getHas fs id = true) := by show _ = _; simp [getHas, hok, hlt]
      have HG : Hid (cutR fs id = cutL fs id) := by show _ = _; unfold cutR; rw [HH.out, if_pos rfl]
      have HQ := Lib.hid (cutL_pos id hok)
      have hcl := cutL_len fs id
      rw [hfv]
      generalize firstF fs id = i at *
      clear hok
      go_wp2_with fail
      refine (l3Cut_any _ _ _ _ _ (HP.out.below B1.out) hl).mono ?_
      rintro e w2 ⟨⟨a2, cap2, rfl, hF⟩, hb2⟩
      have B2 : Hid (Below w.heap.size w w2) := B1.out.trans (hb2.mono B1.out.size)
      have HF := Lib.hid hF
      clear hb2 hF
      go_wp2_with fail
      refine (l3Copy_any _ _ _ _ HF.out (by omega) (cutL_lens id HL.out) HQ.out).mono ?_
      rintro e w3 ⟨⟨v, rfl, hg⟩, hb3⟩
      have B3 : Hid (Below w.heap.size w w3) := B2.out.trans (hb3.mono B2.out.size)
      have GG : Hid (GotL w.heap.size w3.heap.size w3 v (cutL fs id)) := hg.mono B2.out.size (Nat.le_refl _)
      clear hb3 hg
      go_wp2
      go_ret2
      rw [HH.out, HG.out]
      exact ⟨⟨v, rfl, GG.out⟩, B3.out⟩
    · have hfv : findV fs id = -1 := by unfold findV; rw [if_neg hlt]
      have HH : Hid (getHas fs id = false) := by show _ = _; simp [getHas, hlt]
      have HG : Hid (cutR fs id = []) := by show _ = _; unfold cutR; rw [HH.out]; rfl
      rw [hfv]
      clear hok
      go_wp2
      go_ret2
      rw [HH.out, HG.out]
      exact ⟨⟨_, rfl, gotL_nil _ _ _ _ _⟩, B1.out.alloc B1.out.size _⟩
  · have hok' : sheetOk fs = false := by simpa using hok
    have HH : Hid (getHas fs id = false) := by show _ = _; simp [getHas, hok']
    have HG : Hid (cutR fs id = []) := by show _ = _; unfold cutR; rw [HH.out]; rfl
    rw [hok']
    clear hok hok'
    go_wp2
    go_ret2
    rw [HH.out, HG.out]
    exact ⟨⟨_, rfl, gotL_nil _ _ _ _ _⟩, B1.out.alloc B1.out.size _⟩
end Go.Proofs.YtjphlpjippojiaaGreat

namespace Go.Proofs.YtjphlpjippojiaaGreat
set_option linter.unusedVariables false
open Go.ChangeShapes Go.WideShapes Go.ChangeAt Go.RowKit

theorem lmkTo_full {fs : List Ft} (k : Int) {i : Nat} (h : i < fs.length) : fid (lmkTo fs k fs.length) i = markT (lmk fs k i) ∧ fkd (lmkTo fs k fs.length) i = lmk fs k i + 1 ∧ fps (lmkTo fs k fs.length) i = marks (lmk fs k i + 2) (fps fs i).length ∧ fts (lmkTo fs k fs.length) i = marksT (lmk fs k i + 2 + 2 * ((fps fs i).length : Int)) (fts fs i).length := by
  unfold fid fkd
  have e : fg (lmkTo fs k fs.length) i = lmkF fs k i := by rw [lmkTo_at k _ h, if_pos h]
  have e3 : fps (lmkTo fs k fs.length) i = (lmkF fs k i).2.2.1 := by rw [← e]; rfl
  have e4 : fts (lmkTo fs k fs.length) i = (lmkF fs k i).2.2.2 := by rw [← e]; rfl
  rw [e, e3, e4]
  exact ⟨rfl, rfl, rfl, rfl⟩

/-- a list that lies in memory of its own between these blocks -/
def ListH (lo hi : Nat) (w : World) (a : Option Addr) (gs : List Ft) : Prop :=
  gs = [] ∨ ∃ b ad, a = some ⟨b, 0, none⟩ ∧ Lies w b 0 gs ad ∧ Sep b gs.length ad ∧ ∀ x, blocksOf b gs.length ad x → lo ≤ x ∧ x < hi

theorem Built.listH {w : World} {lo : Nat} {v : Value} {gs : List Ft} {ad : Nat → Pl} (h : Built w lo v gs.length gs ad) : ∃ a cap, v = .slice a gs.length cap ∧ ListH lo w.heap.size w a gs := by
  obtain ⟨h1, ⟨h2, h3⟩ | ⟨b, cap, cur, rfl, _⟩⟩ := h.row
  · exact ⟨none, 0, by rw [h2, h3], .inl (List.eq_nil_of_length_eq_zero h3)⟩
  · exact ⟨some ⟨b, 0, none⟩, cap, rfl, .inr ⟨b, ad, rfl, h.lies.1, h.lies.2.1, h.lies.2.2⟩⟩

theorem ListH.reads {lo hi : Nat} {w : World} {a : Option Addr} {gs : List Ft} (h : ListH lo hi w a gs) : FeatsAt w a gs := by
  rcases h with rfl | ⟨b, ad, rfl, h, _⟩
  · exact FeatsAt.nil _ _
  · exact h.reads

theorem ListH.turned {lo hi : Nat} {w w' : World} {a : Option Addr} {gs : List Ft} {S : Nat → Prop} (h : ListH lo hi w a gs) (ht : Turned w w' S) (hS : ∀ x, lo ≤ x → x < hi → ¬ S x) : ListH lo hi w' a gs := by
  rcases h with rfl | ⟨b, ad, rfl, h, h2, h3⟩
  · exact .inl rfl
  · exact .inr ⟨b, ad, rfl, h.turned ht (fun x hx => hS x (h3 x hx).1 (h3 x hx).2), h2, h3⟩

theorem ListH.below {lo hi : Nat} {w w' : World} {a : Option Addr} {gs : List Ft} (h : ListH lo hi w a gs) (hb : Below w.heap.size w w') : ListH lo hi w' a gs := h.turned (S := fun _ => False) (Turned.of_below hb) fun _ _ _ h => h

theorem GotL.reads {lo hi : Nat} {w : World} {a : Option Addr} {cap : Nat} {gs : List Ft} (h : GotL lo hi w (.slice a gs.length cap) gs) : FeatsAt w a gs := by
  obtain ⟨a', cap', e, h, _⟩ := h
  obtain ⟨rfl, rfl⟩ : a = a' ∧ cap = cap' := by simpa using e
  exact h

set_option maxRecDepth 100000 in
theorem markFeatS_nil (a : Option Addr) (cap : Nat) (k : Int) (w : World) :
    Calls Tryz.prog 12 #[.slice a 0 cap, .int .i64 k] w fun e w' => e = .returned (.int .i64 k) ∧ w' = w := by
  go_enter Tryz.func12, Tryz.ntmps12
  go_wp2
  go_loop [1, 5] (fun s1 i => s1 = .int .i64 k ∧ i = .int .i64 0) (fun _ _ => 0)
  case atStart => exact ⟨rfl, rfl⟩
  case round =>
    obtain ⟨rfl, rfl⟩ := hrel
    go_wp2
    go_ret
    exact ⟨rfl, rfl⟩

theorem markFeatS_list (lo hi : Nat) (a : Option Addr) (cap : Nat) (gs : List Ft) (k : Int) (w : World) (hl : gs.length ≤ 1048576) (hL : FeatsLen gs 1048576) (h0 : 0 ≤ k) (h4 : k ≤ 4) (h : ListH lo hi w a gs) :
    Calls Tryz.prog 12 #[.slice a gs.length cap, .int .i64 k] w fun e w' => e = .returned (.int .i64 (lmk gs k gs.length)) ∧ FeatsAt w' a (lmkTo gs k gs.length) ∧ Turned w w' (fun x => lo ≤ x ∧ x < hi) := by
  rcases h with rfl | ⟨b, ad, rfl, h, h2, h3⟩
  · refine (markFeatS_nil a cap k w).mono fun e w' ⟨he, hw⟩ => ?_
    subst hw
    exact ⟨he, FeatsAt.nil _ _, Turned.refl _ _⟩
  · refine (markFeatS_some b 0 cap gs ad k w hl hL h0 h4 h h2).mono fun e w' ⟨he, hlie, ht⟩ => ⟨he, hlie.reads, ht.os, ht.tape, ht.output, ht.size, fun x hx hn => ht.block x hx fun hb => hn (h3 x hb)⟩

set_option maxRecDepth 100000 in
set_option maxHeartbeats 4000000 in
theorem heldFeatS_any (a : Option Addr) (cap : Nat) (fs : List Ft) (k : Int) (w : World) (hp : FeatsAt w a (lmkTo fs k fs.length)) (hl : fs.length ≤ 1048576) (hL : FeatsLen fs 1048576) (h0 : 0 ≤ k) (h4 : k ≤ 4) :
    Calls Tryz.prog 19 #[.slice a fs.length cap, .int .i64 k] w fun e w' => e = .returned (.int .i64 (lmk fs k fs.length)) ∧ Below w.heap.size w w' := by
  have HP := Lib.hid hp
  have HL := Lib.hid hL
  clear hp hL
  go_enter Tryz.func19, Tryz.ntmps19
  go_wp2
  go_loopw [1, 5] (fun q i wr => ∃ j : Nat, j ≤ fs.length ∧ i = .int .i64 j ∧ q = .int .i64 (lmk fs k j) ∧ Below w.heap.size w wr) (fun _ i _ => fs.length - (intOf i).toNat)
  case atStart => exact ⟨0, Nat.zero_le _, rfl, rfl, Below.refl _ _⟩
  case round =>
    obtain ⟨j, hj, rfl, rfl, hbel⟩ := hrel
    have HB := Lib.hid hbel
    by_cases hlt : j < fs.length
    · obtain ⟨b, off, pa, pc, ta, tc, rfl, hb, d1, d2, d3, d4, hpp, htt⟩ := HP.out j (by rw [lmkTo_len]; exact hlt)
      obtain ⟨f1, f2, f3, f4⟩ := lmkTo_full k hlt
      rw [f3, marks_len] at d3
      rw [f4, marksT_len] at d4
      rw [f3] at hpp
      rw [f4] at htt
      rw [f1] at d1
      rw [f2] at d2
      rw [← hbel.cell (p := ⟨b, _, none⟩) hb] at d1 d2 d3 d4
      obtain ⟨k0, k1⟩ := lmk_le h0 h4 HL.out j hj
      obtain ⟨l1, l2, l3, l4⟩ := HL.out j hlt
      have D1 := Lib.hid (hpp.below hbel)
      have D2 := Lib.hid (htt.below hbel)
      have HN : Hid (lmk fs k (j + 1) = lmk fs k j + 2 + 2 * ((fps fs j).length : Int) + 2 * ((fts fs j).length : Int)) := rfl
      clear hbel hpp htt l4 f1 f2 f3 f4
      generalize lmk fs k j = m at *
      have e1 : ((markT m).toList == (markT m).toList) = true := by simp
      have e2 : (m + 1 != m + 1) = false := by simp
      go_upto_region 4 with (fail)
      go_cut [19] (fun s19 wx => s19 = .bool false ∧ Below wr.heap.size wr wx)
      case first =>
        go_region_held3 (fun w' => w'.cell? ⟨b, off + j * 4, none⟩ = some (.string (markT m)) ∧ Below wr.heap.size wr w')
          (first
            | exact ⟨d1, (Below.refl _ _).drew⟩
            | (go_split_ands
               rename_i hS0 hS1
               exact ⟨cell_later hbn hS0, hS1.trans (hbn.mono hS1.size)⟩))
          (first
            | (go_at_call 30
               refine (markText_any _ _ (by omega)).mono ?_
               rintro e wn ⟨rfl, hbn⟩))
        all_goals (go_wp2_with fail; go_meet; go_split_ands; exact ⟨by simp, by assumption⟩)
      case rest =>
        obtain ⟨rfl, hB⟩ := hcut
        replace d2 := cell_later hB d2
        replace d3 := cell_later hB d3
        replace d4 := cell_later hB d4
        replace D1 := Lib.hid (D1.out.below hB)
        replace D2 := Lib.hid (D2.out.below hB)
        have B1 : Hid (Below w.heap.size w _) := HB.out.trans (hB.mono HB.out.size)
        clear hB d1 e1
        go_wp2_with fail
        refine (heldPtS_any _ _ _ _ _ (show PtsAt _ _ (marks (m + 1 + 1) _) by rw [show m + 1 + 1 = m + 2 by omega]; exact D1.out) (by omega) (by omega) (by omega)).mono ?_
        rintro e w2 ⟨rfl, rfl⟩
        go_wp2_with fail
        refine (heldTagS_any _ _ _ _ _ (show TagsAt _ _ (marksT (m + 1 + 1 + 2 * ((fps fs j).length : Int)) _) by rw [show m + 1 + 1 = m + 2 by omega]; exact D2.out) (by omega) (by omega) (by omega)).mono ?_
        rintro e w3 ⟨rfl, hb3⟩
        have B3 : Hid (Below w.heap.size w w3) := B1.out.trans (hb3.mono B1.out.size)
        clear hb3 d2 d3 d4
        go_wp2
        go_roundw
        case rel => exact ⟨j + 1, by omega, by go_num, congrArg (Value.int .i64) (by rw [HN.out]; omega), B3.out⟩
        case measure => simp [intOf]; omega
    · obtain rfl : j = fs.length := by omega
      clear hbel
      go_wp2
      go_ret
      exact ⟨rfl, HB.out⟩
end Go.Proofs.YtjphlpjippojiaaGreat

namespace Go.Proofs.YtjphlpjippojiaaGreat
set_option linter.unusedVariables false
open Go.ChangeShapes Go.WideShapes Go.ChangeAt Go.RowKit

theorem cutR_len (fs : List Ft) (id : ByteArray) : (cutR fs id).length ≤ fs.length := by
  unfold cutR
  split
  · exact cutL_len fs id
  · exact Nat.zero_le _
theorem cutR_lens {fs : List Ft} {m : Int} (id : ByteArray) (h : FeatsLen fs m) : FeatsLen (cutR fs id) m := by
  unfold cutR
  split
  · exact cutL_lens id h
  · exact fun _ h => absurd h (Nat.not_lt_zero _)

set_option maxRecDepth 100000 in
set_option maxHeartbeats 6400000 in
theorem fnSheetCut_walk (a : Option Addr) (cap : Nat) (fs : List Ft) (id : ByteArray) (w : World) (hf : FeatsIn w a fs) (hid : id.size ≤ maxLen) :
    Calls Tryz.prog 5 #[.slice a fs.length cap, .string id] w fun e w' => e = .returned (.bool true) ∧ Below w.heap.size w w' := by
  have HF := Lib.hid hf
  unfold maxLen at hid
  clear hf
  by_cases hi : id.size ≤ 1048576
  · go_enter Tryz.func5, Tryz.ntmps5
    go_wp2_with fail
    refine (szFeatS_any _ _ _ _ _ HF.out (by omega) (by omega)).mono ?_
    rintro e w1 ⟨⟨r, rfl, hs⟩, hb1⟩
    have B1 := Lib.hid hb1
    clear hb1
    rcases hs with rfl | ⟨r0, r1, l1, l2⟩
    · go_wp2
      go_ret
      exact ⟨rfl, B1.out⟩
    have L2 : Hid (FeatsLen fs 1048576) := l2.mono (by omega)
    clear l2
    have m1 : fs.length ≤ 1048576 := by omega
    go_wp2_with fail
    refine (toFeatS_any a cap fs _ (HF.out.reads.below B1.out) m1 L2.out).mono ?_
    rintro e u1 ⟨b1, ad1, rfl, rr1, pp1, hx1, hn⟩
    have Bu1 : Hid (Below w.heap.size w u1) := B1.out.trans (hn.mono B1.out.size)
    have Hu1 := Lib.hid (FeatsAt.of_row rr1 pp1)
    clear hn rr1 pp1 hx1 B1
    go_wp2_with fail
    refine (specSheetCut_any _ _ fs id _ Hu1.out m1 L2.out).mono ?_
    rintro e u2 ⟨⟨v0, rfl, hg⟩, hn⟩
    have Bu2 : Hid (Below w.heap.size w u2) := Bu1.out.trans (hn.mono Bu1.out.size)
    have IG : Hid (∀ u x c, FeatsAt u x fs → Calls Tryz.prog 21 #[.slice x fs.length c, .string id] u (ListAns u (cutR fs id) (getHas fs id))) := fun u x c hx => implSheetCut_any x c fs id u hx m1 L2.out hi
    have mg : (cutR fs id).length ≤ 1048576 := Nat.le_trans (cutR_len fs id) m1
    have LG := Lib.hid (cutR_lens id L2.out)
    have zwu := Bu1.out.size
    have hnz := hn.size
    generalize getHas fs id = has at *
    generalize cutR fs id = gs at *
    obtain ⟨aw, cw, rfl, hg2⟩ := hg
    have G0 : Hid (GotL u1.heap.size u2.heap.size u2 (.slice aw gs.length cw) gs) := ⟨aw, cw, rfl, hg2⟩
    clear hn Hu1 Bu1 hg2
    go_wp2_with fail
    refine (toFeatS_any a cap fs _ (HF.out.reads.below Bu2.out) m1 L2.out).mono ?_
    rintro e u3 ⟨b3, ad3, rfl, rr3, pp3, hx3, hn⟩
    have Bu3 : Hid (Below w.heap.size w u3) := Bu2.out.trans (hn.mono Bu2.out.size)
    replace G0 := Lib.hid (G0.out.below hn)
    have X0 := Lib.hid (lies_of_row rr3 pp3).1
    have XS := Lib.hid (lies_of_row rr3 pp3).2
    have XB := Lib.hid (blocks_of_row rr3 pp3 hx3)
    have z2 := hn.size
    clear hn rr3 pp3 Bu2
    go_wp2_with fail
    refine (IG.out _ _ _ X0.out.reads).mono ?_
    rintro e u4 ⟨⟨v1, adg, rfl, hbu⟩, hn⟩
    obtain ⟨ga, gc, rfl, hLH⟩ := hbu.listH
    have LH := Lib.hid hLH
    have B : Hid (Below w.heap.size w u4) := Bu3.out.trans (hn.mono Bu3.out.size)
    replace G0 := Lib.hid (G0.out.below hn)
    replace X0 := Lib.hid (X0.out.below hn)
    have z3 := hn.size
    clear hn hbu hLH Bu3
    have hne : (has != has) = false := by simp
    go_wp2_with fail
    refine (eqFeatS_any _ _ _ _ gs gs _ LH.out.reads G0.out.reads mg mg LG.out LG.out).mono ?_
    rintro e u5 ⟨rfl, hn⟩
    rw [show fsEq gs gs = true by simp [fsEq]]
    replace B : Hid (Below w.heap.size w u5) := B.out.trans (hn.mono B.out.size)
    replace G0 := Lib.hid (G0.out.below hn)
    replace X0 := Lib.hid (X0.out.below hn)
    replace LH := Lib.hid (LH.out.below hn)
    clear hn
    go_wp2_with fail
    refine (toFeatS_any a cap fs _ (HF.out.reads.below B.out) m1 L2.out).mono ?_
    rintro e u6 ⟨b6, ad6, rfl, rr6, pp6, _, hn⟩
    have H6 := Lib.hid (FeatsAt.of_row rr6 pp6)
    replace B : Hid (Below w.heap.size w u6) := B.out.trans (hn.mono B.out.size)
    replace G0 := Lib.hid (G0.out.below hn)
    replace X0 := Lib.hid (X0.out.below hn)
    replace LH := Lib.hid (LH.out.below hn)
    clear hn rr6 pp6
    go_wp2_with fail
    refine (eqFeatS_any _ _ _ _ fs fs _ X0.out.reads H6.out m1 m1 L2.out L2.out).mono ?_
    rintro e u7 ⟨rfl, hn⟩
    rw [show fsEq fs fs = true by simp [fsEq]]
    replace B : Hid (Below w.heap.size w u7) := B.out.trans (hn.mono B.out.size)
    replace G0 := Lib.hid (G0.out.below hn)
    replace X0 := Lib.hid (X0.out.below hn)
    replace LH := Lib.hid (LH.out.below hn)
    clear hn H6
    go_wp2_with fail
    refine (markFeatS_some b3 0 _ fs _ 1 _ m1 L2.out (by omega) (by omega) X0.out XS.out).mono ?_
    rintro e u8 ⟨rfl, _, ht⟩
    replace B : Hid (Below w.heap.size w u8) := B.out.trans (ht.below B.out.size (fun x hx => by have := (XB.out x hx).1; omega))
    replace G0 := Lib.hid (G0.out.turned ht (fun x _ h2 h => by have := (XB.out x h).1; omega))
    replace LH := Lib.hid (LH.out.turned ht (fun x h1 _ h => by have := (XB.out x h).2; omega))
    have kk0 := (lmk_le (k := 1) (by omega) (by omega) L2.out fs.length (Nat.le_refl _)).1
    generalize lmk fs 1 fs.length = kk at kk0
    have z8 := ht.size
    clear ht X0 XS
    go_wp2_with fail
    refine (eqFeatS_any _ _ _ _ gs gs _ LH.out.reads G0.out.reads mg mg LG.out LG.out).mono ?_
    rintro e u9 ⟨rfl, hn⟩
    rw [show fsEq gs gs = true by simp [fsEq]]
    replace B : Hid (Below w.heap.size w u9) := B.out.trans (hn.mono B.out.size)
    replace G0 := Lib.hid (G0.out.below hn)
    replace LH := Lib.hid (LH.out.below hn)
    clear hn
    go_wp2_with fail
    refine (markFeatS_list _ _ _ _ gs 1 _ mg LG.out (by omega) (by omega) LH.out).mono ?_
    rintro e v1 ⟨rfl, hM, ht⟩
    have M := Lib.hid hM
    replace B : Hid (Below w.heap.size w v1) := B.out.trans (ht.below B.out.size (fun x hx => by have := hx.1; omega))
    replace G0 := Lib.hid (G0.out.turned ht (fun x _ h2 h => by have := h.1; omega))
    clear hM ht LH
    obtain ⟨j0, j1⟩ := lmk_le (k := 1) (by omega) (by omega) LG.out gs.length (Nat.le_refl _)
    have HH : Hid (∀ u c, FeatsAt u ga (lmkTo gs 1 gs.length) → Calls Tryz.prog 19 #[.slice ga gs.length c, .int .i64 1] u fun e w' => e = .returned (.int .i64 (lmk gs 1 gs.length)) ∧ Below u.heap.size u w') := fun u c h => heldFeatS_any ga c gs 1 u h mg LG.out (by omega) (by omega)
    generalize lmk gs 1 gs.length = jj at *
    generalize lmkTo gs 1 gs.length = ms at *
    have hq : (jj != jj) = false := by simp
    go_wp2_with fail
    refine (HH.out _ _ M.out).mono ?_
    rintro e v2 ⟨rfl, hn⟩
    replace B : Hid (Below w.heap.size w v2) := B.out.trans (hn.mono B.out.size)
    replace G0 := Lib.hid (G0.out.below hn)
    replace M := Lib.hid (M.out.below hn)
    clear hn
    go_wp2_with fail
    refine (toFeatS_any a cap fs _ (HF.out.reads.below B.out) m1 L2.out).mono ?_
    rintro e v3 ⟨b9, ad9, rfl, rr9, pp9, _, hn⟩
    have H9 := Lib.hid (FeatsAt.of_row rr9 pp9)
    replace B : Hid (Below w.heap.size w v3) := B.out.trans (hn.mono B.out.size)
    replace G0 := Lib.hid (G0.out.below hn)
    replace M := Lib.hid (M.out.below hn)
    clear hn rr9 pp9
    go_wp2_with fail
    refine (IG.out _ _ _ H9.out).mono ?_
    rintro e v4 ⟨⟨v9, ad9, rfl, hbu⟩, hn⟩
    obtain ⟨ha, hc, rfl, hLH⟩ := hbu.listH
    have LH := Lib.hid hLH
    replace B : Hid (Below w.heap.size w v4) := B.out.trans (hn.mono B.out.size)
    replace G0 := Lib.hid (G0.out.below hn)
    replace M := Lib.hid (M.out.below hn)
    clear hn hbu hLH H9
    go_wp2_with fail
    refine (eqFeatS_any _ _ _ _ gs gs _ LH.out.reads G0.out.reads mg mg LG.out LG.out).mono ?_
    rintro e v5 ⟨rfl, hn⟩
    rw [show fsEq gs gs = true by simp [fsEq]]
    replace B : Hid (Below w.heap.size w v5) := B.out.trans (hn.mono B.out.size)
    replace M := Lib.hid (M.out.below hn)
    clear hn LH G0
    go_wp2_with fail
    refine (HH.out _ _ M.out).mono ?_
    rintro e v6 ⟨rfl, hn⟩
    replace B : Hid (Below w.heap.size w v6) := B.out.trans (hn.mono B.out.size)
    clear hn
    go_wp2
    go_ret
    exact ⟨rfl, B.out⟩
  · go_enter Tryz.func5, Tryz.ntmps5
    go_wp2
    go_ret
    exact ⟨rfl, Below.refl _ _⟩

set_option maxRecDepth 100000 in
theorem fnExactSheetCut_lifted (os : Os) (started : os.Started) (H : Type) (enc : TypeId × Value → H) :
    ReturnsInHanded {} Tryz.checked os 5 .any (Rows.fnExactSheetCutSpec.pre6 enc Tryz.prog Tryz.f5 Rows.fnExactSheetCutRow.domain false) (Rows.fnExactSheetCutSpec.post enc Tryz.prog Tryz.f5 false true false false) := by
  refine returnsInHanded_of_change (C := Tryz.checked) own started (by kernel_rfl) Tryz.func5
    (ChangeSpec.witness6 (enc := enc) (C := Tryz.checked) false ⟨#[], #[.slice none 0 0, .string .empty], []⟩ 8 (by kernel_rfl) (by kernel_rfl) (by kernel_rfl) (by kernel_rfl)) ?_
  intro W base args ds gs before hval0 hW _ _
  have hval : ∀ (j : Nat) t v, Tryz.f5.params[j]? = some t → args[j]? = some v → Value.okWide Tryz.prog W .any base t v := hval0
  have hW' := hW
  obtain ⟨p, q, hA0, hV, rfl, _, _⟩ := hW
  have hA : DataW.TrodAll enc Tryz.prog W 0 (fun _ => true) true Tryz.f5.params.toList args.toList ds p := hA0
  rw [Tryz.params5] at hA hval
  obtain ⟨v0, vs0, d0, ds0, p0, q0, hargs, rfl, rfl, h0, r0⟩ := trodAll_cons hA
  obtain ⟨v1, vs1, d1, ds1, p1, q1, rfl, rfl, rfl, h1, r1⟩ := trodAll_cons r0
  obtain ⟨rfl, rfl, rfl⟩ := trodAll_nil r1
  obtain rfl : args = #[v0, v1] := by cases args; simp_all
  obtain ⟨rfl, rfl⟩ := trodVars_none hV
  have k0 := h0
  have lt0 : ∀ x ∈ p0, x.block < W.heap.size := by obtain ⟨m, hm⟩ := k0; exact DataW.trod_lt m _ _ _ hm
  obtain ⟨a0, c0, s0, rfl, f0⟩ := open_feats (hval 0 22 v0 rfl rfl) h0
  obtain ⟨x1, rfl, rfl, rfl, w1⟩ := Go.ChangeMaps.open_string Tryz.underlying9 (hval 1 9 v1 rfl rfl) h1
  clear hA0 hval0
  refine (fnSheetCut_walk a0 c0 s0 x1 W f0 w1).mono fun e W' ⟨he, bel⟩ => ?_
  subst he
  exact ⟨_, rfl, _, _, _, [], _, [], hW', trodAll_mk1 (shut_bool Tryz.underlying4 _), (trodAll_cons_mk (Below.trod laidOut (by kernel_rfl) (of_decide_eq_true (by kernel_rfl)) k0 bel lt0) (trodAll_cons_mk (Go.ChangeMaps.shut_string Tryz.underlying9 w1) trodAll_mk0)), rfl, bel.frame _, fun h => by cases h⟩

theorem fnExactSheetCut_over : Rows.fnExactSheetCutRow.holds Tryz.pinned (OpenSpec.ofChange Rows.fnExactSheetCutSpec) :=
  OpenClaim.holds_of_wide 5 Tryz.f5 rfl rfl rfl rfl rfl rfl rfl ⟨rfl, rfl, rfl, rfl, rfl⟩ rfl rfl rfl rfl rfl (by kernel_rfl) Tryz.func5 (by kernel_rfl)
    (of_decide_eq_true (by kernel_rfl)) (by unfold Func.isWrapper; first | (rw [if_pos (by decide +kernel)]; kernel_rfl) | (rw [if_neg (by decide +kernel)]; exact ⟨rfl, rfl⟩))
    (fun os started H enc _ => fnExactSheetCut_lifted os started H enc)

/-- the given statement -/
theorem fnExactSheetCut_holds : Rows.FnExactSheetCutSaid := fnExactSheetCut_over

end Go.Proofs.YtjphlpjippojiaaGreat
