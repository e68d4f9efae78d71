/- Proved here: the model's list without a name, and its copy of a list, read as they should; lists of at most 1,048,576 things, points and tags. Proved here: the model's map without a name holds copies of the other things; lists of at most 1,048,576 things, points and tags, texts of at most 1,048,576 bytes. Proved here: a list that a function made in memory of its own is read, marked, and asked for its marks; lists of at most 1,048,576 things, points and tags. Proved here: what a list of things is with a thing put in, as the model goes through it and as a map by names tells it; a thing appended to a row of things; no condition. Proved here: the program's map with a thing holds copies of the things, in memory of its own; lists of at most 1,048,576 things, points and tags, texts of at most 1,048,576 bytes. Proved here: the model's map with a thing holds copies of the things; lists of at most 1,048,576 things, points and tags, texts of at most 1,048,576 bytes. Proved here: the law FnExactSheetPut answers true at every list of things and every thing, and leaves them as they were; no condition. -/
import Derived.Test.YtjphlpjippojiaaGreatWSheetCutI
import Derived.Deep.RegionHeld3
import Derived.Deep.DeepCutAuto
import Derived.Test.YtjphlpjippojiaaGreatWSheetArg
import Derived.Test.YtjphlpjippojiaaGreatLSheetGet
import Derived.BigQuiet
namespace Go.Proofs.YtjphlpjippojiaaGreat
set_option linter.unusedVariables false
open Go.ChangeShapes Go.WideShapes Go.ChangeAt Go.RowKit Go.Deep

/-- a list in a row of its own, its parts in blocks of a kind -/
structure Row (w : World) (R : Nat → Prop) (lo : Nat) (v : Value) (k : Nat) (fs : List Ft) (ad : Nat → Pl) : Prop where
  row : w.ownsRow lo 29 4 v k (flatF fs ad k)
  pts : ∀ i, i < k → PtsAt w (ad i).1.1 (fps fs i)
  tags : ∀ i, i < k → TagsAt w (ad i).2.1 (fts fs i)
  prng : ∀ i, i < k → (fps fs i).length = 0 ∨ ∀ x, blk (ad i).1.1 = some x → R x ∧ x < w.heap.size ∧ v.ownBlock ≠ some x
  trng : ∀ i, i < k → (fts fs i).length = 0 ∨ ∀ x, blk (ad i).2.1 = some x → R x ∧ x < w.heap.size ∧ v.ownBlock ≠ some x

theorem PtsAt.turned0 {w w' : World} {a : Option Addr} {ps : List (Int × Int)} {S : Nat → Prop} (h : PtsAt w a ps) (ht : Turned w w' S) (hn : ps.length = 0 ∨ ∀ x, blk a = some x → ¬ S x) : PtsAt w' a ps := by
  rcases hn with h0 | hn
  · exact fun i hi => absurd hi (by omega)
  · exact h.turned ht hn
theorem TagsAt.turned0 {w w' : World} {a : Option Addr} {ts : List Tg} {S : Nat → Prop} (h : TagsAt w a ts) (ht : Turned w w' S) (hn : ts.length = 0 ∨ ∀ x, blk a = some x → ¬ S x) : TagsAt w' a ts := by
  rcases hn with h0 | hn
  · exact fun i hi => absurd hi (by omega)
  · exact h.turned ht hn

theorem Row.below {w w' : World} {R : Nat → Prop} {lo : Nat} {v : Value} {k : Nat} {fs : List Ft} {ad : Nat → Pl} (h : Row w R lo v k fs ad) (hb : Below w.heap.size w w') : Row w' R lo v k fs ad :=
  ⟨ownsRow_below h.row hb, fun i hi => (h.pts i hi).below hb, fun i hi => (h.tags i hi).below hb, fun i hi => (h.prng i hi).imp (fun h => h) fun q x hx => ⟨(q x hx).1, Nat.lt_of_lt_of_le (q x hx).2.1 hb.size, (q x hx).2.2⟩, fun i hi => (h.trng i hi).imp (fun h => h) fun q x hx => ⟨(q x hx).1, Nat.lt_of_lt_of_le (q x hx).2.1 hb.size, (q x hx).2.2⟩⟩

theorem Row.step {wr w3 wb wa : World} {R : Nat → Prop} {lo : Nat} {v : Value} {k : Nat} {fs : List Ft} {ad : Nat → Pl} {p : Pl} {gg cap' : Nat} (h : Row wr R lo v k fs ad) (hb : Below wr.heap.size wr w3) (h3 : Below w3.heap.size w3 wb) (hz : wb.heap.size = w3.heap.size + 1)
    (hp : PtsAt w3 p.1.1 (fps fs k)) (hpf : (fps fs k).length = 0 ∨ ∀ x, blk p.1.1 = some x → R x ∧ x < w3.heap.size ∧ v.ownBlock ≠ some x) (ht : TagsAt w3 p.2.1 (fts fs k)) (htf : (fts fs k).length = 0 ∨ ∀ x, blk p.2.1 = some x → R x ∧ x < w3.heap.size ∧ v.ownBlock ≠ some x)
    (hrow : wa.ownsRow lo 29 4 (.slice (some ⟨gg, 0, none⟩) (k + 1) cap') (k + 1) (flatF fs ad k ++ cellsF (fg fs k) p)) (hg : wb.grownBy wa v.ownBlock) (hat : v.ownBlock = some gg ∨ gg = w3.heap.size + 1) :
    Row wa R lo (.slice (some ⟨gg, 0, none⟩) (k + 1) cap') (k + 1) fs (plSet ad k p) := by
  have hbb : Below wr.heap.size wr wb := hb.trans (h3.mono hb.size)
  have hB := h.below hbb
  have ht' : Turned wb wa (fun x => v.ownBlock = some x) := Turned.of_grown hg fun x hx => hx
  have hwz := hg.size
  have hs3 := hb.size
  have gne : ∀ x, x < w3.heap.size → v.ownBlock ≠ some x → (Value.slice (some ⟨gg, 0, none⟩) (k + 1) cap').ownBlock ≠ some x := fun x hx hn e => by
    obtain rfl : gg = x := by simpa [Value.ownBlock] using e
    rcases hat with h1 | h1
    · exact hn h1
    · omega
  refine ⟨?_, fun i hi => ?_, fun i hi => ?_, fun i hi => ?_, fun i hi => ?_⟩
  · rw [flatF_succ, flatF_set _ _ _ _ _ (Nat.le_refl _), plSet_at]
    exact hrow
  · by_cases e : i = k
    · subst e
      rw [plSet_at]
      exact (hp.below h3).turned0 ht' (hpf.imp (fun h => h) fun q x hx => (q x hx).2.2)
    · rw [plSet_lt (by omega)]
      exact (hB.pts i (by omega)).turned0 ht' ((h.prng i (by omega)).imp (fun h => h) fun q x hx => (q x hx).2.2)
  · by_cases e : i = k
    · subst e
      rw [plSet_at]
      exact (ht.below h3).turned0 ht' (htf.imp (fun h => h) fun q x hx => (q x hx).2.2)
    · rw [plSet_lt (by omega)]
      exact (hB.tags i (by omega)).turned0 ht' ((h.trng i (by omega)).imp (fun h => h) fun q x hx => (q x hx).2.2)
  · by_cases e : i = k
    · subst e
      rw [plSet_at]
      exact hpf.imp (fun h => h) fun q x hx => ⟨(q x hx).1, by have := (q x hx).2.1; omega, gne x (q x hx).2.1 (q x hx).2.2⟩
    · rw [plSet_lt (by omega)]
      exact (h.prng i (by omega)).imp (fun h => h) fun q x hx => ⟨(q x hx).1, by have := (q x hx).2.1; omega, gne x (by have := (q x hx).2.1; omega) (q x hx).2.2⟩
  · by_cases e : i = k
    · subst e
      rw [plSet_at]
      exact htf.imp (fun h => h) fun q x hx => ⟨(q x hx).1, by have := (q x hx).2.1; omega, gne x (q x hx).2.1 (q x hx).2.2⟩
    · rw [plSet_lt (by omega)]
      exact (h.trng i (by omega)).imp (fun h => h) fun q x hx => ⟨(q x hx).1, by have := (q x hx).2.1; omega, gne x (by have := (q x hx).2.1; omega) (q x hx).2.2⟩

/-- a list whose memory lies between these blocks -/
def GotL (lo hi : Nat) (w : World) (v : Value) (fs : List Ft) : Prop :=
  ∃ a cap, v = .slice a fs.length cap ∧ FeatsAt w a fs ∧ ∀ i, i < fs.length → ∃ b off pa pc ta tc, a = some ⟨b, off, none⟩ ∧ lo ≤ b ∧ b < hi ∧
    w.cell? ⟨b, off + i * 4 + 2, none⟩ = some (.slice pa (fps fs i).length pc) ∧ w.cell? ⟨b, off + i * 4 + 3, none⟩ = some (.slice ta (fts fs i).length tc) ∧
    ((fps fs i).length = 0 ∨ ∀ x, blk pa = some x → lo ≤ x ∧ x < hi) ∧ ((fts fs i).length = 0 ∨ ∀ x, blk ta = some x → lo ≤ x ∧ x < hi)

theorem GotL.turned {lo hi : Nat} {w w' : World} {v : Value} {fs : List Ft} {S : Nat → Prop} (h : GotL lo hi w v fs) (ht : Turned w w' S) (hS : ∀ x, lo ≤ x → x < hi → ¬ S x) : GotL lo hi w' v fs := by
  obtain ⟨a, cap, rfl, hF, hR⟩ := h
  refine ⟨a, cap, rfl, fun i hi => ?_, fun i hi => ?_⟩
  · obtain ⟨b, off, pa, pc, ta, tc, rfl, hb1, hb2, h3, h4, h5, h6⟩ := hR i hi
    obtain ⟨b', off', pa', pc', ta', tc', e, hlt, g1, g2, g3, g4, g5, g6⟩ := hF i hi
    obtain ⟨rfl, rfl⟩ : b = b' ∧ off = off' := by simpa using e
    rw [h3] at g3
    rw [h4] at g4
    obtain ⟨rfl, rfl⟩ : pa = pa' ∧ pc = pc' := by simpa using g3
    obtain ⟨rfl, rfl⟩ : ta = ta' ∧ tc = tc' := by simpa using g4
    have nb : ¬ S b := hS b hb1 hb2
    exact ⟨b, off, pa, pc, ta, tc, rfl, Nat.lt_of_lt_of_le hlt ht.size, ht.cell g1 nb, ht.cell g2 nb, ht.cell h3 nb, ht.cell h4 nb, g5.turned0 ht (h5.imp (fun h => h) fun q x hx => hS x (q x hx).1 (q x hx).2), g6.turned0 ht (h6.imp (fun h => h) fun q x hx => hS x (q x hx).1 (q x hx).2)⟩
  · obtain ⟨b, off, pa, pc, ta, tc, rfl, hb1, hb2, h3, h4, h5, h6⟩ := hR i hi
    have nb : ¬ S b := hS b hb1 hb2
    exact ⟨b, off, pa, pc, ta, tc, rfl, hb1, hb2, ht.cell h3 nb, ht.cell h4 nb, h5, h6⟩

theorem GotL.below {lo hi : Nat} {w w' : World} {v : Value} {fs : List Ft} (h : GotL lo hi w v fs) (hb : Below w.heap.size w w') : GotL lo hi w' v fs := h.turned (S := fun _ => False) (Turned.of_below hb) fun _ _ _ h => h
theorem GotL.mono {lo hi lo' hi' : Nat} {w : World} {v : Value} {fs : List Ft} (h : GotL lo hi w v fs) (h1 : lo' ≤ lo) (h2 : hi ≤ hi') : GotL lo' hi' w v fs := by
  obtain ⟨a, cap, rfl, hF, hR⟩ := h
  refine ⟨a, cap, rfl, hF, fun i hi => ?_⟩
  obtain ⟨b, off, pa, pc, ta, tc, rfl, hb1, hb2, h3, h4, h5, h6⟩ := hR i hi
  exact ⟨b, off, pa, pc, ta, tc, rfl, by omega, by omega, h3, h4, h5.imp (fun h => h) fun q x hx => ⟨by have := (q x hx).1; omega, by have := (q x hx).2; omega⟩, h6.imp (fun h => h) fun q x hx => ⟨by have := (q x hx).1; omega, by have := (q x hx).2; omega⟩⟩
theorem gotL_nil (lo hi : Nat) (w : World) (a : Option Addr) (cap : Nat) : GotL lo hi w (.slice a 0 cap) [] := ⟨a, cap, rfl, FeatsAt.nil _ _, fun _ h => absurd h (Nat.not_lt_zero _)⟩

/-- a row of its own reads as its things -/
theorem Row.reads {w : World} {R : Nat → Prop} {lo : Nat} {v : Value} {fs : List Ft} {ad : Nat → Pl} (h : Row w R lo v fs.length fs ad) : ∃ a cap, v = .slice a fs.length cap ∧ FeatsAt w a fs ∧ ∀ i, i < fs.length → ∃ b off, a = some ⟨b, off, none⟩ ∧ lo ≤ b ∧ b < w.heap.size ∧
    w.cell? ⟨b, off + i * 4 + 2, none⟩ = some (.slice (ad i).1.1 (fps fs i).length (ad i).1.2) ∧ w.cell? ⟨b, off + i * 4 + 3, none⟩ = some (.slice (ad i).2.1 (fts fs i).length (ad i).2.2) := by
  obtain ⟨h1, ⟨h2, h3⟩ | ⟨b, cap, cur, rfl, hb, hg, hc, hm, hs, hx⟩⟩ := h.row
  · have e : fs = [] := List.eq_nil_of_length_eq_zero (by omega)
    subst e
    exact ⟨none, 0, h2, FeatsAt.nil _ _, fun _ h => absurd h (Nat.not_lt_zero _)⟩
  · have hlt : b < w.heap.size := (Array.getElem?_eq_some_iff.1 hg).1
    have cell : ∀ j v, j < fs.length * 4 → (flatF fs ad fs.length)[j]? = some v → w.cell? ⟨b, 0 + j, none⟩ = some v := by
      intro j v hj hv
      rw [← hx, List.getElem?_take, if_pos hj] at hv
      simp only [World.cell?, hg, Option.isSome_none, Bool.false_eq_true, if_false, Nat.zero_add]
      simpa using hv
    refine ⟨some ⟨b, 0, none⟩, cap, rfl, fun i hi => ?_, fun i hi => ?_⟩
    · have f := fun o ho => flatF_at fs ad fs.length i o hi ho
      exact ⟨b, 0, _, _, _, _, rfl, hlt, cell _ _ (by omega) (f 0 (by omega)), cell _ _ (by omega) (f 1 (by omega)), cell _ _ (by omega) (f 2 (by omega)), cell _ _ (by omega) (f 3 (by omega)), h.pts i hi, h.tags i hi⟩
    · have f := fun o ho => flatF_at fs ad fs.length i o hi ho
      exact ⟨b, 0, rfl, hb, hlt, cell _ _ (by omega) (f 2 (by omega)), cell _ _ (by omega) (f 3 (by omega))⟩

theorem Row.got {w : World} {lo : Nat} {v : Value} {fs : List Ft} {ad : Nat → Pl} (h : Row w (fun x => lo ≤ x) lo v fs.length fs ad) : GotL lo w.heap.size w v fs := by
  obtain ⟨a, cap, rfl, hF, hR⟩ := h.reads
  refine ⟨a, cap, rfl, hF, fun i hi => ?_⟩
  obtain ⟨b, off, rfl, h1, h2, h3, h4⟩ := hR i hi
  exact ⟨b, off, _, _, _, _, rfl, h1, h2, h3, h4, (h.prng i hi).imp (fun h => h) fun q x hx => ⟨(q x hx).1, (q x hx).2.1⟩, (h.trng i hi).imp (fun h => h) fun q x hx => ⟨(q x hx).1, (q x hx).2.1⟩⟩

/-- how many of the first things stay -/
def cutN (fs : List Ft) (id : ByteArray) (j : Nat) : Nat := (cutL (fs.take j) id).length

theorem cutL_append (xs ys : List Ft) (id : ByteArray) : cutL (xs ++ ys) id = cutL xs id ++ cutL ys id := List.filter_append _ _
theorem cut_split {fs : List Ft} {j : Nat} (h : j < fs.length) : fs = fs.take j ++ fg fs j :: fs.drop (j + 1) := by
  rw [fg_get h, ← List.drop_eq_getElem_cons h, List.take_append_drop]
theorem cutN_yes {fs : List Ft} {id : ByteArray} {j : Nat} (h : j < fs.length) (hne : fid fs j ≠ id) : cutN fs id (j + 1) = cutN fs id j + 1 ∧ fg (cutL fs id) (cutN fs id j) = fg fs j ∧ cutN fs id j < (cutL fs id).length := by
  have e1 : cutL [fg fs j] id = [fg fs j] := by
    unfold cutL
    rw [List.filter_cons_of_pos (by simpa [fid] using hne)]
    rfl
  have e2 : cutL fs id = cutL (fs.take j) id ++ fg fs j :: cutL (fs.drop (j + 1)) id := by
    conv => lhs; rw [cut_split h]
    rw [cutL_append, show fg fs j :: fs.drop (j + 1) = [fg fs j] ++ fs.drop (j + 1) from rfl, cutL_append, e1]
    rfl
  refine ⟨?_, ?_, ?_⟩
  · unfold cutN
    rw [List.take_succ_eq_append_getElem h, ← fg_get h, cutL_append, e1]
    simp
  · rw [e2]
    unfold cutN fg
    simp
  · rw [e2]
    unfold cutN
    simp
theorem cutN_no {fs : List Ft} {id : ByteArray} {j : Nat} (h : j < fs.length) (he : fid fs j = id) : cutN fs id (j + 1) = cutN fs id j := by
  have e1 : cutL [fg fs j] id = [] := by
    unfold cutL
    rw [List.filter_cons_of_neg (by simpa [fid] using he)]
    rfl
  unfold cutN
  rw [List.take_succ_eq_append_getElem h, ← fg_get h, cutL_append, e1]
  simp
theorem cutN_all (fs : List Ft) (id : ByteArray) : cutN fs id fs.length = (cutL fs id).length := by unfold cutN; rw [List.take_length]
end Go.Proofs.YtjphlpjippojiaaGreat

namespace Go.Proofs.YtjphlpjippojiaaGreat
set_option linter.unusedVariables false
open Go.ChangeShapes Go.WideShapes Go.ChangeAt Go.RowKit Go.Deep

set_option maxRecDepth 100000 in
set_option maxHeartbeats 4000000 in
theorem l3Cut_any (a : Option Addr) (cap : Nat) (fs : List Ft) (id : ByteArray) (w : World) (hp : FeatsAt w a fs) (hl : fs.length ≤ 1048576) :
    Calls Tryz.prog 46 #[.slice a fs.length cap, .string id] w fun e w' => (∃ a' cap', e = .returned (.slice a' (cutL fs id).length cap') ∧ FeatsAt w' a' (cutL fs id)) ∧ Below w.heap.size w w' := by
  obtain ⟨i0, hi, hz0, hz1, hz2⟩ := info_parts infoF
  have HI := Lib.hid hi
  have HZ0 := Lib.hid hz0
  have HZ1 := Lib.hid hz1
  have HZ2 := Lib.hid hz2
  have HP := Lib.hid hp
  clear hi hz0 hz1 hz2 hp
  go_enter Tryz.func46, Tryz.ntmps46
  go_wp2
  go_loopw [5, 6] (fun s i wr => ∃ (j : Nat) (v : Value) (ad : Nat → Pl), j ≤ fs.length ∧ i = .int .i64 j ∧ v = s ∧ Row wr (fun x => x < w.heap.size) w.heap.size v (cutN fs id j) (cutL fs id) ad ∧ Below w.heap.size w wr) (fun _ i _ => fs.length - (intOf i).toNat)
  case atStart => exact ⟨0, _, fun _ => ((none, 0), (none, 0)), Nat.zero_le _, rfl, rfl, ⟨World.ownsRow_made w #[] 0 (Nat.le_refl _) (by unfold maxLen; omega) rfl, fun _ h => absurd h (Nat.not_lt_zero _), fun _ h => absurd h (Nat.not_lt_zero _), fun _ h => absurd h (Nat.not_lt_zero _), fun _ h => absurd h (Nat.not_lt_zero _)⟩, (Below.refl _ _).alloc (Nat.le_refl _) _⟩
  case round =>
    obtain ⟨j, v, ad, hj, rfl, rfl, hro, hbel⟩ := hrel
    have hsz := hbel.size
    have HR := Lib.hid hro
    have HB := Lib.hid hbel
    by_cases hlt : j < fs.length
    · obtain ⟨b, off, pa, pc, ta, tc, rfl, hb, hc1, hc2, hc3, hc4, hpp, htt⟩ := HP.out j hlt
      rw [← hbel.cell (p := ⟨b, _, none⟩) hb] at hc1 hc2 hc3 hc4
      have zb : b < wr.heap.size := by omega
      have hbq := bytes_beq (fid fs j) id
      have PL : Hid ((fps fs j).length = 0 ∨ ∀ x, blk pa = some x → x < w.heap.size) := by
        by_cases h : (fps fs j).length = 0
        · exact .inl h
        · obtain ⟨b', o', rfl, h1, _⟩ := hpp 0 (by omega)
          exact .inr fun x hx => by obtain rfl : b' = x := (by simpa [blk] using hx); exact h1
      have TL : Hid ((fts fs j).length = 0 ∨ ∀ x, blk ta = some x → x < w.heap.size) := by
        by_cases h : (fts fs j).length = 0
        · exact .inl h
        · obtain ⟨b', o', rfl, h1, _⟩ := htt 0 (by omega)
          exact .inr fun x hx => by obtain rfl : b' = x := (by simpa [blk] using hx); exact h1
      have D1 := Lib.hid (hpp.below hbel)
      have D2 := Lib.hid (htt.below hbel)
      have HV : Hid (∀ x, v.ownBlock = some x → w.heap.size ≤ x) := fun x hx => (hro.row.lt x hx).1
      clear hro hbel hpp htt
      by_cases hs : fid fs j = id
      · rw [decide_eq_true hs] at hbq
        have HN := Lib.hid (cutN_no hlt hs)
        clear hs
        go_wp2
        go_roundw
        case rel => exact ⟨j + 1, v, ad, by omega, by go_num, rfl, by rw [HN.out]; exact HR.out, HB.out⟩
        case measure => simp [intOf]; omega
      · rw [decide_eq_false hs] at hbq
        have HN := Lib.hid (cutN_yes hlt hs)
        have hkl : cutN fs id j < 1048576 := by have := HN.out.2.2; have := cutL_len fs id; omega
        clear hs
        have A3 : Hid (∀ o, Below wr.heap.size wr (wr.alloc o)) := fun o => (Below.refl _ _).alloc (Nat.le_refl _) _
        go_wp2_with (at_builtin; refine wpList_append_lies _ (by rfl) _ _ _ (by rfl) w.heap.size 29 i0 _ 4 72 Tryz.underlying32 HI.out HZ0.out HZ1.out HZ2.out rfl (by omega) v (cutN fs id j) (flatF (cutL fs id) ad (cutN fs id j)) (by rfl) (HR.out.row.alloc _) ⟨wr.heap.size, 0, none⟩ 1 1 (cellsF (fg fs j) ((pa, pc), (ta, tc))) (by rfl) (by rfl) (World.news_of_block (cs := #[.string (fid fs j), .int .i64 (fkd fs j), .slice pa (fps fs j).length pc, .slice ta (fts fs j).length tc]) (t := 29) (fr := (0, 0)) (heap_alloc_new wr _)) (by simp [Value.oneCell', cellsF]) (by omega) (by unfold maxLen; omega) (by omega) (by simp; omega) (wr.heap.size + 1) (by simp) ?_; intro gg cap' wa hown1 hgrow hat hlt')
        have eg : fg (cutL fs id) (cutN fs id j) = fg fs j := HN.out.2.1
        have ep : fps (cutL fs id) (cutN fs id j) = fps fs j := by unfold fps; rw [eg]
        have et : fts (cutL fs id) (cutN fs id j) = fts fs j := by unfold fts; rw [eg]
        have HS : Hid (Row wa (fun x => x < w.heap.size) w.heap.size (.slice (some ⟨gg, 0, none⟩) (cutN fs id j + 1) cap') (cutN fs id j + 1) (cutL fs id) (plSet ad (cutN fs id j) ((pa, pc), (ta, tc)))) := by
          refine HR.out.step (Below.refl _ _) (A3.out _) (by simp) (by rw [ep]; exact D1.out) ?_ (by rw [et]; exact D2.out) ?_ (by rw [eg]; exact hown1) hgrow hat
          · rw [ep]
            exact PL.out.imp (fun h => h) fun q x hx => ⟨q x hx, by have := q x hx; omega, fun e => by have h1 := HV.out x e; have h2 := q x hx; omega⟩
          · rw [et]
            exact TL.out.imp (fun h => h) fun q x hx => ⟨q x hx, by have := q x hx; omega, fun e => by have h1 := HV.out x e; have h2 := q x hx; omega⟩
        have HG := Lib.hid hgrow
        clear hown1 hgrow hat eg ep et
        go_roundw
        case rel => exact ⟨j + 1, _, _, by omega, by go_num, rfl, by rw [HN.out.1]; exact HS.out, (HB.out.alloc hsz _).grown HG.out (by simp; omega) (fun x hx => HV.out x hx)⟩
        case measure => simp [intOf]; omega
    · obtain rfl : j = fs.length := by omega
      have HR' : Hid (Row wr (fun x => x < w.heap.size) w.heap.size v (cutL fs id).length (cutL fs id) ad) := by rw [← cutN_all fs id]; exact HR.out
      obtain ⟨a', cap', rfl, hF, _⟩ := HR'.out.reads
      have HF := Lib.hid hF
      clear hro hbel hF
      go_wp2
      go_ret
      exact ⟨⟨a', cap', rfl, HF.out⟩, HB.out⟩

set_option maxRecDepth 100000 in
set_option maxHeartbeats 4000000 in
theorem l3Copy_any (a : Option Addr) (cap : Nat) (fs : List Ft) (w : World) (hp : FeatsAt w a fs) (hl : fs.length ≤ 1048576) (hL : FeatsLen fs 1048576) (hpos : ∀ i, i < fs.length → 0 < (fps fs i).length) :
    Calls Tryz.prog 40 #[.slice a fs.length cap] w fun e w' => (∃ v, e = .returned v ∧ GotL w.heap.size w'.heap.size w' v fs) ∧ Below w.heap.size w w' := by
  obtain ⟨i0, hi, hz0, hz1, hz2⟩ := info_parts infoF
  have HI := Lib.hid hi
  have HZ0 := Lib.hid hz0
  have HZ1 := Lib.hid hz1
  have HZ2 := Lib.hid hz2
  have HP := Lib.hid hp
  have HL := Lib.hid hL
  have HQ := Lib.hid hpos
  clear hi hz0 hz1 hz2 hp hL hpos
  go_enter Tryz.func40, Tryz.ntmps40
  go_wp2
  go_loopw [3, 4] (fun s i wr => ∃ (k : Nat) (v : Value) (ad : Nat → Pl), k ≤ fs.length ∧ i = .int .i64 k ∧ v = s ∧ Row wr (fun x => w.heap.size ≤ x) w.heap.size v k fs ad ∧ Below w.heap.size w wr) (fun _ i _ => fs.length - (intOf i).toNat)
  case atStart => exact ⟨0, _, fun _ => ((none, 0), (none, 0)), Nat.zero_le _, rfl, rfl, ⟨World.ownsRow_made w #[] 0 (Nat.le_refl _) (by unfold maxLen; omega) rfl, fun _ h => absurd h (Nat.not_lt_zero _), fun _ h => absurd h (Nat.not_lt_zero _), fun _ h => absurd h (Nat.not_lt_zero _), fun _ h => absurd h (Nat.not_lt_zero _)⟩, (Below.refl _ _).alloc (Nat.le_refl _) _⟩
  case round =>
    obtain ⟨k, v, ad, hk, rfl, rfl, hro, hbel⟩ := hrel
    have hsz := hbel.size
    have HR := Lib.hid hro
    have HB := Lib.hid hbel
    by_cases hlt : k < fs.length
    · obtain ⟨b, off, pa, pc, ta, tc, rfl, hb, hc1, hc2, hc3, hc4, hpp, htt⟩ := HP.out k hlt
      rw [← hbel.cell (p := ⟨b, _, none⟩) hb] at hc1 hc2 hc3 hc4
      obtain ⟨l1, l2, l3, _⟩ := HL.out k hlt
      have h0 := HQ.out k hlt
      have D1 := Lib.hid (hpp.below hbel)
      have D2 := Lib.hid (htt.below hbel)
      have HV : Hid (∀ x, v.ownBlock = some x → w.heap.size ≤ x ∧ x < wr.heap.size) := fun x hx => hro.row.lt x hx
      clear hro hbel hpp htt
      go_wp2_with fail
      refine (l2Copy_got _ _ _ _ _ _ _ _ _ D1.out D2.out (by omega) h0 (by omega)).mono ?_
      rintro e w3 ⟨⟨v3, rfl, hg3⟩, hb3⟩
      obtain ⟨qa, qc, sa, sc, rfl, q1, q2, q3, q4⟩ := hg3
      have E1 := Lib.hid q1
      have E2 := Lib.hid q2
      have E3 := Lib.hid q3
      have E4 := Lib.hid q4
      have B3 := Lib.hid hb3
      have R3 : Hid (w3.ownsRow w.heap.size 29 4 v k (flatF fs ad k)) := ownsRow_below HR.out.row hb3
      have hz3 := hb3.size
      have A3 : Hid (∀ o, Below w3.heap.size w3 (w3.alloc o)) := fun o => (Below.refl _ _).alloc (Nat.le_refl _) _
      clear hb3 q1 q2 q3 q4 hc1 hc2 hc3 hc4
      go_wp2_with (at_builtin; refine wpList_append_lies _ (by rfl) _ _ _ (by rfl) w.heap.size 29 i0 _ 4 72 Tryz.underlying32 HI.out HZ0.out HZ1.out HZ2.out rfl (by omega) v k (flatF fs ad k) (by rfl) (R3.out.alloc _) ⟨w3.heap.size, 0, none⟩ 1 1 (cellsF (fg fs k) ((qa, qc), (sa, sc))) (by rfl) (by rfl) (World.news_of_block (cs := #[.string (fid fs k), .int .i64 (fkd fs k), .slice qa (fps fs k).length qc, .slice sa (fts fs k).length sc]) (t := 29) (fr := (0, 0)) (heap_alloc_new w3 _)) (by simp [Value.oneCell', cellsF]) (by omega) (by unfold maxLen; omega) (by omega) (by simp; omega) (w3.heap.size + 1) (by simp) ?_; intro gg cap' wa hown1 hgrow hat hlt')
      have HS : Hid (Row wa (fun x => w.heap.size ≤ x) w.heap.size (.slice (some ⟨gg, 0, none⟩) (k + 1) cap') (k + 1) fs (plSet ad k ((qa, qc), (sa, sc)))) := by
        refine HR.out.step B3.out (A3.out _) (by simp) E1.out ?_ E2.out ?_ hown1 hgrow hat
        · exact E3.out.imp (fun h => h) fun q x hx => ⟨by have := (q x hx).1; omega, (q x hx).2, fun e => by have h1 := (HV.out x e).2; have h2 := (q x hx).1; omega⟩
        · exact E4.out.imp (fun h => h) fun q x hx => ⟨by have := (q x hx).1; omega, (q x hx).2, fun e => by have h1 := (HV.out x e).2; have h2 := (q x hx).1; omega⟩
      have HG := Lib.hid hgrow
      clear hown1 hgrow hat
      go_roundw
      case rel => exact ⟨k + 1, _, _, by omega, by go_num, rfl, HS.out, ((HB.out.trans (B3.out.mono hsz)).alloc (by omega) _).grown HG.out (by simp; omega) (fun x hx => (HV.out x hx).1)⟩
      case measure => simp [intOf]; omega
    · obtain rfl : k = fs.length := by omega
      have HG := Lib.hid HR.out.got
      clear hro hbel
      go_wp2
      go_ret
      exact ⟨⟨v, rfl, HG.out⟩, HB.out⟩

theorem cutL_pos {fs : List Ft} (id : ByteArray) (hok : sheetOk fs = true) : ∀ i, i < (cutL fs id).length → 0 < (fps (cutL fs id) i).length := by
  intro i hi
  have hm : (cutL fs id)[i] ∈ fs := (List.mem_filter.1 (List.getElem_mem hi)).1
  obtain ⟨j, hj, e⟩ := List.getElem_of_mem hm
  have := ftOk_pts (good_ok hok hj)
  unfold fps at this ⊢
  rwa [fg_get hi, ← e, ← fg_get hj]

set_option maxRecDepth 100000 in
set_option maxHeartbeats 4000000 in
theorem specSheetCut_any (a : Option Addr) (cap : Nat) (fs : List Ft) (id : ByteArray) (w : World) (hp : FeatsAt w a fs) (hl : fs.length ≤ 1048576) (ht : FeatsLen fs 1048576) :
    Calls Tryz.prog 20 #[.slice a fs.length cap, .string id] w fun e w' => (∃ v, e = .returned (.tuple #[v, .bool (getHas fs id)]) ∧ GotL w.heap.size w'.heap.size w' v (cutR fs id)) ∧ Below w.heap.size w w' := by
  have HP := Lib.hid hp
  have HL := Lib.hid ht
  clear hp ht
  go_enter Tryz.func20, Tryz.ntmps20
  go_wp2_with fail
  refine (specSheetOk_any _ _ _ _ HP.out hl HL.out).mono ?_
  rintro e w1 ⟨rfl, hb1⟩
  have B1 := Lib.hid hb1
  clear hb1
  by_cases hok : sheetOk fs = true
  · rw [hok]
    go_wp2_with fail
    refine (l3Find_any _ _ _ _ _ (HP.out.below B1.out) hl).mono ?_
    rintro e w2 ⟨rfl, rfl⟩
    by_cases hlt : firstF fs id < fs.length
    · have hfv : findV fs id = (firstF fs id : Int) := by unfold findV; rw [if_pos hlt]
      have HH : Hid (getHas fs id = true) := by show _ = _; simp [getHas, hok, hlt]
      have HG : Hid (cutR fs id = cutL fs id) := by show _ = _; unfold cutR; rw [HH.out, if_pos rfl]
      have HQ := Lib.hid (cutL_pos id hok)
      have hcl := cutL_len fs id
      rw [hfv]
      generalize firstF fs id = i at *
      clear hok
      go_wp2_with fail
      refine (l3Cut_any _ _ _ _ _ (HP.out.below B1.out) hl).mono ?_
      rintro e w2 ⟨⟨a2, cap2, rfl, hF⟩, hb2⟩
      have B2 : Hid (Below w.heap.size w w2) := B1.out.trans (hb2.mono B1.out.size)
      have HF := Lib.hid hF
      clear hb2 hF
      go_wp2_with fail
      refine (l3Copy_any _ _ _ _ HF.out (by omega) (cutL_lens id HL.out) HQ.out).mono ?_
      rintro e w3 ⟨⟨v, rfl, hg⟩, hb3⟩
      have B3 : Hid (Below w.heap.size w w3) := B2.out.trans (hb3.mono B2.out.size)
      have GG : Hid (GotL w.heap.size w3.heap.size w3 v (cutL fs id)) := hg.mono B2.out.size (Nat.le_refl _)
      clear hb3 hg
      go_wp2
      go_ret2
      rw [HH.out, HG.out]
      exact ⟨⟨v, rfl, GG.out⟩, B3.out⟩
    · have hfv : findV fs id = -1 := by unfold findV; rw [if_neg hlt]
      have HH : Hid (getHas fs id = false) := by show _ = _; simp [getHas, hlt]
      have HG : Hid (cutR fs id = []) := by show _ = _; unfold cutR; rw [HH.out]; rfl
      rw [hfv]
      clear hok
      go_wp2
      go_ret2
      rw [HH.out, HG.out]
      exact ⟨⟨_, rfl, gotL_nil _ _ _ _ _⟩, B1.out.alloc B1.out.size _⟩
  · have hok' : sheetOk fs = false := by simpa using hok
    have HH : Hid (getHas fs id = false) := by show _ = _; simp [getHas, hok']
    have HG : Hid (cutR fs id = []) := by show _ = _; unfold cutR; rw [HH.out]; rfl
    rw [hok']
    clear hok hok'
    go_wp2
    go_ret2
    rw [HH.out, HG.out]
    exact ⟨⟨_, rfl, gotL_nil _ _ _ _ _⟩, B1.out.alloc B1.out.size _⟩
end Go.Proofs.YtjphlpjippojiaaGreat

namespace Go.Proofs.YtjphlpjippojiaaGreat
set_option linter.unusedVariables false
open Go.ChangeShapes Go.WideShapes Go.ChangeAt Go.RowKit

theorem lmkTo_full {fs : List Ft} (k : Int) {i : Nat} (h : i < fs.length) : fid (lmkTo fs k fs.length) i = markT (lmk fs k i) ∧ fkd (lmkTo fs k fs.length) i = lmk fs k i + 1 ∧ fps (lmkTo fs k fs.length) i = marks (lmk fs k i + 2) (fps fs i).length ∧ fts (lmkTo fs k fs.length) i = marksT (lmk fs k i + 2 + 2 * ((fps fs i).length : Int)) (fts fs i).length := by
  unfold fid fkd
  have e : fg (lmkTo fs k fs.length) i = lmkF fs k i := by rw [lmkTo_at k _ h, if_pos h]
  have e3 : fps (lmkTo fs k fs.length) i = (lmkF fs k i).2.2.1 := by rw [← e]; rfl
  have e4 : fts (lmkTo fs k fs.length) i = (lmkF fs k i).2.2.2 := by rw [← e]; rfl
  rw [e, e3, e4]
  exact ⟨rfl, rfl, rfl, rfl⟩

/-- a list that lies in memory of its own between these blocks -/
def ListH (lo hi : Nat) (w : World) (a : Option Addr) (gs : List Ft) : Prop :=
  gs = [] ∨ ∃ b ad, a = some ⟨b, 0, none⟩ ∧ Lies w b 0 gs ad ∧ Sep b gs.length ad ∧ ∀ x, blocksOf b gs.length ad x → lo ≤ x ∧ x < hi

theorem Built.listH {w : World} {lo : Nat} {v : Value} {gs : List Ft} {ad : Nat → Pl} (h : Built w lo v gs.length gs ad) : ∃ a cap, v = .slice a gs.length cap ∧ ListH lo w.heap.size w a gs := by
  obtain ⟨h1, ⟨h2, h3⟩ | ⟨b, cap, cur, rfl, _⟩⟩ := h.row
  · exact ⟨none, 0, by rw [h2, h3], .inl (List.eq_nil_of_length_eq_zero h3)⟩
  · exact ⟨some ⟨b, 0, none⟩, cap, rfl, .inr ⟨b, ad, rfl, h.lies.1, h.lies.2.1, h.lies.2.2⟩⟩

theorem ListH.reads {lo hi : Nat} {w : World} {a : Option Addr} {gs : List Ft} (h : ListH lo hi w a gs) : FeatsAt w a gs := by
  rcases h with rfl | ⟨b, ad, rfl, h, _⟩
  · exact FeatsAt.nil _ _
  · exact h.reads

theorem ListH.turned {lo hi : Nat} {w w' : World} {a : Option Addr} {gs : List Ft} {S : Nat → Prop} (h : ListH lo hi w a gs) (ht : Turned w w' S) (hS : ∀ x, lo ≤ x → x < hi → ¬ S x) : ListH lo hi w' a gs := by
  rcases h with rfl | ⟨b, ad, rfl, h, h2, h3⟩
  · exact .inl rfl
  · exact .inr ⟨b, ad, rfl, h.turned ht (fun x hx => hS x (h3 x hx).1 (h3 x hx).2), h2, h3⟩

theorem ListH.below {lo hi : Nat} {w w' : World} {a : Option Addr} {gs : List Ft} (h : ListH lo hi w a gs) (hb : Below w.heap.size w w') : ListH lo hi w' a gs := h.turned (S := fun _ => False) (Turned.of_below hb) fun _ _ _ h => h

theorem GotL.reads {lo hi : Nat} {w : World} {a : Option Addr} {cap : Nat} {gs : List Ft} (h : GotL lo hi w (.slice a gs.length cap) gs) : FeatsAt w a gs := by
  obtain ⟨a', cap', e, h, _⟩ := h
  obtain ⟨rfl, rfl⟩ : a = a' ∧ cap = cap' := by simpa using e
  exact h

set_option maxRecDepth 100000 in
theorem markFeatS_nil (a : Option Addr) (cap : Nat) (k : Int) (w : World) :
    Calls Tryz.prog 12 #[.slice a 0 cap, .int .i64 k] w fun e w' => e = .returned (.int .i64 k) ∧ w' = w := by
  go_enter Tryz.func12, Tryz.ntmps12
  go_wp2
  go_loop [1, 5] (fun s1 i => s1 = .int .i64 k ∧ i = .int .i64 0) (fun _ _ => 0)
  case atStart => exact ⟨rfl, rfl⟩
  case round =>
    obtain ⟨rfl, rfl⟩ := hrel
    go_wp2
    go_ret
    exact ⟨rfl, rfl⟩

theorem markFeatS_list (lo hi : Nat) (a : Option Addr) (cap : Nat) (gs : List Ft) (k : Int) (w : World) (hl : gs.length ≤ 1048576) (hL : FeatsLen gs 1048576) (h0 : 0 ≤ k) (h4 : k ≤ 4) (h : ListH lo hi w a gs) :
    Calls Tryz.prog 12 #[.slice a gs.length cap, .int .i64 k] w fun e w' => e = .returned (.int .i64 (lmk gs k gs.length)) ∧ FeatsAt w' a (lmkTo gs k gs.length) ∧ Turned w w' (fun x => lo ≤ x ∧ x < hi) := by
  rcases h with rfl | ⟨b, ad, rfl, h, h2, h3⟩
  · refine (markFeatS_nil a cap k w).mono fun e w' ⟨he, hw⟩ => ?_
    subst hw
    exact ⟨he, FeatsAt.nil _ _, Turned.refl _ _⟩
  · refine (markFeatS_some b 0 cap gs ad k w hl hL h0 h4 h h2).mono fun e w' ⟨he, hlie, ht⟩ => ⟨he, hlie.reads, ht.os, ht.tape, ht.output, ht.size, fun x hx hn => ht.block x hx fun hb => hn (h3 x hb)⟩

set_option maxRecDepth 100000 in
set_option maxHeartbeats 4000000 in
theorem heldFeatS_any (a : Option Addr) (cap : Nat) (fs : List Ft) (k : Int) (w : World) (hp : FeatsAt w a (lmkTo fs k fs.length)) (hl : fs.length ≤ 1048576) (hL : FeatsLen fs 1048576) (h0 : 0 ≤ k) (h4 : k ≤ 4) :
    Calls Tryz.prog 19 #[.slice a fs.length cap, .int .i64 k] w fun e w' => e = .returned (.int .i64 (lmk fs k fs.length)) ∧ Below w.heap.size w w' := by
  have HP := Lib.hid hp
  have HL := Lib.hid hL
  clear hp hL
  go_enter Tryz.func19, Tryz.ntmps19
  go_wp2
  go_loopw [1, 5] (fun q i wr => ∃ j : Nat, j ≤ fs.length ∧ i = .int .i64 j ∧ q = .int .i64 (lmk fs k j) ∧ Below w.heap.size w wr) (fun _ i _ => fs.length - (intOf i).toNat)
  case atStart => exact ⟨0, Nat.zero_le _, rfl, rfl, Below.refl _ _⟩
  case round =>
    obtain ⟨j, hj, rfl, rfl, hbel⟩ := hrel
    have HB := Lib.hid hbel
    by_cases hlt : j < fs.length
    · obtain ⟨b, off, pa, pc, ta, tc, rfl, hb, d1, d2, d3, d4, hpp, htt⟩ := HP.out j (by rw [lmkTo_len]; exact hlt)
      obtain ⟨f1, f2, f3, f4⟩ := lmkTo_full k hlt
      rw [f3, marks_len] at d3
      rw [f4, marksT_len] at d4
      rw [f3] at hpp
      rw [f4] at htt
      rw [f1] at d1
      rw [f2] at d2
      rw [← hbel.cell (p := ⟨b, _, none⟩) hb] at d1 d2 d3 d4
      obtain ⟨k0, k1⟩ := lmk_le h0 h4 HL.out j hj
      obtain ⟨l1, l2, l3, l4⟩ := HL.out j hlt
      have D1 := Lib.hid (hpp.below hbel)
      have D2 := Lib.hid (htt.below hbel)
      have HN : Hid (lmk fs k (j + 1) = lmk fs k j + 2 + 2 * ((fps fs j).length : Int) + 2 * ((fts fs j).length : Int)) := rfl
      clear hbel hpp htt l4 f1 f2 f3 f4
      generalize lmk fs k j = m at *
      have e1 : ((markT m).toList == (markT m).toList) = true := by simp
      have e2 : (m + 1 != m + 1) = false := by simp
      go_upto_region 4 with (fail)
      go_cut [19] (fun s19 wx => s19 = .bool false ∧ Below wr.heap.size wr wx)
      case first =>
        go_region_held3 (fun w' => w'.cell? ⟨b, off + j * 4, none⟩ = some (.string (markT m)) ∧ Below wr.heap.size wr w')
          (first
            | exact ⟨d1, (Below.refl _ _).drew⟩
            | (go_split_ands
               rename_i hS0 hS1
               exact ⟨cell_later hbn hS0, hS1.trans (hbn.mono hS1.size)⟩))
          (first
            | (go_at_call 30
               refine (markText_any _ _ (by omega)).mono ?_
               rintro e wn ⟨rfl, hbn⟩))
        all_goals (go_wp2_with fail; go_meet; go_split_ands; exact ⟨by simp, by assumption⟩)
      case rest =>
        obtain ⟨rfl, hB⟩ := hcut
        replace d2 := cell_later hB d2
        replace d3 := cell_later hB d3
        replace d4 := cell_later hB d4
        replace D1 := Lib.hid (D1.out.below hB)
        replace D2 := Lib.hid (D2.out.below hB)
        have B1 : Hid (Below w.heap.size w _) := HB.out.trans (hB.mono HB.out.size)
        clear hB d1 e1
        go_wp2_with fail
        refine (heldPtS_any _ _ _ _ _ (show PtsAt _ _ (marks (m + 1 + 1) _) by rw [show m + 1 + 1 = m + 2 by omega]; exact D1.out) (by omega) (by omega) (by omega)).mono ?_
        rintro e w2 ⟨rfl, rfl⟩
        go_wp2_with fail
        refine (heldTagS_any _ _ _ _ _ (show TagsAt _ _ (marksT (m + 1 + 1 + 2 * ((fps fs j).length : Int)) _) by rw [show m + 1 + 1 = m + 2 by omega]; exact D2.out) (by omega) (by omega) (by omega)).mono ?_
        rintro e w3 ⟨rfl, hb3⟩
        have B3 : Hid (Below w.heap.size w w3) := B1.out.trans (hb3.mono B1.out.size)
        clear hb3 d2 d3 d4
        go_wp2
        go_roundw
        case rel => exact ⟨j + 1, by omega, by go_num, congrArg (Value.int .i64) (by rw [HN.out]; omega), B3.out⟩
        case measure => simp [intOf]; omega
    · obtain rfl : j = fs.length := by omega
      clear hbel
      go_wp2
      go_ret
      exact ⟨rfl, HB.out⟩
end Go.Proofs.YtjphlpjippojiaaGreat

namespace Go.Proofs.YtjphlpjippojiaaGreat
set_option linter.unusedVariables false
open Go.ChangeShapes Go.WideShapes Go.ChangeAt Go.RowKit Go.Deep Go.Maps

/-- a name, as bytes -/
def kf (f : Ft) : List UInt8 := f.1.data.toList

/-- a thing put among things, as the model puts it -/
def putL : List Ft → Ft → List Ft
  | [], t => [t]
  | u :: us, t => if kf t ≤ kf u then t :: (u :: us).filter (fun s => decide (kf s ≠ kf t)) else u :: putL us t

/-- what is still to be put -/
def putM : List Ft → Ft → Bool → List Ft
  | [], t, d => if d then [] else [t]
  | u :: us, t, d => (if !d && decide (kf t ≤ kf u) then [t] else []) ++ ((if kf u = kf t then [] else [u]) ++ putM us t (d || decide (kf t ≤ kf u)))

theorem putM_true (t : Ft) : ∀ us : List Ft, putM us t true = us.filter (fun s => decide (kf s ≠ kf t))
  | [] => rfl
  | u :: us => by
    by_cases h : kf u = kf t <;> simp [putM, putM_true t us, h]

theorem putM_false (t : Ft) : ∀ us : List Ft, putM us t false = putL us t
  | [] => rfl
  | u :: us => by
    unfold putM putL
    by_cases h : kf t ≤ kf u
    · rw [if_pos h]
      by_cases h2 : kf u = kf t <;> simp [h, h2, putM_true]
    · rw [if_neg h]
      have h2 : kf u ≠ kf t := fun e => h (by rw [e]; exact List.le_refl _)
      simp [h, h2, putM_false t us]

/-- the rounds that are left make the list whole -/
def PutsL (fs : List Ft) (t : Ft) (j : Nat) (o : List Ft) (d : Bool) : Prop := o ++ putM (fs.drop j) t d = putL fs t

theorem PutsL.start (fs : List Ft) (t : Ft) : PutsL fs t 0 [] false := by simp [PutsL, putM_false]

theorem PutsL.step {fs : List Ft} {t : Ft} {j : Nat} {o : List Ft} {d : Bool} (h : PutsL fs t j o d) (hj : j < fs.length) :
    PutsL fs t (j + 1) (o ++ (if !d && decide (kf t ≤ kf (fg fs j)) then [t] else []) ++ (if kf (fg fs j) = kf t then [] else [fg fs j])) (d || decide (kf t ≤ kf (fg fs j))) := by
  unfold PutsL at *
  rw [List.drop_eq_getElem_cons hj, putM, ← fg_get hj] at h
  rw [← h]
  simp [List.append_assoc]

theorem PutsL.done {fs : List Ft} {t : Ft} {o : List Ft} {d : Bool} (h : PutsL fs t fs.length o d) : o ++ (if d then [] else [t]) = putL fs t := by
  unfold PutsL at h
  rw [List.drop_length] at h
  exact h

theorem putL_len (t : Ft) : ∀ us : List Ft, (putL us t).length ≤ us.length + 1
  | [] => by simp [putL]
  | u :: us => by
    unfold putL
    split
    · have := List.length_filter_le (fun s => decide (kf s ≠ kf t)) (u :: us)
      rw [List.length_cons]
      omega
    · have := putL_len t us
      simp only [List.length_cons]
      omega

theorem putL_mem {s t : Ft} : ∀ {us : List Ft}, s ∈ putL us t → s = t ∨ s ∈ us
  | [], h => by simpa [putL] using h
  | u :: us, h => by
    unfold putL at h
    split at h
    · simp only [List.mem_cons, List.mem_filter] at h
      rcases h with h | h
      · exact .inl h
      · exact .inr (by simpa using h.1)
    · rcases List.mem_cons.1 h with h | h
      · exact .inr (by rw [h]; exact .head _)
      · exact (putL_mem h).imp (fun h => h) fun h => .tail _ h

theorem putL_lens {fs : List Ft} {t : Ft} {m : Int} (h : FeatsLen fs m) (ht : (t.1.size : Int) ≤ m ∧ (t.2.2.1.length : Int) ≤ m ∧ (t.2.2.2.length : Int) ≤ m ∧ TagsLen t.2.2.2 m) : FeatsLen (putL fs t) m := featsLen_iff.2 fun f hf => by
  rcases putL_mem hf with rfl | h'
  · exact ht
  · exact featsLen_iff.1 h f h'

theorem putL_pos {fs : List Ft} {t : Ft} (h : ∀ f ∈ fs, 0 < f.2.2.1.length) (ht : 0 < t.2.2.1.length) : ∀ f ∈ putL fs t, 0 < f.2.2.1.length := fun f hf => by
  rcases putL_mem hf with rfl | h'
  · exact ht
  · exact h f h'

/-- the map's entries with one put tell the things with one put -/
theorem ents_put {w : World} {e : En} {t : Ft} (he : e.1 = t.1) (hv : FeatV w e.2 t) : ∀ {es : List En} {fs : List Ft}, Ents w es fs → Ents w (putF es e) (putL fs t)
  | [], [], _ => by
    unfold putF putL
    exact ents_cons.2 ⟨⟨he, hv⟩, rfl, fun i hi => absurd hi (Nat.not_lt_zero _)⟩
  | [], f :: fs, h => absurd h.1 (by simp)
  | e' :: es, [], h => absurd h.1 (by simp)
  | e' :: es, f :: fs, h => by
    obtain ⟨⟨h1, h2⟩, h3⟩ := ents_cons.1 h
    have k1 : klF e' = kf f := by unfold klF kf; rw [h1]
    have k2 : klF e = kf t := by unfold klF kf; rw [he]
    unfold putF putL
    rw [k1, k2]
    by_cases hle : kf t ≤ kf f
    · rw [if_pos hle, if_pos hle]
      have hc := ents_cut t.1 h
      have c1 : cutF (e' :: es) t.1.data.toList = (e' :: es).filter (fun s => decide (klF s ≠ kf t)) := rfl
      have c2 : cutL (f :: fs) t.1 = (f :: fs).filter (fun s => decide (kf s ≠ kf t)) := by
        unfold cutL
        refine List.filter_congr fun x _ => ?_
        have : (x.1 ≠ t.1) ↔ (kf x ≠ kf t) := by
          constructor
          · intro h e
            refine h ?_
            rw [← toList_inj, ByteArray.toList_eq, ByteArray.toList_eq]
            exact e
          · intro h e
            exact h (by unfold kf; rw [e])
        exact decide_eq_decide.2 this
      rw [← c1, ← c2]
      exact ents_cons.2 ⟨⟨he, hv⟩, hc⟩
    · rw [if_neg hle, if_neg hle]
      exact ents_cons.2 ⟨⟨h1, h2⟩, ents_put he hv h3⟩

theorem fg_snoc (o : List Ft) (x : Ft) : fg (o ++ [x]) o.length = x := by simp [fg]
theorem fg_snoc_lt {o : List Ft} (x : Ft) {i : Nat} (h : i < o.length) : fg (o ++ [x]) i = fg o i := by simp [fg, List.getD, h, Nat.lt_succ_of_lt h]

theorem flatF_snoc (o : List Ft) (x : Ft) (ad : Nat → Pl) : ∀ k, k ≤ o.length → flatF (o ++ [x]) ad k = flatF o ad k
  | 0, _ => rfl
  | k + 1, h => by rw [flatF_succ, flatF_succ, flatF_snoc o x ad k (by omega), fg_snoc_lt x (by omega)]

/-- a thing appended to a row -/
theorem Row.snoc {wr wa : World} {R : Nat → Prop} {lo : Nat} {v : Value} {o : List Ft} {ad : Nat → Pl} {x : Ft} {pa ta : Option Addr} {pc tc gg cap' : Nat} {O : Obj} (h : Row wr R lo v o.length o ad)
    (hp : PtsAt wr pa x.2.2.1) (hpf : x.2.2.1.length = 0 ∨ ∀ y, blk pa = some y → R y ∧ y < wr.heap.size ∧ v.ownBlock ≠ some y) (ht : TagsAt wr ta x.2.2.2) (htf : x.2.2.2.length = 0 ∨ ∀ y, blk ta = some y → R y ∧ y < wr.heap.size ∧ v.ownBlock ≠ some y)
    (hrow : wa.ownsRow lo 29 4 (.slice (some ⟨gg, 0, none⟩) (o.length + 1) cap') (o.length + 1) (flatF o ad o.length ++ cellsF x ((pa, pc), (ta, tc)))) (hg : (wr.alloc O).grownBy wa v.ownBlock) (hat : v.ownBlock = some gg ∨ gg = wr.heap.size + 1) :
    Row wa R lo (.slice (some ⟨gg, 0, none⟩) (o.length + 1) cap') (o ++ [x]).length (o ++ [x]) (plSet ad o.length ((pa, pc), (ta, tc))) := by
  have e1 := fg_snoc o x
  have h' : Row wr R lo v o.length (o ++ [x]) ad := by
    have ep : ∀ i, i < o.length → fps (o ++ [x]) i = fps o i := fun i hi => by unfold fps; rw [fg_snoc_lt x hi]
    have et : ∀ i, i < o.length → fts (o ++ [x]) i = fts o i := fun i hi => by unfold fts; rw [fg_snoc_lt x hi]
    refine ⟨by rw [flatF_snoc o x ad _ (Nat.le_refl _)]; exact h.row, fun i hi => by rw [ep i hi]; exact h.pts i hi, fun i hi => by rw [et i hi]; exact h.tags i hi, fun i hi => by rw [ep i hi]; exact h.prng i hi, fun i hi => by rw [et i hi]; exact h.trng i hi⟩
  have p1 : fps (o ++ [x]) o.length = x.2.2.1 := by unfold fps; rw [e1]
  have t1 : fts (o ++ [x]) o.length = x.2.2.2 := by unfold fts; rw [e1]
  rw [show (o ++ [x]).length = o.length + 1 by simp]
  exact h'.step (w3 := wr) (wb := wr.alloc O) (p := ((pa, pc), (ta, tc))) (Below.refl _ _) ((Below.refl _ _).alloc (Nat.le_refl _) _) (by simp) (by rw [p1]; exact hp) (by rw [p1]; exact hpf) (by rw [t1]; exact ht) (by rw [t1]; exact htf) (by rw [flatF_snoc o x ad _ (Nat.le_refl _), e1]; exact hrow) hg hat
end Go.Proofs.YtjphlpjippojiaaGreat

namespace Go.Proofs.YtjphlpjippojiaaGreat
set_option linter.unusedVariables false
open Go.ChangeShapes Go.WideShapes Go.ChangeAt Go.RowKit Go.Deep Go.Maps

/-- is it a thing -/
def ftOk1 (f : Ft) : Bool := featOk f.1 f.2.1 f.2.2.1 f.2.2.2
/-- is there a map with it -/
def putHas (fs : List Ft) (f : Ft) : Bool := sheetOk fs && ftOk1 f && decide ((putL fs f).length ≤ 8)
/-- what the map with it is -/
def putRL (fs : List Ft) (f : Ft) : List Ft := if putHas fs f then putL fs f else []

/-- a thing whose texts and lists are not too long -/
def FtLen (f : Ft) (m : Int) : Prop := (f.1.size : Int) ≤ m ∧ (f.2.2.1.length : Int) ≤ m ∧ (f.2.2.2.length : Int) ≤ m ∧ TagsLen f.2.2.2 m

/-- how many entries a map has that tells these -/
theorem size_tells {w : World} {b n : Nat} {D : DataW Value} {us : List En} (hown : w.ownsMap Tryz.prog 9 heldElem b n D) (ht : TellsF D us) : Maps.size D = us.length := by
  have h1 := (sorted_toldF hown ht (List.Perm.refl (strKeys D))).2
  have h2 : (strKeys D).length = Maps.size D := by
    obtain ⟨es, rfl⟩ := hown.isMap
    simp [strKeys, Maps.size]
  omega

set_option maxRecDepth 100000 in
set_option maxHeartbeats 4000000 in
theorem implSheetPut_any (a : Option Addr) (cap : Nat) (fs : List Ft) (f : Ft) (pa ta : Option Addr) (pc tc : Nat) (w : World) (hp : FeatsAt w a fs) (hl : fs.length ≤ 1048576) (ht : FeatsLen fs 1048576) (hpp : PtsAt w pa f.2.2.1) (htt : TagsAt w ta f.2.2.2) (hfl : FtLen f 1048576) :
    Calls Tryz.prog 18 #[.slice a fs.length cap, .agg #[.string f.1, .int .i64 f.2.1, .slice pa f.2.2.1.length pc, .slice ta f.2.2.2.length tc]] w (ListAns w (putRL fs f) (putHas fs f)) := by
  have HP := Lib.hid hp
  have HL := Lib.hid ht
  have PP := Lib.hid hpp
  have TT := Lib.hid htt
  have FL := Lib.hid hfl
  obtain ⟨x1, x2, x3, x4⟩ := hfl
  have X4 := Lib.hid x4
  clear hp ht hpp htt x4
  have A0 : Hid (∀ o, Below w.heap.size w (w.alloc o)) := fun o => (Below.refl _ _).alloc (Nat.le_refl _) _
  go_enter Tryz.func18, Tryz.ntmps18
  go_wp2_with fail
  refine (implSheetOk_any _ _ _ _ (HP.out.below (A0.out _)) hl HL.out).mono ?_
  rintro e w1 ⟨rfl, hb1⟩
  have C1 := Lib.hid ((Box4.new w (.string f.1) (.int .i64 f.2.1) (.slice pa f.2.2.1.length pc) (.slice ta f.2.2.2.length tc) 29).later hb1)
  have B1 : Hid (Below w.heap.size w w1) := (A0.out _).trans (hb1.mono (by simp))
  clear hb1
  by_cases hok : sheetOk fs = true
  · rw [hok]
    obtain ⟨c0, c1, c2, c3⟩ := C1.out
    go_wp2_with fail
    clear c0 c1 c2 c3
    refine (implFeatOk_any _ _ _ _ _ _ _ _ _ (PP.out.below B1.out) (TT.out.below B1.out) (by omega) (by omega) (by omega) X4.out).mono ?_
    rintro e w2 ⟨rfl, hb2⟩
    replace C1 := Lib.hid (C1.out.later hb2)
    have B2 : Hid (Below w.heap.size w w2) := B1.out.trans (hb2.mono B1.out.size)
    clear hb2
    by_cases hfo : featOk f.1 f.2.1 f.2.2.1 f.2.2.2 = true
    · rw [hfo]
      go_wp2_with fail
      refine (featsByName_any _ _ _ _ (HP.out.below B2.out) hl HL.out).mono ?_
      rintro e w3 ⟨rfl, ⟨es, he, ho⟩, hb3⟩
      replace C1 := Lib.hid (C1.out.later hb3)
      have B3 : Hid (Below w.heap.size w w3) := B2.out.trans (hb3.mono B2.out.size)
      have HE := Lib.hid he
      have BB3 := Lib.hid hb3
      have hz2 := B2.out.size
      have hz3 := hb3.size
      have holt := ho.lt
      have TL := Lib.hid ((ok_tells he hok).put (mapF_isMap es) (f.1, .agg #[.string f.1, .int .i64 f.2.1, .slice pa f.2.2.1.length pc, .slice ta f.2.2.2.length tc]))
      have hkey : keyOf Tryz.prog 9 (.string f.1) = some (keyL f.1) := Go.WideMaps.keyOf_string_mk Tryz.underlying9 (by unfold maxLen; omega)

      clear hb3
      have HFO : Hid (ftOk1 f = true) := hfo
      have HOK := Lib.hid hok
      clear hok hfo
      obtain ⟨c0, c1, c2, c3⟩ := C1.out
      by_cases hle : (putL fs f).length ≤ 8
      · have HH : Hid (putHas fs f = true) := by show _ = _; simp [putHas, HOK.out, HFO.out, hle]
        have HG : Hid (putRL fs f = putL fs f) := by show _ = _; unfold putRL; rw [HH.out, if_pos rfl]
        have hnn : ¬ (8 : Int) < ((putL fs f).length : Int) := by omega
        go_wp2_with (first | fail | (at_mapUpdate; refine wpList_mapUpdate_own _ rfl _ _ _ 54 rfl 9 29 keyT Tryz.underlying54 _ w2.heap.size fs.length (mapF es) rfl ho (by unfold maxLen; omega) _ _ _ rfl rfl hkey (.held (.agg #[.string f.1, .int .i64 f.2.1, .slice pa f.2.2.1.length pc, .slice ta f.2.2.2.length tc])) [] rfl ?_; intro w4 hown4 hgrow4; have B4 : Hid (Below w2.heap.size w2 w4) := BB3.out.grown hgrow4 (by omega) (fun j e => by obtain rfl : w2.heap.size = j := (by simpa using e); exact Nat.le_refl _); have EE : Hid (Ents w4 (putF es (f.1, .agg #[.string f.1, .int .i64 f.2.1, .slice pa f.2.2.1.length pc, .slice ta f.2.2.2.length tc])) (putL fs f)) := ents_put rfl ⟨pa, pc, ta, tc, rfl, (PP.out.below B2.out).below B4.out, (TT.out.below B2.out).below B4.out⟩ (HE.out.below B4.out); have O4 := Lib.hid hown4; have hlen := hown4.len Tryz.underlying54 3; rw [size_tells hown4 TL.out, EE.out.1] at hlen; clear hown4 hgrow4 c0 c1 c2 c3))
        refine (featsInOrder_any w2.heap.size _ _ _ (putL fs f) _ O4.out TL.out EE.out (by omega) (putL_lens HL.out FL.out)).mono ?_
        rintro e w5 ⟨⟨v, ad, rfl, hbu⟩, hl5, hb5⟩
        have B5 : Hid (Below w.heap.size w w5) := (B2.out.trans (B4.out.mono hz2)).trans (hb5.mono (Nat.le_trans hz2 B4.out.size))
        have HBu : Hid (Built w5 w.heap.size v (putL fs f).length (putL fs f) ad) := hbu.mono (Nat.le_trans hz2 B4.out.size)
        clear hbu hb5 hlen
        go_wp2
        go_ret2
        rw [HH.out, HG.out]
        exact ⟨⟨v, ad, rfl, HBu.out⟩, B5.out⟩
      · have HH : Hid (putHas fs f = false) := by show _ = _; simp [putHas, hle]
        have HG : Hid (putRL fs f = []) := by show _ = _; unfold putRL; rw [HH.out]; rfl
        have hnn : (8 : Int) < ((putL fs f).length : Int) := by omega
        go_wp2_with (first | fail | (at_mapUpdate; refine wpList_mapUpdate_own _ rfl _ _ _ 54 rfl 9 29 keyT Tryz.underlying54 _ w2.heap.size fs.length (mapF es) rfl ho (by unfold maxLen; omega) _ _ _ rfl rfl hkey (.held (.agg #[.string f.1, .int .i64 f.2.1, .slice pa f.2.2.1.length pc, .slice ta f.2.2.2.length tc])) [] rfl ?_; intro w4 hown4 hgrow4; have B4 : Hid (Below w2.heap.size w2 w4) := BB3.out.grown hgrow4 (by omega) (fun j e => by obtain rfl : w2.heap.size = j := (by simpa using e); exact Nat.le_refl _); have EE : Hid (Ents w4 (putF es (f.1, .agg #[.string f.1, .int .i64 f.2.1, .slice pa f.2.2.1.length pc, .slice ta f.2.2.2.length tc])) (putL fs f)) := ents_put rfl ⟨pa, pc, ta, tc, rfl, (PP.out.below B2.out).below B4.out, (TT.out.below B2.out).below B4.out⟩ (HE.out.below B4.out); have hlen := hown4.len Tryz.underlying54 3; rw [size_tells hown4 TL.out, EE.out.1] at hlen; clear hown4 hgrow4 c0 c1 c2 c3))
        go_ret2
        rw [HH.out, HG.out]
        exact ⟨⟨_, fun _ => ((none, 0), (none, 0)), rfl, built_none _ _ _ _⟩, B2.out.trans (B4.out.mono hz2)⟩
    · have hfo' : featOk f.1 f.2.1 f.2.2.1 f.2.2.2 = false := by simpa using hfo
      have HH : Hid (putHas fs f = false) := by show _ = _; simp [putHas, ftOk1, hfo']
      have HG : Hid (putRL fs f = []) := by show _ = _; unfold putRL; rw [HH.out]; rfl
      rw [hfo']
      clear hok hfo hfo'
      go_wp2
      go_ret2
      rw [HH.out, HG.out]
      exact ⟨⟨_, fun _ => ((none, 0), (none, 0)), rfl, built_none _ _ _ _⟩, B2.out⟩
  · have hok' : sheetOk fs = false := by simpa using hok
    have HH : Hid (putHas fs f = false) := by show _ = _; simp [putHas, hok']
    have HG : Hid (putRL fs f = []) := by show _ = _; unfold putRL; rw [HH.out]; rfl
    rw [hok']
    clear hok hok'
    go_wp2
    go_ret2
    rw [HH.out, HG.out]
    exact ⟨⟨_, fun _ => ((none, 0), (none, 0)), rfl, built_none _ _ _ _⟩, B1.out⟩
end Go.Proofs.YtjphlpjippojiaaGreat

namespace Go.Proofs.YtjphlpjippojiaaGreat
set_option linter.unusedVariables false
open Go.ChangeShapes Go.WideShapes Go.ChangeAt Go.RowKit Go.Deep

theorem HGF_cell {wr wa : World} {O : Obj} {x : Option Nat} {b o : Nat} {v : Value} (hg : (wr.alloc O).grownBy wa x) (hlt : b < wr.heap.size) (hc : wr.cell? ⟨b, o, none⟩ = some v) : x ≠ some b → wa.cell? ⟨b, o, none⟩ = some v := fun hne =>
  (hg.cell_far ⟨b, o, none⟩ (by simp; omega) (Ne.symm hne)).trans ((World.cell?_of_block (w := wr) (Below.heap_alloc _ _ _ hlt)).trans hc)

theorem BoxF.grown {wr wa : World} {O : Obj} {x : Option Nat} {b : Nat} {v0 v1 v2 v3 : Value} (h : Box4 wr b v0 v1 v2 v3) (hg : (wr.alloc O).grownBy wa x) (hn : x ≠ some b) : Box4 wa b v0 v1 v2 v3 :=
  ⟨HGF_cell hg h.lt h.1 hn, HGF_cell hg h.lt h.2.1 hn, HGF_cell hg h.lt h.2.2.1 hn, HGF_cell hg h.lt h.2.2.2 hn⟩

theorem PtsKeep {wr wa : World} {O : Obj} {x : Option Nat} {a : Option Addr} {ps : List (Int × Int)} (h : PtsAt wr a ps) (hg : (wr.alloc O).grownBy wa x) (hn : ps.length = 0 ∨ ∀ y, blk a = some y → ¬ x = some y) : PtsAt wa a ps :=
  (h.below ((Below.refl _ _).alloc (Nat.le_refl _) O)).turned0 (S := fun y => x = some y) (Turned.of_grown hg fun y hy => hy) hn
theorem TagsKeep {wr wa : World} {O : Obj} {x : Option Nat} {a : Option Addr} {ts : List Tg} (h : TagsAt wr a ts) (hg : (wr.alloc O).grownBy wa x) (hn : ts.length = 0 ∨ ∀ y, blk a = some y → ¬ x = some y) : TagsAt wa a ts :=
  (h.below ((Below.refl _ _).alloc (Nat.le_refl _) O)).turned0 (S := fun y => x = some y) (Turned.of_grown hg fun y hy => hy) hn

theorem kf_eq {x y : Ft} : kf x = kf y ↔ x.1 = y.1 := by
  constructor
  · intro e
    rw [← toList_inj, ByteArray.toList_eq, ByteArray.toList_eq]
    exact e
  · intro e
    unfold kf
    rw [e]

theorem pts_low {w : World} {a : Option Addr} {ps : List (Int × Int)} (h : PtsAt w a ps) : ps.length = 0 ∨ ∀ x, blk a = some x → x < w.heap.size := by
  by_cases h0 : ps.length = 0
  · exact .inl h0
  · obtain ⟨b', o', rfl, h1, _⟩ := h 0 (by omega)
    exact .inr fun x hx => by obtain rfl : b' = x := (by simpa [blk] using hx); exact h1
theorem tags_low {w : World} {a : Option Addr} {ts : List Tg} (h : TagsAt w a ts) : ts.length = 0 ∨ ∀ x, blk a = some x → x < w.heap.size := by
  by_cases h0 : ts.length = 0
  · exact .inl h0
  · obtain ⟨b', o', rfl, h1, _⟩ := h 0 (by omega)
    exact .inr fun x hx => by obtain rfl : b' = x := (by simpa [blk] using hx); exact h1

set_option maxRecDepth 100000 in
set_option maxHeartbeats 8000000 in
theorem l3Put_any (a : Option Addr) (cap : Nat) (fs : List Ft) (f : Ft) (pf tf : Option Addr) (pfc tfc : Nat) (w : World) (hp : FeatsAt w a fs) (hl : fs.length ≤ 1048576) (hpf : PtsAt w pf f.2.2.1) (htf : TagsAt w tf f.2.2.2) :
    Calls Tryz.prog 38 #[.slice a fs.length cap, .agg #[.string f.1, .int .i64 f.2.1, .slice pf f.2.2.1.length pfc, .slice tf f.2.2.2.length tfc]] w fun e w' => (∃ a' cap', e = .returned (.slice a' (putL fs f).length cap') ∧ FeatsAt w' a' (putL fs f)) ∧ Below w.heap.size w w' := by
  obtain ⟨i0, hi, hz0, hz1, hz2⟩ := info_parts infoF
  have HI := Lib.hid hi
  have HZ0 := Lib.hid hz0
  have HZ1 := Lib.hid hz1
  have HZ2 := Lib.hid hz2
  have HP := Lib.hid hp
  have FP := Lib.hid hpf
  have FT := Lib.hid htf
  have PF := Lib.hid (pts_low hpf)
  have TF := Lib.hid (tags_low htf)
  clear hi hz0 hz1 hz2 hp hpf htf
  go_enter Tryz.func38, Tryz.ntmps38
  go_wp2
  go_loopw [5, 6, 7] (fun s d i wr => ∃ (j : Nat) (v : Value) (o : List Ft) (q : Bool) (ad : Nat → Pl), j ≤ fs.length ∧ i = .int .i64 j ∧ d = .bool q ∧ v = s ∧ PutsL fs f j o q ∧ o.length ≤ j + q.toNat ∧ Row wr (fun x => x < w.heap.size) (w.heap.size + 1) v o.length o ad ∧ Box4 wr w.heap.size (.string f.1) (.int .i64 f.2.1) (.slice pf f.2.2.1.length pfc) (.slice tf f.2.2.2.length tfc) ∧ Below w.heap.size w wr) (fun _ _ i _ => fs.length - (intOf i).toNat)
  case atStart =>
    have hro := World.ownsRow_made (w.alloc (.cells #[.string f.1, .int .i64 f.2.1, .slice pf f.2.2.1.length pfc, .slice tf f.2.2.2.length tfc] 29)) #[] 0 (base := w.heap.size + 1) (by simp) (by unfold maxLen; omega) (e := 29) (size := 4) (by simp)
    refine ⟨0, _, [], false, fun _ => ((none, 0), (none, 0)), Nat.zero_le _, rfl, rfl, rfl, PutsL.start _ _, by simp, ⟨by simpa [flatF] using hro, fun _ h => absurd h (Nat.not_lt_zero _), fun _ h => absurd h (Nat.not_lt_zero _), fun _ h => absurd h (Nat.not_lt_zero _), fun _ h => absurd h (Nat.not_lt_zero _)⟩, (Box4.new w _ _ _ _ _).alloc _, ((Below.refl _ _).alloc (Nat.le_refl _) _).alloc (by simp) _⟩
  case round =>
    obtain ⟨j, v, o, q, ad, hj, rfl, rfl, rfl, hP, hol, hro, hbox, hbel⟩ := hrel
    have HR := Lib.hid hro
    have HBX := Lib.hid hbox
    have HB := Lib.hid hbel
    have hsz : w.heap.size < wr.heap.size := hbox.lt
    have HV : Hid (∀ x, v.ownBlock = some x → w.heap.size + 1 ≤ x) := fun x hx => (hro.row.lt x hx).1
    have hol' : o.length ≤ j + 1 := by cases q <;> simp at hol <;> omega
    have FPr := Lib.hid (FP.out.below hbel)
    have FTr := Lib.hid (FT.out.below hbel)
    obtain ⟨x0, x1, x2, x3⟩ := hbox
    by_cases hlt : j < fs.length
    · obtain ⟨b, off, pa, pc, ta, tc, rfl, hb, hc1, hc2, hc3, hc4, hpp, htt⟩ := HP.out j hlt
      rw [← hbel.cell (p := ⟨b, _, none⟩) hb] at hc1 hc2 hc3 hc4
      have hst := hP.step hlt
      have PL := Lib.hid (pts_low hpp)
      have TL := Lib.hid (tags_low htt)
      have D1 := Lib.hid (hpp.below hbel)
      have D2 := Lib.hid (htt.below hbel)
      clear hro hbel hP hpp htt
      have hblt : b < wr.heap.size := by omega
      have nbw : ¬ b = w.heap.size := by omega
      by_cases he : fid fs j = f.1
      · have hk : kf (fg fs j) = kf f := kf_eq.2 he
        have e2 := bytes_beq (fid fs j) f.1
        rw [decide_eq_true he] at e2
        have e1 : Op.bytesLess (fid fs j).toList f.1.toList = false := less_not (by show ¬ kf (fg fs j) < kf f; rw [hk]; exact List.lt_irrefl _)
        have hle : kf f ≤ kf (fg fs j) := by rw [hk]; exact List.le_refl _
        cases q
        · replace hol : o.length ≤ j := hol
          have HS : Hid (PutsL fs f (j + 1) (o ++ [f]) true) := by simpa [Hid, hle, hk] using hst
          clear hst he hle hk
          go_wp2
          go_quiet (fail)
          have Bq : Below wr.heap.size wr (wr.drewN nq) := below_drewN (Below.refl _ _) nq
          have zq : (wr.drewN nq).heap.size = wr.heap.size := rfl
          generalize wr.drewN nq = W1 at *
          replace HR := Lib.hid (HR.out.below Bq)
          replace HBX := Lib.hid (HBX.out.later Bq)
          replace HB := Lib.hid (HB.out.trans (Bq.mono HB.out.size))
          replace FPr := Lib.hid (FPr.out.below Bq)
          replace FTr := Lib.hid (FTr.out.below Bq)
          replace D1 := Lib.hid (D1.out.below Bq)
          replace D2 := Lib.hid (D2.out.below Bq)
          replace hc1 := cell_later Bq hc1
          replace hc2 := cell_later Bq hc2
          replace hc3 := cell_later Bq hc3
          replace hc4 := cell_later Bq hc4
          replace x0 := cell_later Bq x0
          replace x1 := cell_later Bq x1
          replace x2 := cell_later Bq x2
          replace x3 := cell_later Bq x3
          replace hsz : w.heap.size < W1.heap.size := by omega
          replace hblt : b < W1.heap.size := by omega
          clear Bq zq
          have ROW := Lib.hid HR.out.row
          go_wp2_with (at_builtin; refine wpList_append_lies _ (by rfl) _ _ _ (by rfl) (w.heap.size + 1) 29 i0 _ 4 72 Tryz.underlying32 HI.out HZ0.out HZ1.out HZ2.out rfl (by omega) (v) (o.length) (flatF (o) ad (o.length)) (by rfl) (ROW.out.alloc _) ⟨W1.heap.size, 0, none⟩ 1 1 (cellsF f ((pf, pfc), (tf, tfc))) (by rfl) (by rfl) (World.news_of_block (cs := #[.string f.1, .int .i64 f.2.1, .slice pf f.2.2.1.length pfc, .slice tf f.2.2.2.length tfc]) (t := 29) (fr := (0, 0)) (heap_alloc_new W1 _)) (by simp [Value.oneCell', cellsF]) (by omega) (by unfold maxLen; omega) (by omega) (by simp; omega) (W1.heap.size + 1) (by simp) ?_; intro gg1 cap1 wa1 hown1 hgrow1 hat1 hlt1; clear ROW; have vw : (v).ownBlock ≠ some w.heap.size := (fun e => by have := HV.out _ e; omega); replace HR : Hid (Row wa1 (fun x => x < w.heap.size) (w.heap.size + 1) (Value.slice (some ⟨gg1, 0, none⟩) (o.length + 1) cap1) (o ++ [f]).length (o ++ [f]) (plSet ad (o.length) ((pf, pfc), (tf, tfc)))) := HR.out.snoc FPr.out (PF.out.imp (fun h => h) fun q x hx => ⟨q x hx, by have := q x hx; omega, fun e => by have h1 := HV.out x e; have h2 := q x hx; omega⟩) FTr.out (TF.out.imp (fun h => h) fun q x hx => ⟨q x hx, by have := q x hx; omega, fun e => by have h1 := HV.out x e; have h2 := q x hx; omega⟩) (by simpa using hown1) hgrow1 hat1; replace HBX := Lib.hid (BoxF.grown HBX.out hgrow1 vw); replace HB : Hid (Below w.heap.size w wa1) := (HB.out.alloc HB.out.size _).grown hgrow1 (by simp; omega) (fun x hx => by have := HV.out x hx; omega); have vb : (v).ownBlock ≠ some b := (fun e => by have := HV.out b e; omega); replace hc1 := HGF_cell hgrow1 hblt hc1 vb; replace hc2 := HGF_cell hgrow1 hblt hc2 vb; replace hc3 := HGF_cell hgrow1 hblt hc3 vb; replace hc4 := HGF_cell hgrow1 hblt hc4 vb; replace x0 := HGF_cell hgrow1 hsz x0 vw; replace x1 := HGF_cell hgrow1 hsz x1 vw; replace x2 := HGF_cell hgrow1 hsz x2 vw; replace x3 := HGF_cell hgrow1 hsz x3 vw; replace D1 := Lib.hid (PtsKeep D1.out hgrow1 (PL.out.imp (fun h => h) fun q x hx e => by have h1 := q x hx; have h2 := HV.out x e; omega)); replace D2 := Lib.hid (TagsKeep D2.out hgrow1 (TL.out.imp (fun h => h) fun q x hx e => by have h1 := q x hx; have h2 := HV.out x e; omega)); replace FPr := Lib.hid (PtsKeep FPr.out hgrow1 (PF.out.imp (fun h => h) fun q x hx e => by have h1 := q x hx; have h2 := HV.out x e; omega)); replace FTr := Lib.hid (TagsKeep FTr.out hgrow1 (TF.out.imp (fun h => h) fun q x hx e => by have h1 := q x hx; have h2 := HV.out x e; omega)); have hszA : W1.heap.size < wa1.heap.size := (by have h := hgrow1.size; simp at h; omega); replace hsz : w.heap.size < wa1.heap.size := (by omega); replace hblt : b < wa1.heap.size := (by omega); replace HV : Hid (∀ x, (Value.slice (some ⟨gg1, 0, none⟩) (o.length + 1) cap1).ownBlock = some x → w.heap.size + 1 ≤ x) := (fun x e => (hown1.lt x e).1); clear vb; clear hown1 hgrow1 hat1 vw)
          go_wp2
          go_quiet (fail)
          have Bq : Below wa1.heap.size wa1 (wa1.drewN nq) := below_drewN (Below.refl _ _) nq
          have zq : (wa1.drewN nq).heap.size = wa1.heap.size := rfl
          generalize wa1.drewN nq = W2 at *
          replace HR := Lib.hid (HR.out.below Bq)
          replace HBX := Lib.hid (HBX.out.later Bq)
          replace HB := Lib.hid (HB.out.trans (Bq.mono HB.out.size))
          replace FPr := Lib.hid (FPr.out.below Bq)
          replace FTr := Lib.hid (FTr.out.below Bq)
          replace D1 := Lib.hid (D1.out.below Bq)
          replace D2 := Lib.hid (D2.out.below Bq)
          replace hc1 := cell_later Bq hc1
          replace hc2 := cell_later Bq hc2
          replace hc3 := cell_later Bq hc3
          replace hc4 := cell_later Bq hc4
          replace x0 := cell_later Bq x0
          replace x1 := cell_later Bq x1
          replace x2 := cell_later Bq x2
          replace x3 := cell_later Bq x3
          replace hsz : w.heap.size < W2.heap.size := by omega
          replace hblt : b < W2.heap.size := by omega
          clear Bq zq
          go_wp2
          go_roundw
          case rel => exact ⟨j + 1, _, o ++ [f], _, _, by omega, by go_num, rfl, rfl, HS.out, by simp; omega, HR.out, HBX.out, HB.out⟩
          case measure => simp [intOf]; omega
        · have HS : Hid (PutsL fs f (j + 1) o true) := by simpa [Hid, hk] using hst
          clear hst he hle hk
          go_wp2
          go_quiet (fail)
          have Bq : Below wr.heap.size wr (wr.drewN nq) := below_drewN (Below.refl _ _) nq
          have zq : (wr.drewN nq).heap.size = wr.heap.size := rfl
          generalize wr.drewN nq = W1 at *
          replace HR := Lib.hid (HR.out.below Bq)
          replace HBX := Lib.hid (HBX.out.later Bq)
          replace HB := Lib.hid (HB.out.trans (Bq.mono HB.out.size))
          replace FPr := Lib.hid (FPr.out.below Bq)
          replace FTr := Lib.hid (FTr.out.below Bq)
          replace D1 := Lib.hid (D1.out.below Bq)
          replace D2 := Lib.hid (D2.out.below Bq)
          replace hc1 := cell_later Bq hc1
          replace hc2 := cell_later Bq hc2
          replace hc3 := cell_later Bq hc3
          replace hc4 := cell_later Bq hc4
          replace x0 := cell_later Bq x0
          replace x1 := cell_later Bq x1
          replace x2 := cell_later Bq x2
          replace x3 := cell_later Bq x3
          replace hsz : w.heap.size < W1.heap.size := by omega
          replace hblt : b < W1.heap.size := by omega
          clear Bq zq
          go_wp2
          go_quiet (fail)
          have Bq : Below W1.heap.size W1 (W1.drewN nq) := below_drewN (Below.refl _ _) nq
          have zq : (W1.drewN nq).heap.size = W1.heap.size := rfl
          generalize W1.drewN nq = W2 at *
          replace HR := Lib.hid (HR.out.below Bq)
          replace HBX := Lib.hid (HBX.out.later Bq)
          replace HB := Lib.hid (HB.out.trans (Bq.mono HB.out.size))
          replace FPr := Lib.hid (FPr.out.below Bq)
          replace FTr := Lib.hid (FTr.out.below Bq)
          replace D1 := Lib.hid (D1.out.below Bq)
          replace D2 := Lib.hid (D2.out.below Bq)
          replace hc1 := cell_later Bq hc1
          replace hc2 := cell_later Bq hc2
          replace hc3 := cell_later Bq hc3
          replace hc4 := cell_later Bq hc4
          replace x0 := cell_later Bq x0
          replace x1 := cell_later Bq x1
          replace x2 := cell_later Bq x2
          replace x3 := cell_later Bq x3
          replace hsz : w.heap.size < W2.heap.size := by omega
          replace hblt : b < W2.heap.size := by omega
          clear Bq zq
          go_wp2
          go_roundw
          case rel => exact ⟨j + 1, _, o, _, _, by omega, by go_num, rfl, rfl, HS.out, by simp at hol ⊢; omega, HR.out, HBX.out, HB.out⟩
          case measure => simp [intOf]; omega
      · have hk : ¬ kf (fg fs j) = kf f := fun h => he (kf_eq.1 h)
        have e2 := bytes_beq (fid fs j) f.1
        rw [decide_eq_false he] at e2
        by_cases hq : kf (fg fs j) < kf f
        · have e1 : Op.bytesLess (fid fs j).toList f.1.toList = true := less_of hq
          have hle : ¬ kf f ≤ kf (fg fs j) := fun h => h hq
          have HS : Hid (PutsL fs f (j + 1) (o ++ [fg fs j]) q) := by simpa [Hid, hle, hk] using hst
          clear hst he hle hq hk
          cases q
          · replace hol : o.length ≤ j := hol
            go_wp2
            go_quiet (fail)
            have Bq : Below wr.heap.size wr (wr.drewN nq) := below_drewN (Below.refl _ _) nq
            have zq : (wr.drewN nq).heap.size = wr.heap.size := rfl
            generalize wr.drewN nq = W1 at *
            replace HR := Lib.hid (HR.out.below Bq)
            replace HBX := Lib.hid (HBX.out.later Bq)
            replace HB := Lib.hid (HB.out.trans (Bq.mono HB.out.size))
            replace FPr := Lib.hid (FPr.out.below Bq)
            replace FTr := Lib.hid (FTr.out.below Bq)
            replace D1 := Lib.hid (D1.out.below Bq)
            replace D2 := Lib.hid (D2.out.below Bq)
            replace hc1 := cell_later Bq hc1
            replace hc2 := cell_later Bq hc2
            replace hc3 := cell_later Bq hc3
            replace hc4 := cell_later Bq hc4
            replace x0 := cell_later Bq x0
            replace x1 := cell_later Bq x1
            replace x2 := cell_later Bq x2
            replace x3 := cell_later Bq x3
            replace hsz : w.heap.size < W1.heap.size := by omega
            replace hblt : b < W1.heap.size := by omega
            clear Bq zq
            go_wp2
            go_quiet (fail)
            have Bq : Below W1.heap.size W1 (W1.drewN nq) := below_drewN (Below.refl _ _) nq
            have zq : (W1.drewN nq).heap.size = W1.heap.size := rfl
            generalize W1.drewN nq = W2 at *
            replace HR := Lib.hid (HR.out.below Bq)
            replace HBX := Lib.hid (HBX.out.later Bq)
            replace HB := Lib.hid (HB.out.trans (Bq.mono HB.out.size))
            replace FPr := Lib.hid (FPr.out.below Bq)
            replace FTr := Lib.hid (FTr.out.below Bq)
            replace D1 := Lib.hid (D1.out.below Bq)
            replace D2 := Lib.hid (D2.out.below Bq)
            replace hc1 := cell_later Bq hc1
            replace hc2 := cell_later Bq hc2
            replace hc3 := cell_later Bq hc3
            replace hc4 := cell_later Bq hc4
            replace x0 := cell_later Bq x0
            replace x1 := cell_later Bq x1
            replace x2 := cell_later Bq x2
            replace x3 := cell_later Bq x3
            replace hsz : w.heap.size < W2.heap.size := by omega
            replace hblt : b < W2.heap.size := by omega
            clear Bq zq
            have ROW := Lib.hid HR.out.row
            go_wp2_with (at_builtin; refine wpList_append_lies _ (by rfl) _ _ _ (by rfl) (w.heap.size + 1) 29 i0 _ 4 72 Tryz.underlying32 HI.out HZ0.out HZ1.out HZ2.out rfl (by omega) (v) (o.length) (flatF (o) ad (o.length)) (by rfl) (ROW.out.alloc _) ⟨W2.heap.size, 0, none⟩ 1 1 (cellsF (fg fs j) ((pa, pc), (ta, tc))) (by rfl) (by rfl) (World.news_of_block (cs := #[.string (fid fs j), .int .i64 (fkd fs j), .slice pa (fps fs j).length pc, .slice ta (fts fs j).length tc]) (t := 29) (fr := (0, 0)) (heap_alloc_new W2 _)) (by simp [Value.oneCell', cellsF]) (by omega) (by unfold maxLen; omega) (by omega) (by simp; omega) (W2.heap.size + 1) (by simp) ?_; intro gg2 cap2 wa2 hown2 hgrow2 hat2 hlt2; clear ROW; have vw : (v).ownBlock ≠ some w.heap.size := (fun e => by have := HV.out _ e; omega); replace HR : Hid (Row wa2 (fun x => x < w.heap.size) (w.heap.size + 1) (Value.slice (some ⟨gg2, 0, none⟩) (o.length + 1) cap2) (o ++ [(fg fs j)]).length (o ++ [(fg fs j)]) (plSet ad (o.length) ((pa, pc), (ta, tc)))) := HR.out.snoc D1.out (PL.out.imp (fun h => h) fun q x hx => ⟨q x hx, by have := q x hx; omega, fun e => by have h1 := HV.out x e; have h2 := q x hx; omega⟩) D2.out (TL.out.imp (fun h => h) fun q x hx => ⟨q x hx, by have := q x hx; omega, fun e => by have h1 := HV.out x e; have h2 := q x hx; omega⟩) (by simpa using hown2) hgrow2 hat2; replace HBX := Lib.hid (BoxF.grown HBX.out hgrow2 vw); replace HB : Hid (Below w.heap.size w wa2) := (HB.out.alloc HB.out.size _).grown hgrow2 (by simp; omega) (fun x hx => by have := HV.out x hx; omega); clear hown2 hgrow2 hat2 vw)
            go_roundw
            case rel => exact ⟨j + 1, _, o ++ [fg fs j], _, _, by omega, by go_num, rfl, rfl, HS.out, by simp; omega, HR.out, HBX.out, HB.out⟩
            case measure => simp [intOf]; omega
          · replace hol : o.length ≤ j + 1 := hol
            go_wp2
            go_quiet (fail)
            have Bq : Below wr.heap.size wr (wr.drewN nq) := below_drewN (Below.refl _ _) nq
            have zq : (wr.drewN nq).heap.size = wr.heap.size := rfl
            generalize wr.drewN nq = W1 at *
            replace HR := Lib.hid (HR.out.below Bq)
            replace HBX := Lib.hid (HBX.out.later Bq)
            replace HB := Lib.hid (HB.out.trans (Bq.mono HB.out.size))
            replace FPr := Lib.hid (FPr.out.below Bq)
            replace FTr := Lib.hid (FTr.out.below Bq)
            replace D1 := Lib.hid (D1.out.below Bq)
            replace D2 := Lib.hid (D2.out.below Bq)
            replace hc1 := cell_later Bq hc1
            replace hc2 := cell_later Bq hc2
            replace hc3 := cell_later Bq hc3
            replace hc4 := cell_later Bq hc4
            replace x0 := cell_later Bq x0
            replace x1 := cell_later Bq x1
            replace x2 := cell_later Bq x2
            replace x3 := cell_later Bq x3
            replace hsz : w.heap.size < W1.heap.size := by omega
            replace hblt : b < W1.heap.size := by omega
            clear Bq zq
            go_wp2
            go_quiet (fail)
            have Bq : Below W1.heap.size W1 (W1.drewN nq) := below_drewN (Below.refl _ _) nq
            have zq : (W1.drewN nq).heap.size = W1.heap.size := rfl
            generalize W1.drewN nq = W2 at *
            replace HR := Lib.hid (HR.out.below Bq)
            replace HBX := Lib.hid (HBX.out.later Bq)
            replace HB := Lib.hid (HB.out.trans (Bq.mono HB.out.size))
            replace FPr := Lib.hid (FPr.out.below Bq)
            replace FTr := Lib.hid (FTr.out.below Bq)
            replace D1 := Lib.hid (D1.out.below Bq)
            replace D2 := Lib.hid (D2.out.below Bq)
            replace hc1 := cell_later Bq hc1
            replace hc2 := cell_later Bq hc2
            replace hc3 := cell_later Bq hc3
            replace hc4 := cell_later Bq hc4
            replace x0 := cell_later Bq x0
            replace x1 := cell_later Bq x1
            replace x2 := cell_later Bq x2
            replace x3 := cell_later Bq x3
            replace hsz : w.heap.size < W2.heap.size := by omega
            replace hblt : b < W2.heap.size := by omega
            clear Bq zq
            have ROW := Lib.hid HR.out.row
            go_wp2_with (at_builtin; refine wpList_append_lies _ (by rfl) _ _ _ (by rfl) (w.heap.size + 1) 29 i0 _ 4 72 Tryz.underlying32 HI.out HZ0.out HZ1.out HZ2.out rfl (by omega) (v) (o.length) (flatF (o) ad (o.length)) (by rfl) (ROW.out.alloc _) ⟨W2.heap.size, 0, none⟩ 1 1 (cellsF (fg fs j) ((pa, pc), (ta, tc))) (by rfl) (by rfl) (World.news_of_block (cs := #[.string (fid fs j), .int .i64 (fkd fs j), .slice pa (fps fs j).length pc, .slice ta (fts fs j).length tc]) (t := 29) (fr := (0, 0)) (heap_alloc_new W2 _)) (by simp [Value.oneCell', cellsF]) (by omega) (by unfold maxLen; omega) (by omega) (by simp; omega) (W2.heap.size + 1) (by simp) ?_; intro gg2 cap2 wa2 hown2 hgrow2 hat2 hlt2; clear ROW; have vw : (v).ownBlock ≠ some w.heap.size := (fun e => by have := HV.out _ e; omega); replace HR : Hid (Row wa2 (fun x => x < w.heap.size) (w.heap.size + 1) (Value.slice (some ⟨gg2, 0, none⟩) (o.length + 1) cap2) (o ++ [(fg fs j)]).length (o ++ [(fg fs j)]) (plSet ad (o.length) ((pa, pc), (ta, tc)))) := HR.out.snoc D1.out (PL.out.imp (fun h => h) fun q x hx => ⟨q x hx, by have := q x hx; omega, fun e => by have h1 := HV.out x e; have h2 := q x hx; omega⟩) D2.out (TL.out.imp (fun h => h) fun q x hx => ⟨q x hx, by have := q x hx; omega, fun e => by have h1 := HV.out x e; have h2 := q x hx; omega⟩) (by simpa using hown2) hgrow2 hat2; replace HBX := Lib.hid (BoxF.grown HBX.out hgrow2 vw); replace HB : Hid (Below w.heap.size w wa2) := (HB.out.alloc HB.out.size _).grown hgrow2 (by simp; omega) (fun x hx => by have := HV.out x hx; omega); clear hown2 hgrow2 hat2 vw)
            go_roundw
            case rel => exact ⟨j + 1, _, o ++ [fg fs j], _, _, by omega, by go_num, rfl, rfl, HS.out, by simp; omega, HR.out, HBX.out, HB.out⟩
            case measure => simp [intOf]; omega
        · have e1 : Op.bytesLess (fid fs j).toList f.1.toList = false := less_not hq
          have hle : kf f ≤ kf (fg fs j) := hq
          cases q
          · replace hol : o.length ≤ j := hol
            have HS : Hid (PutsL fs f (j + 1) (o ++ [f] ++ [fg fs j]) true) := by simpa [Hid, hle, hk] using hst
            clear hst he hle hq hk
            go_wp2
            go_quiet (fail)
            have Bq : Below wr.heap.size wr (wr.drewN nq) := below_drewN (Below.refl _ _) nq
            have zq : (wr.drewN nq).heap.size = wr.heap.size := rfl
            generalize wr.drewN nq = W1 at *
            replace HR := Lib.hid (HR.out.below Bq)
            replace HBX := Lib.hid (HBX.out.later Bq)
            replace HB := Lib.hid (HB.out.trans (Bq.mono HB.out.size))
            replace FPr := Lib.hid (FPr.out.below Bq)
            replace FTr := Lib.hid (FTr.out.below Bq)
            replace D1 := Lib.hid (D1.out.below Bq)
            replace D2 := Lib.hid (D2.out.below Bq)
            replace hc1 := cell_later Bq hc1
            replace hc2 := cell_later Bq hc2
            replace hc3 := cell_later Bq hc3
            replace hc4 := cell_later Bq hc4
            replace x0 := cell_later Bq x0
            replace x1 := cell_later Bq x1
            replace x2 := cell_later Bq x2
            replace x3 := cell_later Bq x3
            replace hsz : w.heap.size < W1.heap.size := by omega
            replace hblt : b < W1.heap.size := by omega
            clear Bq zq
            have ROW := Lib.hid HR.out.row
            go_wp2_with (at_builtin; refine wpList_append_lies _ (by rfl) _ _ _ (by rfl) (w.heap.size + 1) 29 i0 _ 4 72 Tryz.underlying32 HI.out HZ0.out HZ1.out HZ2.out rfl (by omega) (v) (o.length) (flatF (o) ad (o.length)) (by rfl) (ROW.out.alloc _) ⟨W1.heap.size, 0, none⟩ 1 1 (cellsF f ((pf, pfc), (tf, tfc))) (by rfl) (by rfl) (World.news_of_block (cs := #[.string f.1, .int .i64 f.2.1, .slice pf f.2.2.1.length pfc, .slice tf f.2.2.2.length tfc]) (t := 29) (fr := (0, 0)) (heap_alloc_new W1 _)) (by simp [Value.oneCell', cellsF]) (by omega) (by unfold maxLen; omega) (by omega) (by simp; omega) (W1.heap.size + 1) (by simp) ?_; intro gg1 cap1 wa1 hown1 hgrow1 hat1 hlt1; clear ROW; have vw : (v).ownBlock ≠ some w.heap.size := (fun e => by have := HV.out _ e; omega); replace HR : Hid (Row wa1 (fun x => x < w.heap.size) (w.heap.size + 1) (Value.slice (some ⟨gg1, 0, none⟩) (o.length + 1) cap1) (o ++ [f]).length (o ++ [f]) (plSet ad (o.length) ((pf, pfc), (tf, tfc)))) := HR.out.snoc FPr.out (PF.out.imp (fun h => h) fun q x hx => ⟨q x hx, by have := q x hx; omega, fun e => by have h1 := HV.out x e; have h2 := q x hx; omega⟩) FTr.out (TF.out.imp (fun h => h) fun q x hx => ⟨q x hx, by have := q x hx; omega, fun e => by have h1 := HV.out x e; have h2 := q x hx; omega⟩) (by simpa using hown1) hgrow1 hat1; replace HBX := Lib.hid (BoxF.grown HBX.out hgrow1 vw); replace HB : Hid (Below w.heap.size w wa1) := (HB.out.alloc HB.out.size _).grown hgrow1 (by simp; omega) (fun x hx => by have := HV.out x hx; omega); have vb : (v).ownBlock ≠ some b := (fun e => by have := HV.out b e; omega); replace hc1 := HGF_cell hgrow1 hblt hc1 vb; replace hc2 := HGF_cell hgrow1 hblt hc2 vb; replace hc3 := HGF_cell hgrow1 hblt hc3 vb; replace hc4 := HGF_cell hgrow1 hblt hc4 vb; replace x0 := HGF_cell hgrow1 hsz x0 vw; replace x1 := HGF_cell hgrow1 hsz x1 vw; replace x2 := HGF_cell hgrow1 hsz x2 vw; replace x3 := HGF_cell hgrow1 hsz x3 vw; replace D1 := Lib.hid (PtsKeep D1.out hgrow1 (PL.out.imp (fun h => h) fun q x hx e => by have h1 := q x hx; have h2 := HV.out x e; omega)); replace D2 := Lib.hid (TagsKeep D2.out hgrow1 (TL.out.imp (fun h => h) fun q x hx e => by have h1 := q x hx; have h2 := HV.out x e; omega)); replace FPr := Lib.hid (PtsKeep FPr.out hgrow1 (PF.out.imp (fun h => h) fun q x hx e => by have h1 := q x hx; have h2 := HV.out x e; omega)); replace FTr := Lib.hid (TagsKeep FTr.out hgrow1 (TF.out.imp (fun h => h) fun q x hx e => by have h1 := q x hx; have h2 := HV.out x e; omega)); have hszA : W1.heap.size < wa1.heap.size := (by have h := hgrow1.size; simp at h; omega); replace hsz : w.heap.size < wa1.heap.size := (by omega); replace hblt : b < wa1.heap.size := (by omega); replace HV : Hid (∀ x, (Value.slice (some ⟨gg1, 0, none⟩) (o.length + 1) cap1).ownBlock = some x → w.heap.size + 1 ≤ x) := (fun x e => (hown1.lt x e).1); clear vb; clear hown1 hgrow1 hat1 vw)
            go_wp2
            go_quiet (fail)
            have Bq : Below wa1.heap.size wa1 (wa1.drewN nq) := below_drewN (Below.refl _ _) nq
            have zq : (wa1.drewN nq).heap.size = wa1.heap.size := rfl
            generalize wa1.drewN nq = W2 at *
            replace HR := Lib.hid (HR.out.below Bq)
            replace HBX := Lib.hid (HBX.out.later Bq)
            replace HB := Lib.hid (HB.out.trans (Bq.mono HB.out.size))
            replace FPr := Lib.hid (FPr.out.below Bq)
            replace FTr := Lib.hid (FTr.out.below Bq)
            replace D1 := Lib.hid (D1.out.below Bq)
            replace D2 := Lib.hid (D2.out.below Bq)
            replace hc1 := cell_later Bq hc1
            replace hc2 := cell_later Bq hc2
            replace hc3 := cell_later Bq hc3
            replace hc4 := cell_later Bq hc4
            replace x0 := cell_later Bq x0
            replace x1 := cell_later Bq x1
            replace x2 := cell_later Bq x2
            replace x3 := cell_later Bq x3
            replace hsz : w.heap.size < W2.heap.size := by omega
            replace hblt : b < W2.heap.size := by omega
            clear Bq zq
            have hROW := HR.out.row
            rw [show (o ++ [f]).length = o.length + 1 by simp] at hROW
            have ROW := Lib.hid hROW
            clear hROW
            go_wp2_with (at_builtin; refine wpList_append_lies _ (by rfl) _ _ _ (by rfl) (w.heap.size + 1) 29 i0 _ 4 72 Tryz.underlying32 HI.out HZ0.out HZ1.out HZ2.out rfl (by omega) (Value.slice (some ⟨gg1, 0, none⟩) (o.length + 1) cap1) (o.length + 1) (flatF ((o ++ [f])) (plSet ad (o.length) ((pf, pfc), (tf, tfc))) (o.length + 1)) (by rfl) (ROW.out.alloc _) ⟨W2.heap.size, 0, none⟩ 1 1 (cellsF (fg fs j) ((pa, pc), (ta, tc))) (by rfl) (by rfl) (World.news_of_block (cs := #[.string (fid fs j), .int .i64 (fkd fs j), .slice pa (fps fs j).length pc, .slice ta (fts fs j).length tc]) (t := 29) (fr := (0, 0)) (heap_alloc_new W2 _)) (by simp [Value.oneCell', cellsF]) (by omega) (by unfold maxLen; omega) (by omega) (by simp; omega) (W2.heap.size + 1) (by simp) ?_; intro gg2 cap2 wa2 hown2 hgrow2 hat2 hlt2; clear ROW; have vw : (Value.slice (some ⟨gg1, 0, none⟩) (o.length + 1) cap1).ownBlock ≠ some w.heap.size := (fun e => by have := HV.out _ e; omega); replace HR : Hid (Row wa2 (fun x => x < w.heap.size) (w.heap.size + 1) (Value.slice (some ⟨gg2, 0, none⟩) ((o ++ [f]).length + 1) cap2) ((o ++ [f]) ++ [(fg fs j)]).length ((o ++ [f]) ++ [(fg fs j)]) (plSet (plSet ad (o.length) ((pf, pfc), (tf, tfc))) ((o ++ [f]).length) ((pa, pc), (ta, tc)))) := HR.out.snoc D1.out (PL.out.imp (fun h => h) fun q x hx => ⟨q x hx, by have := q x hx; omega, fun e => by have h1 := HV.out x e; have h2 := q x hx; omega⟩) D2.out (TL.out.imp (fun h => h) fun q x hx => ⟨q x hx, by have := q x hx; omega, fun e => by have h1 := HV.out x e; have h2 := q x hx; omega⟩) (by simpa using hown2) hgrow2 hat2; replace HBX := Lib.hid (BoxF.grown HBX.out hgrow2 vw); replace HB : Hid (Below w.heap.size w wa2) := (HB.out.alloc HB.out.size _).grown hgrow2 (by simp; omega) (fun x hx => by have := HV.out x hx; omega); clear hown2 hgrow2 hat2 vw)
            go_roundw
            case rel => exact ⟨j + 1, _, o ++ [f] ++ [fg fs j], _, _, by omega, by go_num, rfl, by simp, HS.out, by simp; omega, HR.out, HBX.out, HB.out⟩
            case measure => simp [intOf]; omega
          · replace hol : o.length ≤ j + 1 := hol
            have HS : Hid (PutsL fs f (j + 1) (o ++ [fg fs j]) true) := by simpa [Hid, hk] using hst
            clear hst he hle hq hk
            go_wp2
            go_quiet (fail)
            have Bq : Below wr.heap.size wr (wr.drewN nq) := below_drewN (Below.refl _ _) nq
            have zq : (wr.drewN nq).heap.size = wr.heap.size := rfl
            generalize wr.drewN nq = W1 at *
            replace HR := Lib.hid (HR.out.below Bq)
            replace HBX := Lib.hid (HBX.out.later Bq)
            replace HB := Lib.hid (HB.out.trans (Bq.mono HB.out.size))
            replace FPr := Lib.hid (FPr.out.below Bq)
            replace FTr := Lib.hid (FTr.out.below Bq)
            replace D1 := Lib.hid (D1.out.below Bq)
            replace D2 := Lib.hid (D2.out.below Bq)
            replace hc1 := cell_later Bq hc1
            replace hc2 := cell_later Bq hc2
            replace hc3 := cell_later Bq hc3
            replace hc4 := cell_later Bq hc4
            replace x0 := cell_later Bq x0
            replace x1 := cell_later Bq x1
            replace x2 := cell_later Bq x2
            replace x3 := cell_later Bq x3
            replace hsz : w.heap.size < W1.heap.size := by omega
            replace hblt : b < W1.heap.size := by omega
            clear Bq zq
            go_wp2
            go_quiet (fail)
            have Bq : Below W1.heap.size W1 (W1.drewN nq) := below_drewN (Below.refl _ _) nq
            have zq : (W1.drewN nq).heap.size = W1.heap.size := rfl
            generalize W1.drewN nq = W2 at *
            replace HR := Lib.hid (HR.out.below Bq)
            replace HBX := Lib.hid (HBX.out.later Bq)
            replace HB := Lib.hid (HB.out.trans (Bq.mono HB.out.size))
            replace FPr := Lib.hid (FPr.out.below Bq)
            replace FTr := Lib.hid (FTr.out.below Bq)
            replace D1 := Lib.hid (D1.out.below Bq)
            replace D2 := Lib.hid (D2.out.below Bq)
            replace hc1 := cell_later Bq hc1
            replace hc2 := cell_later Bq hc2
            replace hc3 := cell_later Bq hc3
            replace hc4 := cell_later Bq hc4
            replace x0 := cell_later Bq x0
            replace x1 := cell_later Bq x1
            replace x2 := cell_later Bq x2
            replace x3 := cell_later Bq x3
            replace hsz : w.heap.size < W2.heap.size := by omega
            replace hblt : b < W2.heap.size := by omega
            clear Bq zq
            have ROW := Lib.hid HR.out.row
            go_wp2_with (at_builtin; refine wpList_append_lies _ (by rfl) _ _ _ (by rfl) (w.heap.size + 1) 29 i0 _ 4 72 Tryz.underlying32 HI.out HZ0.out HZ1.out HZ2.out rfl (by omega) (v) (o.length) (flatF (o) ad (o.length)) (by rfl) (ROW.out.alloc _) ⟨W2.heap.size, 0, none⟩ 1 1 (cellsF (fg fs j) ((pa, pc), (ta, tc))) (by rfl) (by rfl) (World.news_of_block (cs := #[.string (fid fs j), .int .i64 (fkd fs j), .slice pa (fps fs j).length pc, .slice ta (fts fs j).length tc]) (t := 29) (fr := (0, 0)) (heap_alloc_new W2 _)) (by simp [Value.oneCell', cellsF]) (by omega) (by unfold maxLen; omega) (by omega) (by simp; omega) (W2.heap.size + 1) (by simp) ?_; intro gg2 cap2 wa2 hown2 hgrow2 hat2 hlt2; clear ROW; have vw : (v).ownBlock ≠ some w.heap.size := (fun e => by have := HV.out _ e; omega); replace HR : Hid (Row wa2 (fun x => x < w.heap.size) (w.heap.size + 1) (Value.slice (some ⟨gg2, 0, none⟩) (o.length + 1) cap2) (o ++ [(fg fs j)]).length (o ++ [(fg fs j)]) (plSet ad (o.length) ((pa, pc), (ta, tc)))) := HR.out.snoc D1.out (PL.out.imp (fun h => h) fun q x hx => ⟨q x hx, by have := q x hx; omega, fun e => by have h1 := HV.out x e; have h2 := q x hx; omega⟩) D2.out (TL.out.imp (fun h => h) fun q x hx => ⟨q x hx, by have := q x hx; omega, fun e => by have h1 := HV.out x e; have h2 := q x hx; omega⟩) (by simpa using hown2) hgrow2 hat2; replace HBX := Lib.hid (BoxF.grown HBX.out hgrow2 vw); replace HB : Hid (Below w.heap.size w wa2) := (HB.out.alloc HB.out.size _).grown hgrow2 (by simp; omega) (fun x hx => by have := HV.out x hx; omega); clear hown2 hgrow2 hat2 vw)
            go_roundw
            case rel => exact ⟨j + 1, _, o ++ [fg fs j], _, _, by omega, by go_num, rfl, rfl, HS.out, by simp; omega, HR.out, HBX.out, HB.out⟩
            case measure => simp [intOf]; omega
    · obtain rfl : j = fs.length := by omega
      have HD := Lib.hid hP.done
      clear hro hbel hP
      cases q
      · replace hol : o.length ≤ fs.length := hol
        have ROW := Lib.hid HR.out.row
        go_wp2_with (at_builtin; refine wpList_append_lies _ (by rfl) _ _ _ (by rfl) (w.heap.size + 1) 29 i0 _ 4 72 Tryz.underlying32 HI.out HZ0.out HZ1.out HZ2.out rfl (by omega) (v) (o.length) (flatF (o) ad (o.length)) (by rfl) (ROW.out.alloc _) ⟨wr.heap.size, 0, none⟩ 1 1 (cellsF f ((pf, pfc), (tf, tfc))) (by rfl) (by rfl) (World.news_of_block (cs := #[.string f.1, .int .i64 f.2.1, .slice pf f.2.2.1.length pfc, .slice tf f.2.2.2.length tfc]) (t := 29) (fr := (0, 0)) (heap_alloc_new wr _)) (by simp [Value.oneCell', cellsF]) (by omega) (by unfold maxLen; omega) (by omega) (by simp; omega) (wr.heap.size + 1) (by simp) ?_; intro gg1 cap1 wa1 hown1 hgrow1 hat1 hlt1; clear ROW; have vw : (v).ownBlock ≠ some w.heap.size := (fun e => by have := HV.out _ e; omega); replace HR : Hid (Row wa1 (fun x => x < w.heap.size) (w.heap.size + 1) (Value.slice (some ⟨gg1, 0, none⟩) (o.length + 1) cap1) (o ++ [f]).length (o ++ [f]) (plSet ad (o.length) ((pf, pfc), (tf, tfc)))) := HR.out.snoc FPr.out (PF.out.imp (fun h => h) fun q x hx => ⟨q x hx, by have := q x hx; omega, fun e => by have h1 := HV.out x e; have h2 := q x hx; omega⟩) FTr.out (TF.out.imp (fun h => h) fun q x hx => ⟨q x hx, by have := q x hx; omega, fun e => by have h1 := HV.out x e; have h2 := q x hx; omega⟩) (by simpa using hown1) hgrow1 hat1; replace HBX := Lib.hid (BoxF.grown HBX.out hgrow1 vw); replace HB : Hid (Below w.heap.size w wa1) := (HB.out.alloc HB.out.size _).grown hgrow1 (by simp; omega) (fun x hx => by have := HV.out x hx; omega); clear hown1 hgrow1 hat1 vw)
        go_wp2
        go_ret
        have e : o ++ [f] = putL fs f := by simpa using HD.out
        have hr := HR.out
        rw [e] at hr
        obtain ⟨a', cap', e', hF, _⟩ := hr.reads
        first | exact ⟨⟨a', cap', congrArg Ending.returned e', hF⟩, HB.out⟩ | exact ⟨⟨a', ⟨cap', congrArg Ending.returned e'⟩, hF⟩, HB.out⟩
      · have e : o = putL fs f := by simpa using HD.out
        have hr := HR.out
        rw [e] at hr
        obtain ⟨a', cap', rfl, hF, _⟩ := hr.reads
        have HF := Lib.hid hF
        clear hF hr HR HV
        go_wp2
        go_ret
        first | exact ⟨⟨a', cap', rfl, HF.out⟩, HB.out⟩ | exact ⟨⟨a', ⟨cap', rfl⟩, HF.out⟩, HB.out⟩

set_option maxRecDepth 100000 in
set_option maxHeartbeats 4000000 in
theorem specSheetPut_any (a : Option Addr) (cap : Nat) (fs : List Ft) (f : Ft) (pa ta : Option Addr) (pc tc : Nat) (w : World) (hp : FeatsAt w a fs) (hl : fs.length ≤ 1048576) (ht : FeatsLen fs 1048576) (hpp : PtsAt w pa f.2.2.1) (htt : TagsAt w ta f.2.2.2) (hfl : FtLen f 1048576) :
    Calls Tryz.prog 16 #[.slice a fs.length cap, .agg #[.string f.1, .int .i64 f.2.1, .slice pa f.2.2.1.length pc, .slice ta f.2.2.2.length tc]] w fun e w' => (∃ v, e = .returned (.tuple #[v, .bool (putHas fs f)]) ∧ GotL w.heap.size w'.heap.size w' v (putRL fs f)) ∧ Below w.heap.size w w' := by
  have HP := Lib.hid hp
  have HL := Lib.hid ht
  have PP := Lib.hid hpp
  have TT := Lib.hid htt
  have FL := Lib.hid hfl
  obtain ⟨x1, x2, x3, x4⟩ := hfl
  have X4 := Lib.hid x4
  clear hp ht hpp htt x4
  have A0 : Hid (∀ o, Below w.heap.size w (w.alloc o)) := fun o => (Below.refl _ _).alloc (Nat.le_refl _) _
  go_enter Tryz.func16, Tryz.ntmps16
  go_wp2_with fail
  refine (l3Put_any _ _ _ f _ _ _ _ _ (HP.out.below (A0.out _)) hl (PP.out.below (A0.out _)) (TT.out.below (A0.out _))).mono ?_
  rintro e w1 ⟨⟨a1, cap1, rfl, hF⟩, hb1⟩
  have C1 := Lib.hid ((Box4.new w (.string f.1) (.int .i64 f.2.1) (.slice pa f.2.2.1.length pc) (.slice ta f.2.2.2.length tc) 29).later hb1)
  have B1 : Hid (Below w.heap.size w w1) := (A0.out _).trans (hb1.mono (by simp))
  have HF := Lib.hid hF
  have hpl := putL_len f fs
  clear hb1 hF
  go_wp2_with fail
  refine (specSheetOk_any _ _ _ _ (HP.out.below B1.out) hl HL.out).mono ?_
  rintro e w2 ⟨rfl, hb2⟩
  replace C1 := Lib.hid (C1.out.later hb2)
  have B2 : Hid (Below w.heap.size w w2) := B1.out.trans (hb2.mono B1.out.size)
  replace HF := Lib.hid (HF.out.below hb2)
  clear hb2 B1
  by_cases hok : sheetOk fs = true
  · rw [hok]
    obtain ⟨c0, c1, c2, c3⟩ := C1.out
    go_wp2_with fail
    clear c0 c1 c2 c3
    refine (specFeatOk_any _ _ _ _ _ _ _ _ _ (PP.out.below B2.out) (TT.out.below B2.out) (by omega) (by omega) (by omega) X4.out).mono ?_
    rintro e w3 ⟨rfl, hb3⟩
    have B3 : Hid (Below w.heap.size w w3) := B2.out.trans (hb3.mono B2.out.size)
    replace HF := Lib.hid (HF.out.below hb3)
    clear hb3 C1
    by_cases hfo : featOk f.1 f.2.1 f.2.2.1 f.2.2.2 = true
    · rw [hfo]
      by_cases hle : (putL fs f).length ≤ 8
      · have HH : Hid (putHas fs f = true) := by show _ = _; simp [putHas, ftOk1, hok, hfo, hle]
        have HG : Hid (putRL fs f = putL fs f) := by show _ = _; unfold putRL; rw [HH.out, if_pos rfl]
        have hnn : ¬ (8 : Int) < ((putL fs f).length : Int) := by omega
        have HQ : Hid (∀ i, i < (putL fs f).length → 0 < (fps (putL fs f) i).length) := fun i hi => by
          have hm : (putL fs f)[i] ∈ putL fs f := List.getElem_mem hi
          have := putL_pos (fs := fs) (t := f) (fun g hg => by
            obtain ⟨j, hj, e⟩ := List.getElem_of_mem hg
            have := ftOk_pts (good_ok hok hj)
            unfold fps at this
            rwa [fg_get hj, e] at this) (ftOk_pts (fs := [f]) (i := 0) hfo) _ hm
          unfold fps
          rwa [fg_get hi]
        clear hok hfo
        go_wp2_with fail
        refine (l3Copy_any _ _ _ _ HF.out (by omega) (putL_lens HL.out FL.out) HQ.out).mono ?_
        rintro e w4 ⟨⟨v, rfl, hg⟩, hb4⟩
        have B4 : Hid (Below w.heap.size w w4) := B3.out.trans (hb4.mono B3.out.size)
        have GG : Hid (GotL w.heap.size w4.heap.size w4 v (putL fs f)) := hg.mono B3.out.size (Nat.le_refl _)
        clear hb4 hg
        go_wp2
        go_ret2
        rw [HH.out, HG.out]
        exact ⟨⟨v, rfl, GG.out⟩, B4.out⟩
      · have HH : Hid (putHas fs f = false) := by show _ = _; simp [putHas, hle]
        have HG : Hid (putRL fs f = []) := by show _ = _; unfold putRL; rw [HH.out]; rfl
        have hnn : (8 : Int) < ((putL fs f).length : Int) := by omega
        clear hok hfo
        go_wp2
        go_ret2
        rw [HH.out, HG.out]
        exact ⟨⟨_, rfl, gotL_nil _ _ _ _ _⟩, B3.out.alloc B3.out.size _⟩
    · have hfo' : featOk f.1 f.2.1 f.2.2.1 f.2.2.2 = false := by simpa using hfo
      have HH : Hid (putHas fs f = false) := by show _ = _; simp [putHas, ftOk1, hfo']
      have HG : Hid (putRL fs f = []) := by show _ = _; unfold putRL; rw [HH.out]; rfl
      rw [hfo']
      clear hok hfo hfo'
      go_wp2
      go_ret2
      rw [HH.out, HG.out]
      exact ⟨⟨_, rfl, gotL_nil _ _ _ _ _⟩, B3.out.alloc B3.out.size _⟩
  · have hok' : sheetOk fs = false := by simpa using hok
    have HH : Hid (putHas fs f = false) := by show _ = _; simp [putHas, hok']
    have HG : Hid (putRL fs f = []) := by show _ = _; unfold putRL; rw [HH.out]; rfl
    rw [hok']
    clear hok hok'
    go_wp2
    go_ret2
    rw [HH.out, HG.out]
    exact ⟨⟨_, rfl, gotL_nil _ _ _ _ _⟩, B2.out.alloc B2.out.size _⟩
end Go.Proofs.YtjphlpjippojiaaGreat

namespace Go.Proofs.YtjphlpjippojiaaGreat
set_option linter.unusedVariables false
open Go.ChangeShapes Go.WideShapes Go.ChangeAt Go.RowKit

set_option maxRecDepth 100000 in
set_option maxHeartbeats 2000000 in
theorem markFeat_from (k0 : Int) (id : ByteArray) (kind : Int) (a : Option Addr) (cap : Nat) (ps : List (Int × Int)) (c : Option Addr) (ca : Nat) (ts : List Tg) (w : World) (h0 : 0 ≤ k0) (h1 : k0 ≤ 1152921504604749824) (hp : PtsAt w a ps) (hs : Soft w a ps.length) (ht : TagsAt w c ts) (hs' : Soft w c ts.length) (hap : Apart a c) (hal : ∀ x, blk a = some x → x < w.heap.size) (hl : ps.length ≤ 1048576) (hm : ts.length ≤ 1048576) :
    Calls Tryz.prog 13 #[.agg #[.string id, .int .i64 kind, .slice a ps.length cap, .slice c ts.length ca], .int .i64 k0] w fun e w' => e = .returned (.int .i64 (k0 + 2 * (ps.length : Int) + 2 * (ts.length : Int))) ∧ Turned w w' (fun x => blk a = some x ∨ blk c = some x) := by
  have HP := Lib.hid hp
  have HS := Lib.hid hs
  have HT := Lib.hid ht
  have HS' := Lib.hid hs'
  have HA := Lib.hid hap
  have AL := Lib.hid hal
  clear hp hs ht hs' hap hal
  have A0 : Hid (∀ o, Below w.heap.size w (w.alloc o)) := fun o => (Below.refl _ _).alloc (Nat.le_refl _) _
  go_enter Tryz.func13, Tryz.ntmps13
  go_wp2_with fail
  refine (markShape_any _ _ _ _ _ _ (HP.out.below (A0.out _)) (HS.out.below HP.out (A0.out _)) hl (by omega) (by omega)).mono ?_
  rintro e w1 ⟨rfl, g1, g2, g3⟩
  have G : Hid (w.grownBy w1 (blk a)) := (World.grownBy_alloc w _ (blk a)).trans g3
  have c3 : w1.cell? ⟨w.heap.size, 3, none⟩ = some (.slice c ts.length ca) := by
    rw [g3.cell_far _ (by simp) (fun e => by have := AL.out _ e.symm; simp at this)]
    simp [go_sem]
  have hne : ts.length = 0 ∨ blk c ≠ blk a := by
    by_cases h : ts.length = 0
    · exact .inl h
    · refine .inr fun e => ?_
      obtain ⟨b, off, rfl, _⟩ := HT.out 0 (by omega)
      exact HA.out b e.symm rfl
  have T1 := Lib.hid (HT.out.grown G.out hne)
  have S1 : Hid (Soft w1 c ts.length) := by
    by_cases h : ts.length = 0
    · rw [h]; exact fun i hi => absurd hi (Nat.not_lt_zero _)
    · exact HS'.out.grown G.out (HT.out.lt (by omega)) hne
  clear g1 g2 g3 hne
  go_wp2_with fail
  refine (markTagS_any _ _ _ _ _ T1.out S1.out hm (by omega) (by omega)).mono ?_
  rintro e w2 ⟨rfl, q1, q2, q3⟩
  have GG := Lib.hid (Turned.of_two (show Grown2 w w2 a c from ⟨w1, G.out, q3⟩))
  clear q1 q2 q3 c3
  go_wp2
  go_ret
  exact ⟨rfl, GG.out⟩

theorem putRL_len (fs : List Ft) (f : Ft) : (putRL fs f).length ≤ 8 := by
  unfold putRL
  split
  · rename_i h
    simp [putHas] at h
    exact h.2
  · exact Nat.zero_le _
theorem putRL_lens {fs : List Ft} {f : Ft} {m : Int} (h : FeatsLen fs m) (hf : FtLen f m) : FeatsLen (putRL fs f) m := by
  unfold putRL
  split
  · exact putL_lens h hf
  · exact fun _ h => absurd h (Nat.not_lt_zero _)

set_option maxRecDepth 100000 in
set_option maxHeartbeats 12800000 in
theorem fnSheetPut_walk (a : Option Addr) (cap : Nat) (fs : List Ft) (fi : ByteArray) (fk : Int) (pf : Option Addr) (pfc : Nat) (fp : List (Int × Int)) (tf : Option Addr) (tfc : Nat) (ft : List Tg) (w : World) (hf : FeatsIn w a fs) (hg : FeatIn w fi pf fp tf ft) :
    Calls Tryz.prog 4 #[.slice a fs.length cap, .agg #[.string fi, .int .i64 fk, .slice pf fp.length pfc, .slice tf ft.length tfc]] w fun e w' => e = .returned (.bool true) ∧ Below w.heap.size w w' := by
  have HF := Lib.hid hf
  have HG := Lib.hid hg
  clear hf hg
  have A0 : Hid (∀ o, Below w.heap.size w (w.alloc o)) := fun o => (Below.refl _ _).alloc (Nat.le_refl _) _
  go_enter Tryz.func4, Tryz.ntmps4
  go_wp2_with fail
  refine (szFeatS_any _ _ _ _ _ (HF.out.below (A0.out _)) (by omega) (by omega)).mono ?_
  rintro e u1 ⟨⟨r, rfl, hs⟩, hn⟩
  have C := Lib.hid ((Box4.new w (.string fi) (.int .i64 fk) (.slice pf fp.length pfc) (.slice tf ft.length tfc) 44).later hn)
  have B : Hid (Below w.heap.size w u1) := (A0.out _).trans (hn.mono (by simp))
  clear hn
  rcases hs with rfl | ⟨r0, r1, l1, l2⟩
  · go_wp2
    go_ret
    exact ⟨rfl, B.out⟩
  have L2 : Hid (FeatsLen fs 1048576) := l2.mono (by omega)
  clear l2
  have m1 : fs.length ≤ 1048576 := by omega
  obtain ⟨c0, c1, c2, c3⟩ := C.out
  go_wp2_with fail
  clear c0 c1 c2 c3
  refine (szFeat_any _ _ _ _ _ _ _ _ _ _ (HG.out.below B.out) (by omega) (by omega)).mono ?_
  rintro e u2 ⟨⟨r', rfl, hs⟩, hn⟩
  replace C := Lib.hid (C.out.later hn)
  replace B : Hid (Below w.heap.size w u2) := B.out.trans (hn.mono B.out.size)
  clear hn
  rcases hs with rfl | ⟨r0', r1', l1', l2', l3', l4'⟩
  · go_wp2
    go_ret
    exact ⟨rfl, B.out⟩
  have L4 : Hid (TagsLen ft 1048576) := l4'.mono (by omega)
  clear l4'
  have m2 : fp.length ≤ 1048576 := by omega
  have m3 : ft.length ≤ 1048576 := by omega
  have FL : Hid (FtLen (fi, fk, fp, ft) 1048576) := ⟨by show (fi.size : Int) ≤ _; omega, by show (fp.length : Int) ≤ _; omega, by show (ft.length : Int) ≤ _; omega, L4.out⟩
  have SG : Hid (∀ u x c p pc t tc, FeatsAt u x fs → PtsAt u p fp → TagsAt u t ft → Calls Tryz.prog 16 #[.slice x fs.length c, .agg #[.string fi, .int .i64 fk, .slice p fp.length pc, .slice t ft.length tc]] u fun e w' => (∃ v, e = .returned (.tuple #[v, .bool (putHas fs (fi, fk, fp, ft))]) ∧ GotL u.heap.size w'.heap.size w' v (putRL fs (fi, fk, fp, ft))) ∧ Below u.heap.size u w') := fun u x c p pc t tc hx hp ht => specSheetPut_any x c fs (fi, fk, fp, ft) p t pc tc u hx m1 L2.out hp ht FL.out
  have IG : Hid (∀ u x c p pc t tc, FeatsAt u x fs → PtsAt u p fp → TagsAt u t ft → Calls Tryz.prog 18 #[.slice x fs.length c, .agg #[.string fi, .int .i64 fk, .slice p fp.length pc, .slice t ft.length tc]] u (ListAns u (putRL fs (fi, fk, fp, ft)) (putHas fs (fi, fk, fp, ft)))) := fun u x c p pc t tc hx hp ht => implSheetPut_any x c fs (fi, fk, fp, ft) p t pc tc u hx m1 L2.out hp ht FL.out
  have mg : (putRL fs (fi, fk, fp, ft)).length ≤ 1048576 := Nat.le_trans (putRL_len fs _) (by omega)
  have LG := Lib.hid (putRL_lens L2.out FL.out)
  generalize putHas fs (fi, fk, fp, ft) = has at *
  generalize putRL fs (fi, fk, fp, ft) = gs at *
  have zc : w.heap.size < u2.heap.size := C.out.lt
  go_upto_region 8 with (fail)
  go_cut [6, 7] (fun s6 s7 wx => s7 = .bool has ∧ (∃ aw cw, s6 = .slice aw gs.length cw ∧ GotL u2.heap.size wx.heap.size wx (.slice aw gs.length cw) gs) ∧ Below u2.heap.size u2 wx)
  case first =>
    obtain ⟨c0, c1, c2, c3⟩ := C.out
    go_region_held3 (fun w' => w'.cell? ⟨w.heap.size, 0, none⟩ = some (.string fi) ∧ w'.cell? ⟨w.heap.size, 1, none⟩ = some (.int .i64 fk) ∧ w'.cell? ⟨w.heap.size, 2, none⟩ = some (.slice pf fp.length pfc) ∧ w'.cell? ⟨w.heap.size, 3, none⟩ = some (.slice tf ft.length tfc) ∧ Below u2.heap.size u2 w')
      (first
        | exact ⟨c0, c1, c2, c3, (Below.refl _ _).drew⟩
        | (go_split_ands
           rename_i hS0 hS1 hS2 hS3 hS8
           exact ⟨cell_later hbn hS0, cell_later hbn hS1, cell_later hbn hS2, cell_later hbn hS3, hS8.trans (hbn.mono hS8.size)⟩))
      (first
        | (go_at_call 8
           refine (toFeatS_any a cap fs _ ?_ m1 L2.out).mono ?_
           · (go_split_ands; exact (HF.out.reads.below B.out).below (by assumption))
           rintro e wn ⟨bA, adA, rfl, rA, pA, hxA, hbn⟩)
        | (go_at_call 17
           refine (toFeat_any fi fk pf pfc fp tf tfc ft _ ?_ ?_ m2 m3).mono ?_
           · (go_split_ands; exact (HG.out.pts.below B.out).below (by assumption))
           · (go_split_ands; exact (HG.out.tags.below B.out).below (by assumption))
           rintro e wn ⟨bB, cB, rfl, rB, sB, hbB, hcB, hneB, hbn⟩)
        | (go_at_call 16
           refine (SG.out _ _ _ _ _ _ _ ?_ ?_ ?_).mono ?_
           · (first | exact FeatsAt.of_row (by assumption) (by assumption) | exact (FeatsAt.of_row (by assumption) (by assumption)).below (by assumption))
           · (first | exact PtsAt.of_row (by assumption) | exact (PtsAt.of_row (by assumption)).below (by assumption))
           · (first | exact TagsAt.of_row (by assumption) | exact (TagsAt.of_row (by assumption)).below (by assumption))
           rintro e wn ⟨⟨vG, rfl, hgG⟩, hbn⟩
           obtain ⟨aw, cw, rfl, hgH⟩ := hgG
           have HGG : Hid (GotL u2.heap.size wn.heap.size wn (.slice aw gs.length cw) gs) := GotL.mono ⟨aw, cw, rfl, hgH⟩ (by go_split_ands; exact Below.size (by assumption)) (Nat.le_refl _)
           clear hgH))
    all_goals (go_wp2_with fail; go_meet; go_split_ands; rename_i hS0 hS1 hS2 hS3 hS8; exact ⟨rfl, ⟨aw, cw, rfl, HGG.out⟩, hS8⟩)
  case rest =>
    obtain ⟨rfl, ⟨aw, cw, rfl, hg2⟩, hn⟩ := hcut
    have G0 := Lib.hid hg2
    replace C := Lib.hid (C.out.later hn)
    replace B := Lib.hid (B.out.trans (hn.mono B.out.size))
    have z3 := hn.size
    clear hn hg2 SG
    go_wp2_with fail
    refine (toFeatS_any a cap fs _ (HF.out.reads.below B.out) m1 L2.out).mono ?_
    rintro e u4 ⟨b3, ad3, rfl, rr3, pp3, hx3, hn⟩
    have X0 := Lib.hid (lies_of_row rr3 pp3).1
    have XS := Lib.hid (lies_of_row rr3 pp3).2
    have XB := Lib.hid (blocks_of_row rr3 pp3 hx3)
    have z4 := hn.size
    replace B : Hid (Below w.heap.size w u4) := B.out.trans (hn.mono B.out.size)
    replace C := Lib.hid (C.out.later hn)
    replace G0 := Lib.hid (G0.out.below hn)
    clear hn rr3 pp3 hx3
    obtain ⟨c0, c1, c2, c3⟩ := C.out
    go_wp2_with fail
    clear c0 c1 c2 c3
    refine (toFeat_any fi fk pf pfc fp tf tfc ft _ (HG.out.pts.below B.out) (HG.out.tags.below B.out) m2 m3).mono ?_
    rintro e u5 ⟨bX, cX, rfl, rX, sX, hbX, hcX, hneX, hn⟩
    have P1 := Lib.hid (PtsAt.of_row rX)
    have T1 := Lib.hid (TagsAt.of_row sX)
    have P1s : Hid (Soft u5 (some ⟨bX, 0, none⟩) fp.length) := Soft.of_row rX
    have T1s : Hid (Soft u5 (some ⟨cX, 0, none⟩) ft.length) := Soft.of_row sX
    have yX : bX < u5.heap.size := rX.lt
    have yX' : cX < u5.heap.size := sX.lt
    have z5 := hn.size
    replace B : Hid (Below w.heap.size w u5) := B.out.trans (hn.mono B.out.size)
    replace C := Lib.hid (C.out.later hn)
    replace G0 := Lib.hid (G0.out.below hn)
    replace X0 := Lib.hid (X0.out.below hn)
    clear hn rX sX
    have A5 : Hid (∀ o, Below u5.heap.size u5 (u5.alloc o)) := fun o => (Below.refl _ _).alloc (Nat.le_refl _) _
    go_wp2_with fail
    refine (IG.out _ _ _ _ _ _ _ (X0.out.reads.below (A5.out _)) (P1.out.below (A5.out _)) (T1.out.below (A5.out _))).mono ?_
    rintro e u6 ⟨⟨v1, adg, rfl, hbu⟩, hn6⟩
    obtain ⟨ga, gc, rfl, hLH⟩ := hbu.listH
    have LH := Lib.hid hLH
    have D := Lib.hid ((Box4.new u5 (.string fi) (.int .i64 fk) (.slice (some ⟨bX, 0, none⟩) fp.length fp.length) (.slice (some ⟨cX, 0, none⟩) ft.length ft.length) 29).later hn6)
    have hn : Below u5.heap.size u5 u6 := (A5.out _).trans (hn6.mono (by simp))
    have z6 : u5.heap.size < u6.heap.size := D.out.lt
    simp only [World.size_alloc] at LH
    replace B : Hid (Below w.heap.size w u6) := B.out.trans (hn.mono B.out.size)
    replace C := Lib.hid (C.out.later hn)
    replace G0 := Lib.hid (G0.out.below hn)
    replace X0 := Lib.hid (X0.out.below hn)
    replace P1s := Lib.hid (P1s.out.below P1.out hn)
    replace P1 := Lib.hid (P1.out.below hn)
    replace T1s := Lib.hid (T1s.out.belowT T1.out hn)
    replace T1 := Lib.hid (T1.out.below hn)
    clear hn hbu hLH hn6 A5
    have hne : (has != has) = false := by simp
    go_wp2_with fail
    refine (eqFeatS_any _ _ _ _ gs gs _ LH.out.reads G0.out.reads mg mg LG.out LG.out).mono ?_
    rintro e u7 ⟨rfl, hn⟩
    rw [show fsEq gs gs = true by simp [fsEq]]
    replace B : Hid (Below w.heap.size w u7) := B.out.trans (hn.mono B.out.size)
    replace C := Lib.hid (C.out.later hn)
    replace D := Lib.hid (D.out.later hn)
    replace G0 := Lib.hid (G0.out.below hn)
    replace X0 := Lib.hid (X0.out.below hn)
    replace LH := Lib.hid (LH.out.below hn)
    replace P1s := Lib.hid (P1s.out.below P1.out hn)
    replace P1 := Lib.hid (P1.out.below hn)
    replace T1s := Lib.hid (T1s.out.belowT T1.out hn)
    replace T1 := Lib.hid (T1.out.below hn)
    clear hn
    go_wp2_with fail
    refine (toFeatS_any a cap fs _ (HF.out.reads.below B.out) m1 L2.out).mono ?_
    rintro e u8 ⟨b8, ad8, rfl, rr8, pp8, _, hn⟩
    have H8 := Lib.hid (FeatsAt.of_row rr8 pp8)
    replace B : Hid (Below w.heap.size w u8) := B.out.trans (hn.mono B.out.size)
    replace C := Lib.hid (C.out.later hn)
    replace D := Lib.hid (D.out.later hn)
    replace G0 := Lib.hid (G0.out.below hn)
    replace X0 := Lib.hid (X0.out.below hn)
    replace LH := Lib.hid (LH.out.below hn)
    replace P1s := Lib.hid (P1s.out.below P1.out hn)
    replace P1 := Lib.hid (P1.out.below hn)
    replace T1s := Lib.hid (T1s.out.belowT T1.out hn)
    replace T1 := Lib.hid (T1.out.below hn)
    clear hn rr8 pp8
    go_wp2_with fail
    refine (eqFeatS_any _ _ _ _ fs fs _ X0.out.reads H8.out m1 m1 L2.out L2.out).mono ?_
    rintro e u9 ⟨rfl, hn⟩
    rw [show fsEq fs fs = true by simp [fsEq]]
    replace B : Hid (Below w.heap.size w u9) := B.out.trans (hn.mono B.out.size)
    replace C := Lib.hid (C.out.later hn)
    replace D := Lib.hid (D.out.later hn)
    replace G0 := Lib.hid (G0.out.below hn)
    replace X0 := Lib.hid (X0.out.below hn)
    replace LH := Lib.hid (LH.out.below hn)
    replace P1s := Lib.hid (P1s.out.below P1.out hn)
    replace P1 := Lib.hid (P1.out.below hn)
    replace T1s := Lib.hid (T1s.out.belowT T1.out hn)
    replace T1 := Lib.hid (T1.out.below hn)
    clear hn H8
    have E1 : featEq fi fi fk fk fp fp ft ft = true := by simp [featEq, shEq, ptsEq, tgsEq]
    have zd : u5.heap.size < u9.heap.size := D.out.lt
    have zc9 : w.heap.size < u9.heap.size := C.out.lt
    go_upto_region 16 with (fail)
    go_cut [63] (fun s63 wx => s63 = .bool false ∧ Below u9.heap.size u9 wx)
    case first =>
      obtain ⟨c0, c1, c2, c3⟩ := C.out
      obtain ⟨d0, d1, d2, d3⟩ := D.out
      go_region_held3 (fun w' => w'.cell? ⟨w.heap.size, 0, none⟩ = some (.string fi) ∧ w'.cell? ⟨w.heap.size, 1, none⟩ = some (.int .i64 fk) ∧ w'.cell? ⟨w.heap.size, 2, none⟩ = some (.slice pf fp.length pfc) ∧ w'.cell? ⟨w.heap.size, 3, none⟩ = some (.slice tf ft.length tfc) ∧ w'.cell? ⟨u5.heap.size, 0, none⟩ = some (.string fi) ∧ w'.cell? ⟨u5.heap.size, 1, none⟩ = some (.int .i64 fk) ∧ w'.cell? ⟨u5.heap.size, 2, none⟩ = some (.slice (some ⟨bX, 0, none⟩) fp.length fp.length) ∧ w'.cell? ⟨u5.heap.size, 3, none⟩ = some (.slice (some ⟨cX, 0, none⟩) ft.length ft.length) ∧ Below u9.heap.size u9 w')
        (first
          | exact ⟨c0, c1, c2, c3, d0, d1, d2, d3, (Below.refl _ _).drew⟩
          | (go_split_ands
             rename_i hS0 hS1 hS2 hS3 hS4 hS5 hS6 hS7 hS8
             exact ⟨cell_later hbn hS0, cell_later hbn hS1, cell_later hbn hS2, cell_later hbn hS3, cell_later hbn hS4, cell_later hbn hS5, cell_later hbn hS6, cell_later hbn hS7, hS8.trans (hbn.mono hS8.size)⟩))
        (first
          | (go_at_call 17
             refine (toFeat_any fi fk pf pfc fp tf tfc ft _ ?_ ?_ m2 m3).mono ?_
             · (go_split_ands; exact (HG.out.pts.below B.out).below (by assumption))
             · (go_split_ands; exact (HG.out.tags.below B.out).below (by assumption))
             rintro e wn ⟨bB, cB, rfl, rB, sB, hbB, hcB, hneB, hbn⟩)
          | (go_at_call 10
             refine (eqFeat_any fi fi fk fk _ _ _ _ fp fp _ _ _ _ ft ft _ ?_ ?_ ?_ ?_ m2 m2 m3 m3).mono ?_
             · (go_split_ands; exact P1.out.below (by assumption))
             · (exact PtsAt.of_row (by assumption))
             · (go_split_ands; exact T1.out.below (by assumption))
             · (exact TagsAt.of_row (by assumption))
             rintro e wn ⟨rfl, hbn⟩
             rw [E1]))
      all_goals (go_wp2_with fail; go_meet; go_split_ands; rename_i hS0 hS1 hS2 hS3 hS4 hS5 hS6 hS7 hS8; exact ⟨by simp, hS8⟩)
    case rest =>
      obtain ⟨rfl, hn⟩ := hcut
      have z10 := hn.size
      replace B := Lib.hid (B.out.trans (hn.mono B.out.size))
      replace C := Lib.hid (C.out.later hn)
      replace D := Lib.hid (D.out.later hn)
      replace G0 := Lib.hid (G0.out.below hn)
      replace X0 := Lib.hid (X0.out.below hn)
      replace LH := Lib.hid (LH.out.below hn)
      replace P1s := Lib.hid (P1s.out.below P1.out hn)
      replace P1 := Lib.hid (P1.out.below hn)
      replace T1s := Lib.hid (T1s.out.belowT T1.out hn)
      replace T1 := Lib.hid (T1.out.below hn)
      clear hn
      go_wp2_with fail
      refine (markFeatS_some b3 0 _ fs _ 1 _ m1 L2.out (by omega) (by omega) X0.out XS.out).mono ?_
      rintro e v1 ⟨rfl, _, ht⟩
      have nC : ¬ blocksOf b3 fs.length (plOf fs ad3) w.heap.size := fun h => by have := (XB.out _ h).1; omega
      have nD : ¬ blocksOf b3 fs.length (plOf fs ad3) u5.heap.size := fun h => by have := (XB.out _ h).2; omega
      have nP : ∀ x, blk (some (⟨bX, 0, none⟩ : Addr)) = some x → ¬ blocksOf b3 fs.length (plOf fs ad3) x := fun x hx h => by
        obtain rfl : bX = x := by simpa [blk] using hx
        have := (XB.out _ h).2
        omega
      have nT : ∀ x, blk (some (⟨cX, 0, none⟩ : Addr)) = some x → ¬ blocksOf b3 fs.length (plOf fs ad3) x := fun x hx h => by
        obtain rfl : cX = x := by simpa [blk] using hx
        have := (XB.out _ h).2
        omega
      replace B : Hid (Below w.heap.size w v1) := B.out.trans (ht.below B.out.size (fun x hx => by have := (XB.out x hx).1; omega))
      replace C := Lib.hid (C.out.turned ht nC)
      replace D := Lib.hid (D.out.turned ht nD)
      replace G0 := Lib.hid (G0.out.turned ht (fun x _ h2 h => by have := (XB.out x h).1; omega))
      replace LH := Lib.hid (LH.out.turned ht (fun x h1 _ h => by have := (XB.out x h).2; omega))
      replace P1s := Lib.hid (P1s.out.turnedP P1.out ht nP)
      replace P1 := Lib.hid (P1.out.turned ht nP)
      replace T1s := Lib.hid (T1s.out.turnedT T1.out ht nT)
      replace T1 := Lib.hid (T1.out.turned ht nT)
      obtain ⟨kk0, kk1⟩ := lmk_le (k := 1) (by omega) (by omega) L2.out fs.length (Nat.le_refl _)
      generalize lmk fs 1 fs.length = kk at kk0 kk1
      have z11 := ht.size
      clear ht X0 XS nC nD nP nT
      obtain ⟨d0, d1, d2, d3⟩ := D.out
      go_wp2_with fail
      clear d0 d1 d2 d3
      refine (markFeat_from kk fi fk _ _ fp _ _ ft _ (by omega) (by omega) P1.out P1s.out T1.out T1s.out (fun x h1 h2 => by simp [blk] at h1 h2; omega) (fun x hx => by simp [blk] at hx; omega) m2 m3).mono ?_
      rintro e v2 ⟨rfl, ht⟩
      have two : ∀ x, (blk (some (⟨bX, 0, none⟩ : Addr)) = some x ∨ blk (some (⟨cX, 0, none⟩ : Addr)) = some x) → u4.heap.size ≤ x ∧ x < u5.heap.size := by
        rintro x (hx | hx)
        · obtain rfl : bX = x := by simpa [blk] using hx
          omega
        · obtain rfl : cX = x := by simpa [blk] using hx
          omega
      replace B : Hid (Below w.heap.size w v2) := B.out.trans (ht.below B.out.size (fun x hx => by have := (two x hx).1; omega))
      replace C := Lib.hid (C.out.turned ht (fun h => by have := (two _ h).1; omega))
      replace G0 := Lib.hid (G0.out.turned ht (fun x _ h2 h => by have := (two x h).1; omega))
      replace LH := Lib.hid (LH.out.turned ht (fun x h1 _ h => by have := (two x h).2; omega))
      have z12 := ht.size
      clear ht two D P1 P1s T1 T1s
      have kk2 : ¬ kk + 2 * (fp.length : Int) + 2 * (ft.length : Int) < 0 := by omega
      go_wp2_with fail
      refine (eqFeatS_any _ _ _ _ gs gs _ LH.out.reads G0.out.reads mg mg LG.out LG.out).mono ?_
      rintro e v3 ⟨rfl, hn⟩
      rw [show fsEq gs gs = true by simp [fsEq]]
      replace B : Hid (Below w.heap.size w v3) := B.out.trans (hn.mono B.out.size)
      replace C := Lib.hid (C.out.later hn)
      replace G0 := Lib.hid (G0.out.below hn)
      replace LH := Lib.hid (LH.out.below hn)
      clear hn
      go_wp2_with fail
      refine (markFeatS_list _ _ _ _ gs 1 _ mg LG.out (by omega) (by omega) LH.out).mono ?_
      rintro e v4 ⟨rfl, hM, ht⟩
      have M := Lib.hid hM
      replace B : Hid (Below w.heap.size w v4) := B.out.trans (ht.below B.out.size (fun x hx => by have := hx.1; omega))
      replace C := Lib.hid (C.out.turned ht (fun h => by have := h.1; omega))
      replace G0 := Lib.hid (G0.out.turned ht (fun x _ h2 h => by have := h.1; omega))
      clear hM ht LH
      obtain ⟨j0, j1⟩ := lmk_le (k := 1) (by omega) (by omega) LG.out gs.length (Nat.le_refl _)
      have HH : Hid (∀ u c, FeatsAt u ga (lmkTo gs 1 gs.length) → Calls Tryz.prog 19 #[.slice ga gs.length c, .int .i64 1] u fun e w' => e = .returned (.int .i64 (lmk gs 1 gs.length)) ∧ Below u.heap.size u w') := fun u c h => heldFeatS_any ga c gs 1 u h mg LG.out (by omega) (by omega)
      generalize lmk gs 1 gs.length = jj at *
      generalize lmkTo gs 1 gs.length = ms at *
      have hq : (jj != jj) = false := by simp
      go_wp2_with fail
      refine (HH.out _ _ M.out).mono ?_
      rintro e v5 ⟨rfl, hn⟩
      replace B : Hid (Below w.heap.size w v5) := B.out.trans (hn.mono B.out.size)
      replace C := Lib.hid (C.out.later hn)
      replace G0 := Lib.hid (G0.out.below hn)
      replace M := Lib.hid (M.out.below hn)
      clear hn
      have zc5 : w.heap.size < v5.heap.size := C.out.lt
      go_upto_region 31 with (fail)
      go_cut [15, 16] (fun s15 s16 wx => s16 = .bool has ∧ (∃ ah ch, s15 = .slice ah gs.length ch ∧ FeatsAt wx ah gs) ∧ Below v5.heap.size v5 wx)
      case first =>
        obtain ⟨c0, c1, c2, c3⟩ := C.out
        go_region_held3 (fun w' => w'.cell? ⟨w.heap.size, 0, none⟩ = some (.string fi) ∧ w'.cell? ⟨w.heap.size, 1, none⟩ = some (.int .i64 fk) ∧ w'.cell? ⟨w.heap.size, 2, none⟩ = some (.slice pf fp.length pfc) ∧ w'.cell? ⟨w.heap.size, 3, none⟩ = some (.slice tf ft.length tfc) ∧ Below v5.heap.size v5 w')
          (first
            | exact ⟨c0, c1, c2, c3, (Below.refl _ _).drew⟩
            | (go_split_ands
               rename_i hS0 hS1 hS2 hS3 hS8
               exact ⟨cell_later hbn hS0, cell_later hbn hS1, cell_later hbn hS2, cell_later hbn hS3, hS8.trans (hbn.mono hS8.size)⟩))
          (first
            | (go_at_call 8
               refine (toFeatS_any a cap fs _ ?_ m1 L2.out).mono ?_
               · (go_split_ands; exact (HF.out.reads.below B.out).below (by assumption))
               rintro e wn ⟨bA, adA, rfl, rA, pA, hxA, hbn⟩)
            | (go_at_call 17
               refine (toFeat_any fi fk pf pfc fp tf tfc ft _ ?_ ?_ m2 m3).mono ?_
               · (go_split_ands; exact (HG.out.pts.below B.out).below (by assumption))
               · (go_split_ands; exact (HG.out.tags.below B.out).below (by assumption))
               rintro e wn ⟨bB, cB, rfl, rB, sB, hbB, hcB, hneB, hbn⟩)
            | (go_at_call 18
               refine (IG.out _ _ _ _ _ _ _ ?_ ?_ ?_).mono ?_
               · (first | exact FeatsAt.of_row (by assumption) (by assumption) | exact (FeatsAt.of_row (by assumption) (by assumption)).below (by assumption))
               · (first | exact PtsAt.of_row (by assumption) | exact (PtsAt.of_row (by assumption)).below (by assumption))
               · (first | exact TagsAt.of_row (by assumption) | exact (TagsAt.of_row (by assumption)).below (by assumption))
               rintro e wn ⟨⟨vG, adG, rfl, hgG⟩, hbn⟩
               obtain ⟨ah, ch, rfl, hgH⟩ := hgG.listH
               have HGG := Lib.hid hgH.reads
               clear hgG hgH))
        all_goals (go_wp2_with fail; go_meet; go_split_ands; rename_i hS0 hS1 hS2 hS3 hS8; exact ⟨rfl, ⟨ah, ch, rfl, HGG.out⟩, hS8⟩)
      case rest =>
        obtain ⟨rfl, ⟨ah, ch, rfl, hg9⟩, hn⟩ := hcut
        have G9 := Lib.hid hg9
        replace G0 := Lib.hid (G0.out.below hn)
        replace M := Lib.hid (M.out.below hn)
        replace B := Lib.hid (B.out.trans (hn.mono B.out.size))
        clear hn hg9 C
        go_wp2_with fail
        refine (eqFeatS_any _ _ _ _ gs gs _ G9.out G0.out.reads mg mg LG.out LG.out).mono ?_
        rintro e v7 ⟨rfl, hn⟩
        rw [show fsEq gs gs = true by simp [fsEq]]
        replace B : Hid (Below w.heap.size w v7) := B.out.trans (hn.mono B.out.size)
        replace M := Lib.hid (M.out.below hn)
        clear hn G9 G0
        go_wp2_with fail
        refine (HH.out _ _ M.out).mono ?_
        rintro e v8 ⟨rfl, hn⟩
        replace B : Hid (Below w.heap.size w v8) := B.out.trans (hn.mono B.out.size)
        clear hn
        go_wp2
        go_ret
        exact ⟨rfl, B.out⟩

set_option maxRecDepth 100000 in
theorem fnExactSheetPut_lifted (os : Os) (started : os.Started) (H : Type) (enc : TypeId × Value → H) :
    ReturnsInHanded {} Tryz.checked os 4 .any (Rows.fnExactSheetPutSpec.pre6 enc Tryz.prog Tryz.f4 Rows.fnExactSheetPutRow.domain false) (Rows.fnExactSheetPutSpec.post enc Tryz.prog Tryz.f4 false true false false) := by
  refine returnsInHanded_of_change (C := Tryz.checked) own started (by kernel_rfl) Tryz.func4
    (ChangeSpec.witness6 (enc := enc) (C := Tryz.checked) false ⟨#[], #[.slice none 0 0, .agg #[.string .empty, .int .i64 0, .slice none 0 0, .slice none 0 0]], []⟩ 8 (by kernel_rfl) (by kernel_rfl) (by kernel_rfl) (by kernel_rfl)) ?_
  intro W base args ds gs before hval0 hW _ _
  have hval : ∀ (j : Nat) t v, Tryz.f4.params[j]? = some t → args[j]? = some v → Value.okWide Tryz.prog W .any base t v := hval0
  have hW' := hW
  obtain ⟨p, q, hA0, hV, rfl, _, _⟩ := hW
  have hA : DataW.TrodAll enc Tryz.prog W 0 (fun _ => true) true Tryz.f4.params.toList args.toList ds p := hA0
  rw [Tryz.params4] at hA hval
  obtain ⟨v0, vs0, d0, ds0, p0, q0, hargs, rfl, rfl, h0, r0⟩ := trodAll_cons hA
  obtain ⟨v1, vs1, d1, ds1, p1, q1, rfl, rfl, rfl, h1, r1⟩ := trodAll_cons r0
  obtain ⟨rfl, rfl, rfl⟩ := trodAll_nil r1
  obtain rfl : args = #[v0, v1] := by cases args; simp_all
  obtain ⟨rfl, rfl⟩ := trodVars_none hV
  have k0 := h0
  have lt0 : ∀ x ∈ p0, x.block < W.heap.size := by obtain ⟨m, hm⟩ := k0; exact DataW.trod_lt m _ _ _ hm
  obtain ⟨a0, c0, s0, rfl, f0⟩ := open_feats (hval 0 22 v0 rfl rfl) h0
  have k1 := h1
  have lt1 : ∀ x ∈ p1, x.block < W.heap.size := by obtain ⟨m, hm⟩ := k1; exact DataW.trod_lt m _ _ _ hm
  obtain ⟨i1, x1, a1, c1, s1, b1, e1, t1, rfl, f1⟩ := open_feat (hval 1 44 v1 rfl rfl) h1
  clear hA0 hval0
  refine (fnSheetPut_walk a0 c0 s0 i1 x1 a1 c1 s1 b1 e1 t1 W f0 f1).mono fun e W' ⟨he, bel⟩ => ?_
  subst he
  exact ⟨_, rfl, _, _, _, [], _, [], hW', trodAll_mk1 (shut_bool Tryz.underlying4 _), (trodAll_cons_mk (Below.trod laidOut (by kernel_rfl) (of_decide_eq_true (by kernel_rfl)) k0 bel lt0) (trodAll_cons_mk (Below.trod laidOut (by kernel_rfl) (of_decide_eq_true (by kernel_rfl)) k1 bel lt1) trodAll_mk0)), rfl, bel.frame _, fun h => by cases h⟩

theorem fnExactSheetPut_over : Rows.fnExactSheetPutRow.holds Tryz.pinned (OpenSpec.ofChange Rows.fnExactSheetPutSpec) :=
  OpenClaim.holds_of_wide 4 Tryz.f4 rfl rfl rfl rfl rfl rfl rfl ⟨rfl, rfl, rfl, rfl, rfl⟩ rfl rfl rfl rfl rfl (by kernel_rfl) Tryz.func4 (by kernel_rfl)
    (of_decide_eq_true (by kernel_rfl)) (by unfold Func.isWrapper; first | (rw [if_pos (by decide +kernel)]; kernel_rfl) | (rw [if_neg (by decide +kernel)]; exact ⟨rfl, rfl⟩))
    (fun os started H enc _ => fnExactSheetPut_lifted os started H enc)

/-- the given statement -/
theorem fnExactSheetPut_holds : Rows.FnExactSheetPutSaid := fnExactSheetPut_over

end Go.Proofs.YtjphlpjippojiaaGreat
