/- Proved here: a thing put among things, as the model goes through them, in a row of its own; a thing appended to such a row; lists of at most 1,048,576 things. -/
import Derived.Test.YtdfadpejddhbkaaGreatWSheet
import Derived.Test.YtdfadpejddhbkaaGreatWCopyF
import Derived.Test.YtdfadpejddhbkaaGreatWSheetOk
import Derived.Deep.AppendLies
import Derived.Deep.QuietTactic
import Derived.BigQuiet
namespace Go.Proofs.YtdfadpejddhbkaaGreat
set_option linter.unusedVariables false
open Go.ChangeShapes Go.WideShapes Go.ChangeAt Go.RowKit Go.Deep

/-- a world that has grown, turned in these blocks alone -/
structure Turned (w w' : World) (S : Nat → Prop) : Prop where
  os : w'.os = w.os
  tape : w'.tape = w.tape
  output : w'.output = w.output
  size : w.heap.size ≤ w'.heap.size
  block : ∀ k, k < w.heap.size → ¬ S k → w'.heap[k]? = w.heap[k]?

theorem Turned.refl (w : World) (S : Nat → Prop) : Turned w w S := ⟨rfl, rfl, rfl, Nat.le_refl _, fun _ _ _ => rfl⟩

theorem Turned.trans {a b c : World} {S : Nat → Prop} (h : Turned a b S) (k : Turned b c S) : Turned a c S :=
  ⟨k.os.trans h.os, k.tape.trans h.tape, k.output.trans h.output, Nat.le_trans h.size k.size, fun i hi hn => (k.block i (Nat.lt_of_lt_of_le hi h.size) hn).trans (h.block i hi hn)⟩

theorem Turned.of_below {w w' : World} {S : Nat → Prop} (h : Below w.heap.size w w') : Turned w w' S := ⟨h.os, h.tape, h.output, h.size, fun k hk _ => h.block k hk⟩

theorem Turned.of_grown {w w' : World} {row : Option Nat} {S : Nat → Prop} (h : w.grownBy w' row) (hS : ∀ x, row = some x → S x) : Turned w w' S :=
  ⟨h.os, h.tape, h.output, h.size, fun k hk hn => h.block k hk (fun e => hn (hS k e.symm))⟩

theorem Turned.of_set (w : World) {b : Nat} (o : Nat) (v : Value) {S : Nat → Prop} (hS : S b) : Turned w (w.setCell ⟨b, o, none⟩ v) S :=
  ⟨rfl, rfl, rfl, by simp [World.setCell], fun k _ hn => Below.heap_setCell _ _ _ _ (fun e => hn (by rw [e]; exact hS))⟩

theorem Turned.cell {w w' : World} {S : Nat → Prop} (h : Turned w w' S) {a : Addr} {v : Value} (hc : w.cell? a = some v) (hn : ¬ S a.block) : w'.cell? a = some v := by
  rw [World.cell?_of_block (h.block _ (World.block_lt_of_cell? _ _ hc) hn)]
  exact hc

theorem Turned.frozen {w w' : World} {S : Nat → Prop} (h : Turned w w' S) {a : Addr} (hlt : a.block < w.heap.size) (hn : ¬ S a.block) : w'.frozen? a = w.frozen? a := World.frozen?_of_block (h.block _ hlt hn)

theorem Turned.below {w w' : World} {S : Nat → Prop} {B : Nat} (h : Turned w w' S) (hB : B ≤ w.heap.size) (hS : ∀ x, S x → B ≤ x) : Below B w w' :=
  ⟨h.os, h.tape, h.output, h.size, fun k hk => h.block k (Nat.lt_of_lt_of_le hk hB) (fun hs => by have := hS k hs; omega)⟩

theorem PtsAt.turned {w w' : World} {a : Option Addr} {ps : List (Int × Int)} {S : Nat → Prop} (h : PtsAt w a ps) (ht : Turned w w' S) (hn : ∀ x, blk a = some x → ¬ S x) : PtsAt w' a ps := by
  intro i hi
  obtain ⟨b, off, rfl, hlt, h1, h2⟩ := h i hi
  exact ⟨b, off, rfl, Nat.lt_of_lt_of_le hlt ht.size, ht.cell h1 (hn b rfl), ht.cell h2 (hn b rfl)⟩

theorem TagsAt.turned {w w' : World} {a : Option Addr} {ts : List Tg} {S : Nat → Prop} (h : TagsAt w a ts) (ht : Turned w w' S) (hn : ∀ x, blk a = some x → ¬ S x) : TagsAt w' a ts := by
  intro i hi
  obtain ⟨b, off, rfl, hlt, h1, h2⟩ := h i hi
  exact ⟨b, off, rfl, Nat.lt_of_lt_of_le hlt ht.size, ht.cell h1 (hn b rfl), ht.cell h2 (hn b rfl)⟩

/-- where the points and tags of a thing lie, and how much room is there -/
abbrev Pl := (Option Addr × Nat) × (Option Addr × Nat)

/-- a thing's cells -/
def cellsF (f : Ft) (p : Pl) : List Value := [.string f.1, .int .i64 f.2.1, .slice p.1.1 f.2.2.1.length p.1.2, .slice p.2.1 f.2.2.2.length p.2.2]

/-- the cells of the first things -/
def flatF (fs : List Ft) (ad : Nat → Pl) (k : Nat) : List Value := (List.range k).flatMap fun i => cellsF (fg fs i) (ad i)

/-- one more place -/
def plSet (ad : Nat → Pl) (k : Nat) (p : Pl) : Nat → Pl := fun i => if i = k then p else ad i

theorem plSet_at (ad : Nat → Pl) (k : Nat) (p : Pl) : plSet ad k p k = p := if_pos rfl

theorem plSet_lt {ad : Nat → Pl} {k i : Nat} {p : Pl} (h : i < k) : plSet ad k p i = ad i := if_neg (by omega)

theorem flatF_succ (fs : List Ft) (ad : Nat → Pl) (k : Nat) : flatF fs ad (k + 1) = flatF fs ad k ++ cellsF (fg fs k) (ad k) := by simp [flatF, List.range_succ, List.flatMap_append]

theorem flatF_len (fs : List Ft) (ad : Nat → Pl) : ∀ k, (flatF fs ad k).length = k * 4
  | 0 => rfl
  | k + 1 => by
    rw [flatF_succ, List.length_append, flatF_len fs ad k]
    simp [cellsF]
    omega

theorem flatF_at (fs : List Ft) (ad : Nat → Pl) : ∀ k i o, i < k → o < 4 → (flatF fs ad k)[i * 4 + o]? = (cellsF (fg fs i) (ad i))[o]?
  | 0, i, o, hi, _ => absurd hi (Nat.not_lt_zero _)
  | k + 1, i, o, hi, ho => by
    rw [flatF_succ]
    have hl := flatF_len fs ad k
    by_cases e : i = k
    · subst e
      rw [List.getElem?_append_right (by omega), hl, show i * 4 + o - i * 4 = o by omega]
    · rw [List.getElem?_append_left (by omega)]
      exact flatF_at fs ad k i o (by omega) ho

theorem flatF_set (fs : List Ft) (ad : Nat → Pl) (p : Pl) (n : Nat) : ∀ k, k ≤ n → flatF fs (plSet ad n p) k = flatF fs ad k
  | 0, _ => rfl
  | k + 1, h => by rw [flatF_succ, flatF_succ, flatF_set fs ad p n k (by omega), plSet_lt (by omega)]

theorem infoF : (Tryz.prog.info? 33).map (fun i => (i.zero, i.size, i.bytes)) = some (some (.agg #[.string .empty, .int .i64 0, .slice none 0 0, .slice none 0 0]), 4, 72) := infoFeat

/-- a list in a row of its own, its parts in blocks of a kind -/
structure Row (w : World) (R : Nat → Prop) (lo : Nat) (v : Value) (k : Nat) (fs : List Ft) (ad : Nat → Pl) : Prop where
  row : w.ownsRow lo 33 4 v k (flatF fs ad k)
  pts : ∀ i, i < k → PtsAt w (ad i).1.1 (fps fs i)
  tags : ∀ i, i < k → TagsAt w (ad i).2.1 (fts fs i)
  prng : ∀ i, i < k → (fps fs i).length = 0 ∨ ∀ x, blk (ad i).1.1 = some x → R x ∧ x < w.heap.size ∧ v.ownBlock ≠ some x
  trng : ∀ i, i < k → (fts fs i).length = 0 ∨ ∀ x, blk (ad i).2.1 = some x → R x ∧ x < w.heap.size ∧ v.ownBlock ≠ some x

theorem PtsAt.turned0 {w w' : World} {a : Option Addr} {ps : List (Int × Int)} {S : Nat → Prop} (h : PtsAt w a ps) (ht : Turned w w' S) (hn : ps.length = 0 ∨ ∀ x, blk a = some x → ¬ S x) : PtsAt w' a ps := by
  rcases hn with h0 | hn
  · exact fun i hi => absurd hi (by omega)
  · exact h.turned ht hn

theorem TagsAt.turned0 {w w' : World} {a : Option Addr} {ts : List Tg} {S : Nat → Prop} (h : TagsAt w a ts) (ht : Turned w w' S) (hn : ts.length = 0 ∨ ∀ x, blk a = some x → ¬ S x) : TagsAt w' a ts := by
  rcases hn with h0 | hn
  · exact fun i hi => absurd hi (by omega)
  · exact h.turned ht hn

theorem Row.below {w w' : World} {R : Nat → Prop} {lo : Nat} {v : Value} {k : Nat} {fs : List Ft} {ad : Nat → Pl} (h : Row w R lo v k fs ad) (hb : Below w.heap.size w w') : Row w' R lo v k fs ad :=
  ⟨ownsRow_below h.row hb, fun i hi => (h.pts i hi).below hb, fun i hi => (h.tags i hi).below hb, fun i hi => (h.prng i hi).imp (fun h => h) fun q x hx => ⟨(q x hx).1, Nat.lt_of_lt_of_le (q x hx).2.1 hb.size, (q x hx).2.2⟩, fun i hi => (h.trng i hi).imp (fun h => h) fun q x hx => ⟨(q x hx).1, Nat.lt_of_lt_of_le (q x hx).2.1 hb.size, (q x hx).2.2⟩⟩

theorem Row.step {wr w3 wb wa : World} {R : Nat → Prop} {lo : Nat} {v : Value} {k : Nat} {fs : List Ft} {ad : Nat → Pl} {p : Pl} {gg cap' : Nat} (h : Row wr R lo v k fs ad) (hb : Below wr.heap.size wr w3) (h3 : Below w3.heap.size w3 wb) (hz : wb.heap.size = w3.heap.size + 1)
    (hp : PtsAt w3 p.1.1 (fps fs k)) (hpf : (fps fs k).length = 0 ∨ ∀ x, blk p.1.1 = some x → R x ∧ x < w3.heap.size ∧ v.ownBlock ≠ some x) (ht : TagsAt w3 p.2.1 (fts fs k)) (htf : (fts fs k).length = 0 ∨ ∀ x, blk p.2.1 = some x → R x ∧ x < w3.heap.size ∧ v.ownBlock ≠ some x)
    (hrow : wa.ownsRow lo 33 4 (.slice (some ⟨gg, 0, none⟩) (k + 1) cap') (k + 1) (flatF fs ad k ++ cellsF (fg fs k) p)) (hg : wb.grownBy wa v.ownBlock) (hat : v.ownBlock = some gg ∨ gg = w3.heap.size + 1) :
    Row wa R lo (.slice (some ⟨gg, 0, none⟩) (k + 1) cap') (k + 1) fs (plSet ad k p) := by
  have hbb : Below wr.heap.size wr wb := hb.trans (h3.mono hb.size)
  have hB := h.below hbb
  have ht' : Turned wb wa (fun x => v.ownBlock = some x) := Turned.of_grown hg fun x hx => hx
  have hwz := hg.size
  have hs3 := hb.size
  have gne : ∀ x, x < w3.heap.size → v.ownBlock ≠ some x → (Value.slice (some ⟨gg, 0, none⟩) (k + 1) cap').ownBlock ≠ some x := fun x hx hn e => by
    obtain rfl : gg = x := by simpa [Value.ownBlock] using e
    rcases hat with h1 | h1
    · exact hn h1
    · omega
  refine ⟨?_, fun i hi => ?_, fun i hi => ?_, fun i hi => ?_, fun i hi => ?_⟩
  · rw [flatF_succ, flatF_set _ _ _ _ _ (Nat.le_refl _), plSet_at]
    exact hrow
  · by_cases e : i = k
    · subst e
      rw [plSet_at]
      exact (hp.below h3).turned0 ht' (hpf.imp (fun h => h) fun q x hx => (q x hx).2.2)
    · rw [plSet_lt (by omega)]
      exact (hB.pts i (by omega)).turned0 ht' ((h.prng i (by omega)).imp (fun h => h) fun q x hx => (q x hx).2.2)
  · by_cases e : i = k
    · subst e
      rw [plSet_at]
      exact (ht.below h3).turned0 ht' (htf.imp (fun h => h) fun q x hx => (q x hx).2.2)
    · rw [plSet_lt (by omega)]
      exact (hB.tags i (by omega)).turned0 ht' ((h.trng i (by omega)).imp (fun h => h) fun q x hx => (q x hx).2.2)
  · by_cases e : i = k
    · subst e
      rw [plSet_at]
      exact hpf.imp (fun h => h) fun q x hx => ⟨(q x hx).1, by have := (q x hx).2.1; omega, gne x (q x hx).2.1 (q x hx).2.2⟩
    · rw [plSet_lt (by omega)]
      exact (h.prng i (by omega)).imp (fun h => h) fun q x hx => ⟨(q x hx).1, by have := (q x hx).2.1; omega, gne x (by have := (q x hx).2.1; omega) (q x hx).2.2⟩
  · by_cases e : i = k
    · subst e
      rw [plSet_at]
      exact htf.imp (fun h => h) fun q x hx => ⟨(q x hx).1, by have := (q x hx).2.1; omega, gne x (q x hx).2.1 (q x hx).2.2⟩
    · rw [plSet_lt (by omega)]
      exact (h.trng i (by omega)).imp (fun h => h) fun q x hx => ⟨(q x hx).1, by have := (q x hx).2.1; omega, gne x (by have := (q x hx).2.1; omega) (q x hx).2.2⟩

/-- a row of its own reads as its things -/
theorem Row.reads {w : World} {R : Nat → Prop} {lo : Nat} {v : Value} {fs : List Ft} {ad : Nat → Pl} (h : Row w R lo v fs.length fs ad) : ∃ a cap, v = .slice a fs.length cap ∧ FeatsAt w a fs ∧ ∀ i, i < fs.length → ∃ b off, a = some ⟨b, off, none⟩ ∧ lo ≤ b ∧ b < w.heap.size ∧
    w.cell? ⟨b, off + i * 4 + 2, none⟩ = some (.slice (ad i).1.1 (fps fs i).length (ad i).1.2) ∧ w.cell? ⟨b, off + i * 4 + 3, none⟩ = some (.slice (ad i).2.1 (fts fs i).length (ad i).2.2) := by
  obtain ⟨h1, ⟨h2, h3⟩ | ⟨b, cap, cur, rfl, hb, hg, hc, hm, hs, hx⟩⟩ := h.row
  · have e : fs = [] := List.eq_nil_of_length_eq_zero (by omega)
    subst e
    exact ⟨none, 0, h2, FeatsAt.nil _ _, fun _ h => absurd h (Nat.not_lt_zero _)⟩
  · have hlt : b < w.heap.size := (Array.getElem?_eq_some_iff.1 hg).1
    have cell : ∀ j v, j < fs.length * 4 → (flatF fs ad fs.length)[j]? = some v → w.cell? ⟨b, 0 + j, none⟩ = some v := by
      intro j v hj hv
      rw [← hx, List.getElem?_take, if_pos hj] at hv
      simp only [World.cell?, hg, Option.isSome_none, Bool.false_eq_true, if_false, Nat.zero_add]
      simpa using hv
    refine ⟨some ⟨b, 0, none⟩, cap, rfl, fun i hi => ?_, fun i hi => ?_⟩
    · have f := fun o ho => flatF_at fs ad fs.length i o hi ho
      exact ⟨b, 0, _, _, _, _, rfl, hlt, cell _ _ (by omega) (f 0 (by omega)), cell _ _ (by omega) (f 1 (by omega)), cell _ _ (by omega) (f 2 (by omega)), cell _ _ (by omega) (f 3 (by omega)), h.pts i hi, h.tags i hi⟩
    · have f := fun o ho => flatF_at fs ad fs.length i o hi ho
      exact ⟨b, 0, rfl, hb, hlt, cell _ _ (by omega) (f 2 (by omega)), cell _ _ (by omega) (f 3 (by omega))⟩

theorem featsLen_iff {fs : List Ft} {m : Int} : FeatsLen fs m ↔ ∀ f ∈ fs, (f.1.size : Int) ≤ m ∧ (f.2.2.1.length : Int) ≤ m ∧ (f.2.2.2.length : Int) ≤ m ∧ TagsLen f.2.2.2 m := by
  constructor
  · intro h f hf
    obtain ⟨i, hi, rfl⟩ := List.getElem_of_mem hf
    have := h i hi
    simpa [fid, fps, fts, fg_get hi] using this
  · intro h i hi
    have := h fs[i] (List.getElem_mem hi)
    simpa [fid, fps, fts, fg_get hi] using this

/-- a name, as bytes -/
def kf (f : Ft) : List UInt8 := f.1.data.toList

/-- a thing put among things, as the model puts it -/
def putL : List Ft → Ft → List Ft
  | [], t => [t]
  | u :: us, t => if kf t ≤ kf u then t :: (u :: us).filter (fun s => decide (kf s ≠ kf t)) else u :: putL us t

/-- what is still to be put -/
def putM : List Ft → Ft → Bool → List Ft
  | [], t, d => if d then [] else [t]
  | u :: us, t, d => (if !d && decide (kf t ≤ kf u) then [t] else []) ++ ((if kf u = kf t then [] else [u]) ++ putM us t (d || decide (kf t ≤ kf u)))

theorem putM_true (t : Ft) : ∀ us : List Ft, putM us t true = us.filter (fun s => decide (kf s ≠ kf t))
  | [] => rfl
  | u :: us => by
    by_cases h : kf u = kf t <;> simp [putM, putM_true t us, h]

theorem putM_false (t : Ft) : ∀ us : List Ft, putM us t false = putL us t
  | [] => rfl
  | u :: us => by
    unfold putM putL
    by_cases h : kf t ≤ kf u
    · rw [if_pos h]
      by_cases h2 : kf u = kf t <;> simp [h, h2, putM_true]
    · rw [if_neg h]
      have h2 : kf u ≠ kf t := fun e => h (by rw [e]; exact List.le_refl _)
      simp [h, h2, putM_false t us]

/-- the rounds that are left make the list whole -/
def PutsL (fs : List Ft) (t : Ft) (j : Nat) (o : List Ft) (d : Bool) : Prop := o ++ putM (fs.drop j) t d = putL fs t

theorem PutsL.start (fs : List Ft) (t : Ft) : PutsL fs t 0 [] false := by simp [PutsL, putM_false]

theorem PutsL.step {fs : List Ft} {t : Ft} {j : Nat} {o : List Ft} {d : Bool} (h : PutsL fs t j o d) (hj : j < fs.length) :
    PutsL fs t (j + 1) (o ++ (if !d && decide (kf t ≤ kf (fg fs j)) then [t] else []) ++ (if kf (fg fs j) = kf t then [] else [fg fs j])) (d || decide (kf t ≤ kf (fg fs j))) := by
  unfold PutsL at *
  rw [List.drop_eq_getElem_cons hj, putM, ← fg_get hj] at h
  rw [← h]
  simp [List.append_assoc]

theorem PutsL.done {fs : List Ft} {t : Ft} {o : List Ft} {d : Bool} (h : PutsL fs t fs.length o d) : o ++ (if d then [] else [t]) = putL fs t := by
  unfold PutsL at h
  rw [List.drop_length] at h
  exact h

theorem putL_len (t : Ft) : ∀ us : List Ft, (putL us t).length ≤ us.length + 1
  | [] => by simp [putL]
  | u :: us => by
    unfold putL
    split
    · have := List.length_filter_le (fun s => decide (kf s ≠ kf t)) (u :: us)
      rw [List.length_cons]
      omega
    · have := putL_len t us
      simp only [List.length_cons]
      omega

theorem putL_mem {s t : Ft} : ∀ {us : List Ft}, s ∈ putL us t → s = t ∨ s ∈ us
  | [], h => by simpa [putL] using h
  | u :: us, h => by
    unfold putL at h
    split at h
    · simp only [List.mem_cons, List.mem_filter] at h
      rcases h with h | h
      · exact .inl h
      · exact .inr (by simpa using h.1)
    · rcases List.mem_cons.1 h with h | h
      · exact .inr (by rw [h]; exact .head _)
      · exact (putL_mem h).imp (fun h => h) fun h => .tail _ h

theorem putL_lens {fs : List Ft} {t : Ft} {m : Int} (h : FeatsLen fs m) (ht : (t.1.size : Int) ≤ m ∧ (t.2.2.1.length : Int) ≤ m ∧ (t.2.2.2.length : Int) ≤ m ∧ TagsLen t.2.2.2 m) : FeatsLen (putL fs t) m := featsLen_iff.2 fun f hf => by
  rcases putL_mem hf with rfl | h'
  · exact ht
  · exact featsLen_iff.1 h f h'

theorem fg_snoc (o : List Ft) (x : Ft) : fg (o ++ [x]) o.length = x := by simp [fg]

theorem fg_snoc_lt {o : List Ft} (x : Ft) {i : Nat} (h : i < o.length) : fg (o ++ [x]) i = fg o i := by simp [fg, List.getD, h, Nat.lt_succ_of_lt h]

theorem flatF_snoc (o : List Ft) (x : Ft) (ad : Nat → Pl) : ∀ k, k ≤ o.length → flatF (o ++ [x]) ad k = flatF o ad k
  | 0, _ => rfl
  | k + 1, h => by rw [flatF_succ, flatF_succ, flatF_snoc o x ad k (by omega), fg_snoc_lt x (by omega)]

/-- a thing appended to a row -/
theorem Row.snoc {wr wa : World} {R : Nat → Prop} {lo : Nat} {v : Value} {o : List Ft} {ad : Nat → Pl} {x : Ft} {pa ta : Option Addr} {pc tc gg cap' : Nat} {O : Obj} (h : Row wr R lo v o.length o ad)
    (hp : PtsAt wr pa x.2.2.1) (hpf : x.2.2.1.length = 0 ∨ ∀ y, blk pa = some y → R y ∧ y < wr.heap.size ∧ v.ownBlock ≠ some y) (ht : TagsAt wr ta x.2.2.2) (htf : x.2.2.2.length = 0 ∨ ∀ y, blk ta = some y → R y ∧ y < wr.heap.size ∧ v.ownBlock ≠ some y)
    (hrow : wa.ownsRow lo 33 4 (.slice (some ⟨gg, 0, none⟩) (o.length + 1) cap') (o.length + 1) (flatF o ad o.length ++ cellsF x ((pa, pc), (ta, tc)))) (hg : (wr.alloc O).grownBy wa v.ownBlock) (hat : v.ownBlock = some gg ∨ gg = wr.heap.size + 1) :
    Row wa R lo (.slice (some ⟨gg, 0, none⟩) (o.length + 1) cap') (o ++ [x]).length (o ++ [x]) (plSet ad o.length ((pa, pc), (ta, tc))) := by
  have e1 := fg_snoc o x
  have h' : Row wr R lo v o.length (o ++ [x]) ad := by
    have ep : ∀ i, i < o.length → fps (o ++ [x]) i = fps o i := fun i hi => by unfold fps; rw [fg_snoc_lt x hi]
    have et : ∀ i, i < o.length → fts (o ++ [x]) i = fts o i := fun i hi => by unfold fts; rw [fg_snoc_lt x hi]
    refine ⟨by rw [flatF_snoc o x ad _ (Nat.le_refl _)]; exact h.row, fun i hi => by rw [ep i hi]; exact h.pts i hi, fun i hi => by rw [et i hi]; exact h.tags i hi, fun i hi => by rw [ep i hi]; exact h.prng i hi, fun i hi => by rw [et i hi]; exact h.trng i hi⟩
  have p1 : fps (o ++ [x]) o.length = x.2.2.1 := by unfold fps; rw [e1]
  have t1 : fts (o ++ [x]) o.length = x.2.2.2 := by unfold fts; rw [e1]
  rw [show (o ++ [x]).length = o.length + 1 by simp]
  exact h'.step (w3 := wr) (wb := wr.alloc O) (p := ((pa, pc), (ta, tc))) (Below.refl _ _) ((Below.refl _ _).alloc (Nat.le_refl _) _) (by simp) (by rw [p1]; exact hp) (by rw [p1]; exact hpf) (by rw [t1]; exact ht) (by rw [t1]; exact htf) (by rw [flatF_snoc o x ad _ (Nat.le_refl _), e1]; exact hrow) hg hat

theorem HGF_cell {wr wa : World} {O : Obj} {x : Option Nat} {b o : Nat} {v : Value} (hg : (wr.alloc O).grownBy wa x) (hlt : b < wr.heap.size) (hc : wr.cell? ⟨b, o, none⟩ = some v) : x ≠ some b → wa.cell? ⟨b, o, none⟩ = some v := fun hne =>
  (hg.cell_far ⟨b, o, none⟩ (by simp; omega) (Ne.symm hne)).trans ((World.cell?_of_block (w := wr) (Below.heap_alloc _ _ _ hlt)).trans hc)

theorem BoxF.grown {wr wa : World} {O : Obj} {x : Option Nat} {b : Nat} {v0 v1 v2 v3 : Value} (h : Box4 wr b v0 v1 v2 v3) (hg : (wr.alloc O).grownBy wa x) (hn : x ≠ some b) : Box4 wa b v0 v1 v2 v3 :=
  ⟨HGF_cell hg h.lt h.1 hn, HGF_cell hg h.lt h.2.1 hn, HGF_cell hg h.lt h.2.2.1 hn, HGF_cell hg h.lt h.2.2.2 hn⟩

theorem PtsKeep {wr wa : World} {O : Obj} {x : Option Nat} {a : Option Addr} {ps : List (Int × Int)} (h : PtsAt wr a ps) (hg : (wr.alloc O).grownBy wa x) (hn : ps.length = 0 ∨ ∀ y, blk a = some y → ¬ x = some y) : PtsAt wa a ps :=
  (h.below ((Below.refl _ _).alloc (Nat.le_refl _) O)).turned0 (S := fun y => x = some y) (Turned.of_grown hg fun y hy => hy) hn

theorem TagsKeep {wr wa : World} {O : Obj} {x : Option Nat} {a : Option Addr} {ts : List Tg} (h : TagsAt wr a ts) (hg : (wr.alloc O).grownBy wa x) (hn : ts.length = 0 ∨ ∀ y, blk a = some y → ¬ x = some y) : TagsAt wa a ts :=
  (h.below ((Below.refl _ _).alloc (Nat.le_refl _) O)).turned0 (S := fun y => x = some y) (Turned.of_grown hg fun y hy => hy) hn

theorem kf_eq {x y : Ft} : kf x = kf y ↔ x.1 = y.1 := by
  constructor
  · intro e
    rw [← toList_inj, ByteArray.toList_eq, ByteArray.toList_eq]
    exact e
  · intro e
    unfold kf
    rw [e]

theorem pts_low {w : World} {a : Option Addr} {ps : List (Int × Int)} (h : PtsAt w a ps) : ps.length = 0 ∨ ∀ x, blk a = some x → x < w.heap.size := by
  by_cases h0 : ps.length = 0
  · exact .inl h0
  · obtain ⟨b', o', rfl, h1, _⟩ := h 0 (by omega)
    exact .inr fun x hx => by obtain rfl : b' = x := (by simpa [blk] using hx); exact h1

theorem tags_low {w : World} {a : Option Addr} {ts : List Tg} (h : TagsAt w a ts) : ts.length = 0 ∨ ∀ x, blk a = some x → x < w.heap.size := by
  by_cases h0 : ts.length = 0
  · exact .inl h0
  · obtain ⟨b', o', rfl, h1, _⟩ := h 0 (by omega)
    exact .inr fun x hx => by obtain rfl : b' = x := (by simpa [blk] using hx); exact h1

theorem low_from {n k lo : Nat} {a : Option Addr} (h : n = 0 ∨ ∀ x, blk a = some x → x < k) (h' : n = 0 ∨ ∀ x, blk a = some x → lo ≤ x) : n = 0 ∨ ∀ x, blk a = some x → lo ≤ x ∧ x < k := by
  rcases h with h | h
  · exact .inl h
  · rcases h' with h' | h'
    · exact .inl h'
    · exact .inr fun x hx => ⟨h' x hx, h x hx⟩

/-- a list of things whose memory lies from this block on -/
def FeatsFrom (lo : Nat) (w : World) (a : Option Addr) (fs : List Ft) : Prop :=
  ∀ i, i < fs.length → ∃ b off pa pc ta tc, a = some ⟨b, off, none⟩ ∧ lo ≤ b ∧ b < w.heap.size ∧ w.cell? ⟨b, off + i * 4, none⟩ = some (.string (fid fs i)) ∧ w.cell? ⟨b, off + i * 4 + 1, none⟩ = some (.int .i64 (fkd fs i)) ∧ w.cell? ⟨b, off + i * 4 + 2, none⟩ = some (.slice pa (fps fs i).length pc) ∧ w.cell? ⟨b, off + i * 4 + 3, none⟩ = some (.slice ta (fts fs i).length tc) ∧ PtsAt w pa (fps fs i) ∧ TagsAt w ta (fts fs i) ∧ ((fps fs i).length = 0 ∨ ∀ x, blk pa = some x → lo ≤ x) ∧ ((fts fs i).length = 0 ∨ ∀ x, blk ta = some x → lo ≤ x)

theorem FeatsFrom.reads {lo : Nat} {w : World} {a : Option Addr} {fs : List Ft} (h : FeatsFrom lo w a fs) : FeatsAt w a fs := fun i hi => by
  obtain ⟨b, off, pa, pc, ta, tc, e, _, hb, h1, h2, h3, h4, h5, h6, _⟩ := h i hi
  exact ⟨b, off, pa, pc, ta, tc, e, hb, h1, h2, h3, h4, h5, h6⟩

theorem FeatsFrom.turned {lo : Nat} {w w' : World} {a : Option Addr} {fs : List Ft} {S : Nat → Prop} (h : FeatsFrom lo w a fs) (ht : Turned w w' S) (hS : ∀ x, lo ≤ x → x < w.heap.size → ¬ S x) : FeatsFrom lo w' a fs := fun i hi => by
  obtain ⟨b, off, pa, pc, ta, tc, e, hl, hb, h1, h2, h3, h4, h5, h6, h7, h8⟩ := h i hi
  have nb := hS b hl hb
  exact ⟨b, off, pa, pc, ta, tc, e, hl, Nat.lt_of_lt_of_le hb ht.size, ht.cell h1 nb, ht.cell h2 nb, ht.cell h3 nb, ht.cell h4 nb, h5.turned0 ht ((low_from (pts_low h5) h7).imp (fun h => h) fun q x hx => hS x (q x hx).1 (q x hx).2), h6.turned0 ht ((low_from (tags_low h6) h8).imp (fun h => h) fun q x hx => hS x (q x hx).1 (q x hx).2), h7, h8⟩

theorem FeatsFrom.nil (lo : Nat) (w : World) (a : Option Addr) : FeatsFrom lo w a [] := fun _ h => absurd h (Nat.not_lt_zero _)

theorem Row.from {w : World} {lo k b0 : Nat} {v : Value} {fs : List Ft} {ad : Nat → Pl} (h : Row w (fun x => lo ≤ x ∧ x < k) b0 v fs.length fs ad) (hb : lo ≤ b0) : ∃ a cap, v = .slice a fs.length cap ∧ FeatsFrom lo w a fs := by
  obtain ⟨a, cap, rfl, hF, hR⟩ := h.reads
  refine ⟨a, cap, rfl, fun i hi => ?_⟩
  obtain ⟨b, off, rfl, g1, g2, g3, g4⟩ := hR i hi
  obtain ⟨b', off', pa, pc, ta, tc, e, hlt, h1, h2, h3, h4, h5, h6⟩ := hF i hi
  obtain ⟨rfl, rfl⟩ : b = b' ∧ off = off' := by simpa using e
  exact ⟨b, off, _, _, _, _, rfl, Nat.le_trans hb g1, g2, h1, h2, g3, g4, h.pts i hi, h.tags i hi, (h.prng i hi).imp (fun h => h) fun q x hx => (q x hx).1.1, (h.trng i hi).imp (fun h => h) fun q x hx => (q x hx).1.1⟩

set_option maxRecDepth 100000 in
set_option maxHeartbeats 8000000 in
theorem l3Put_row (lo : Nat) (a : Option Addr) (cap : Nat) (fs : List Ft) (f : Ft) (pf tf : Option Addr) (pfc tfc : Nat) (w : World) (hp : FeatsFrom lo w a fs) (hl : fs.length ≤ 1048576) (hpf : PtsAt w pf f.2.2.1) (htf : TagsAt w tf f.2.2.2) (hpl : f.2.2.1.length = 0 ∨ ∀ x, blk pf = some x → lo ≤ x) (htl : f.2.2.2.length = 0 ∨ ∀ x, blk tf = some x → lo ≤ x) :
    Calls Tryz.prog 73 #[.slice a fs.length cap, .agg #[.string f.1, .int .i64 f.2.1, .slice pf f.2.2.1.length pfc, .slice tf f.2.2.2.length tfc]] w fun e w' => (∃ v ad, e = .returned v ∧ Row w' (fun x => lo ≤ x ∧ x < w.heap.size) (w.heap.size + 1) v (putL fs f).length (putL fs f) ad) ∧ Below w.heap.size w w' := by
  obtain ⟨i0, hi, hz0, hz1, hz2⟩ := info_parts infoF
  have HI := Lib.hid hi
  have HZ0 := Lib.hid hz0
  have HZ1 := Lib.hid hz1
  have HZ2 := Lib.hid hz2
  have HP := Lib.hid hp
  have FP := Lib.hid hpf
  have FT := Lib.hid htf
  have PF := Lib.hid (low_from (pts_low hpf) hpl)
  have TF := Lib.hid (low_from (tags_low htf) htl)
  clear hi hz0 hz1 hz2 hp hpf htf
  go_enter Tryz.func73, Tryz.ntmps73
  go_wp2
  go_loopw [5, 6, 7] (fun s d i wr => ∃ (j : Nat) (v : Value) (o : List Ft) (q : Bool) (ad : Nat → Pl), j ≤ fs.length ∧ i = .int .i64 j ∧ d = .bool q ∧ v = s ∧ PutsL fs f j o q ∧ o.length ≤ j + q.toNat ∧ Row wr (fun x => lo ≤ x ∧ x < w.heap.size) (w.heap.size + 1) v o.length o ad ∧ Box4 wr w.heap.size (.string f.1) (.int .i64 f.2.1) (.slice pf f.2.2.1.length pfc) (.slice tf f.2.2.2.length tfc) ∧ Below w.heap.size w wr) (fun _ _ i _ => fs.length - (intOf i).toNat)
  case atStart =>
    have hro := World.ownsRow_made (w.alloc (.cells #[.string f.1, .int .i64 f.2.1, .slice pf f.2.2.1.length pfc, .slice tf f.2.2.2.length tfc] 33)) #[] 0 (base := w.heap.size + 1) (by simp) (by unfold maxLen; omega) (e := 33) (size := 4) (by simp)
    refine ⟨0, _, [], false, fun _ => ((none, 0), (none, 0)), Nat.zero_le _, rfl, rfl, rfl, PutsL.start _ _, by simp, ⟨by simpa [flatF] using hro, fun _ h => absurd h (Nat.not_lt_zero _), fun _ h => absurd h (Nat.not_lt_zero _), fun _ h => absurd h (Nat.not_lt_zero _), fun _ h => absurd h (Nat.not_lt_zero _)⟩, (Box4.new w _ _ _ _ _).alloc _, ((Below.refl _ _).alloc (Nat.le_refl _) _).alloc (by simp) _⟩
  case round =>
    obtain ⟨j, v, o, q, ad, hj, rfl, rfl, rfl, hP, hol, hro, hbox, hbel⟩ := hrel
    have HR := Lib.hid hro
    have HBX := Lib.hid hbox
    have HB := Lib.hid hbel
    have hsz : w.heap.size < wr.heap.size := hbox.lt
    have HV : Hid (∀ x, v.ownBlock = some x → w.heap.size + 1 ≤ x) := fun x hx => (hro.row.lt x hx).1
    have hol' : o.length ≤ j + 1 := by cases q <;> simp at hol <;> omega
    have FPr := Lib.hid (FP.out.below hbel)
    have FTr := Lib.hid (FT.out.below hbel)
    obtain ⟨x0, x1, x2, x3⟩ := hbox
    by_cases hlt : j < fs.length
    · obtain ⟨b, off, pa, pc, ta, tc, rfl, hblo, hb, hc1, hc2, hc3, hc4, hpp, htt, hpl2, htl2⟩ := HP.out j hlt
      rw [← hbel.cell (p := ⟨b, _, none⟩) hb] at hc1 hc2 hc3 hc4
      have hst := hP.step hlt
      have PL := Lib.hid (low_from (pts_low hpp) hpl2)
      have TL := Lib.hid (low_from (tags_low htt) htl2)
      have D1 := Lib.hid (hpp.below hbel)
      have D2 := Lib.hid (htt.below hbel)
      clear hro hbel hP hpp htt
      have hblt : b < wr.heap.size := by omega
      have nbw : ¬ b = w.heap.size := by omega
      by_cases he : fid fs j = f.1
      · have hk : kf (fg fs j) = kf f := kf_eq.2 he
        have e2 := bytes_beq (fid fs j) f.1
        rw [decide_eq_true he] at e2
        have e1 : Op.bytesLess (fid fs j).toList f.1.toList = false := less_not (by show ¬ kf (fg fs j) < kf f; rw [hk]; exact List.lt_irrefl _)
        have hle : kf f ≤ kf (fg fs j) := by rw [hk]; exact List.le_refl _
        cases q
        · replace hol : o.length ≤ j := hol
          have HS : Hid (PutsL fs f (j + 1) (o ++ [f]) true) := by simpa [Hid, hle, hk] using hst
          clear hst he hle hk
          go_wp2
          go_quiet (fail)
          have Bq : Below wr.heap.size wr (wr.drewN nq) := below_drewN (Below.refl _ _) nq
          have zq : (wr.drewN nq).heap.size = wr.heap.size := rfl
          generalize wr.drewN nq = W1 at *
          replace HR := Lib.hid (HR.out.below Bq)
          replace HBX := Lib.hid (HBX.out.later Bq)
          replace HB := Lib.hid (HB.out.trans (Bq.mono HB.out.size))
          replace FPr := Lib.hid (FPr.out.below Bq)
          replace FTr := Lib.hid (FTr.out.below Bq)
          replace D1 := Lib.hid (D1.out.below Bq)
          replace D2 := Lib.hid (D2.out.below Bq)
          replace hc1 := cell_later Bq hc1
          replace hc2 := cell_later Bq hc2
          replace hc3 := cell_later Bq hc3
          replace hc4 := cell_later Bq hc4
          replace x0 := cell_later Bq x0
          replace x1 := cell_later Bq x1
          replace x2 := cell_later Bq x2
          replace x3 := cell_later Bq x3
          replace hsz : w.heap.size < W1.heap.size := by omega
          replace hblt : b < W1.heap.size := by omega
          clear Bq zq
          have ROW := Lib.hid HR.out.row
          go_wp2_with (at_builtin; refine wpList_append_lies _ (by rfl) _ _ _ (by rfl) (w.heap.size + 1) 33 i0 _ 4 72 Tryz.underlying23 HI.out HZ0.out HZ1.out HZ2.out rfl (by omega) (v) (o.length) (flatF (o) ad (o.length)) (by rfl) (ROW.out.alloc _) ⟨W1.heap.size, 0, none⟩ 1 1 (cellsF f ((pf, pfc), (tf, tfc))) (by rfl) (by rfl) (World.news_of_block (cs := #[.string f.1, .int .i64 f.2.1, .slice pf f.2.2.1.length pfc, .slice tf f.2.2.2.length tfc]) (t := 33) (fr := (0, 0)) (heap_alloc_new W1 _)) (by simp [Value.oneCell', cellsF]) (by omega) (by unfold maxLen; omega) (by omega) (by simp; omega) (W1.heap.size + 1) (by simp) ?_; intro gg1 cap1 wa1 hown1 hgrow1 hat1 hlt1; clear ROW; have vw : (v).ownBlock ≠ some w.heap.size := (fun e => by have := HV.out _ e; omega); replace HR : Hid (Row wa1 (fun x => lo ≤ x ∧ x < w.heap.size) (w.heap.size + 1) (Value.slice (some ⟨gg1, 0, none⟩) (o.length + 1) cap1) (o ++ [f]).length (o ++ [f]) (plSet ad (o.length) ((pf, pfc), (tf, tfc)))) := HR.out.snoc FPr.out (PF.out.imp (fun h => h) fun q x hx => ⟨q x hx, by have := q x hx; omega, fun e => by have h1 := HV.out x e; have h2 := q x hx; omega⟩) FTr.out (TF.out.imp (fun h => h) fun q x hx => ⟨q x hx, by have := q x hx; omega, fun e => by have h1 := HV.out x e; have h2 := q x hx; omega⟩) (by simpa using hown1) hgrow1 hat1; replace HBX := Lib.hid (BoxF.grown HBX.out hgrow1 vw); replace HB : Hid (Below w.heap.size w wa1) := (HB.out.alloc HB.out.size _).grown hgrow1 (by simp; omega) (fun x hx => by have := HV.out x hx; omega); have vb : (v).ownBlock ≠ some b := (fun e => by have := HV.out b e; omega); replace hc1 := HGF_cell hgrow1 hblt hc1 vb; replace hc2 := HGF_cell hgrow1 hblt hc2 vb; replace hc3 := HGF_cell hgrow1 hblt hc3 vb; replace hc4 := HGF_cell hgrow1 hblt hc4 vb; replace x0 := HGF_cell hgrow1 hsz x0 vw; replace x1 := HGF_cell hgrow1 hsz x1 vw; replace x2 := HGF_cell hgrow1 hsz x2 vw; replace x3 := HGF_cell hgrow1 hsz x3 vw; replace D1 := Lib.hid (PtsKeep D1.out hgrow1 (PL.out.imp (fun h => h) fun q x hx e => by have h1 := q x hx; have h2 := HV.out x e; omega)); replace D2 := Lib.hid (TagsKeep D2.out hgrow1 (TL.out.imp (fun h => h) fun q x hx e => by have h1 := q x hx; have h2 := HV.out x e; omega)); replace FPr := Lib.hid (PtsKeep FPr.out hgrow1 (PF.out.imp (fun h => h) fun q x hx e => by have h1 := q x hx; have h2 := HV.out x e; omega)); replace FTr := Lib.hid (TagsKeep FTr.out hgrow1 (TF.out.imp (fun h => h) fun q x hx e => by have h1 := q x hx; have h2 := HV.out x e; omega)); have hszA : W1.heap.size < wa1.heap.size := (by have h := hgrow1.size; simp at h; omega); replace hsz : w.heap.size < wa1.heap.size := (by omega); replace hblt : b < wa1.heap.size := (by omega); replace HV : Hid (∀ x, (Value.slice (some ⟨gg1, 0, none⟩) (o.length + 1) cap1).ownBlock = some x → w.heap.size + 1 ≤ x) := (fun x e => (hown1.lt x e).1); clear vb; clear hown1 hgrow1 hat1 vw)
          go_wp2
          go_quiet (fail)
          have Bq : Below wa1.heap.size wa1 (wa1.drewN nq) := below_drewN (Below.refl _ _) nq
          have zq : (wa1.drewN nq).heap.size = wa1.heap.size := rfl
          generalize wa1.drewN nq = W2 at *
          replace HR := Lib.hid (HR.out.below Bq)
          replace HBX := Lib.hid (HBX.out.later Bq)
          replace HB := Lib.hid (HB.out.trans (Bq.mono HB.out.size))
          replace FPr := Lib.hid (FPr.out.below Bq)
          replace FTr := Lib.hid (FTr.out.below Bq)
          replace D1 := Lib.hid (D1.out.below Bq)
          replace D2 := Lib.hid (D2.out.below Bq)
          replace hc1 := cell_later Bq hc1
          replace hc2 := cell_later Bq hc2
          replace hc3 := cell_later Bq hc3
          replace hc4 := cell_later Bq hc4
          replace x0 := cell_later Bq x0
          replace x1 := cell_later Bq x1
          replace x2 := cell_later Bq x2
          replace x3 := cell_later Bq x3
          replace hsz : w.heap.size < W2.heap.size := by omega
          replace hblt : b < W2.heap.size := by omega
          clear Bq zq
          go_wp2
          go_roundw
          case rel => exact ⟨j + 1, _, o ++ [f], _, _, by omega, by go_num, rfl, rfl, HS.out, by simp; omega, HR.out, HBX.out, HB.out⟩
          case measure => simp [intOf]; omega
        · have HS : Hid (PutsL fs f (j + 1) o true) := by simpa [Hid, hk] using hst
          clear hst he hle hk
          go_wp2
          go_quiet (fail)
          have Bq : Below wr.heap.size wr (wr.drewN nq) := below_drewN (Below.refl _ _) nq
          have zq : (wr.drewN nq).heap.size = wr.heap.size := rfl
          generalize wr.drewN nq = W1 at *
          replace HR := Lib.hid (HR.out.below Bq)
          replace HBX := Lib.hid (HBX.out.later Bq)
          replace HB := Lib.hid (HB.out.trans (Bq.mono HB.out.size))
          replace FPr := Lib.hid (FPr.out.below Bq)
          replace FTr := Lib.hid (FTr.out.below Bq)
          replace D1 := Lib.hid (D1.out.below Bq)
          replace D2 := Lib.hid (D2.out.below Bq)
          replace hc1 := cell_later Bq hc1
          replace hc2 := cell_later Bq hc2
          replace hc3 := cell_later Bq hc3
          replace hc4 := cell_later Bq hc4
          replace x0 := cell_later Bq x0
          replace x1 := cell_later Bq x1
          replace x2 := cell_later Bq x2
          replace x3 := cell_later Bq x3
          replace hsz : w.heap.size < W1.heap.size := by omega
          replace hblt : b < W1.heap.size := by omega
          clear Bq zq
          go_wp2
          go_quiet (fail)
          have Bq : Below W1.heap.size W1 (W1.drewN nq) := below_drewN (Below.refl _ _) nq
          have zq : (W1.drewN nq).heap.size = W1.heap.size := rfl
          generalize W1.drewN nq = W2 at *
          replace HR := Lib.hid (HR.out.below Bq)
          replace HBX := Lib.hid (HBX.out.later Bq)
          replace HB := Lib.hid (HB.out.trans (Bq.mono HB.out.size))
          replace FPr := Lib.hid (FPr.out.below Bq)
          replace FTr := Lib.hid (FTr.out.below Bq)
          replace D1 := Lib.hid (D1.out.below Bq)
          replace D2 := Lib.hid (D2.out.below Bq)
          replace hc1 := cell_later Bq hc1
          replace hc2 := cell_later Bq hc2
          replace hc3 := cell_later Bq hc3
          replace hc4 := cell_later Bq hc4
          replace x0 := cell_later Bq x0
          replace x1 := cell_later Bq x1
          replace x2 := cell_later Bq x2
          replace x3 := cell_later Bq x3
          replace hsz : w.heap.size < W2.heap.size := by omega
          replace hblt : b < W2.heap.size := by omega
          clear Bq zq
          go_wp2
          go_roundw
          case rel => exact ⟨j + 1, _, o, _, _, by omega, by go_num, rfl, rfl, HS.out, by simp at hol ⊢; omega, HR.out, HBX.out, HB.out⟩
          case measure => simp [intOf]; omega
      · have hk : ¬ kf (fg fs j) = kf f := fun h => he (kf_eq.1 h)
        have e2 := bytes_beq (fid fs j) f.1
        rw [decide_eq_false he] at e2
        by_cases hq : kf (fg fs j) < kf f
        · have e1 : Op.bytesLess (fid fs j).toList f.1.toList = true := less_of hq
          have hle : ¬ kf f ≤ kf (fg fs j) := fun h => h hq
          have HS : Hid (PutsL fs f (j + 1) (o ++ [fg fs j]) q) := by simpa [Hid, hle, hk] using hst
          clear hst he hle hq hk
          cases q
          · replace hol : o.length ≤ j := hol
            go_wp2
            go_quiet (fail)
            have Bq : Below wr.heap.size wr (wr.drewN nq) := below_drewN (Below.refl _ _) nq
            have zq : (wr.drewN nq).heap.size = wr.heap.size := rfl
            generalize wr.drewN nq = W1 at *
            replace HR := Lib.hid (HR.out.below Bq)
            replace HBX := Lib.hid (HBX.out.later Bq)
            replace HB := Lib.hid (HB.out.trans (Bq.mono HB.out.size))
            replace FPr := Lib.hid (FPr.out.below Bq)
            replace FTr := Lib.hid (FTr.out.below Bq)
            replace D1 := Lib.hid (D1.out.below Bq)
            replace D2 := Lib.hid (D2.out.below Bq)
            replace hc1 := cell_later Bq hc1
            replace hc2 := cell_later Bq hc2
            replace hc3 := cell_later Bq hc3
            replace hc4 := cell_later Bq hc4
            replace x0 := cell_later Bq x0
            replace x1 := cell_later Bq x1
            replace x2 := cell_later Bq x2
            replace x3 := cell_later Bq x3
            replace hsz : w.heap.size < W1.heap.size := by omega
            replace hblt : b < W1.heap.size := by omega
            clear Bq zq
            go_wp2
            go_quiet (fail)
            have Bq : Below W1.heap.size W1 (W1.drewN nq) := below_drewN (Below.refl _ _) nq
            have zq : (W1.drewN nq).heap.size = W1.heap.size := rfl
            generalize W1.drewN nq = W2 at *
            replace HR := Lib.hid (HR.out.below Bq)
            replace HBX := Lib.hid (HBX.out.later Bq)
            replace HB := Lib.hid (HB.out.trans (Bq.mono HB.out.size))
            replace FPr := Lib.hid (FPr.out.below Bq)
            replace FTr := Lib.hid (FTr.out.below Bq)
            replace D1 := Lib.hid (D1.out.below Bq)
            replace D2 := Lib.hid (D2.out.below Bq)
            replace hc1 := cell_later Bq hc1
            replace hc2 := cell_later Bq hc2
            replace hc3 := cell_later Bq hc3
            replace hc4 := cell_later Bq hc4
            replace x0 := cell_later Bq x0
            replace x1 := cell_later Bq x1
            replace x2 := cell_later Bq x2
            replace x3 := cell_later Bq x3
            replace hsz : w.heap.size < W2.heap.size := by omega
            replace hblt : b < W2.heap.size := by omega
            clear Bq zq
            have ROW := Lib.hid HR.out.row
            go_wp2_with (at_builtin; refine wpList_append_lies _ (by rfl) _ _ _ (by rfl) (w.heap.size + 1) 33 i0 _ 4 72 Tryz.underlying23 HI.out HZ0.out HZ1.out HZ2.out rfl (by omega) (v) (o.length) (flatF (o) ad (o.length)) (by rfl) (ROW.out.alloc _) ⟨W2.heap.size, 0, none⟩ 1 1 (cellsF (fg fs j) ((pa, pc), (ta, tc))) (by rfl) (by rfl) (World.news_of_block (cs := #[.string (fid fs j), .int .i64 (fkd fs j), .slice pa (fps fs j).length pc, .slice ta (fts fs j).length tc]) (t := 33) (fr := (0, 0)) (heap_alloc_new W2 _)) (by simp [Value.oneCell', cellsF]) (by omega) (by unfold maxLen; omega) (by omega) (by simp; omega) (W2.heap.size + 1) (by simp) ?_; intro gg2 cap2 wa2 hown2 hgrow2 hat2 hlt2; clear ROW; have vw : (v).ownBlock ≠ some w.heap.size := (fun e => by have := HV.out _ e; omega); replace HR : Hid (Row wa2 (fun x => lo ≤ x ∧ x < w.heap.size) (w.heap.size + 1) (Value.slice (some ⟨gg2, 0, none⟩) (o.length + 1) cap2) (o ++ [(fg fs j)]).length (o ++ [(fg fs j)]) (plSet ad (o.length) ((pa, pc), (ta, tc)))) := HR.out.snoc D1.out (PL.out.imp (fun h => h) fun q x hx => ⟨q x hx, by have := q x hx; omega, fun e => by have h1 := HV.out x e; have h2 := q x hx; omega⟩) D2.out (TL.out.imp (fun h => h) fun q x hx => ⟨q x hx, by have := q x hx; omega, fun e => by have h1 := HV.out x e; have h2 := q x hx; omega⟩) (by simpa using hown2) hgrow2 hat2; replace HBX := Lib.hid (BoxF.grown HBX.out hgrow2 vw); replace HB : Hid (Below w.heap.size w wa2) := (HB.out.alloc HB.out.size _).grown hgrow2 (by simp; omega) (fun x hx => by have := HV.out x hx; omega); clear hown2 hgrow2 hat2 vw)
            go_roundw
            case rel => exact ⟨j + 1, _, o ++ [fg fs j], _, _, by omega, by go_num, rfl, rfl, HS.out, by simp; omega, HR.out, HBX.out, HB.out⟩
            case measure => simp [intOf]; omega
          · replace hol : o.length ≤ j + 1 := hol
            go_wp2
            go_quiet (fail)
            have Bq : Below wr.heap.size wr (wr.drewN nq) := below_drewN (Below.refl _ _) nq
            have zq : (wr.drewN nq).heap.size = wr.heap.size := rfl
            generalize wr.drewN nq = W1 at *
            replace HR := Lib.hid (HR.out.below Bq)
            replace HBX := Lib.hid (HBX.out.later Bq)
            replace HB := Lib.hid (HB.out.trans (Bq.mono HB.out.size))
            replace FPr := Lib.hid (FPr.out.below Bq)
            replace FTr := Lib.hid (FTr.out.below Bq)
            replace D1 := Lib.hid (D1.out.below Bq)
            replace D2 := Lib.hid (D2.out.below Bq)
            replace hc1 := cell_later Bq hc1
            replace hc2 := cell_later Bq hc2
            replace hc3 := cell_later Bq hc3
            replace hc4 := cell_later Bq hc4
            replace x0 := cell_later Bq x0
            replace x1 := cell_later Bq x1
            replace x2 := cell_later Bq x2
            replace x3 := cell_later Bq x3
            replace hsz : w.heap.size < W1.heap.size := by omega
            replace hblt : b < W1.heap.size := by omega
            clear Bq zq
            go_wp2
            go_quiet (fail)
            have Bq : Below W1.heap.size W1 (W1.drewN nq) := below_drewN (Below.refl _ _) nq
            have zq : (W1.drewN nq).heap.size = W1.heap.size := rfl
            generalize W1.drewN nq = W2 at *
            replace HR := Lib.hid (HR.out.below Bq)
            replace HBX := Lib.hid (HBX.out.later Bq)
            replace HB := Lib.hid (HB.out.trans (Bq.mono HB.out.size))
            replace FPr := Lib.hid (FPr.out.below Bq)
            replace FTr := Lib.hid (FTr.out.below Bq)
            replace D1 := Lib.hid (D1.out.below Bq)
            replace D2 := Lib.hid (D2.out.below Bq)
            replace hc1 := cell_later Bq hc1
            replace hc2 := cell_later Bq hc2
            replace hc3 := cell_later Bq hc3
            replace hc4 := cell_later Bq hc4
            replace x0 := cell_later Bq x0
            replace x1 := cell_later Bq x1
            replace x2 := cell_later Bq x2
            replace x3 := cell_later Bq x3
            replace hsz : w.heap.size < W2.heap.size := by omega
            replace hblt : b < W2.heap.size := by omega
            clear Bq zq
            have ROW := Lib.hid HR.out.row
            go_wp2_with (at_builtin; refine wpList_append_lies _ (by rfl) _ _ _ (by rfl) (w.heap.size + 1) 33 i0 _ 4 72 Tryz.underlying23 HI.out HZ0.out HZ1.out HZ2.out rfl (by omega) (v) (o.length) (flatF (o) ad (o.length)) (by rfl) (ROW.out.alloc _) ⟨W2.heap.size, 0, none⟩ 1 1 (cellsF (fg fs j) ((pa, pc), (ta, tc))) (by rfl) (by rfl) (World.news_of_block (cs := #[.string (fid fs j), .int .i64 (fkd fs j), .slice pa (fps fs j).length pc, .slice ta (fts fs j).length tc]) (t := 33) (fr := (0, 0)) (heap_alloc_new W2 _)) (by simp [Value.oneCell', cellsF]) (by omega) (by unfold maxLen; omega) (by omega) (by simp; omega) (W2.heap.size + 1) (by simp) ?_; intro gg2 cap2 wa2 hown2 hgrow2 hat2 hlt2; clear ROW; have vw : (v).ownBlock ≠ some w.heap.size := (fun e => by have := HV.out _ e; omega); replace HR : Hid (Row wa2 (fun x => lo ≤ x ∧ x < w.heap.size) (w.heap.size + 1) (Value.slice (some ⟨gg2, 0, none⟩) (o.length + 1) cap2) (o ++ [(fg fs j)]).length (o ++ [(fg fs j)]) (plSet ad (o.length) ((pa, pc), (ta, tc)))) := HR.out.snoc D1.out (PL.out.imp (fun h => h) fun q x hx => ⟨q x hx, by have := q x hx; omega, fun e => by have h1 := HV.out x e; have h2 := q x hx; omega⟩) D2.out (TL.out.imp (fun h => h) fun q x hx => ⟨q x hx, by have := q x hx; omega, fun e => by have h1 := HV.out x e; have h2 := q x hx; omega⟩) (by simpa using hown2) hgrow2 hat2; replace HBX := Lib.hid (BoxF.grown HBX.out hgrow2 vw); replace HB : Hid (Below w.heap.size w wa2) := (HB.out.alloc HB.out.size _).grown hgrow2 (by simp; omega) (fun x hx => by have := HV.out x hx; omega); clear hown2 hgrow2 hat2 vw)
            go_roundw
            case rel => exact ⟨j + 1, _, o ++ [fg fs j], _, _, by omega, by go_num, rfl, rfl, HS.out, by simp; omega, HR.out, HBX.out, HB.out⟩
            case measure => simp [intOf]; omega
        · have e1 : Op.bytesLess (fid fs j).toList f.1.toList = false := less_not hq
          have hle : kf f ≤ kf (fg fs j) := hq
          cases q
          · replace hol : o.length ≤ j := hol
            have HS : Hid (PutsL fs f (j + 1) (o ++ [f] ++ [fg fs j]) true) := by simpa [Hid, hle, hk] using hst
            clear hst he hle hq hk
            go_wp2
            go_quiet (fail)
            have Bq : Below wr.heap.size wr (wr.drewN nq) := below_drewN (Below.refl _ _) nq
            have zq : (wr.drewN nq).heap.size = wr.heap.size := rfl
            generalize wr.drewN nq = W1 at *
            replace HR := Lib.hid (HR.out.below Bq)
            replace HBX := Lib.hid (HBX.out.later Bq)
            replace HB := Lib.hid (HB.out.trans (Bq.mono HB.out.size))
            replace FPr := Lib.hid (FPr.out.below Bq)
            replace FTr := Lib.hid (FTr.out.below Bq)
            replace D1 := Lib.hid (D1.out.below Bq)
            replace D2 := Lib.hid (D2.out.below Bq)
            replace hc1 := cell_later Bq hc1
            replace hc2 := cell_later Bq hc2
            replace hc3 := cell_later Bq hc3
            replace hc4 := cell_later Bq hc4
            replace x0 := cell_later Bq x0
            replace x1 := cell_later Bq x1
            replace x2 := cell_later Bq x2
            replace x3 := cell_later Bq x3
            replace hsz : w.heap.size < W1.heap.size := by omega
            replace hblt : b < W1.heap.size := by omega
            clear Bq zq
            have ROW := Lib.hid HR.out.row
            go_wp2_with (at_builtin; refine wpList_append_lies _ (by rfl) _ _ _ (by rfl) (w.heap.size + 1) 33 i0 _ 4 72 Tryz.underlying23 HI.out HZ0.out HZ1.out HZ2.out rfl (by omega) (v) (o.length) (flatF (o) ad (o.length)) (by rfl) (ROW.out.alloc _) ⟨W1.heap.size, 0, none⟩ 1 1 (cellsF f ((pf, pfc), (tf, tfc))) (by rfl) (by rfl) (World.news_of_block (cs := #[.string f.1, .int .i64 f.2.1, .slice pf f.2.2.1.length pfc, .slice tf f.2.2.2.length tfc]) (t := 33) (fr := (0, 0)) (heap_alloc_new W1 _)) (by simp [Value.oneCell', cellsF]) (by omega) (by unfold maxLen; omega) (by omega) (by simp; omega) (W1.heap.size + 1) (by simp) ?_; intro gg1 cap1 wa1 hown1 hgrow1 hat1 hlt1; clear ROW; have vw : (v).ownBlock ≠ some w.heap.size := (fun e => by have := HV.out _ e; omega); replace HR : Hid (Row wa1 (fun x => lo ≤ x ∧ x < w.heap.size) (w.heap.size + 1) (Value.slice (some ⟨gg1, 0, none⟩) (o.length + 1) cap1) (o ++ [f]).length (o ++ [f]) (plSet ad (o.length) ((pf, pfc), (tf, tfc)))) := HR.out.snoc FPr.out (PF.out.imp (fun h => h) fun q x hx => ⟨q x hx, by have := q x hx; omega, fun e => by have h1 := HV.out x e; have h2 := q x hx; omega⟩) FTr.out (TF.out.imp (fun h => h) fun q x hx => ⟨q x hx, by have := q x hx; omega, fun e => by have h1 := HV.out x e; have h2 := q x hx; omega⟩) (by simpa using hown1) hgrow1 hat1; replace HBX := Lib.hid (BoxF.grown HBX.out hgrow1 vw); replace HB : Hid (Below w.heap.size w wa1) := (HB.out.alloc HB.out.size _).grown hgrow1 (by simp; omega) (fun x hx => by have := HV.out x hx; omega); have vb : (v).ownBlock ≠ some b := (fun e => by have := HV.out b e; omega); replace hc1 := HGF_cell hgrow1 hblt hc1 vb; replace hc2 := HGF_cell hgrow1 hblt hc2 vb; replace hc3 := HGF_cell hgrow1 hblt hc3 vb; replace hc4 := HGF_cell hgrow1 hblt hc4 vb; replace x0 := HGF_cell hgrow1 hsz x0 vw; replace x1 := HGF_cell hgrow1 hsz x1 vw; replace x2 := HGF_cell hgrow1 hsz x2 vw; replace x3 := HGF_cell hgrow1 hsz x3 vw; replace D1 := Lib.hid (PtsKeep D1.out hgrow1 (PL.out.imp (fun h => h) fun q x hx e => by have h1 := q x hx; have h2 := HV.out x e; omega)); replace D2 := Lib.hid (TagsKeep D2.out hgrow1 (TL.out.imp (fun h => h) fun q x hx e => by have h1 := q x hx; have h2 := HV.out x e; omega)); replace FPr := Lib.hid (PtsKeep FPr.out hgrow1 (PF.out.imp (fun h => h) fun q x hx e => by have h1 := q x hx; have h2 := HV.out x e; omega)); replace FTr := Lib.hid (TagsKeep FTr.out hgrow1 (TF.out.imp (fun h => h) fun q x hx e => by have h1 := q x hx; have h2 := HV.out x e; omega)); have hszA : W1.heap.size < wa1.heap.size := (by have h := hgrow1.size; simp at h; omega); replace hsz : w.heap.size < wa1.heap.size := (by omega); replace hblt : b < wa1.heap.size := (by omega); replace HV : Hid (∀ x, (Value.slice (some ⟨gg1, 0, none⟩) (o.length + 1) cap1).ownBlock = some x → w.heap.size + 1 ≤ x) := (fun x e => (hown1.lt x e).1); clear vb; clear hown1 hgrow1 hat1 vw)
            go_wp2
            go_quiet (fail)
            have Bq : Below wa1.heap.size wa1 (wa1.drewN nq) := below_drewN (Below.refl _ _) nq
            have zq : (wa1.drewN nq).heap.size = wa1.heap.size := rfl
            generalize wa1.drewN nq = W2 at *
            replace HR := Lib.hid (HR.out.below Bq)
            replace HBX := Lib.hid (HBX.out.later Bq)
            replace HB := Lib.hid (HB.out.trans (Bq.mono HB.out.size))
            replace FPr := Lib.hid (FPr.out.below Bq)
            replace FTr := Lib.hid (FTr.out.below Bq)
            replace D1 := Lib.hid (D1.out.below Bq)
            replace D2 := Lib.hid (D2.out.below Bq)
            replace hc1 := cell_later Bq hc1
            replace hc2 := cell_later Bq hc2
            replace hc3 := cell_later Bq hc3
            replace hc4 := cell_later Bq hc4
            replace x0 := cell_later Bq x0
            replace x1 := cell_later Bq x1
            replace x2 := cell_later Bq x2
            replace x3 := cell_later Bq x3
            replace hsz : w.heap.size < W2.heap.size := by omega
            replace hblt : b < W2.heap.size := by omega
            clear Bq zq
            have hROW := HR.out.row
            rw [show (o ++ [f]).length = o.length + 1 by simp] at hROW
            have ROW := Lib.hid hROW
            clear hROW
            go_wp2_with (at_builtin; refine wpList_append_lies _ (by rfl) _ _ _ (by rfl) (w.heap.size + 1) 33 i0 _ 4 72 Tryz.underlying23 HI.out HZ0.out HZ1.out HZ2.out rfl (by omega) (Value.slice (some ⟨gg1, 0, none⟩) (o.length + 1) cap1) (o.length + 1) (flatF ((o ++ [f])) (plSet ad (o.length) ((pf, pfc), (tf, tfc))) (o.length + 1)) (by rfl) (ROW.out.alloc _) ⟨W2.heap.size, 0, none⟩ 1 1 (cellsF (fg fs j) ((pa, pc), (ta, tc))) (by rfl) (by rfl) (World.news_of_block (cs := #[.string (fid fs j), .int .i64 (fkd fs j), .slice pa (fps fs j).length pc, .slice ta (fts fs j).length tc]) (t := 33) (fr := (0, 0)) (heap_alloc_new W2 _)) (by simp [Value.oneCell', cellsF]) (by omega) (by unfold maxLen; omega) (by omega) (by simp; omega) (W2.heap.size + 1) (by simp) ?_; intro gg2 cap2 wa2 hown2 hgrow2 hat2 hlt2; clear ROW; have vw : (Value.slice (some ⟨gg1, 0, none⟩) (o.length + 1) cap1).ownBlock ≠ some w.heap.size := (fun e => by have := HV.out _ e; omega); replace HR : Hid (Row wa2 (fun x => lo ≤ x ∧ x < w.heap.size) (w.heap.size + 1) (Value.slice (some ⟨gg2, 0, none⟩) ((o ++ [f]).length + 1) cap2) ((o ++ [f]) ++ [(fg fs j)]).length ((o ++ [f]) ++ [(fg fs j)]) (plSet (plSet ad (o.length) ((pf, pfc), (tf, tfc))) ((o ++ [f]).length) ((pa, pc), (ta, tc)))) := HR.out.snoc D1.out (PL.out.imp (fun h => h) fun q x hx => ⟨q x hx, by have := q x hx; omega, fun e => by have h1 := HV.out x e; have h2 := q x hx; omega⟩) D2.out (TL.out.imp (fun h => h) fun q x hx => ⟨q x hx, by have := q x hx; omega, fun e => by have h1 := HV.out x e; have h2 := q x hx; omega⟩) (by simpa using hown2) hgrow2 hat2; replace HBX := Lib.hid (BoxF.grown HBX.out hgrow2 vw); replace HB : Hid (Below w.heap.size w wa2) := (HB.out.alloc HB.out.size _).grown hgrow2 (by simp; omega) (fun x hx => by have := HV.out x hx; omega); clear hown2 hgrow2 hat2 vw)
            go_roundw
            case rel => exact ⟨j + 1, _, o ++ [f] ++ [fg fs j], _, _, by omega, by go_num, rfl, by simp, HS.out, by simp; omega, HR.out, HBX.out, HB.out⟩
            case measure => simp [intOf]; omega
          · replace hol : o.length ≤ j + 1 := hol
            have HS : Hid (PutsL fs f (j + 1) (o ++ [fg fs j]) true) := by simpa [Hid, hk] using hst
            clear hst he hle hq hk
            go_wp2
            go_quiet (fail)
            have Bq : Below wr.heap.size wr (wr.drewN nq) := below_drewN (Below.refl _ _) nq
            have zq : (wr.drewN nq).heap.size = wr.heap.size := rfl
            generalize wr.drewN nq = W1 at *
            replace HR := Lib.hid (HR.out.below Bq)
            replace HBX := Lib.hid (HBX.out.later Bq)
            replace HB := Lib.hid (HB.out.trans (Bq.mono HB.out.size))
            replace FPr := Lib.hid (FPr.out.below Bq)
            replace FTr := Lib.hid (FTr.out.below Bq)
            replace D1 := Lib.hid (D1.out.below Bq)
            replace D2 := Lib.hid (D2.out.below Bq)
            replace hc1 := cell_later Bq hc1
            replace hc2 := cell_later Bq hc2
            replace hc3 := cell_later Bq hc3
            replace hc4 := cell_later Bq hc4
            replace x0 := cell_later Bq x0
            replace x1 := cell_later Bq x1
            replace x2 := cell_later Bq x2
            replace x3 := cell_later Bq x3
            replace hsz : w.heap.size < W1.heap.size := by omega
            replace hblt : b < W1.heap.size := by omega
            clear Bq zq
            go_wp2
            go_quiet (fail)
            have Bq : Below W1.heap.size W1 (W1.drewN nq) := below_drewN (Below.refl _ _) nq
            have zq : (W1.drewN nq).heap.size = W1.heap.size := rfl
            generalize W1.drewN nq = W2 at *
            replace HR := Lib.hid (HR.out.below Bq)
            replace HBX := Lib.hid (HBX.out.later Bq)
            replace HB := Lib.hid (HB.out.trans (Bq.mono HB.out.size))
            replace FPr := Lib.hid (FPr.out.below Bq)
            replace FTr := Lib.hid (FTr.out.below Bq)
            replace D1 := Lib.hid (D1.out.below Bq)
            replace D2 := Lib.hid (D2.out.below Bq)
            replace hc1 := cell_later Bq hc1
            replace hc2 := cell_later Bq hc2
            replace hc3 := cell_later Bq hc3
            replace hc4 := cell_later Bq hc4
            replace x0 := cell_later Bq x0
            replace x1 := cell_later Bq x1
            replace x2 := cell_later Bq x2
            replace x3 := cell_later Bq x3
            replace hsz : w.heap.size < W2.heap.size := by omega
            replace hblt : b < W2.heap.size := by omega
            clear Bq zq
            have ROW := Lib.hid HR.out.row
            go_wp2_with (at_builtin; refine wpList_append_lies _ (by rfl) _ _ _ (by rfl) (w.heap.size + 1) 33 i0 _ 4 72 Tryz.underlying23 HI.out HZ0.out HZ1.out HZ2.out rfl (by omega) (v) (o.length) (flatF (o) ad (o.length)) (by rfl) (ROW.out.alloc _) ⟨W2.heap.size, 0, none⟩ 1 1 (cellsF (fg fs j) ((pa, pc), (ta, tc))) (by rfl) (by rfl) (World.news_of_block (cs := #[.string (fid fs j), .int .i64 (fkd fs j), .slice pa (fps fs j).length pc, .slice ta (fts fs j).length tc]) (t := 33) (fr := (0, 0)) (heap_alloc_new W2 _)) (by simp [Value.oneCell', cellsF]) (by omega) (by unfold maxLen; omega) (by omega) (by simp; omega) (W2.heap.size + 1) (by simp) ?_; intro gg2 cap2 wa2 hown2 hgrow2 hat2 hlt2; clear ROW; have vw : (v).ownBlock ≠ some w.heap.size := (fun e => by have := HV.out _ e; omega); replace HR : Hid (Row wa2 (fun x => lo ≤ x ∧ x < w.heap.size) (w.heap.size + 1) (Value.slice (some ⟨gg2, 0, none⟩) (o.length + 1) cap2) (o ++ [(fg fs j)]).length (o ++ [(fg fs j)]) (plSet ad (o.length) ((pa, pc), (ta, tc)))) := HR.out.snoc D1.out (PL.out.imp (fun h => h) fun q x hx => ⟨q x hx, by have := q x hx; omega, fun e => by have h1 := HV.out x e; have h2 := q x hx; omega⟩) D2.out (TL.out.imp (fun h => h) fun q x hx => ⟨q x hx, by have := q x hx; omega, fun e => by have h1 := HV.out x e; have h2 := q x hx; omega⟩) (by simpa using hown2) hgrow2 hat2; replace HBX := Lib.hid (BoxF.grown HBX.out hgrow2 vw); replace HB : Hid (Below w.heap.size w wa2) := (HB.out.alloc HB.out.size _).grown hgrow2 (by simp; omega) (fun x hx => by have := HV.out x hx; omega); clear hown2 hgrow2 hat2 vw)
            go_roundw
            case rel => exact ⟨j + 1, _, o ++ [fg fs j], _, _, by omega, by go_num, rfl, rfl, HS.out, by simp; omega, HR.out, HBX.out, HB.out⟩
            case measure => simp [intOf]; omega
    · obtain rfl : j = fs.length := by omega
      have HD := Lib.hid hP.done
      clear hro hbel hP
      cases q
      · replace hol : o.length ≤ fs.length := hol
        have ROW := Lib.hid HR.out.row
        go_wp2_with (at_builtin; refine wpList_append_lies _ (by rfl) _ _ _ (by rfl) (w.heap.size + 1) 33 i0 _ 4 72 Tryz.underlying23 HI.out HZ0.out HZ1.out HZ2.out rfl (by omega) (v) (o.length) (flatF (o) ad (o.length)) (by rfl) (ROW.out.alloc _) ⟨wr.heap.size, 0, none⟩ 1 1 (cellsF f ((pf, pfc), (tf, tfc))) (by rfl) (by rfl) (World.news_of_block (cs := #[.string f.1, .int .i64 f.2.1, .slice pf f.2.2.1.length pfc, .slice tf f.2.2.2.length tfc]) (t := 33) (fr := (0, 0)) (heap_alloc_new wr _)) (by simp [Value.oneCell', cellsF]) (by omega) (by unfold maxLen; omega) (by omega) (by simp; omega) (wr.heap.size + 1) (by simp) ?_; intro gg1 cap1 wa1 hown1 hgrow1 hat1 hlt1; clear ROW; have vw : (v).ownBlock ≠ some w.heap.size := (fun e => by have := HV.out _ e; omega); replace HR : Hid (Row wa1 (fun x => lo ≤ x ∧ x < w.heap.size) (w.heap.size + 1) (Value.slice (some ⟨gg1, 0, none⟩) (o.length + 1) cap1) (o ++ [f]).length (o ++ [f]) (plSet ad (o.length) ((pf, pfc), (tf, tfc)))) := HR.out.snoc FPr.out (PF.out.imp (fun h => h) fun q x hx => ⟨q x hx, by have := q x hx; omega, fun e => by have h1 := HV.out x e; have h2 := q x hx; omega⟩) FTr.out (TF.out.imp (fun h => h) fun q x hx => ⟨q x hx, by have := q x hx; omega, fun e => by have h1 := HV.out x e; have h2 := q x hx; omega⟩) (by simpa using hown1) hgrow1 hat1; replace HBX := Lib.hid (BoxF.grown HBX.out hgrow1 vw); replace HB : Hid (Below w.heap.size w wa1) := (HB.out.alloc HB.out.size _).grown hgrow1 (by simp; omega) (fun x hx => by have := HV.out x hx; omega); clear hown1 hgrow1 hat1 vw)
        go_wp2
        go_ret
        have e : o ++ [f] = putL fs f := by simpa using HD.out
        have hr := HR.out
        rw [e] at hr
        first | exact ⟨⟨_, _, rfl, hr⟩, HB.out⟩ | exact ⟨⟨_, rfl, _, hr⟩, HB.out⟩
      · have e : o = putL fs f := by simpa using HD.out
        have hr := HR.out
        rw [e] at hr
        have HF := Lib.hid hr
        clear hr HR HV
        go_wp2
        go_ret
        first | exact ⟨⟨_, _, rfl, HF.out⟩, HB.out⟩ | exact ⟨⟨_, rfl, _, HF.out⟩, HB.out⟩
end Go.Proofs.YtdfadpejddhbkaaGreat
