/- Proved here: a row of numbers in memory of its own is marked, and asked for its marks; rows of at most 1,048,576 numbers. Proved here: the function that marks a list of things does so thing by thing; lists of at most 1,048,576 things, points and tags. Proved here: a list of things that toFeatS laid lies in memory of its own, its parts apart; no condition. Proved here: a list of versions is copied into memory that lies version by version; lists of at most 1,048,576. Proved here: the size of a room of versions is not less than all its parts together; lists of at most 1,048,576. Proved here: the function that marks a room of versions turns nothing but the room's own memory, and its marks are few; rooms of at most 1,048,576 parts together. Proved here: a room of versions is copied into memory that lies part by part, and its marks turn nothing but that; rooms of at most 1,048,576 parts together. Proved here: facts of the translated program alone that every law's claim asks for; no condition. Proved here: the law FnExactRepoBases answers true at every room of versions and every two places, and leaves it as it was; no condition. -/
import Derived.Test.YtdchfologicbeaaGreatWGrowI
import Derived.Test.YtdchfologicbeaaGreatMBa2
import Derived.Test.YtdchfologicbeaaGreatWSheetArg
import Derived.Test.YtdchfologicbeaaGreatWQuietB
import Derived.BigQuiet
import Derived.Test.YtdchfologicbeaaGreatWCommit
import Derived.Test.YtdchfologicbeaaGreatWRepo
import Derived.Test.YtdchfologicbeaaGreatWArg
import Derived.Test.YtdchfologicbeaaGreatRows
import Derived.Test.YtdchfologicbeaaGreatWRepoArg
import Derived.Deep.RegionHeld3
import Derived.Deep.DeepCutAuto
namespace Go.Proofs.YtdchfologicbeaaGreat
set_option linter.unusedVariables false
open Go.ChangeShapes Go.WideShapes Go.ChangeAt Go.RowKit

def marksI (k : Int) (n : Nat) : List Int := (List.range n).map fun (i : Nat) => k + (i : Int)
theorem marksI_len (k : Int) (n : Nat) : (marksI k n).length = n := by simp [marksI]
theorem marksI_at (k : Int) {n i : Nat} (h : i < n) : ix (marksI k n) i = k + (i : Int) := by simp [ix, marksI, h]

theorem GrowI.rows {lo : Nat} {w : World} {is : List Int} {v : Value} (h : GrowI lo is w v) : (v = .slice none 0 0 ∧ is = []) ∨
    ∃ g cap f, v = .slice (some ⟨g, 0, none⟩) is.length cap ∧ is.length ≤ cap ∧ cap ≤ maxLen ∧ lo ≤ g ∧ w.rowIs g 3 cap f ∧ ∀ i, i < is.length → f i = .int .i64 (ix is i) := by
  obtain ⟨h1, ⟨h2, h3⟩ | ⟨g, cap, cur, h2, hb, hg, h4, h5, h6, h7⟩⟩ := h.own
  · exact .inl ⟨h2, List.eq_nil_of_length_eq_zero h3⟩
  · refine .inr ⟨g, cap, fun i => (cur[i]?).getD undef, h2, h4, h5, hb, ⟨cur, hg, by omega, fun i hi => ?_⟩, fun i hi => ?_⟩
    · have hi' : i < cur.size := by omega
      simp [hi']
    · have hv : (flatI is)[i]? = some (.int .i64 (ix is i)) := by simp [flatI, ix, hi]
      rw [← h7, Nat.mul_one, List.getElem?_take, if_pos hi, Array.getElem?_toList] at hv
      show (cur[i]?).getD undef = _
      rw [hv]
      rfl

theorem GrowI.of_rows {lo : Nat} {w : World} {is : List Int} {g cap : Nat} {f : Nat → Value} (hr : w.rowIs g 3 cap f) (hf : ∀ i, i < is.length → f i = .int .i64 (ix is i)) (hn : is.length ≤ cap) (hm : cap ≤ maxLen) (hl : lo ≤ g) : GrowI lo is w (.slice (some ⟨g, 0, none⟩) is.length cap) := by
  have hlt := hr.lt
  obtain ⟨c, hg, hs, hc⟩ := hr
  refine ⟨⟨by simp [flatI], .inr ⟨g, cap, c, rfl, hl, hg, hn, hm, by omega, ?_⟩⟩, by omega⟩
  refine List.ext_getElem? fun i => ?_
  rw [Nat.mul_one, List.getElem?_take]
  by_cases hi : i < is.length
  · rw [if_pos hi, Array.getElem?_toList, hc i (by omega), hf i hi]
    simp [flatI, ix, hi]
  · rw [if_neg hi]
    refine (List.getElem?_eq_none ?_).symm
    simp only [flatI, List.length_map]
    omega

set_option maxRecDepth 100000 in
set_option maxHeartbeats 2000000 in
theorem markIntS_any (lo : Nat) (is : List Int) (v : Value) (k : Int) (w : World) (h : GrowI lo is w v) (hl : is.length ≤ 1048576) (h0 : 0 ≤ k) (h4 : k ≤ 1000000000000000) :
    Calls Tryz.prog 52 #[v, .int .i64 k] w fun e w' => e = .returned (.int .i64 (k + is.length)) ∧ GrowI lo (marksI k is.length) w' v ∧ Turned w w' (fun x => v.ownBlock = some x) := by
  rcases h.rows with ⟨rfl, rfl⟩ | ⟨g, cap, f, rfl, h1, h2, h3, hr, hf⟩
  · go_enter Tryz.func52, Tryz.ntmps52
    go_wp2
    go_loop [1, 5] (fun s1 i => s1 = .int .i64 k ∧ i = .int .i64 0) (fun _ _ => 0)
    case atStart => exact ⟨rfl, rfl⟩
    case round =>
      obtain ⟨rfl, rfl⟩ := hrel
      go_wp2
      go_ret
      exact ⟨by simp, h, Turned.refl _ _⟩
  · have HR := Lib.hid hr
    have HF := Lib.hid hf
    clear hr hf h
    go_enter Tryz.func52, Tryz.ntmps52
    go_wp2
    go_loopw [1, 5] (fun s1 i wr => ∃ j : Nat, j ≤ is.length ∧ s1 = .int .i64 (k + j) ∧ i = .int .i64 j ∧ wr.rowIs g 3 cap (fun i => if i < j then .int .i64 (k + i) else f i) ∧ Turned w wr (fun x => some g = some x)) (fun _ i _ => is.length - (intOf i).toNat)
    case atStart => exact ⟨0, Nat.zero_le _, by simp, rfl, HR.out.congr fun i _ => by simp, Turned.refl _ _⟩
    case round =>
      obtain ⟨j, hj, rfl, rfl, hrow, ht⟩ := hrel
      have HRo := Lib.hid hrow
      have HT := Lib.hid ht
      by_cases hlt : j < is.length
      · have hd := hrow.cell (i := j) (by omega)
        rw [if_neg (by omega), HF.out j hlt] at hd
        have hfz := hrow.frozen j
        clear hrow ht
        go_wp2
        go_roundw
        case rel => exact ⟨j + 1, by omega, by go_num, by go_num, (HRo.out.set j _).congr fun i _ => (by
          by_cases e : i = j
          · subst e; simp
          · by_cases e2 : i < j
            · rw [if_neg e, if_pos e2, if_pos (by omega)]
            · rw [if_neg e, if_neg e2, if_neg (by omega)]), HT.out.trans (Turned.of_set _ _ _ rfl)⟩
        case measure => simp [intOf]; omega
      · obtain rfl : j = is.length := by omega
        have G : Hid (GrowI lo (marksI k is.length) wr (.slice (some ⟨g, 0, none⟩) is.length cap)) := by
          have := GrowI.of_rows (lo := lo) (is := marksI k is.length) hrow (fun i hi => by
            rw [marksI_len] at hi
            rw [if_pos hi, marksI_at k hi]) (by rw [marksI_len]; exact h1) h2 h3
          rwa [marksI_len] at this
        clear hrow ht
        go_wp2
        go_ret
        exact ⟨rfl, G.out, HT.out⟩

set_option maxRecDepth 100000 in
set_option maxHeartbeats 2000000 in
theorem heldIntS_any (a : Option Addr) (cap n : Nat) (k : Int) (w : World) (hp : IntsAt w a (marksI k n)) (hl : n ≤ 1048576) (h0 : 0 ≤ k) (h4 : k ≤ 1000000000000000) :
    Calls Tryz.prog 53 #[.slice a n cap, .int .i64 k] w fun e w' => e = .returned (.int .i64 (k + n)) ∧ w = w' := by
  have HP := Lib.hid hp
  clear hp
  go_enter Tryz.func53, Tryz.ntmps53
  go_wp2
  go_loop [1, 5] (fun s1 i => ∃ j : Nat, j ≤ n ∧ s1 = .int .i64 (k + j) ∧ i = .int .i64 j) (fun _ i => n - (intOf i).toNat)
  case atStart => exact ⟨0, Nat.zero_le _, by simp, rfl⟩
  case round =>
    obtain ⟨j, hj, rfl, rfl⟩ := hrel
    by_cases hlt : j < n
    · obtain ⟨b, off, rfl, hb, hc⟩ := HP.out j (by rw [marksI_len]; exact hlt)
      rw [marksI_at k hlt] at hc
      have e1 : ((k + (j : Int)) != (k + (j : Int))) = false := by simp
      go_wp2
      go_round
      case rel => exact ⟨j + 1, by omega, by go_num, by go_num⟩
      case measure => simp [intOf]; omega
    · obtain rfl : j = n := by omega
      go_wp2
      go_ret
      exact ⟨rfl, rfl⟩
end Go.Proofs.YtdchfologicbeaaGreat

namespace Go.Proofs.YtdchfologicbeaaGreat
set_option linter.unusedVariables false
open Go.ChangeShapes Go.WideShapes Go.ChangeAt Go.RowKit

set_option maxRecDepth 100000 in
set_option maxHeartbeats 4000000 in
theorem markFeatS_some (b off cap : Nat) (fs : List Ft) (ad : Nat → Pl) (k : Int) (w : World) (hl : fs.length ≤ 1048576) (hL : FeatsLen fs 1048576) (h0 : 0 ≤ k) (h4 : k ≤ 1000000000000000) (hlie : Lies w b off fs ad) (hsep : Sep b fs.length ad) :
    Calls Tryz.prog 43 #[.slice (some ⟨b, off, none⟩) fs.length cap, .int .i64 k] w fun e w' => e = .returned (.int .i64 (lmk fs k fs.length)) ∧ Lies w' b off (lmkTo fs k fs.length) ad ∧ Turned w w' (blocksOf b fs.length ad) := by
  have HL := Lib.hid hL
  have HLie : Hid (Lies w b off (lmkTo fs k 0) ad) := by rw [lmkTo_zero]; exact hlie
  have HS := Lib.hid hsep
  clear hL hlie hsep
  go_enter Tryz.func43, Tryz.ntmps43
  go_wp2
  go_loopw [1, 5] (fun s1 i wr => ∃ j : Nat, j ≤ fs.length ∧ s1 = .int .i64 (lmk fs k j) ∧ i = .int .i64 j ∧ Lies wr b off (lmkTo fs k j) ad ∧ Turned w wr (blocksOf b fs.length ad)) (fun _ i _ => fs.length - (intOf i).toNat)
  case atStart => exact ⟨0, Nat.zero_le _, rfl, rfl, HLie.out, Turned.refl _ _⟩
  case round =>
    clear HLie
    obtain ⟨j, hj, rfl, rfl, hlie, htu⟩ := hrel
    have HLi := Lib.hid hlie
    have HT := Lib.hid htu
    have blt := hlie.lt
    clear hlie htu
    obtain ⟨k0, k1⟩ := lmk_le h0 h4 HL.out j hj
    by_cases hlt : j < fs.length
    · obtain ⟨l1, l2, l3, l4⟩ := HL.out j hlt
      clear l4
      have hlj : j < (lmkTo fs k j).length := by rw [lmkTo_len]; exact hlt
      go_wp2_with fail
      refine (markText_any _ _ (by omega)).mono ?_
      rintro e w1 ⟨rfl, hb1⟩
      have L1 := Lib.hid (HLi.out.below hb1)
      have T1 : Hid (Turned w w1 (blocksOf b fs.length ad)) := HT.out.trans (Turned.of_below hb1)
      clear hb1 HLi HT
      obtain ⟨c0, c1, c2, c3⟩ := L1.out.cell j hlj
      obtain ⟨f0, f1⟩ := L1.out.soft j hlj
      rw [(lmkTo_pl k j hlt).1] at c2
      rw [(lmkTo_pl k j hlt).2] at c3
      have ob1 : blk (ad j).1.1 ≠ some b := (HS.out.own j hlt).1
      have ob2 : blk (ad j).2.1 ≠ some b := (HS.out.own j hlt).2
      go_wp2_with fail
      generalize h3 : (w1.setCell ⟨b, off + j * 4, none⟩ (.string (markT (lmk fs k j)))).setCell ⟨b, off + j * 4 + 1, none⟩ (.int .i64 (lmk fs k j + 1)) = w3
      have t3 : Turned w1 w3 (fun x => x = b) := by
        rw [← h3]
        exact (Turned.of_set (S := fun x => x = b) w1 _ _ rfl).trans (Turned.of_set _ _ _ rfl)
      have hpl : fps (lmkTo fs k j) j = fps fs j := by unfold fps; rw [lmkTo_at k j hlt, if_neg (by omega)]
      have htl : fts (lmkTo fs k j) j = fts fs j := by unfold fts; rw [lmkTo_at k j hlt, if_neg (by omega)]
      obtain ⟨p1, p2⟩ := L1.out.pts j hlj
      obtain ⟨q1, q2⟩ := L1.out.tags j hlj
      rw [hpl] at p1 p2
      rw [htl] at q1 q2
      have np : ∀ x, blk (ad j).1.1 = some x → ¬ x = b := fun x hx e => ob1 (e ▸ hx)
      have nt : ∀ x, blk (ad j).2.1 = some x → ¬ x = b := fun x hx e => ob2 (e ▸ hx)
      have P3 := Lib.hid (p1.turned t3 np)
      have P3s := Lib.hid (p2.turnedP p1 t3 np)
      have Q3 := Lib.hid (q1.turned t3 nt)
      have Q3s := Lib.hid (q2.turnedT q1 t3 nt)
      have c3' : w3.cell? ⟨b, off + j * 4 + 3, none⟩ = some (.slice (ad j).2.1 (fts fs j).length (ad j).2.2) := by
        rw [← h3, World.cell?_setCell_other _ _ _ _ (by simp), World.cell?_setCell_other _ _ _ _ (by simp)]
        exact c3
      have T3 : Hid (Turned w w3 (blocksOf b fs.length ad)) := T1.out.trans ⟨t3.os, t3.tape, t3.output, t3.size, fun x hx hn => t3.block x hx (fun e => hn (.inl e))⟩
      have H3 := Lib.hid h3
      clear h3 t3 p1 p2 q1 q2 hpl htl c0 c1 c2 c3 f0 f1 T1 np nt
      refine (markPtS_any _ _ _ _ _ P3.out P3s.out (by omega) (by omega) (by omega)).mono ?_
      rintro e w4 ⟨rfl, g1, g2, g3, g4⟩
      have Q4 : Hid (TagsAt w4 (ad j).2.1 (fts fs j)) := Q3.out.turned (S := fun x => blk (ad j).1.1 = some x) (Turned.of_grown g3 fun x hx => hx) fun x hx he => HS.out.two j hlt x he hx
      have Q4s : Hid (Soft w4 (ad j).2.1 (fts fs j).length) := Q3s.out.turnedT Q3.out (S := fun x => blk (ad j).1.1 = some x) (Turned.of_grown g3 fun x hx => hx) fun x hx he => HS.out.two j hlt x he hx
      replace c3' : w4.cell? ⟨b, off + j * 4 + 3, none⟩ = some (.slice (ad j).2.1 (fts fs j).length (ad j).2.2) := g3.cell c3' (fun e => ob1 e.symm)
      have T4 : Hid (Turned w w4 (blocksOf b fs.length ad)) := T3.out.trans (Turned.of_grown g3 fun x hx => .inr ⟨j, hlt, .inl hx⟩)
      have G1 := Lib.hid g1
      have G2 := Lib.hid g2
      have G3 := Lib.hid g3
      clear g1 g2 g3 g4 T3 Q3 Q3s P3 P3s
      go_wp2_with fail
      refine (markTagS_any _ _ _ _ _ Q4.out Q4s.out (by omega) (by omega) (by omega)).mono ?_
      rintro e w5 ⟨rfl, r1, r2, r3⟩
      have e2 : lmk fs k j + 1 + 1 = lmk fs k j + 2 := by omega
      rw [e2] at r1
      have G1' := G1.out
      rw [e2] at G1'
      have L5 : Hid (Lies w5 b off (lmkTo fs k (j + 1)) ad) := L1.out.step hlt HS.out H3.out.symm G1' G2.out G3.out r1 r2 r3
      have T5 : Hid (Turned w w5 (blocksOf b fs.length ad)) := T4.out.trans (Turned.of_grown r3 fun x hx => .inr ⟨j, hlt, .inr hx⟩)
      clear r1 r2 r3 c3' G1'
      go_wp2
      go_roundw
      case rel => exact ⟨j + 1, by omega, congrArg (Value.int .i64) (by show _ = lmk fs k j + 2 + 2 * ((fps fs j).length : Int) + 2 * ((fts fs j).length : Int); omega), by go_num, L5.out, T5.out⟩
      case measure => simp [intOf]; omega
    · obtain rfl : j = fs.length := by omega
      go_wp2
      go_ret
      exact ⟨rfl, HLi.out, HT.out⟩
end Go.Proofs.YtdchfologicbeaaGreat

namespace Go.Proofs.YtdchfologicbeaaGreat
set_option linter.unusedVariables false
open Go.ChangeShapes Go.WideShapes Go.ChangeAt Go.RowKit

/-- where the parts of a copied list lie -/
def plOf (fs : List Ft) (ad : Nat → Nat × Nat) (i : Nat) : Pl := ((some ⟨(ad i).1, 0, none⟩, (fps fs i).length), (some ⟨(ad i).2, 0, none⟩, (fts fs i).length))

theorem lies_of_row {fs : List Ft} {ad : Nat → Nat × Nat} {w : World} {b : Nat} {t : TypeId} (h : w.rowIs b t (fs.length * 4) (featCell fs ad)) (hp : Parts w b fs ad fs.length) : Lies w b 0 fs (plOf fs ad) ∧ Sep b fs.length (plOf fs ad) := by
  refine ⟨⟨fun i hi => ?_, fun i hi => ⟨h.frozen _, h.frozen _⟩, fun i hi => ⟨PtsAt.of_row (hp i hi).1, Soft.of_row (hp i hi).1⟩, fun i hi => ⟨TagsAt.of_row (hp i hi).2.1, Soft.of_row (hp i hi).2.1⟩, h.lt⟩, ?_⟩
  · obtain ⟨b', off', pa, pc, ta, tc, e, _, h1, h2, h3, h4, _⟩ := FeatsAt.of_row h hp i hi
    obtain ⟨rfl, rfl⟩ : b = b' ∧ 0 = off' := by simpa using e
    refine ⟨h1, h2, ?_, ?_⟩
    · have := h.cell (i := i * 4 + 2) (by omega)
      rw [Nat.zero_add, this]
      unfold featCell plOf
      rw [if_neg (by omega), if_neg (by omega), if_pos (by omega), show (i * 4 + 2) / 4 = i by omega]
    · have := h.cell (i := i * 4 + 3) (by omega)
      rw [Nat.zero_add, this]
      unfold featCell plOf
      rw [if_neg (by omega), if_neg (by omega), if_neg (by omega), show (i * 4 + 3) / 4 = i by omega]
  · refine ⟨fun i hi => ?_, fun i hi => ?_, fun i j hi hj hne => ?_⟩
    · obtain ⟨_, _, h3, h4, _⟩ := hp i hi
      constructor <;> (simp [plOf, blk]; omega)
    · obtain ⟨_, _, _, _, h5, _⟩ := hp i hi
      intro x hx e
      simp only [plOf, blk, Option.map_some, Option.some.injEq] at hx e
      omega
    · have key : ∀ i j, j < fs.length → i < j → (ad i).1 ≠ (ad j).1 ∧ (ad i).1 ≠ (ad j).2 ∧ (ad i).2 ≠ (ad j).1 ∧ (ad i).2 ≠ (ad j).2 := fun i j hj hij => by
        obtain ⟨_, _, _, _, _, h6⟩ := hp j hj
        have := h6 i hij
        omega
      have kk : (ad i).1 ≠ (ad j).1 ∧ (ad i).1 ≠ (ad j).2 ∧ (ad i).2 ≠ (ad j).1 ∧ (ad i).2 ≠ (ad j).2 := by
        rcases Nat.lt_or_gt_of_ne hne with h | h
        · exact key i j hj h
        · have := key j i hi h
          omega
      refine ⟨fun x hx e => ?_, fun x hx e => ?_, fun x hx e => ?_, fun x hx e => ?_⟩ <;> (simp only [plOf, blk, Option.map_some, Option.some.injEq] at hx e; omega)

theorem blocks_of_row {fs : List Ft} {ad : Nat → Nat × Nat} {w0 w : World} {b : Nat} {t : TypeId} (h : w.rowIs b t (fs.length * 4) (featCell fs ad)) (hp : Parts w b fs ad fs.length) (hb : w0.heap.size ≤ b) : ∀ x, blocksOf b fs.length (plOf fs ad) x → w0.heap.size ≤ x ∧ x < w.heap.size := by
  rintro x (rfl | ⟨i, hi, e | e⟩)
  · exact ⟨hb, h.lt⟩
  · obtain ⟨h1, _, h3, _⟩ := hp i hi
    have := h1.lt
    simp only [plOf, blk, Option.map_some, Option.some.injEq] at e
    omega
  · obtain ⟨_, h2, _, h4, _⟩ := hp i hi
    have := h2.lt
    simp only [plOf, blk, Option.map_some, Option.some.injEq] at e
    omega

theorem Box4.turned {w w' : World} {b : Nat} {v0 v1 v2 v3 : Value} {S : Nat → Prop} (h : Box4 w b v0 v1 v2 v3) (ht : Turned w w' S) (hn : ¬ S b) : Box4 w' b v0 v1 v2 v3 :=
  ⟨ht.cell h.1 hn, ht.cell h.2.1 hn, ht.cell h.2.2.1 hn, ht.cell h.2.2.2 hn⟩

theorem Turned.of_two {w w' : World} {a c : Option Addr} (h : Grown2 w w' a c) : Turned w w' (fun x => blk a = some x ∨ blk c = some x) := by
  obtain ⟨u, h1, h2⟩ := h
  exact (Turned.of_grown h1 fun x hx => .inl hx).trans (Turned.of_grown h2 fun x hx => .inr hx)

end Go.Proofs.YtdchfologicbeaaGreat

namespace Go.Proofs.YtdchfologicbeaaGreat
set_option linter.unusedVariables false
open Go.ChangeShapes Go.WideShapes Go.ChangeAt Go.RowKit

/-- where the two rows of a version lie, and those of its things -/
abbrev PlM := Nat × Nat × (Nat → Nat × Nat)

/-- the rows of a version, between two blocks -/
structure CmUp (w : World) (c : Cm) (p : PlM) (lo hi : Nat) : Prop where
  ups : w.rowIs p.1 3 c.1.length (intCell c.1)
  row : w.rowIs p.2.1 43 (c.2.1.length * 4) (featCell c.2.1 p.2.2)
  par : Parts w p.2.1 c.2.1 p.2.2 c.2.1.length
  bot : lo ≤ p.1
  two : p.1 < p.2.1
  top : p.2.1 < hi
  far : ∀ i, i < c.2.1.length → (p.2.2 i).1 < hi ∧ (p.2.2 i).2 < hi

theorem CmUp.kept {w w' : World} {c : Cm} {p : PlM} {lo hi : Nat} (h : CmUp w c p lo hi) (hb : ∀ k, lo ≤ k → k < hi → w'.heap[k]? = w.heap[k]?) : CmUp w' c p lo hi := by
  have h1 := h.bot
  have h2 := h.two
  have h3 := h.top
  exact ⟨h.ups.of_block (hb _ (by omega) (by omega)), h.row.of_block (hb _ (by omega) (by omega)), fun i hi' => by
    obtain ⟨x1, x2, x3, x4, x5⟩ := h.par i hi'
    obtain ⟨y1, y2⟩ := h.far i hi'
    exact ⟨x1.of_block (hb _ (by omega) y1), x2.of_block (hb _ (by omega) y2), x3, x4, x5⟩, h.bot, h.two, h.top, h.far⟩

theorem CmUp.lt {w : World} {c : Cm} {p : PlM} {lo hi : Nat} (h : CmUp w c p lo hi) : lo < hi := by
  have h1 := h.bot
  have h2 := h.two
  have h3 := h.top
  omega

theorem CmUp.hi_mono {w : World} {c : Cm} {p : PlM} {lo hi hi' : Nat} (h : CmUp w c p lo hi) (hl : hi ≤ hi') : CmUp w c p lo hi' :=
  ⟨h.ups, h.row, h.par, h.bot, h.two, Nat.lt_of_lt_of_le h.top hl, fun i hi => ⟨Nat.lt_of_lt_of_le (h.far i hi).1 hl, Nat.lt_of_lt_of_le (h.far i hi).2 hl⟩⟩

theorem CmUp.below {w w' : World} {c : Cm} {p : PlM} {lo hi : Nat} (h : CmUp w c p lo hi) (hb : Below w.heap.size w w') : CmUp w' c p lo hi :=
  ⟨h.ups.of_block (hb.block _ h.ups.lt), h.row.of_block (hb.block _ h.row.lt), h.par.below hb, h.bot, h.two, h.top, h.far⟩

theorem CmUp.set {w : World} {c : Cm} {p : PlM} {lo hi : Nat} (h : CmUp w c p lo hi) (b o : Nat) (v : Value) (hl : b < lo) : CmUp (w.setCell ⟨b, o, none⟩ v) c p lo hi :=
  h.kept fun k hk _ => Below.heap_setCell _ _ _ _ (by show k ≠ b; omega)

/-- the rows of the first versions, one behind the other -/
def LayM (w : World) (cs : List Cm) (ad : Nat → PlM) (cut : Nat → Nat) (k : Nat) : Prop := ∀ i, i < k → CmUp w (mg cs i) (ad i) (cut i) (cut (i + 1))

theorem LayM.cut {w : World} {cs : List Cm} {ad : Nat → PlM} {cut : Nat → Nat} {k : Nat} (h : LayM w cs ad cut k) : ∀ i, i ≤ k → cut 0 ≤ cut i
  | 0, _ => Nat.le_refl _
  | i + 1, hi => by
    have h1 := LayM.cut h i (by omega)
    have h2 := (h i (by omega)).lt
    omega

theorem H0C {w : World} {cs : List Cm} {ad : Nat → PlM} {cut : Nat → Nat} {k b : Nat} (h : LayM w cs ad cut k) (hb : b < cut 0) (i : Nat) (hi : i < k) : b < cut i := by
  have := h.cut i (by omega)
  omega

/-- the places of the parts, as values have them -/
def plC (cs : List Cm) (ad : Nat → PlM) (i : Nat) : Pl2 := ((some ⟨(ad i).1, 0, none⟩, (mg cs i).1.length), (some ⟨(ad i).2.1, 0, none⟩, (mg cs i).2.1.length))

def plmSet (ad : Nat → PlM) (k : Nat) (x : PlM) : Nat → PlM := fun i => if i = k then x else ad i
theorem plmSet_at (ad : Nat → PlM) (k : Nat) (x : PlM) : plmSet ad k x k = x := if_pos rfl
theorem plmSet_lt {ad : Nat → PlM} {k i : Nat} {x : PlM} (h : i < k) : plmSet ad k x i = ad i := if_neg (by omega)
theorem plC_set (cs : List Cm) (ad : Nat → PlM) (k : Nat) (bu bs : Nat) (ads : Nat → Nat × Nat) : pl2Set (plC cs ad) k ((some ⟨bu, 0, none⟩, (mg cs k).1.length), (some ⟨bs, 0, none⟩, (mg cs k).2.1.length)) = plC cs (plmSet ad k (bu, bs, ads)) := by
  funext i
  unfold pl2Set plC plmSet
  by_cases e : i = k
  · subst e; simp
  · simp [e]

def cutSet (cut : Nat → Nat) (k x y : Nat) : Nat → Nat := fun i => if i = k then x else if i = k + 1 then y else cut i
theorem cutSet_at (cut : Nat → Nat) (k x y : Nat) : cutSet cut k x y k = x := if_pos rfl
theorem cutSet_next (cut : Nat → Nat) (k x y : Nat) : cutSet cut k x y (k + 1) = y := by unfold cutSet; rw [if_neg (by omega), if_pos rfl]
theorem cutSet_lt {cut : Nat → Nat} {k x y i : Nat} (h : i < k) : cutSet cut k x y i = cut i := by unfold cutSet; rw [if_neg (by omega), if_neg (by omega)]

/-- what 'toCommit' answers -/
def NewCommitL (w : World) (c : Cm) (e : Ending) (w' : World) : Prop :=
  ∃ bu bs ad, e = .returned (.agg #[.slice (some ⟨bu, 0, none⟩) c.1.length c.1.length, .slice (some ⟨bs, 0, none⟩) c.2.1.length c.2.1.length, .string c.2.2]) ∧ w'.rowIs bu 3 c.1.length (intCell c.1) ∧
    w'.rowIs bs 43 (c.2.1.length * 4) (featCell c.2.1 ad) ∧ Parts w' bs c.2.1 ad c.2.1.length ∧ w.heap.size + 3 ≤ bu ∧ bu < bs ∧ Below w.heap.size w w'

/-- what 'toCommitS' answers -/
def NewCommitsL (w : World) (cs : List Cm) (e : Ending) (w' : World) : Prop :=
  ∃ b ad cut, e = .returned (.slice (some ⟨b, 0, none⟩) cs.length cs.length) ∧ w'.rowIs b 132 (cs.length * 3) (commitCell cs (plC cs ad)) ∧ LayM w' cs ad cut cs.length ∧ w.heap.size ≤ b ∧ b < cut 0 ∧ cut cs.length ≤ w'.heap.size ∧ Below w.heap.size w w'

set_option maxRecDepth 100000 in
set_option maxHeartbeats 4000000 in
theorem toCommit_lay (c : Cm) (ua sa : Option Addr) (uc sc : Nat) (w : World) (hi : IntsAt w ua c.1) (hf : FeatsAt w sa c.2.1) (hl : CmLen c 1048576) :
    Calls Tryz.prog 165 #[.agg #[.slice ua c.1.length uc, .slice sa c.2.1.length sc, .string c.2.2]] w (NewCommitL w c) := by
  obtain ⟨l1, l2, l3, l4⟩ := hl
  have HP := Lib.hid hi
  have HT := Lib.hid hf
  have HL := Lib.hid l3
  clear hi hf l3
  have A3 : Hid (∀ o o' o'', Below w.heap.size w (((w.alloc o).alloc o').alloc o'')) := fun o o' o'' => (((Below.refl _ _).alloc (Nat.le_refl _) _).alloc (by simp) _).alloc (by simp; omega) _
  go_enter Tryz.func165, Tryz.ntmps165
  go_wp2_with fail
  refine (toIntS_any _ _ _ _ (HP.out.below (A3.out _ _ _)) (by omega)).mono ?_
  rintro e w1 ⟨b, rfl, hrow, hb, hbel⟩
  have B1 : Hid (Below w.heap.size w w1) := (A3.out _ _ _).trans (hbel.mono (by simp; omega))
  obtain ⟨hc, hf⟩ := bcell hbel
  have hz := hbel.size
  simp only [World.size_alloc] at hz hb
  have hbl := hrow.lt
  have U1 := Lib.hid hrow
  clear hrow hbel
  have d0 : w1.cell? ⟨w.heap.size + 1 + 1, 0, none⟩ = some (.slice none 0 0) := by rw [hc _ _ (by simp)]; simp [go_sem]
  have d1 : w1.cell? ⟨w.heap.size + 1 + 1, 1, none⟩ = some (.slice none 0 0) := by rw [hc _ _ (by simp)]; simp [go_sem]
  have d2 : w1.cell? ⟨w.heap.size + 1 + 1, 2, none⟩ = some (.string ⟨#[]⟩) := by rw [hc _ _ (by simp)]; simp [go_sem]
  have f0 : w1.frozen? ⟨w.heap.size + 1 + 1, 0, none⟩ = false := by rw [hf _ _ (by simp)]; simp [go_sem]
  have f1 : w1.frozen? ⟨w.heap.size + 1 + 1, 1, none⟩ = false := by rw [hf _ _ (by simp)]; simp [go_sem]
  have f2 : w1.frozen? ⟨w.heap.size + 1 + 1, 2, none⟩ = false := by rw [hf _ _ (by simp)]; simp [go_sem]
  have g0 : w1.cell? ⟨w.heap.size + 1, 0, none⟩ = some (.slice none 0 0) := by rw [hc _ _ (by simp)]; simp [go_sem]
  have g1 : w1.cell? ⟨w.heap.size + 1, 1, none⟩ = some (.slice none 0 0) := by rw [hc _ _ (by simp)]; simp [go_sem]
  have g2 : w1.cell? ⟨w.heap.size + 1, 2, none⟩ = some (.string ⟨#[]⟩) := by rw [hc _ _ (by simp)]; simp [go_sem]
  have k0 : w1.frozen? ⟨w.heap.size + 1, 0, none⟩ = false := by rw [hf _ _ (by simp)]; simp [go_sem]
  have k1 : w1.frozen? ⟨w.heap.size + 1, 1, none⟩ = false := by rw [hf _ _ (by simp)]; simp [go_sem]
  have k2 : w1.frozen? ⟨w.heap.size + 1, 2, none⟩ = false := by rw [hf _ _ (by simp)]; simp [go_sem]
  have a1 : w1.cell? ⟨w.heap.size, 1, none⟩ = some (.slice sa c.2.1.length sc) := by rw [hc _ _ (by simp; omega)]; simp [go_sem]
  have a2 : w1.cell? ⟨w.heap.size, 2, none⟩ = some (.string c.2.2) := by rw [hc _ _ (by simp; omega)]; simp [go_sem]
  clear hc hf
  go_wp2_with fail
  have B2 : Hid (Below w.heap.size w (w1.setCell ⟨w.heap.size + 1 + 1, 0, none⟩ (.slice (some ⟨b, 0, none⟩) c.1.length c.1.length))) := B1.out.setCell (by simp; omega) _
  refine (toFeatS_any _ _ _ _ (HT.out.below B2.out) (by omega) HL.out).mono ?_
  rintro e w2 ⟨b', ad, rfl, hrow2, hpar2, hb2, hbel2⟩
  have U2 : Hid (w2.rowIs b 3 c.1.length (intCell c.1)) := (U1.out.setOther (by simp; omega) _).of_block (hbel2.block _ (by simpa [World.setCell] using hbl))
  have hb2' : w.heap.size + 3 ≤ b' := by simp [World.setCell] at hb2; omega
  have V2 := Lib.hid hrow2
  have V3 := Lib.hid hpar2
  have hbb : b < b' := by simp [World.setCell] at hb2; omega
  have B3 : Hid (Below w.heap.size w w2) := B2.out.trans (hbel2.mono B2.out.size)
  have cc : ∀ (b o : Nat), b < w1.heap.size → w2.cell? ⟨b, o, none⟩ = _ := fun b o hb => hbel2.cell (p := ⟨b, o, none⟩) (by simpa [World.setCell] using hb)
  have ff : ∀ (b o : Nat), b < w1.heap.size → w2.frozen? ⟨b, o, none⟩ = _ := fun b o hb => hbel2.frozen (p := ⟨b, o, none⟩) (by simpa [World.setCell] using hb)
  replace d0 : w2.cell? ⟨w.heap.size + 1 + 1, 0, none⟩ = some (.slice (some ⟨b, 0, none⟩) c.1.length c.1.length) := by rw [cc _ _ (by omega)]; simp [go_sem, d0]
  replace d1 : w2.cell? ⟨w.heap.size + 1 + 1, 1, none⟩ = some (.slice none 0 0) := by rw [cc _ _ (by omega)]; simp [go_sem, d1]
  replace d2 : w2.cell? ⟨w.heap.size + 1 + 1, 2, none⟩ = some (.string ⟨#[]⟩) := by rw [cc _ _ (by omega)]; simp [go_sem, d2]
  replace f1 : w2.frozen? ⟨w.heap.size + 1 + 1, 1, none⟩ = false := by rw [ff _ _ (by omega)]; simp [go_sem, f1]
  replace f2 : w2.frozen? ⟨w.heap.size + 1 + 1, 2, none⟩ = false := by rw [ff _ _ (by omega)]; simp [go_sem, f2]
  replace g0 : w2.cell? ⟨w.heap.size + 1, 0, none⟩ = some (.slice none 0 0) := by rw [cc _ _ (by omega)]; simp [go_sem, g0]
  replace g1 : w2.cell? ⟨w.heap.size + 1, 1, none⟩ = some (.slice none 0 0) := by rw [cc _ _ (by omega)]; simp [go_sem, g1]
  replace g2 : w2.cell? ⟨w.heap.size + 1, 2, none⟩ = some (.string ⟨#[]⟩) := by rw [cc _ _ (by omega)]; simp [go_sem, g2]
  replace k0 : w2.frozen? ⟨w.heap.size + 1, 0, none⟩ = false := by rw [ff _ _ (by omega)]; simp [go_sem, k0]
  replace k1 : w2.frozen? ⟨w.heap.size + 1, 1, none⟩ = false := by rw [ff _ _ (by omega)]; simp [go_sem, k1]
  replace k2 : w2.frozen? ⟨w.heap.size + 1, 2, none⟩ = false := by rw [ff _ _ (by omega)]; simp [go_sem, k2]
  replace a2 : w2.cell? ⟨w.heap.size, 2, none⟩ = some (.string c.2.2) := by rw [cc _ _ (by omega)]; simp [go_sem, a2]
  clear hbel2 hrow2 hpar2 hb2 cc ff f0 a1
  go_wp2
  refine bodyPost_ret (v := .agg #[.slice (some ⟨b, 0, none⟩) c.1.length c.1.length, .slice (some ⟨b', 0, none⟩) c.2.1.length c.2.1.length, .string c.2.2]) (by simp [results, Tryz.results165, go_sem, g0, g1, g2]) rfl ?_
  refine ⟨b, b', ad, rfl, ?_, ?_, ?_, by omega, hbb, ?_⟩
  · iterate 5 refine World.rowIs.setOther ?_ (by simp; omega) _
    exact U2.out
  · iterate 5 refine World.rowIs.setOther ?_ (by simp; omega) _
    exact V2.out
  · intro i hi
    obtain ⟨x1, x2, x3, x4, x5⟩ := V3.out i hi
    refine ⟨?_, ?_, x3, x4, x5⟩
    · iterate 5 refine World.rowIs.setOther ?_ (by simp; omega) _
      exact x1
    · iterate 5 refine World.rowIs.setOther ?_ (by simp; omega) _
      exact x2
  · exact ((((B3.out.setCell (by simp; omega) _).setCell (by simp; omega) _).setCell (by simp) _).setCell (by simp) _).setCell (by simp) _

set_option maxRecDepth 100000 in
set_option maxHeartbeats 4000000 in
theorem toCommitS_lay (a : Option Addr) (cap : Nat) (cs : List Cm) (w : World) (hp : CommitsAt w a cs) (hlen : cs.length ≤ 1048576) (hl : CmsLen cs 1048576) :
    Calls Tryz.prog 100 #[.slice a cs.length cap] w (NewCommitsL w cs) := by
  obtain ⟨i0, hi, hz0, hz1, hz2⟩ := info_parts infoCommit
  have hmk : ∀ u : World, (Instr.makeSlice 59 (.int .i64 (cs.length : Int)) (.int .i64 (cs.length : Int))).run Tryz.prog u =
      .ok (.slice (some ⟨u.heap.size, 0, none⟩) cs.length cs.length) (u.alloc (.cells (madeCells #[.slice none 0 0, .slice none 0 0, .string .empty] (cs.length * 3)) 132)) := fun u => by
    have h := run_make (P := Tryz.prog) u 59 132 i0 (.agg #[.slice none 0 0, .slice none 0 0, .string .empty]) Tryz.underlying59 hi hz0 .i64 .i64 (cs.length : Int) (cs.length : Int) (by omega) (Int.le_refl _) (by rw [hz2]; omega) (by omega)
    simpa [hz1, Value.cells] using h
  have H0 := Lib.hid hp
  have HL := Lib.hid hl
  clear hp hz0 hz1 hz2 hi hl
  go_enter Tryz.func100, Tryz.ntmps100
  go_wp2
  clear hmk
  go_loopw [4] (fun i wr => ∃ (k : Nat) (ad : Nat → PlM) (cut : Nat → Nat), k ≤ cs.length ∧ i = .int .i64 k ∧ wr.rowIs w.heap.size 132 (cs.length * 3) (filledC cs (plC cs ad) k) ∧ LayM wr cs ad cut k ∧ w.heap.size < cut 0 ∧ cut k ≤ wr.heap.size ∧ Below w.heap.size w wr) (fun i _ => cs.length - (intOf i).toNat)
  case atStart =>
    refine ⟨0, fun _ => (0, 0, fun _ => (0, 0)), fun _ => w.heap.size + 1, Nat.zero_le _, rfl, (made_rowC w cs.length _).congr fun i _ => ?_, fun i hi => absurd hi (Nat.not_lt_zero _), Nat.lt_succ_self _, by simp, (Below.refl _ _).alloc (Nat.le_refl _) _⟩
    unfold filledC
    rw [if_neg (by omega)]
  case round =>
    obtain ⟨k, ad, cut, hk, rfl, hrow, hpar, hc0, hck, hbel⟩ := hrel
    by_cases hlt : k < cs.length
    · obtain ⟨b, off, ua, uc, sa, sc, rfl, hx⟩ := H0.out k hlt
      obtain ⟨hb, c0, c1, c2, hii, hff⟩ := hx.below hbel
      have HR := Lib.hid hrow
      have HB := Lib.hid hbel
      have HPar := Lib.hid hpar
      have HII := Lib.hid hii
      have HFF := Lib.hid hff
      have hwlt := hrow.lt
      clear hrow hbel hpar hii hff hx
      have hsz := HB.out.size
      go_wp2_with fail
      refine (toCommit_lay _ _ _ _ _ _ HII.out HFF.out (HL.out k hlt)).mono ?_
      rintro e w1 ⟨bu, bs, ads, rfl, hU, hV, hP, hlo, hlt2, hb1⟩
      have hrow1 : w1.rowIs w.heap.size 132 (cs.length * 3) (filledC cs (plC cs ad) k) := HR.out.of_block (hb1.block _ HR.out.lt)
      have hf1 := hrow1.frozen (k * 3)
      have hf2 := hrow1.frozen (k * 3 + 1)
      have hf3 := hrow1.frozen (k * 3 + 2)
      have hd1 := hrow1.cell (i := k * 3) (by omega)
      have hd2 := hrow1.cell (i := k * 3 + 1) (by omega)
      have hd3 := hrow1.cell (i := k * 3 + 2) (by omega)
      have HR1 := Lib.hid hrow1
      have HB1 := Lib.hid hb1
      have hsz1 := hb1.size
      have HP1 : Hid (LayM w1 cs (plmSet ad k (bu, bs, ads)) (cutSet cut k wr.heap.size w1.heap.size) (k + 1)) := by
        intro i hi
        by_cases e : i = k
        · subst e
          rw [plmSet_at, cutSet_at, cutSet_next]
          exact ⟨hU, hV, hP, by omega, hlt2, hV.lt, fun i hi => ⟨(hP i hi).1.lt, (hP i hi).2.1.lt⟩⟩
        · rw [plmSet_lt (by omega)]
          have h1 := (HPar.out i (by omega)).below hb1
          by_cases e2 : i + 1 = k
          · rw [e2, cutSet_at, cutSet_lt (by omega)]
            refine h1.hi_mono ?_
            rw [e2]
            exact hck
          · rw [cutSet_lt (by omega), cutSet_lt (by omega)]
            exact h1
      have hcut0 : w.heap.size < cutSet cut k wr.heap.size w1.heap.size 0 := by
        by_cases e : k = 0
        · subst e; rw [cutSet_at]; exact hwlt
        · rw [cutSet_lt (by omega)]; exact hc0
      clear hrow1 hb1 hU hV hP c0 c1 c2
      go_wp2
      go_roundw
      case rel =>
        refine ⟨k + 1, plmSet ad k (bu, bs, ads), cutSet cut k wr.heap.size w1.heap.size, by omega, by go_num, (((HR1.out.set (k * 3) _).set (k * 3 + 1) _).set (k * 3 + 2) _).congr fun j _ => (by rw [← plC_set]; exact filledC_step cs (plC cs ad) k j ((some ⟨bu, 0, none⟩, (mg cs k).1.length), (some ⟨bs, 0, none⟩, (mg cs k).2.1.length))), fun i hi => (((HP1.out i hi).set w.heap.size _ _ (H0C HP1.out hcut0 i hi)).set w.heap.size _ _ (H0C HP1.out hcut0 i hi)).set w.heap.size _ _ (H0C HP1.out hcut0 i hi), hcut0, by rw [cutSet_next]; simp [World.setCell], ?_⟩
        exact (((HB.out.trans (HB1.out.mono hsz)).setCell (Nat.le_refl _) _).setCell (Nat.le_refl _) _).setCell (Nat.le_refl _) _
      case measure => simp [intOf]; omega
    · have HR := Lib.hid hrow
      have HB := Lib.hid hbel
      have HPar := Lib.hid hpar
      clear hrow hbel hpar
      go_wp2
      go_ret
      obtain rfl : k = cs.length := by omega
      exact ⟨w.heap.size, ad, cut, rfl, HR.out.congr fun j hj => (by unfold filledC; rw [if_pos hj]), HPar.out, Nat.le_refl _, hc0, hck, HB.out⟩
end Go.Proofs.YtdchfologicbeaaGreat

namespace Go.Proofs.YtdchfologicbeaaGreat
set_option linter.unusedVariables false
open Go.ChangeShapes Go.WideShapes Go.ChangeAt Go.RowKit

/-- how much the first things of a list weigh -/
def wF (fs : List Ft) : Nat → Nat
  | 0 => 0
  | n + 1 => wF fs n + (1 + (fps fs n).length + (fts fs n).length)

/-- how much the first versions of a list weigh -/
def wC (cs : List Cm) : Nat → Nat
  | 0 => 0
  | n + 1 => wC cs n + (1 + (mg cs n).1.length + wF (mg cs n).2.1 (mg cs n).2.1.length)

theorem wF_len (fs : List Ft) : ∀ n, n ≤ wF fs n
  | 0 => Nat.le_refl _
  | n + 1 => by
    have := wF_len fs n
    show n + 1 ≤ wF fs n + _
    omega
theorem wC_len (cs : List Cm) : ∀ n, n ≤ wC cs n
  | 0 => Nat.le_refl _
  | n + 1 => by
    have := wC_len cs n
    show n + 1 ≤ wC cs n + _
    omega

def SumTags (ts : List Tg) (left : Int) (r : Int) : Prop := r = -1 ∨ (0 ≤ r ∧ r + ts.length ≤ left ∧ (ts.length : Int) ≤ left ∧ TagsLen ts left)
def SumFeat (id : ByteArray) (ps : List (Int × Int)) (ts : List Tg) (left r : Int) : Prop := r = -1 ∨ (0 ≤ r ∧ r + ((ps.length : Int) + ts.length) ≤ left ∧ (id.size : Int) ≤ left ∧ (ps.length : Int) ≤ left ∧ (ts.length : Int) ≤ left ∧ TagsLen ts left)
def SumFeats (fs : List Ft) (left : Int) (r : Int) : Prop := r = -1 ∨ (0 ≤ r ∧ r + (wF fs fs.length : Nat) ≤ left ∧ (fs.length : Int) ≤ left ∧ FeatsLen fs left)
def SumCm (c : Cm) (left r : Int) : Prop := r = -1 ∨ (0 ≤ r ∧ r + ((c.1.length : Int) + (wF c.2.1 c.2.1.length : Nat)) ≤ left ∧ CmLen c left)
def SumCms (cs : List Cm) (left : Int) (r : Int) : Prop := r = -1 ∨ (0 ≤ r ∧ r + (wC cs cs.length : Nat) ≤ left ∧ (cs.length : Int) ≤ left ∧ CmsLen cs left)
def SumHeads (hs : List Hd) (left : Int) (r : Int) : Prop := r = -1 ∨ (0 ≤ r ∧ r + hs.length ≤ left ∧ (hs.length : Int) ≤ left ∧ HeadsLen hs left)
def SumRepo (cs : List Cm) (hs : List Hd) (left r : Int) : Prop := r = -1 ∨ (0 ≤ r ∧ r + ((wC cs cs.length : Nat) + hs.length) ≤ left ∧ RpLen cs hs left)

set_option maxRecDepth 100000 in
set_option maxHeartbeats 2000000 in
theorem szTagS_sum (a : Option Addr) (cap : Nat) (ts : List Tg) (left : Int) (w : World) (hp : TagsAt w a ts) (hm : ts.length ≤ 9223372036854775807) (hl : TagsLen ts 9223372036854775807) (h0 : 0 ≤ left) (h1 : left ≤ 1048576) :
    Calls Tryz.prog 78 #[.slice a ts.length cap, .int .i64 left] w fun e w' => (∃ r, e = .returned (.int .i64 r) ∧ SumTags ts left r) ∧ Below w.heap.size w w' := by
  have HP := Lib.hid hp
  have HL := Lib.hid hl
  clear hp hl
  by_cases g1 : (ts.length : Int) ≤ left
  · go_enter Tryz.func78, Tryz.ntmps78
    go_wp2
    go_loopw [1, 5] (fun l i wr => ∃ (k : Nat) (r : Int), k ≤ ts.length ∧ i = .int .i64 k ∧ l = .int .i64 r ∧ 0 ≤ r ∧ r + (ts.length : Int) ≤ left ∧ Below w.heap.size w wr ∧ ∀ j, j < k → ((tk ts j).size : Int) ≤ left ∧ ((tv ts j).size : Int) ≤ left) (fun _ i _ => ts.length - (intOf i).toNat)
    case atStart => exact ⟨0, left - ts.length, Nat.zero_le _, rfl, by simp, by omega, by omega, Below.refl _ _, fun j h => absurd h (Nat.not_lt_zero _)⟩
    case round =>
      obtain ⟨k, r, hk, rfl, rfl, hr0, hr1, hbel, hall⟩ := hrel
      have HA := Lib.hid hall
      have HB := Lib.hid hbel
      have hsz := hbel.size
      clear hall
      by_cases hlt : k < ts.length
      · obtain ⟨b, off, rfl, hb, hc1, hc2⟩ := HP.out k hlt
        rw [← hbel.cell (p := ⟨b, _, none⟩) hb] at hc1 hc2
        clear hbel
        go_wp2_with fail
        refine (szTag_any _ _ _ _ hr0 (by omega) (by have := (HL.out k hlt).1; omega) (by have := (HL.out k hlt).2; omega)).mono ?_
        rintro e w1 ⟨⟨r', rfl, hs⟩, hb1⟩
        have HB1 := Lib.hid hb1
        clear hb1
        rcases hs with rfl | ⟨g2, g3, g4, g5⟩
        · go_wp2
          go_ret
          exact ⟨⟨_, rfl, .inl rfl⟩, HB.out.trans (HB1.out.mono hsz)⟩
        · go_wp2
          go_roundw
          case rel => exact ⟨k + 1, r', by omega, by go_num, rfl, g2, by omega, HB.out.trans (HB1.out.mono hsz), fun j hj => by by_cases e : j = k; (subst e; exact ⟨by omega, by omega⟩); exact HA.out j (by omega)⟩
          case measure => simp [intOf]; omega
      · obtain rfl : k = ts.length := by omega
        clear hbel
        go_wp2
        go_ret
        exact ⟨⟨_, rfl, .inr ⟨hr0, hr1, g1, HA.out⟩⟩, HB.out⟩
  · go_enter Tryz.func78, Tryz.ntmps78
    go_wp2
    go_ret
    exact ⟨⟨_, rfl, .inl rfl⟩, Below.refl _ _⟩

set_option maxRecDepth 100000 in
set_option maxHeartbeats 2000000 in
theorem szFeat_sum (id : ByteArray) (k : Int) (a : Option Addr) (cap : Nat) (ps : List (Int × Int)) (c : Option Addr) (cap' : Nat) (ts : List Tg) (left : Int) (w : World) (hf : FeatIn w id a ps c ts) (h0 : 0 ≤ left) (h1 : left ≤ 1048576) :
    Calls Tryz.prog 20 #[.agg #[.string id, .int .i64 k, .slice a ps.length cap, .slice c ts.length cap'], .int .i64 left] w fun e w' => (∃ r, e = .returned (.int .i64 r) ∧ SumFeat id ps ts left r) ∧ Below w.heap.size w w' := by
  obtain ⟨hp, ht, g1, g2, g3, g4⟩ := hf
  have HT := Lib.hid ht
  have HL := Lib.hid g4
  clear hp ht g4
  by_cases e1 : (id.size : Int) ≤ left
  · by_cases e2 : (ps.length : Int) ≤ left - id.size
    · go_enter Tryz.func20, Tryz.ntmps20
      go_wp2_with fail
      refine (szShape_fits _ _ _ _ _ _ (by omega) (by omega)).mono ?_
      rintro e w1 ⟨rfl, hb1⟩
      have c3 := cell_later hb1 (a := ⟨w.heap.size, 3, none⟩) (v := .slice c ts.length cap') (by simp [go_sem])
      have B1 : Hid (Below w.heap.size w w1) := ((Below.refl _ _).alloc (Nat.le_refl _) _).trans (hb1.mono (by simp))
      clear hb1
      go_wp2_with fail
      refine (szTagS_sum _ _ _ _ _ (HT.out.below B1.out) g3 HL.out (by omega) (by omega)).mono ?_
      rintro e w2 ⟨⟨r, rfl, hs⟩, hb2⟩
      have B2 : Hid (Below w.heap.size w w2) := B1.out.trans (hb2.mono B1.out.size)
      clear hb2 c3
      rcases hs with rfl | ⟨q1, q2, q3, q4⟩
      · go_wp2
        go_ret
        exact ⟨⟨_, rfl, .inl rfl⟩, B2.out⟩
      · have Q4 := Lib.hid q4
        clear q4
        go_wp2
        go_ret
        exact ⟨⟨_, rfl, .inr ⟨q1, by omega, e1, by omega, by omega, Q4.out.mono (by omega)⟩⟩, B2.out⟩
    · go_enter Tryz.func20, Tryz.ntmps20
      go_wp2_with fail
      refine (szShape_over _ _ _ _ _ _ (by omega) (by omega) (by omega) (by unfold maxLen; omega)).mono ?_
      rintro e w1 ⟨rfl, hb1⟩
      have B1 : Hid (Below w.heap.size w w1) := ((Below.refl _ _).alloc (Nat.le_refl _) _).trans (hb1.mono (by simp))
      clear hb1
      go_wp2
      go_ret
      exact ⟨⟨_, rfl, .inl rfl⟩, B1.out⟩
  · go_enter Tryz.func20, Tryz.ntmps20
    go_wp2
    go_ret
    exact ⟨⟨_, rfl, .inl rfl⟩, (Below.refl _ _).alloc (Nat.le_refl _) _⟩

set_option maxRecDepth 100000 in
set_option maxHeartbeats 2000000 in
theorem szFeatS_sum (a : Option Addr) (cap : Nat) (fs : List Ft) (left : Int) (w : World) (hf : FeatsIn w a fs) (h0 : 0 ≤ left) (h1 : left ≤ 1048576) :
    Calls Tryz.prog 37 #[.slice a fs.length cap, .int .i64 left] w fun e w' => (∃ r, e = .returned (.int .i64 r) ∧ SumFeats fs left r) ∧ Below w.heap.size w w' := by
  obtain ⟨hp, hm, hl⟩ := hf
  have HP := Lib.hid hp
  have HL := Lib.hid hl
  clear hp hl
  by_cases g1 : (fs.length : Int) ≤ left
  · go_enter Tryz.func37, Tryz.ntmps37
    go_wp2
    go_loopw [1, 5] (fun l i wr => ∃ (k : Nat) (r : Int), k ≤ fs.length ∧ i = .int .i64 k ∧ l = .int .i64 r ∧ 0 ≤ r ∧ r + ((fs.length : Int) - k) + (wF fs k : Nat) ≤ left ∧ Below w.heap.size w wr ∧ ∀ j, j < k → ((fid fs j).size : Int) ≤ left ∧ ((fps fs j).length : Int) ≤ left ∧ ((fts fs j).length : Int) ≤ left ∧ TagsLen (fts fs j) left) (fun _ i _ => fs.length - (intOf i).toNat)
    case atStart => exact ⟨0, left - fs.length, Nat.zero_le _, rfl, by simp, by omega, by simp [wF], Below.refl _ _, fun j h => absurd h (Nat.not_lt_zero _)⟩
    case round =>
      obtain ⟨k, r, hk, rfl, rfl, hr0, hr1, hbel, hall⟩ := hrel
      have HA := Lib.hid hall
      have HB := Lib.hid hbel
      have hsz := hbel.size
      clear hall
      by_cases hlt : k < fs.length
      · obtain ⟨b, off, pa, pc, ta, tc, rfl, hb, hc1, hc2, hc3, hc4, hpp, htt⟩ := HP.out k hlt
        rw [← hbel.cell (p := ⟨b, _, none⟩) hb] at hc1 hc2 hc3 hc4
        have HI : Hid (FeatIn wr (fid fs k) pa (fps fs k) ta (fts fs k)) := ⟨hpp.below hbel, htt.below hbel, by have := (HL.out k hlt).1; omega, by have := (HL.out k hlt).2.1; omega, by have := (HL.out k hlt).2.2.1; omega, (HL.out k hlt).2.2.2⟩
        clear hbel hpp htt
        go_wp2_with fail
        refine (szFeat_sum _ _ _ _ _ _ _ _ _ _ HI.out hr0 (by omega)).mono ?_
        rintro e w1 ⟨⟨r', rfl, hs⟩, hb1⟩
        have B1 : Hid (Below w.heap.size w w1) := HB.out.trans (hb1.mono hsz)
        clear hb1 hc1 hc2 hc3 hc4
        rcases hs with rfl | ⟨g2, g3, g4, g5, g6, g7⟩
        · go_wp2
          go_ret
          exact ⟨⟨_, rfl, .inl rfl⟩, B1.out⟩
        · have G7 := Lib.hid g7
          clear g7
          go_wp2
          go_roundw
          case rel => exact ⟨k + 1, r', by omega, by go_num, rfl, g2, by have e : wF fs (k + 1) = wF fs k + (1 + (fps fs k).length + (fts fs k).length) := rfl; omega, B1.out, fun j hj => by by_cases e : j = k; (subst e; exact ⟨by omega, by omega, by omega, G7.out.mono (by omega)⟩); exact HA.out j (by omega)⟩
          case measure => simp [intOf]; omega
      · obtain rfl : k = fs.length := by omega
        clear hbel
        go_wp2
        go_ret
        exact ⟨⟨_, rfl, .inr ⟨hr0, by omega, g1, HA.out⟩⟩, HB.out⟩
  · go_enter Tryz.func37, Tryz.ntmps37
    go_wp2
    go_ret
    exact ⟨⟨_, rfl, .inl rfl⟩, Below.refl _ _⟩

set_option maxRecDepth 100000 in
set_option maxHeartbeats 2000000 in
theorem szHeadS_sum (a : Option Addr) (cap : Nat) (hs : List Hd) (left : Int) (w : World) (hp : HeadsAt w a hs) (hm : hs.length ≤ 9223372036854775807) (hl : HeadsLen hs 9223372036854775807) (h0 : 0 ≤ left) (h1 : left ≤ 1048576) :
    Calls Tryz.prog 94 #[.slice a hs.length cap, .int .i64 left] w fun e w' => (∃ r, e = .returned (.int .i64 r) ∧ SumHeads hs left r) ∧ Below w.heap.size w w' := by
  have HP := Lib.hid hp
  have HL := Lib.hid hl
  clear hp hl
  by_cases g1 : (hs.length : Int) ≤ left
  · go_enter Tryz.func94, Tryz.ntmps94
    go_wp2
    go_loopw [1, 5] (fun l i wr => ∃ (k : Nat) (r : Int), k ≤ hs.length ∧ i = .int .i64 k ∧ l = .int .i64 r ∧ 0 ≤ r ∧ r + (hs.length : Int) ≤ left ∧ Below w.heap.size w wr ∧ ∀ j, j < k → ((hdn hs j).size : Int) ≤ left) (fun _ i _ => hs.length - (intOf i).toNat)
    case atStart => exact ⟨0, left - hs.length, Nat.zero_le _, rfl, by simp, by omega, by omega, Below.refl _ _, fun j h => absurd h (Nat.not_lt_zero _)⟩
    case round =>
      obtain ⟨k, r, hk, rfl, rfl, hr0, hr1, hbel, hall⟩ := hrel
      have HA := Lib.hid hall
      have HB := Lib.hid hbel
      have hsz := hbel.size
      clear hall
      by_cases hlt : k < hs.length
      · obtain ⟨b, off, rfl, hb, hc1, hc2⟩ := HP.out k hlt
        rw [← hbel.cell (p := ⟨b, _, none⟩) hb] at hc1 hc2
        clear hbel
        go_wp2_with fail
        refine (szHead_any _ _ _ _ hr0 (by omega) (by have := HL.out k hlt; omega)).mono ?_
        rintro e w1 ⟨⟨r', rfl, hs'⟩, hb1⟩
        have HB1 := Lib.hid hb1
        clear hb1
        rcases hs' with rfl | ⟨g2, g3, g4⟩
        · go_wp2
          go_ret
          exact ⟨⟨_, rfl, .inl rfl⟩, HB.out.trans (HB1.out.mono hsz)⟩
        · go_wp2
          go_roundw
          case rel => exact ⟨k + 1, r', by omega, by go_num, rfl, g2, by omega, HB.out.trans (HB1.out.mono hsz), fun j hj => by by_cases e : j = k; (subst e; omega); exact HA.out j (by omega)⟩
          case measure => simp [intOf]; omega
      · obtain rfl : k = hs.length := by omega
        clear hbel
        go_wp2
        go_ret
        exact ⟨⟨_, rfl, .inr ⟨hr0, hr1, g1, HA.out⟩⟩, HB.out⟩
  · go_enter Tryz.func94, Tryz.ntmps94
    go_wp2
    go_ret
    exact ⟨⟨_, rfl, .inl rfl⟩, Below.refl _ _⟩

set_option maxRecDepth 100000 in
set_option maxHeartbeats 2000000 in
theorem szCommit_sum (c : Cm) (ua sa : Option Addr) (uc sc : Nat) (left : Int) (w : World) (hi : IntsAt w ua c.1) (hf : FeatsAt w sa c.2.1) (hl : CmLen c 9223372036854775807) (h0 : 0 ≤ left) (h1 : left ≤ 1048576) :
    Calls Tryz.prog 162 #[.agg #[.slice ua c.1.length uc, .slice sa c.2.1.length sc, .string c.2.2], .int .i64 left] w fun e w' => (∃ r, e = .returned (.int .i64 r) ∧ SumCm c left r) ∧ Below w.heap.size w w' := by
  obtain ⟨l1, l2, l3, l4⟩ := hl
  have HL := Lib.hid l3
  have HF := Lib.hid hf
  clear hf l3 hi
  have A1 : Hid (∀ o, Below w.heap.size w (w.alloc o)) := fun o => (Below.refl _ _).alloc (Nat.le_refl _) _
  by_cases e1 : (c.1.length : Int) ≤ left
  · go_enter Tryz.func162, Tryz.ntmps162
    go_wp2_with fail
    refine (szIntS_fits _ _ _ _ _ e1 h1).mono ?_
    rintro e w1 ⟨rfl, rfl⟩
    go_wp2_with fail
    refine (szFeatS_sum _ _ _ _ _ ⟨HF.out.below (A1.out _), by omega, HL.out⟩ (by omega) (by omega)).mono ?_
    rintro e w1 ⟨⟨r, rfl, hs⟩, hb1⟩
    have c2 := cell_later hb1 (a := ⟨w.heap.size, 2, none⟩) (v := .string c.2.2) (by simp [go_sem])
    have B1 : Hid (Below w.heap.size w w1) := (A1.out _).trans (hb1.mono (by simp))
    clear hb1
    rcases hs with rfl | ⟨q1, q2, q3, q4⟩
    · go_wp2
      go_ret
      exact ⟨⟨_, rfl, .inl rfl⟩, B1.out⟩
    · have Q4 := Lib.hid q4
      clear q4
      by_cases e3 : (c.2.2.size : Int) ≤ r
      · go_wp2
        go_ret
        exact ⟨⟨_, rfl, .inr ⟨by omega, by omega, e1, by omega, Q4.out.mono (by omega), by omega⟩⟩, B1.out⟩
      · go_wp2
        go_ret
        exact ⟨⟨_, rfl, .inl rfl⟩, B1.out⟩
  · go_enter Tryz.func162, Tryz.ntmps162
    go_wp2_with fail
    refine (szIntS_over _ _ _ _ _ h0 (by omega) h1 (by unfold maxLen; omega)).mono ?_
    rintro e w1 ⟨rfl, rfl⟩
    go_wp2
    go_ret
    exact ⟨⟨_, rfl, .inl rfl⟩, A1.out _⟩

set_option maxRecDepth 100000 in
set_option maxHeartbeats 2000000 in
theorem szCommitS_sum (a : Option Addr) (cap : Nat) (cs : List Cm) (left : Int) (w : World) (hf : CommitsIn w a cs) (h0 : 0 ≤ left) (h1 : left ≤ 1048576) :
    Calls Tryz.prog 93 #[.slice a cs.length cap, .int .i64 left] w fun e w' => (∃ r, e = .returned (.int .i64 r) ∧ SumCms cs left r) ∧ Below w.heap.size w w' := by
  obtain ⟨hp, hm, hl⟩ := hf
  have HP := Lib.hid hp
  have HL := Lib.hid hl
  clear hp hl
  by_cases g1 : (cs.length : Int) ≤ left
  · go_enter Tryz.func93, Tryz.ntmps93
    go_wp2
    go_loopw [1, 5] (fun l i wr => ∃ (k : Nat) (r : Int), k ≤ cs.length ∧ i = .int .i64 k ∧ l = .int .i64 r ∧ 0 ≤ r ∧ r + ((cs.length : Int) - k) + (wC cs k : Nat) ≤ left ∧ Below w.heap.size w wr ∧ ∀ j, j < k → CmLen (mg cs j) left) (fun _ i _ => cs.length - (intOf i).toNat)
    case atStart => exact ⟨0, left - cs.length, Nat.zero_le _, rfl, by simp, by omega, by simp [wC], Below.refl _ _, fun j h => absurd h (Nat.not_lt_zero _)⟩
    case round =>
      obtain ⟨k, r, hk, rfl, rfl, hr0, hr1, hbel, hall⟩ := hrel
      have HA := Lib.hid hall
      have HB := Lib.hid hbel
      have hsz := hbel.size
      clear hall
      by_cases hlt : k < cs.length
      · obtain ⟨b, off, ua, uc, sa, sc, rfl, hx⟩ := HP.out k hlt
        obtain ⟨hb, c0, c1, c2, hii, hff⟩ := hx.below hbel
        have HI := Lib.hid hii
        have HF := Lib.hid hff
        clear hbel hx hii hff
        go_wp2_with fail
        refine (szCommit_sum _ _ _ _ _ _ _ HI.out HF.out (HL.out k hlt) hr0 (by omega)).mono ?_
        rintro e w1 ⟨⟨r', rfl, hs⟩, hb1⟩
        have B1 : Hid (Below w.heap.size w w1) := HB.out.trans (hb1.mono hsz)
        clear hb1 c0 c1 c2
        rcases hs with rfl | ⟨g2, g3, g4⟩
        · go_wp2
          go_ret
          exact ⟨⟨_, rfl, .inl rfl⟩, B1.out⟩
        · have G4 := Lib.hid g4
          clear g4
          go_wp2
          go_roundw
          case rel => exact ⟨k + 1, r', by omega, by go_num, rfl, g2, by have e : wC cs (k + 1) = wC cs k + (1 + (mg cs k).1.length + wF (mg cs k).2.1 (mg cs k).2.1.length) := rfl; omega, B1.out, fun j hj => by by_cases e : j = k; (subst e; exact G4.out.mono (by omega)); exact HA.out j (by omega)⟩
          case measure => simp [intOf]; omega
      · obtain rfl : k = cs.length := by omega
        clear hbel
        go_wp2
        go_ret
        exact ⟨⟨_, rfl, .inr ⟨hr0, by omega, g1, HA.out⟩⟩, HB.out⟩
  · go_enter Tryz.func93, Tryz.ntmps93
    go_wp2
    go_ret
    exact ⟨⟨_, rfl, .inl rfl⟩, Below.refl _ _⟩

set_option maxRecDepth 100000 in
set_option maxHeartbeats 2000000 in
theorem szRepo_sum (a b : Option Addr) (ca cb : Nat) (cs : List Cm) (hs : List Hd) (left : Int) (w : World) (hc : CommitsIn w a cs) (hh : HeadsIn w b hs) (h0 : 0 ≤ left) (h1 : left ≤ 1048576) :
    Calls Tryz.prog 30 #[.agg #[.slice a cs.length ca, .slice b hs.length cb], .int .i64 left] w fun e w' => (∃ r, e = .returned (.int .i64 r) ∧ SumRepo cs hs left r) ∧ Below w.heap.size w w' := by
  have HC := Lib.hid hc
  have HH := Lib.hid hh
  clear hc hh
  have A1 : Hid (∀ o, Below w.heap.size w (w.alloc o)) := fun o => (Below.refl _ _).alloc (Nat.le_refl _) _
  go_enter Tryz.func30, Tryz.ntmps30
  go_wp2_with fail
  refine (szCommitS_sum _ _ _ _ _ (HC.out.below (A1.out _)) h0 h1).mono ?_
  rintro e w1 ⟨⟨r, rfl, hs'⟩, hb1⟩
  have c1 := cell_later hb1 (a := ⟨w.heap.size, 1, none⟩) (v := .slice b hs.length cb) (by simp [go_sem])
  have B1 : Hid (Below w.heap.size w w1) := (A1.out _).trans (hb1.mono (by simp))
  clear hb1
  rcases hs' with rfl | ⟨q1, q2, q3, q4⟩
  · go_wp2
    go_ret
    exact ⟨⟨_, rfl, .inl rfl⟩, B1.out⟩
  have Q4 := Lib.hid q4
  clear q4
  go_wp2_with fail
  refine (szHeadS_sum _ _ _ _ _ (HH.out.below B1.out).reads HH.out.len HH.out.lens q1 (by omega)).mono ?_
  rintro e w2 ⟨⟨r', rfl, hs'⟩, hb2⟩
  have B2 : Hid (Below w.heap.size w w2) := B1.out.trans (hb2.mono B1.out.size)
  clear hb2 c1
  rcases hs' with rfl | ⟨p1, p2, p3, p4⟩
  · go_wp2
    go_ret
    exact ⟨⟨_, rfl, .inl rfl⟩, B2.out⟩
  have P4 := Lib.hid p4
  clear p4
  go_wp2
  go_ret
  exact ⟨⟨_, rfl, .inr ⟨p1, by omega, by omega, by omega, Q4.out, P4.out.mono (by omega)⟩⟩, B2.out⟩

end Go.Proofs.YtdchfologicbeaaGreat

namespace Go.Proofs.YtdchfologicbeaaGreat
set_option linter.unusedVariables false
open Go.ChangeShapes Go.WideShapes Go.ChangeAt Go.RowKit

theorem lmk_sum (fs : List Ft) (k : Int) : ∀ i, lmk fs k i = k + 2 * (wF fs i : Nat)
  | 0 => by simp [lmk, wF]
  | i + 1 => by
    have h := lmk_sum fs k i
    have e : wF fs (i + 1) = wF fs i + (1 + (fps fs i).length + (fts fs i).length) := rfl
    show lmk fs k i + 2 + 2 * ((fps fs i).length : Int) + 2 * ((fts fs i).length : Int) = _
    omega

theorem wC_mono (cs : List Cm) {i : Nat} : ∀ {n}, i ≤ n → wC cs i ≤ wC cs n
  | 0, h => by rw [show i = 0 by omega]; exact Nat.le_refl _
  | n + 1, h => by
    by_cases e : i = n + 1
    · rw [e]; exact Nat.le_refl _
    · have := wC_mono cs (i := i) (n := n) (by omega)
      have e2 : wC cs (n + 1) = wC cs n + (1 + (mg cs n).1.length + wF (mg cs n).2.1 (mg cs n).2.1.length) := rfl
      omega

theorem rowIs_turned {w w' : World} {S : Nat → Prop} {b n : Nat} {t : TypeId} {f : Nat → Value} (h : w.rowIs b t n f) (ht : Turned w w' S) (hn : ¬ S b) : w'.rowIs b t n f := h.of_block (ht.block _ h.lt hn)

theorem Turned.wide {w w' : World} {S T : Nat → Prop} (h : Turned w w' S) (hS : ∀ x, S x → T x) : Turned w w' T := ⟨h.os, h.tape, h.output, h.size, fun k hk hn => h.block k hk fun hs => hn (hS k hs)⟩

set_option maxRecDepth 100000 in
set_option maxHeartbeats 4000000 in
theorem markHeadS_row (q n : Nat) (f : Nat → Value) (k : Int) (w : World) (h : w.rowIs q 138 (n * 2) f) (hl : n ≤ 1048576) (h0 : 0 ≤ k) (h4 : k ≤ 100000000) :
    Calls Tryz.prog 117 #[.slice (some ⟨q, 0, none⟩) n n, .int .i64 k] w fun e w' => e = .returned (.int .i64 (k + 2 * (n : Int))) ∧ Turned w w' (fun x => x = q) := by
  have H := Lib.hid h
  clear h
  go_enter Tryz.func117, Tryz.ntmps117
  go_wp2
  go_loopw [1, 5] (fun s1 i wr => ∃ (j : Nat) (f' : Nat → Value), j ≤ n ∧ s1 = .int .i64 (k + 2 * (j : Int)) ∧ i = .int .i64 j ∧ wr.rowIs q 138 (n * 2) f' ∧ Turned w wr (fun x => x = q)) (fun _ i _ => n - (intOf i).toNat)
  case atStart => exact ⟨0, f, Nat.zero_le _, by simp, rfl, H.out, Turned.refl _ _⟩
  case round =>
    obtain ⟨j, f', hj, rfl, rfl, hrow, ht⟩ := hrel
    have HR := Lib.hid hrow
    have HT := Lib.hid ht
    clear hrow ht
    by_cases hlt : j < n
    · go_wp2_with fail
      refine (markText_any _ _ (by omega)).mono ?_
      rintro e w1 ⟨rfl, hb1⟩
      have R1 : Hid (w1.rowIs q 138 (n * 2) f') := HR.out.of_block (hb1.block _ HR.out.lt)
      have c0 := R1.out.cell (i := j * 2) (by omega)
      have c1 := R1.out.cell (i := j * 2 + 1) (by omega)
      have f0 := R1.out.frozen (j * 2)
      have f1 := R1.out.frozen (j * 2 + 1)
      have T1 : Hid (Turned w w1 (fun x => x = q)) := HT.out.trans (Turned.of_below hb1)
      clear hb1
      go_wp2
      go_roundw
      case rel => exact ⟨j + 1, _, by omega, by go_num, by go_num, (R1.out.set (j * 2) _).set (j * 2 + 1) _, (T1.out.trans (Turned.of_set _ _ _ rfl)).trans (Turned.of_set _ _ _ rfl)⟩
      case measure => simp [intOf]; omega
    · obtain rfl : j = n := by omega
      go_wp2
      go_ret
      exact ⟨rfl, HT.out⟩

set_option maxRecDepth 100000 in
set_option maxHeartbeats 8000000 in
theorem markCommitS_lay (b : Nat) (cs : List Cm) (ad : Nat → PlM) (cut : Nat → Nat) (k : Int) (w : World) (hrow : w.rowIs b 132 (cs.length * 3) (commitCell cs (plC cs ad))) (hlay : LayM w cs ad cut cs.length) (hb : b < cut 0) (hz : cut cs.length ≤ w.heap.size)
    (hl : cs.length ≤ 1048576) (hL : CmsLen cs 1048576) (hW : wC cs cs.length ≤ 1048576) (h0 : 0 ≤ k) (h4 : k ≤ 1000) :
    Calls Tryz.prog 116 #[.slice (some ⟨b, 0, none⟩) cs.length cs.length, .int .i64 k] w fun e w' => ∃ k', e = .returned (.int .i64 k') ∧ 0 ≤ k' ∧ k' ≤ k + 4 * (wC cs cs.length : Nat) ∧ Turned w w' (fun x => x = b ∨ (cut 0 ≤ x ∧ x < cut cs.length)) := by
  have HR0 := Lib.hid hrow
  have HLay := Lib.hid hlay
  have HL := Lib.hid hL
  have HCut : Hid (∀ i j, i ≤ j → j ≤ cs.length → cut i ≤ cut j) := fun i j hij hj => by
    induction j with
    | zero => rw [show i = 0 by omega]; exact Nat.le_refl _
    | succ j ih =>
      by_cases e : i = j + 1
      · rw [e]; exact Nat.le_refl _
      · have := ih (by omega) (by omega)
        have := (hlay j (by omega)).lt
        omega
  clear hrow hlay hL
  go_enter Tryz.func116, Tryz.ntmps116
  go_wp2
  go_loopw [1, 5] (fun s1 i wr => ∃ (j : Nat) (kj : Int) (f' : Nat → Value), j ≤ cs.length ∧ s1 = .int .i64 kj ∧ i = .int .i64 j ∧ 0 ≤ kj ∧ kj ≤ k + 4 * (wC cs j : Nat) ∧ wr.rowIs b 132 (cs.length * 3) f' ∧ (∀ x, j * 3 ≤ x → x < cs.length * 3 → f' x = commitCell cs (plC cs ad) x) ∧ Turned w wr (fun x => x = b ∨ (cut 0 ≤ x ∧ x < cut j))) (fun _ i _ => cs.length - (intOf i).toNat)
  case atStart => exact ⟨0, k, _, Nat.zero_le _, rfl, rfl, h0, by simp [wC], HR0.out, fun _ _ _ => rfl, Turned.refl _ _⟩
  case round =>
    clear HR0
    obtain ⟨j, kj, f', hj, rfl, rfl, hk0, hk1, hrow, hf, ht⟩ := hrel
    have HR := Lib.hid hrow
    have HF := Lib.hid hf
    have HT := Lib.hid ht
    have hsz := ht.size
    by_cases hlt : j < cs.length
    · have hcj := HCut.out 0 j (by omega) (by omega)
      have hcj1 := HCut.out (j + 1) cs.length (by omega) (by omega)
      have CM : Hid (CmUp wr (mg cs j) (ad j) (cut j) (cut (j + 1))) := (HLay.out j hlt).kept fun x hx hx' => ht.block x (by omega) (by omega)
      have hwC : wC cs (j + 1) = wC cs j + (1 + (mg cs j).1.length + wF (mg cs j).2.1 (mg cs j).2.1.length) := rfl
      have hwm := wC_mono cs (i := j + 1) (n := cs.length) (by omega)
      have c0 := hrow.cell (i := j * 3) (by omega)
      have c1 := hrow.cell (i := j * 3 + 1) (by omega)
      rw [hf _ (by omega) (by omega)] at c0 c1
      unfold commitCell at c0 c1
      rw [if_pos (by omega), show j * 3 / 3 = j by omega] at c0
      rw [if_neg (by omega), if_pos (by omega), show (j * 3 + 1) / 3 = j by omega] at c1
      unfold plC at c0 c1
      simp only at c0 c1
      have hbot := CM.out.bot
      have htwo := CM.out.two
      have htop := CM.out.top
      obtain ⟨l1, l2, l3, l4⟩ := HL.out j hlt
      have L3 := Lib.hid l3
      clear hrow hf ht l3
      go_wp2_with fail
      refine (markIntS_any 0 (mg cs j).1 _ kj _ (GrowI.of_rows CM.out.ups (fun i _ => rfl) (Nat.le_refl _) (by unfold maxLen; omega) (Nat.zero_le _)) (by omega) hk0 (by omega)).mono ?_
      rintro e w1 ⟨rfl, _, ht1⟩
      replace ht1 : Turned wr w1 (fun x => x = (ad j).1) := ht1.wide fun x hx => by simpa [Value.ownBlock] using hx.symm
      have R1 := Lib.hid (rowIs_turned HR.out ht1 (by omega))
      have FR1 := Lib.hid (rowIs_turned CM.out.row ht1 (by omega))
      have PP1 : Hid (Parts w1 (ad j).2.1 (mg cs j).2.1 (ad j).2.2 (mg cs j).2.1.length) := fun i hi => by
        obtain ⟨x1, x2, x3, x4, x5⟩ := CM.out.par i hi
        exact ⟨rowIs_turned x1 ht1 (by omega), rowIs_turned x2 ht1 (by omega), x3, x4, x5⟩
      have FAR := Lib.hid CM.out.far
      have PAR := Lib.hid CM.out.par
      have T1 : Hid (Turned w w1 (fun x => x = b ∨ (cut 0 ≤ x ∧ x < cut (j + 1)))) := (HT.out.wide fun x hx => by omega).trans (ht1.wide fun x hx => by omega)
      replace c1 := ht1.cell c1 (show ¬ b = _ by omega)
      clear ht1 c0 CM
      obtain ⟨HLie, HSep⟩ := lies_of_row FR1.out PP1.out
      have HLie := Lib.hid HLie
      have HSep := Lib.hid HSep
      go_wp2_with fail
      refine (markFeatS_some (ad j).2.1 0 (mg cs j).2.1.length (mg cs j).2.1 _ (kj + ((mg cs j).1.length : Int)) _ (by omega) L3.out (by omega) (by omega) HLie.out HSep.out).mono ?_
      rintro e w2 ⟨rfl, _, ht2⟩
      rw [lmk_sum]
      replace ht2 : Turned w1 w2 (fun x => (ad j).2.1 ≤ x ∧ x < cut (j + 1)) := ht2.wide fun x hx => by
        rcases hx with rfl | ⟨i, hi, hx | hx⟩
        · omega
        · have h1 := (PAR.out i hi).2.2.1
          have h2 := (FAR.out i hi).1
          simp only [plOf, blk, Option.map_some, Option.some.injEq] at hx
          omega
        · have h1 := (PAR.out i hi).2.2.2.1
          have h2 := (FAR.out i hi).2
          simp only [plOf, blk, Option.map_some, Option.some.injEq] at hx
          omega
      have R2 := Lib.hid (rowIs_turned R1.out ht2 (by omega))
      have T2 : Hid (Turned w w2 (fun x => x = b ∨ (cut 0 ≤ x ∧ x < cut (j + 1)))) := T1.out.trans (ht2.wide fun x hx => by omega)
      clear ht2 c1 R1 T1 FR1 PP1 HLie HSep FAR PAR
      go_wp2_with fail
      refine (markText_any _ _ (by omega)).mono ?_
      rintro e w3 ⟨rfl, hb3⟩
      have R3 : Hid (w3.rowIs b 132 (cs.length * 3) f') := R2.out.of_block (hb3.block _ R2.out.lt)
      have T3 : Hid (Turned w w3 (fun x => x = b ∨ (cut 0 ≤ x ∧ x < cut (j + 1)))) := T2.out.trans (Turned.of_below hb3)
      have c2 := R3.out.cell (i := j * 3 + 2) (by omega)
      have f2 := R3.out.frozen (j * 3 + 2)
      clear hb3 R2 T2
      go_wp2
      go_roundw
      case rel => exact ⟨j + 1, _, _, by omega, rfl, by go_num, by omega, by omega, R3.out.set (j * 3 + 2) _, fun x hx hx' => by rw [if_neg (by omega)]; exact HF.out x (by omega) hx', T3.out.trans (Turned.of_set _ _ _ (.inl rfl))⟩
      case measure => simp [intOf]; omega
    · obtain rfl : j = cs.length := by omega
      clear hrow hf ht
      go_wp2
      go_ret
      exact ⟨_, rfl, hk0, hk1, HT.out⟩
end Go.Proofs.YtdchfologicbeaaGreat

namespace Go.Proofs.YtdchfologicbeaaGreat
set_option linter.unusedVariables false
open Go.ChangeShapes Go.WideShapes Go.ChangeAt Go.RowKit

/-- a room whose parts lie one behind the other -/
structure RepoLay (w : World) (b : Nat) (ad : Nat → PlM) (cut : Nat → Nat) (q : Nat) (cs : List Cm) (hs : List Hd) : Prop where
  row : w.rowIs b 132 (cs.length * 3) (commitCell cs (plC cs ad))
  lay : LayM w cs ad cut cs.length
  c0 : b < cut 0
  cq : cut cs.length ≤ q
  hds : w.rowIs q 138 (hs.length * 2) (headCell hs)

theorem RepoLay.at {w : World} {b q : Nat} {ad : Nat → PlM} {cut : Nat → Nat} {cs : List Cm} {hs : List Hd} (h : RepoLay w b ad cut q cs hs) : RepoAt w (some ⟨b, 0, none⟩) (some ⟨q, 0, none⟩) cs hs :=
  ⟨CommitsAt.of_row (lo := 0) h.row fun i hi => ⟨IntsUp.of_row (h.lay i hi).ups (Nat.zero_le _), FeatsUp.of_row (h.lay i hi).row (h.lay i hi).par (Nat.zero_le _)⟩, HeadsAt.of_row h.hds⟩

theorem RepoLay.below {w w' : World} {b q : Nat} {ad : Nat → PlM} {cut : Nat → Nat} {cs : List Cm} {hs : List Hd} (h : RepoLay w b ad cut q cs hs) (hb : Below w.heap.size w w') : RepoLay w' b ad cut q cs hs :=
  ⟨h.row.of_block (hb.block _ h.row.lt), fun i hi => (h.lay i hi).below hb, h.c0, h.cq, h.hds.of_block (hb.block _ h.hds.lt)⟩

/-- what 'toRepo' answers -/
def NewRepoL (w : World) (cs : List Cm) (hs : List Hd) (e : Ending) (w' : World) : Prop :=
  ∃ b ad cut q, e = .returned (.agg #[.slice (some ⟨b, 0, none⟩) cs.length cs.length, .slice (some ⟨q, 0, none⟩) hs.length hs.length]) ∧ RepoLay w' b ad cut q cs hs ∧ w.heap.size ≤ b ∧ q < w'.heap.size ∧ Below w.heap.size w w'

set_option maxRecDepth 100000 in
set_option maxHeartbeats 4000000 in
theorem toRepo_lay (a b : Option Addr) (ca cb : Nat) (cs : List Cm) (hs : List Hd) (w : World) (hc : CommitsAt w a cs) (hh : HeadsAt w b hs) (hl : RpLen cs hs 1048576) :
    Calls Tryz.prog 32 #[.agg #[.slice a cs.length ca, .slice b hs.length cb]] w (NewRepoL w cs hs) := by
  obtain ⟨l1, l2, l3, l4⟩ := hl
  have HC := Lib.hid hc
  have HH := Lib.hid hh
  have L3 := Lib.hid l3
  clear hc hh l3 l4
  have A3 : Hid (∀ o o' o'', Below w.heap.size w (((w.alloc o).alloc o').alloc o'')) := fun o o' o'' => (((Below.refl _ _).alloc (Nat.le_refl _) _).alloc (by simp) _).alloc (by simp; omega) _
  go_enter Tryz.func32, Tryz.ntmps32
  go_wp2_with fail
  refine (toCommitS_lay _ _ _ _ (HC.out.below (A3.out _ _ _)) (by omega) L3.out).mono ?_
  rintro e w1 ⟨bc, ad, cut, rfl, hrowC, hlay, hlo, hc0, hcn, hbel⟩
  have B1 : Hid (Below w.heap.size w w1) := (A3.out _ _ _).trans (hbel.mono (by simp; omega))
  obtain ⟨hc, hf⟩ := bcell hbel
  have hz := hbel.size
  simp only [World.size_alloc] at hz hlo
  have UR := Lib.hid hrowC
  have UL := Lib.hid hlay
  have hcn0 := hlay.cut cs.length (Nat.le_refl _)
  clear hrowC hlay hbel
  have d0 : w1.cell? ⟨w.heap.size + 1 + 1, 0, none⟩ = some (.slice none 0 0) := by rw [hc _ _ (by simp)]; simp [go_sem]
  have d1 : w1.cell? ⟨w.heap.size + 1 + 1, 1, none⟩ = some (.slice none 0 0) := by rw [hc _ _ (by simp)]; simp [go_sem]
  have f0 : w1.frozen? ⟨w.heap.size + 1 + 1, 0, none⟩ = false := by rw [hf _ _ (by simp)]; simp [go_sem]
  have f1 : w1.frozen? ⟨w.heap.size + 1 + 1, 1, none⟩ = false := by rw [hf _ _ (by simp)]; simp [go_sem]
  have g0 : w1.cell? ⟨w.heap.size + 1, 0, none⟩ = some (.slice none 0 0) := by rw [hc _ _ (by simp)]; simp [go_sem]
  have g1 : w1.cell? ⟨w.heap.size + 1, 1, none⟩ = some (.slice none 0 0) := by rw [hc _ _ (by simp)]; simp [go_sem]
  have k0 : w1.frozen? ⟨w.heap.size + 1, 0, none⟩ = false := by rw [hf _ _ (by simp)]; simp [go_sem]
  have k1 : w1.frozen? ⟨w.heap.size + 1, 1, none⟩ = false := by rw [hf _ _ (by simp)]; simp [go_sem]
  have a1 : w1.cell? ⟨w.heap.size, 1, none⟩ = some (.slice b hs.length cb) := by rw [hc _ _ (by simp; omega)]; simp [go_sem]
  clear hc hf
  go_wp2_with fail
  have B2 : Hid (Below w.heap.size w (w1.setCell ⟨w.heap.size + 1 + 1, 0, none⟩ (.slice (some ⟨bc, 0, none⟩) cs.length cs.length))) := B1.out.setCell (by simp; omega) _
  refine (toHeadS_any _ _ _ _ (HH.out.below B2.out) (by omega)).mono ?_
  rintro e w2 ⟨b', rfl, hrow2, hb2, hbel2⟩
  have UR2 : Hid (w2.rowIs bc 132 (cs.length * 3) (commitCell cs (plC cs ad))) := (UR.out.setOther (by simp; omega) _).of_block (hbel2.block _ (by simpa [World.setCell] using UR.out.lt))
  have UL2 : Hid (LayM w2 cs ad cut cs.length) := fun i hi => ((UL.out i hi).set (w.heap.size + 1 + 1) _ _ (by have := UL.out.cut i (by omega); omega)).below hbel2
  have hb2' : w1.heap.size ≤ b' := by simpa [World.setCell] using hb2
  have V2 := Lib.hid hrow2
  have B3 : Hid (Below w.heap.size w w2) := B2.out.trans (hbel2.mono B2.out.size)
  have cc : ∀ (b o : Nat), b < w1.heap.size → w2.cell? ⟨b, o, none⟩ = _ := fun b o hb => hbel2.cell (p := ⟨b, o, none⟩) (by simpa [World.setCell] using hb)
  have ff : ∀ (b o : Nat), b < w1.heap.size → w2.frozen? ⟨b, o, none⟩ = _ := fun b o hb => hbel2.frozen (p := ⟨b, o, none⟩) (by simpa [World.setCell] using hb)
  replace d0 : w2.cell? ⟨w.heap.size + 1 + 1, 0, none⟩ = some (.slice (some ⟨bc, 0, none⟩) cs.length cs.length) := by rw [cc _ _ (by omega)]; simp [go_sem, d0]
  replace d1 : w2.cell? ⟨w.heap.size + 1 + 1, 1, none⟩ = some (.slice none 0 0) := by rw [cc _ _ (by omega)]; simp [go_sem, d1]
  replace f1 : w2.frozen? ⟨w.heap.size + 1 + 1, 1, none⟩ = false := by rw [ff _ _ (by omega)]; simp [go_sem, f1]
  replace g0 : w2.cell? ⟨w.heap.size + 1, 0, none⟩ = some (.slice none 0 0) := by rw [cc _ _ (by omega)]; simp [go_sem, g0]
  replace g1 : w2.cell? ⟨w.heap.size + 1, 1, none⟩ = some (.slice none 0 0) := by rw [cc _ _ (by omega)]; simp [go_sem, g1]
  replace k0 : w2.frozen? ⟨w.heap.size + 1, 0, none⟩ = false := by rw [ff _ _ (by omega)]; simp [go_sem, k0]
  replace k1 : w2.frozen? ⟨w.heap.size + 1, 1, none⟩ = false := by rw [ff _ _ (by omega)]; simp [go_sem, k1]
  clear hbel2 hrow2 hb2 cc ff f0 a1
  go_wp2
  refine bodyPost_ret (v := .agg #[.slice (some ⟨bc, 0, none⟩) cs.length cs.length, .slice (some ⟨b', 0, none⟩) hs.length hs.length]) (by simp [results, Tryz.results32, go_sem, g0, g1]) rfl ?_
  have hl : ∀ i, i < cs.length → w.heap.size + 1 + 1 < cut i := fun i hi => by have := UL2.out.cut i (by omega); omega
  refine ⟨bc, ad, cut, b', rfl, ⟨?_, fun i hi => ?_, hc0, by omega, ?_⟩, by omega, by have := V2.out.lt; simpa [World.setCell] using this, ?_⟩
  · exact ((UR2.out.setOther (by simp; omega) _).setOther (by simp; omega) _).setOther (by simp; omega) _
  · have h1 := hl i hi
    exact (((UL2.out i hi).set _ _ _ h1).set _ _ _ (by omega)).set _ _ _ (by omega)
  · exact ((V2.out.setOther (by simp; omega) _).setOther (by simp; omega) _).setOther (by simp; omega) _
  · exact ((B3.out.setCell (by simp; omega) _).setCell (by simp) _).setCell (by simp) _


set_option maxRecDepth 100000 in
set_option maxHeartbeats 4000000 in
theorem markRepo_lay (b q : Nat) (ad : Nat → PlM) (cut : Nat → Nat) (cs : List Cm) (hs : List Hd) (k : Int) (w : World) (h : RepoLay w b ad cut q cs hs) (hL : RpLen cs hs 1048576) (hW : wC cs cs.length ≤ 1048576) (h0 : 0 ≤ k) (h4 : k ≤ 1000) :
    Calls Tryz.prog 42 #[.agg #[.slice (some ⟨b, 0, none⟩) cs.length cs.length, .slice (some ⟨q, 0, none⟩) hs.length hs.length], .int .i64 k] w fun e w' => (∃ k', e = .returned (.int .i64 k') ∧ 0 ≤ k') ∧ Turned w w' (fun x => b ≤ x ∧ x ≤ q) := by
  have hq := h.hds.lt
  have hcq := h.cq
  have hc0 := h.c0
  have hcn := h.lay.cut cs.length (Nat.le_refl _)
  have hb0 : Below w.heap.size w (w.alloc (.cells #[.slice (some ⟨b, 0, none⟩) cs.length cs.length, .slice (some ⟨q, 0, none⟩) hs.length hs.length] 62)) := (Below.refl _ _).alloc (Nat.le_refl _) _
  have H := Lib.hid (h.below hb0)
  have X0 : Hid (Box2 (w.alloc (.cells #[.slice (some ⟨b, 0, none⟩) cs.length cs.length, .slice (some ⟨q, 0, none⟩) hs.length hs.length] 62)) w.heap.size (.slice (some ⟨b, 0, none⟩) cs.length cs.length) (.slice (some ⟨q, 0, none⟩) hs.length hs.length)) := Box2.new w _ _ _
  have T0 := Lib.hid (Turned.of_below (S := fun x => b ≤ x ∧ x ≤ q) hb0)
  obtain ⟨l1, l2, l3, l4⟩ := hL
  have L3 := Lib.hid l3
  clear h hb0 l3 l4
  go_enter Tryz.func42, Tryz.ntmps42
  go_wp2_with fail
  refine (markCommitS_lay b cs ad cut k _ H.out.row H.out.lay hc0 (by simp; omega) (by omega) L3.out hW h0 h4).mono ?_
  rintro e w1 ⟨k', rfl, hk0, hk1, ht1⟩
  have c1 := ht1.cell X0.out.c1 (show ¬ _ by show ¬ (w.heap.size = b ∨ (cut 0 ≤ w.heap.size ∧ w.heap.size < cut cs.length)); omega)
  have R1 := Lib.hid (rowIs_turned H.out.hds ht1 (by omega))
  have T1 : Hid (Turned w w1 (fun x => b ≤ x ∧ x ≤ q)) := T0.out.trans (ht1.wide fun x hx => by omega)
  clear ht1
  go_wp2_with fail
  refine (markHeadS_row q hs.length _ k' _ R1.out (by omega) hk0 (by omega)).mono ?_
  rintro e w2 ⟨rfl, ht2⟩
  have T2 : Hid (Turned w w2 (fun x => b ≤ x ∧ x ≤ q)) := T1.out.trans (ht2.wide fun x hx => by omega)
  clear ht2 c1
  go_wp2
  go_ret
  exact ⟨⟨_, rfl, by omega⟩, T2.out⟩

theorem GrowI.turned {lo : Nat} {w w' : World} {is : List Int} {v : Value} {S : Nat → Prop} (h : GrowI lo is w v) (ht : Turned w w' S) (hn : ∀ k, v.ownBlock = some k → ¬ S k) : GrowI lo is w' v := by
  refine ⟨?_, Nat.le_trans h.le ht.size⟩
  obtain ⟨h1, h2 | ⟨g, cap, cur, rfl, hb', hg, rest⟩⟩ := h.own
  · exact ⟨h1, .inl h2⟩
  · exact ⟨h1, .inr ⟨g, cap, cur, rfl, hb', (ht.block g (Array.getElem?_eq_some_iff.1 hg).1 (hn g rfl)).trans hg, rest⟩⟩

theorem Box2.turned {w w' : World} {b : Nat} {v0 v1 : Value} {S : Nat → Prop} (h : Box2 w b v0 v1) (ht : Turned w w' S) (hn : ¬ S b) : Box2 w' b v0 v1 :=
  ⟨Nat.lt_of_lt_of_le h.lt ht.size, ht.cell h.c0 hn, ht.cell h.c1 hn⟩

theorem _root_.Go.World.ownsRow.wide {w : World} {lo lo' : Nat} {e : TypeId} {size n : Nat} {v : Value} {xs : List Value} (h : w.ownsRow lo e size v n xs) (hl : lo' ≤ lo) : w.ownsRow lo' e size v n xs := by
  obtain ⟨h1, h2 | ⟨g, cap, cur, rfl, hb, rest⟩⟩ := h
  · exact ⟨h1, .inl h2⟩
  · exact ⟨h1, .inr ⟨g, cap, cur, rfl, Nat.le_trans hl hb, rest⟩⟩

end Go.Proofs.YtdchfologicbeaaGreat

namespace Go.Proofs.YtdchfologicbeaaGreat
set_option linter.unusedVariables false
open Go.ChangeShapes Go.WideShapes Go.ChangeAt Go.RowKit

theorem pf_mapsRowed : mapsRowed Tryz.prog = true := by kernel_rfl
theorem pf_mayEnter : Tryz.prog.mayEnter = true := by kernel_rfl
theorem pf_stopsHeard : Tryz.prog.stopsHeard = true := by kernel_rfl
theorem pf_plainKeys : (Rows.fnExactRepoOkRow.plainKeys == Tryz.prog.plainKeys) = true := by kernel_rfl
theorem pf_lifted : (Rows.fnExactRepoOkRow.lifted == Tryz.prog.liftsFinal) = true := by kernel_rfl
theorem pf_make : (Tryz.prog.make == some Rows.fnExactRepoOkRow.make) = true := by kernel_rfl
end Go.Proofs.YtdchfologicbeaaGreat

namespace Go.Proofs.YtdchfologicbeaaGreat
set_option linter.unusedVariables false
open Go.ChangeShapes Go.WideShapes Go.ChangeAt Go.RowKit

set_option maxRecDepth 100000 in
set_option maxHeartbeats 12000000 in
theorem fnExactRepoBases_walk (a : Option Addr) (ca : Nat) (cs : List Cm) (b : Option Addr) (cb : Nat) (hs : List Hd) (x : Int) (y : Int) (w : World) (hc : CommitsIn w a cs) (hh : HeadsIn w b hs) (hx : (Lit.int .i64 x).wf = true) (hy : (Lit.int .i64 y).wf = true) :
    Calls Tryz.prog 11 #[.agg #[.slice a cs.length ca, .slice b hs.length cb], .int .i64 x, .int .i64 y] w fun e w' => e = .returned (.bool true) ∧ Below w.heap.size w w' := by
  have HC := Lib.hid hc
  have HH := Lib.hid hh
  clear hc hh
  have A0 : Hid (∀ o, Below w.heap.size w (w.alloc o)) := fun o => (Below.refl _ _).alloc (Nat.le_refl _) _
  obtain ⟨L, hL⟩ : ∃ L, L = basesV cs hs x y := ⟨_, rfl⟩
  have HLen : Hid (L.length ≤ 14) := by rw [Hid, hL]; exact basesV_len cs hs x y
  have HLq := Lib.hid hL
  clear hL
  go_enter Tryz.func11, Tryz.ntmps11
  go_wp2_with fail
  refine (szRepo_sum _ _ _ _ _ _ _ _ (HC.out.below (A0.out _)) (HH.out.below (A0.out _)) (by omega) (by omega)).mono ?_
  rintro e w1 ⟨⟨r, rfl, hsz⟩, hb1⟩
  have C1 : Hid (Box2 w1 w.heap.size (.slice a cs.length ca) (.slice b hs.length cb)) := (Box2.new w _ _ _).later hb1
  have B1 : Hid (Below w.heap.size w w1) := (A0.out _).trans (hb1.mono (by simp))
  clear hb1
  rcases hsz with rfl | ⟨r0, r1, l1⟩
  · go_wp2
    go_ret
    exact ⟨rfl, B1.out⟩
  have L1 : Hid (RpLen cs hs 1048576) := ⟨by have := l1.cl; omega, by have := l1.hl; omega, l1.cms.mono (by omega), l1.hds.mono (by omega)⟩
  have hW : wC cs cs.length ≤ 1048576 := by omega
  clear l1
  obtain ⟨z0, c0, c1⟩ := C1.out
  go_wp2_with fail
  clear c0 c1
  refine (toRepo_any _ _ _ _ _ _ _ (HC.out.reads.below B1.out) (HH.out.reads.below B1.out) L1.out).mono ?_
  rintro e w2 ⟨a2, ca2, b2, cb2, rfl, _, _, hR2, hb2⟩
  replace C1 := Lib.hid (C1.out.later hb2)
  have B2 : Hid (Below w.heap.size w w2) := B1.out.trans (hb2.mono B1.out.size)
  have R2 := Lib.hid hR2
  clear hb2 hR2 B1
  go_wp2_with fail
  refine (specRepoBases_any _ _ _ _ cs hs x y _ R2.out L1.out).mono ?_
  rintro e w3 ⟨⟨v0, rfl, hG0⟩, hb3⟩
  rw [← HLq.out] at hG0
  obtain ⟨av, cv, rfl, hcv, _⟩ := hG0.form
  replace C1 := Lib.hid (C1.out.later hb3)
  have B3 : Hid (Below w.heap.size w w3) := B2.out.trans (hb3.mono B2.out.size)
  have hz2 := B2.out.size
  have G0 : Hid (GrowI w.heap.size L w3 (.slice av L.length cv)) := ⟨hG0.own.wide hz2, by have := B3.out.size; omega⟩
  have g0lt : ∀ k, (Value.slice av L.length cv).ownBlock = some k → k < w3.heap.size := fun k hk => (hG0.own.lt k hk).2
  clear hb3 B2 R2 hG0 hz2
  obtain ⟨z0, c0, c1⟩ := C1.out
  go_wp2_with fail
  clear c0 c1
  refine (toRepo_lay _ _ _ _ _ _ _ (HC.out.reads.below B3.out) (HH.out.reads.below B3.out) L1.out).mono ?_
  rintro e w4 ⟨bX, ad, cut, qX, rfl, hX, hbX, hqX, hb4⟩
  replace C1 := Lib.hid (C1.out.later hb4)
  replace G0 := Lib.hid (G0.out.below hb4)
  have B4 : Hid (Below w.heap.size w w4) := B3.out.trans (hb4.mono B3.out.size)
  have RX := Lib.hid hX
  have z0 : w.heap.size < w4.heap.size := C1.out.lt
  have z03 : w.heap.size < w3.heap.size := by assumption
  have hcq := hX.cq
  have hc0 := hX.c0
  have hcn := hX.lay.cut cs.length (Nat.le_refl _)
  clear hb4 hX B3
  have A4 : Hid (∀ o, Below w4.heap.size w4 (w4.alloc o)) := fun o => (Below.refl _ _).alloc (Nat.le_refl _) _
  go_wp2_with fail
  refine (implRepoBases_any _ _ _ _ cs hs x y _ (RX.out.at.below (A4.out _)) L1.out (Nat.le_refl _)).mono ?_
  rintro e w5 ⟨⟨v1, rfl, hG1⟩, hb5⟩
  rw [← HLq.out] at hG1
  obtain ⟨aw, cw, rfl, hcw, _⟩ := hG1.form
  have hb45 : Below w4.heap.size w4 w5 := (A4.out _).trans (hb5.mono (by simp))
  have D1 : Hid (Box2 w5 w4.heap.size (.slice (some ⟨bX, 0, none⟩) cs.length cs.length) (.slice (some ⟨qX, 0, none⟩) hs.length hs.length)) := (Box2.new w4 _ _ _).later hb5
  have G1 : Hid (GrowI (w4.heap.size + 1) L w5 (.slice aw L.length cw)) := by rw [World.size_alloc] at hG1; exact hG1
  replace G0 := Lib.hid (G0.out.below hb45)
  replace C1 := Lib.hid (C1.out.later hb45)
  replace RX := Lib.hid (RX.out.below hb45)
  have B5 : Hid (Below w.heap.size w w5) := B4.out.trans (hb45.mono B4.out.size)
  clear hb5 hb45 B4 A4 hG1
  go_wp2_with fail
  refine (eqIntS_any _ _ _ _ L L _ (by have := G1.out.form; obtain ⟨_, _, e, _, h⟩ := this; cases e; exact h) (by have := G0.out.form; obtain ⟨_, _, e, _, h⟩ := this; cases e; exact h) (by have := HLen.out; omega) (by have := HLen.out; omega)).mono ?_
  rintro e w6 ⟨rfl, n6, e6⟩
  have hb56 : Below w5.heap.size w5 w6 := by rw [e6]; exact below_drewN (Below.refl _ _) _
  have B6 : Hid (Below w.heap.size w w6) := B5.out.trans (hb56.mono B5.out.size)
  replace D1 := Lib.hid (D1.out.later hb56)
  replace G0 := Lib.hid (G0.out.below hb56)
  replace G1 := Lib.hid (G1.out.below hb56)
  replace C1 := Lib.hid (C1.out.later hb56)
  replace RX := Lib.hid (RX.out.below hb56)
  clear hb56 e6 B5
  rw [show isEq L L = true by simp [isEq]]
  go_upto_region 10 with (fail)
  go_cut [39] (fun s wx => s = .bool false ∧ Below w6.heap.size w6 wx)
  case first =>
    obtain ⟨_, c0, c1⟩ := C1.out
    obtain ⟨_, d0, d1⟩ := D1.out
    go_region_held3 (fun w' => w'.cell? ⟨w.heap.size, 0, none⟩ = some (.slice a cs.length ca) ∧ w'.cell? ⟨w.heap.size, 1, none⟩ = some (.slice b hs.length cb) ∧ w'.cell? ⟨w4.heap.size, 0, none⟩ = some (.slice (some ⟨bX, 0, none⟩) cs.length cs.length) ∧ w'.cell? ⟨w4.heap.size, 1, none⟩ = some (.slice (some ⟨qX, 0, none⟩) hs.length hs.length) ∧ Below w6.heap.size w6 w')
      (first
        | (go_split_ands
           rename_i hS0 hS1 hS2 hS3 hS4
           with_reducible exact ⟨cell_later hbn hS0, cell_later hbn hS1, cell_later hbn hS2, cell_later hbn hS3, hS4.trans (hbn.mono hS4.size)⟩)
        | exact ⟨c0, c1, d0, d1, (Below.refl _ _).drew⟩)
      (first
        | (go_at_call 32
           refine (toRepo_any _ _ _ _ _ _ _ ?_ ?_ L1.out).mono ?_
           · (go_split_ands; exact HC.out.reads.below (B6.out.trans (Below.mono (by assumption) B6.out.size)))
           · (go_split_ands; exact HH.out.reads.below (B6.out.trans (Below.mono (by assumption) B6.out.size)))
           rintro e wn ⟨aA, caA, bA, cbA, rfl, _, _, hRA, hbn⟩)
        | (go_at_call 34
           refine (eqRepo_any _ _ _ _ _ _ _ _ cs cs hs hs _ ?_ ?_ L1.out L1.out).mono ?_
           · (go_split_ands; exact RX.out.at.below (by assumption))
           · (assumption)
           rintro e wn ⟨rfl, hbn⟩))
    all_goals (go_wp2_with fail; go_meet; go_split_ands; exact ⟨by simp [rpEq_refl], by assumption⟩)
  case rest =>
    obtain ⟨rfl, hb7⟩ := hcut
    have B7 : Hid (Below w.heap.size w wc) := B6.out.trans (hb7.mono B6.out.size)
    replace D1 := Lib.hid (D1.out.later hb7)
    replace G0 := Lib.hid (G0.out.below hb7)
    replace G1 := Lib.hid (G1.out.below hb7)
    replace C1 := Lib.hid (C1.out.later hb7)
    replace RX := Lib.hid (RX.out.below hb7)
    clear hb7 B6
    obtain ⟨_, d0, d1⟩ := D1.out
    go_wp2_with fail
    clear d0 d1
    refine (markRepo_lay bX qX ad cut cs hs 1 _ RX.out L1.out hW (by omega) (by omega)).mono ?_
    rintro e w8 ⟨⟨k8, rfl, hk8⟩, ht8⟩
    have B8 : Hid (Below w.heap.size w w8) := B7.out.trans (ht8.below B7.out.size fun x hx => by omega)
    replace C1 := Lib.hid (C1.out.turned ht8 (by omega))
    replace G0 := Lib.hid (G0.out.turned ht8 fun k hk => by have := g0lt k hk; omega)
    replace G1 := Lib.hid (G1.out.turned ht8 fun k hk => by have := G1.out.block k hk; omega)
    clear ht8 B7 D1 RX
    go_wp2_with fail
    refine (eqIntS_any _ _ _ _ L L _ (by have := G1.out.form; obtain ⟨_, _, e, _, h⟩ := this; cases e; exact h) (by have := G0.out.form; obtain ⟨_, _, e, _, h⟩ := this; cases e; exact h) (by have := HLen.out; omega) (by have := HLen.out; omega)).mono ?_
    rintro e w9 ⟨rfl, n9, e9⟩
    have hb9 : Below w8.heap.size w8 w9 := by rw [e9]; exact below_drewN (Below.refl _ _) _
    have B9 : Hid (Below w.heap.size w w9) := B8.out.trans (hb9.mono B8.out.size)
    replace G0 := Lib.hid (G0.out.below hb9)
    replace G1 := Lib.hid (G1.out.below hb9)
    replace C1 := Lib.hid (C1.out.later hb9)
    clear hb9 e9 B8
    rw [show isEq L L = true by simp [isEq]]
    go_wp2_with fail
    refine (markIntS_any _ L _ 1 _ G1.out (by have := HLen.out; omega) (by omega) (by omega)).mono ?_
    rintro e w10 ⟨rfl, hG, ht10⟩
    have B10 : Hid (Below w.heap.size w w10) := B9.out.trans (ht10.below B9.out.size fun x hx => by have := G1.out.block x hx; omega)
    replace C1 := Lib.hid (C1.out.turned ht10 fun hk => by have := G1.out.block _ hk; omega)
    replace G0 := Lib.hid (G0.out.turned ht10 fun k hk hk' => by have := g0lt k hk; have := G1.out.block _ hk'; omega)
    have GM := Lib.hid hG
    clear hG ht10 B9 G1
    have IM : Hid (IntsAt w10 aw (marksI 1 L.length)) := by have hf := GM.out.form; rw [marksI_len] at hf; obtain ⟨_, _, e, _, h⟩ := hf; cases e; exact h
    go_wp2_with fail
    refine (heldIntS_any _ _ L.length 1 _ IM.out (by have := HLen.out; omega) (by omega) (by omega)).mono ?_
    rintro e w11 ⟨rfl, rfl⟩
    have hne : (((1 : Int) + (L.length : Int)) != 1 + (L.length : Int)) = false := by simp
    obtain ⟨z0, c0, c1⟩ := C1.out
    go_wp2_with fail
    clear c0 c1
    refine (toRepo_any _ _ _ _ _ _ _ (HC.out.reads.below B10.out) (HH.out.reads.below B10.out) L1.out).mono ?_
    rintro e w12 ⟨a12, ca12, b12, cb12, rfl, hca12, _, hR12, hb12⟩
    replace G0 := Lib.hid (G0.out.below hb12)
    replace IM := Lib.hid (IM.out.below hb12)
    have B12 : Hid (Below w.heap.size w w12) := B10.out.trans (hb12.mono B10.out.size)
    have R12 := Lib.hid hR12
    clear hb12 hR12 B10 C1 GM
    go_wp2_with fail
    refine (implRepoBases_any _ _ _ _ cs hs x y _ R12.out L1.out hca12).mono ?_
    rintro e w13 ⟨⟨v2, rfl, hG2⟩, hb13⟩
    rw [← HLq.out] at hG2
    obtain ⟨ax, cx, rfl, hcx, hi2⟩ := hG2.form
    replace G0 := Lib.hid (G0.out.below hb13)
    replace IM := Lib.hid (IM.out.below hb13)
    have B13 : Hid (Below w.heap.size w w13) := B12.out.trans (hb13.mono B12.out.size)
    have I2 := Lib.hid hi2
    clear hb13 B12 R12 hG2 hi2
    go_wp2_with fail
    refine (eqIntS_any _ _ _ _ L L _ I2.out (by have := G0.out.form; obtain ⟨_, _, e, _, h⟩ := this; cases e; exact h) (by have := HLen.out; omega) (by have := HLen.out; omega)).mono ?_
    rintro e w14 ⟨rfl, n14, e14⟩
    have hb14 : Below w13.heap.size w13 w14 := by rw [e14]; exact below_drewN (Below.refl _ _) _
    have B14 : Hid (Below w.heap.size w w14) := B13.out.trans (hb14.mono B13.out.size)
    replace IM := Lib.hid (IM.out.below hb14)
    clear hb14 e14 B13 G0 I2
    rw [show isEq L L = true by simp [isEq]]
    go_wp2_with fail
    refine (heldIntS_any _ _ L.length 1 _ IM.out (by have := HLen.out; omega) (by omega) (by omega)).mono ?_
    rintro e w15 ⟨rfl, rfl⟩
    go_wp2
    go_ret
    exact ⟨rfl, B14.out⟩

set_option maxRecDepth 100000 in
theorem fnExactRepoBases_lifted (os : Os) (started : os.Started) (H : Type) (enc : TypeId × Value → H) :
    ReturnsInHanded {} Tryz.checked os 11 .any (Rows.fnExactRepoBasesSpec.pre6 enc Tryz.prog Tryz.f11 Rows.fnExactRepoBasesRow.domain false) (Rows.fnExactRepoBasesSpec.post enc Tryz.prog Tryz.f11 false true false false) := by
  refine returnsInHanded_of_change (C := Tryz.checked) own started (by kernel_rfl) Tryz.func11
    (ChangeSpec.witness6 (enc := enc) (C := Tryz.checked) false ⟨#[], #[.agg #[.slice none 0 0, .slice none 0 0], .int .i64 0, .int .i64 0], []⟩ 8 (by kernel_rfl) (by kernel_rfl) (by kernel_rfl) (by kernel_rfl)) ?_
  intro W base args ds gs before hval0 hW _ _
  have hval : ∀ (j : Nat) t v, Tryz.f11.params[j]? = some t → args[j]? = some v → Value.okWide Tryz.prog W .any base t v := hval0
  have hW' := hW
  obtain ⟨p, q, hA0, hV, rfl, _, _⟩ := hW
  have hA : DataW.TrodAll enc Tryz.prog W 0 (fun _ => true) true Tryz.f11.params.toList args.toList ds p := hA0
  rw [Tryz.params11] at hA hval
  obtain ⟨v0, vs0, d0, ds0, p0, q0, hargs, rfl, rfl, h0, r0⟩ := trodAll_cons hA
  obtain ⟨v1, vs1, d1, ds1, p1, q1, rfl, rfl, rfl, h1, r1⟩ := trodAll_cons r0
  obtain ⟨v2, vs2, d2, ds2, p2, q2, rfl, rfl, rfl, h2, r2⟩ := trodAll_cons r1
  obtain ⟨rfl, rfl, rfl⟩ := trodAll_nil r2
  obtain rfl : args = #[v0, v1, v2] := by cases args; simp_all
  obtain ⟨rfl, rfl⟩ := trodVars_none hV
  have k0 := h0
  have lt0 : ∀ x ∈ p0, x.block < W.heap.size := by obtain ⟨m, hm⟩ := k0; exact DataW.trod_lt m _ _ _ hm
  obtain ⟨a0, c0, s0, b0, e0, t0, rfl, f0, g0⟩ := open_repo (hval 0 56 v0 rfl rfl) h0
  obtain ⟨x1, rfl, rfl, rfl, w1⟩ := open_int Tryz.underlying3 (hval 1 3 v1 rfl rfl) h1
  obtain ⟨x2, rfl, rfl, rfl, w2⟩ := open_int Tryz.underlying3 (hval 2 3 v2 rfl rfl) h2
  clear hA0 hval0
  refine (fnExactRepoBases_walk a0 c0 s0 b0 e0 t0 x1 x2 W f0 g0 w1 w2).mono fun e W' ⟨he, bel⟩ => ?_
  subst he
  exact ⟨_, rfl, _, _, _, [], _, [], hW', trodAll_mk1 (shut_bool Tryz.underlying4 _), (trodAll_cons_mk (Below.trod laidOut (by kernel_rfl) (of_decide_eq_true (by kernel_rfl)) k0 bel lt0) (trodAll_cons_mk (shut_int Tryz.underlying3 w1) (trodAll_cons_mk (shut_int Tryz.underlying3 w2) trodAll_mk0))), rfl, bel.frame _, fun h => by cases h⟩

theorem fnExactRepoBases_c1 : (Rows.fnExactRepoBasesRow.inPlace == Tryz.prog.inPlace 11) = true := by kernel_rfl
theorem fnExactRepoBases_c2 : (Rows.fnExactRepoBasesRow.unfollowed == Tryz.prog.unfollowed 11) = true := by kernel_rfl
theorem fnExactRepoBases_c3 : (Rows.fnExactRepoBasesRow.recurses == Tryz.prog.recurses 11) = true := by kernel_rfl
theorem fnExactRepoBases_c4 : (Rows.fnExactRepoBasesRow.named == Tryz.prog.varsNamed 11) = true := by kernel_rfl
theorem fnExactRepoBases_c5 : (Rows.fnExactRepoBasesRow.plainKeys == Tryz.prog.plainKeys) = true := pf_plainKeys
theorem fnExactRepoBases_c6 : (Rows.fnExactRepoBasesRow.lifted == Tryz.prog.liftsFinal) = true := pf_lifted
theorem fnExactRepoBases_c7 : (Tryz.prog.make == some Rows.fnExactRepoBasesRow.make) = true := pf_make
theorem fnExactRepoBases_closed : joinedFacts Tryz.prog 11 Tryz.f11 Rows.fnExactRepoBasesSpec Rows.fnExactRepoBasesRow = true := by
  unfold joinedFacts
  simp only [Bool.and_eq_true]
  repeat' apply And.intro
  all_goals first
    | with_reducible exact laidOut
    | with_reducible exact pf_mapsRowed
    | with_reducible exact pf_mayEnter
    | with_reducible exact pf_stopsHeard
    | with_reducible exact fnExactRepoBases_c1
    | with_reducible exact fnExactRepoBases_c2
    | with_reducible exact fnExactRepoBases_c3
    | with_reducible exact fnExactRepoBases_c4
    | with_reducible exact fnExactRepoBases_c5
    | with_reducible exact fnExactRepoBases_c6
    | with_reducible exact fnExactRepoBases_c7
    | kernel_rfl

theorem fnExactRepoBases_over : Rows.fnExactRepoBasesRow.holds Tryz.pinned (OpenSpec.ofChange Rows.fnExactRepoBasesSpec) :=
  OpenClaim.holds_of_wide 11 Tryz.f11 rfl rfl rfl rfl rfl rfl rfl ⟨rfl, rfl, rfl, rfl, rfl⟩ rfl rfl rfl rfl rfl (by kernel_rfl) Tryz.func11 fnExactRepoBases_closed
    (of_decide_eq_true (by kernel_rfl)) (by unfold Func.isWrapper; first | (rw [if_pos (by decide +kernel)]; kernel_rfl) | (rw [if_neg (by decide +kernel)]; exact ⟨rfl, rfl⟩))
    (fun os started H enc _ => fnExactRepoBases_lifted os started H enc)

/-- the given statement -/
theorem fnExactRepoBases_holds : Rows.FnExactRepoBasesSaid := fnExactRepoBases_over

end Go.Proofs.YtdchfologicbeaaGreat
