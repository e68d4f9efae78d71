/- Proved here: the function that marks a list of things does so thing by thing; lists of at most 1,048,576 things, points and tags. -/
import Derived.Test.YtdfadpejddhbkaaGreatWMarkList
namespace Go.Proofs.YtdfadpejddhbkaaGreat
set_option linter.unusedVariables false
open Go.ChangeShapes Go.WideShapes Go.ChangeAt Go.RowKit

set_option maxRecDepth 100000 in
set_option maxHeartbeats 4000000 in
theorem markFeatS_some (b off cap : Nat) (fs : List Ft) (ad : Nat → Pl) (k : Int) (w : World) (hl : fs.length ≤ 1048576) (hL : FeatsLen fs 1048576) (h0 : 0 ≤ k) (h4 : k ≤ 1000000000000000) (hlie : Lies w b off fs ad) (hsep : Sep b fs.length ad) :
    Calls Tryz.prog 47 #[.slice (some ⟨b, off, none⟩) fs.length cap, .int .i64 k] w fun e w' => e = .returned (.int .i64 (lmk fs k fs.length)) ∧ Lies w' b off (lmkTo fs k fs.length) ad ∧ Turned w w' (blocksOf b fs.length ad) := by
  have HL := Lib.hid hL
  have HLie : Hid (Lies w b off (lmkTo fs k 0) ad) := by rw [lmkTo_zero]; exact hlie
  have HS := Lib.hid hsep
  clear hL hlie hsep
  go_enter Tryz.func47, Tryz.ntmps47
  go_wp2
  go_loopw [1, 5] (fun s1 i wr => ∃ j : Nat, j ≤ fs.length ∧ s1 = .int .i64 (lmk fs k j) ∧ i = .int .i64 j ∧ Lies wr b off (lmkTo fs k j) ad ∧ Turned w wr (blocksOf b fs.length ad)) (fun _ i _ => fs.length - (intOf i).toNat)
  case atStart => exact ⟨0, Nat.zero_le _, rfl, rfl, HLie.out, Turned.refl _ _⟩
  case round =>
    clear HLie
    obtain ⟨j, hj, rfl, rfl, hlie, htu⟩ := hrel
    have HLi := Lib.hid hlie
    have HT := Lib.hid htu
    have blt := hlie.lt
    clear hlie htu
    obtain ⟨k0, k1⟩ := lmk_le h0 h4 HL.out j hj
    by_cases hlt : j < fs.length
    · obtain ⟨l1, l2, l3, l4⟩ := HL.out j hlt
      clear l4
      have hlj : j < (lmkTo fs k j).length := by rw [lmkTo_len]; exact hlt
      go_wp2_with fail
      refine (markText_any _ _ (by omega)).mono ?_
      rintro e w1 ⟨rfl, hb1⟩
      have L1 := Lib.hid (HLi.out.below hb1)
      have T1 : Hid (Turned w w1 (blocksOf b fs.length ad)) := HT.out.trans (Turned.of_below hb1)
      clear hb1 HLi HT
      obtain ⟨c0, c1, c2, c3⟩ := L1.out.cell j hlj
      obtain ⟨f0, f1⟩ := L1.out.soft j hlj
      rw [(lmkTo_pl k j hlt).1] at c2
      rw [(lmkTo_pl k j hlt).2] at c3
      have ob1 : blk (ad j).1.1 ≠ some b := (HS.out.own j hlt).1
      have ob2 : blk (ad j).2.1 ≠ some b := (HS.out.own j hlt).2
      go_wp2_with fail
      generalize h3 : (w1.setCell ⟨b, off + j * 4, none⟩ (.string (markT (lmk fs k j)))).setCell ⟨b, off + j * 4 + 1, none⟩ (.int .i64 (lmk fs k j + 1)) = w3
      have t3 : Turned w1 w3 (fun x => x = b) := by
        rw [← h3]
        exact (Turned.of_set (S := fun x => x = b) w1 _ _ rfl).trans (Turned.of_set _ _ _ rfl)
      have hpl : fps (lmkTo fs k j) j = fps fs j := by unfold fps; rw [lmkTo_at k j hlt, if_neg (by omega)]
      have htl : fts (lmkTo fs k j) j = fts fs j := by unfold fts; rw [lmkTo_at k j hlt, if_neg (by omega)]
      obtain ⟨p1, p2⟩ := L1.out.pts j hlj
      obtain ⟨q1, q2⟩ := L1.out.tags j hlj
      rw [hpl] at p1 p2
      rw [htl] at q1 q2
      have np : ∀ x, blk (ad j).1.1 = some x → ¬ x = b := fun x hx e => ob1 (e ▸ hx)
      have nt : ∀ x, blk (ad j).2.1 = some x → ¬ x = b := fun x hx e => ob2 (e ▸ hx)
      have P3 := Lib.hid (p1.turned t3 np)
      have P3s := Lib.hid (p2.turnedP p1 t3 np)
      have Q3 := Lib.hid (q1.turned t3 nt)
      have Q3s := Lib.hid (q2.turnedT q1 t3 nt)
      have c3' : w3.cell? ⟨b, off + j * 4 + 3, none⟩ = some (.slice (ad j).2.1 (fts fs j).length (ad j).2.2) := by
        rw [← h3, World.cell?_setCell_other _ _ _ _ (by simp), World.cell?_setCell_other _ _ _ _ (by simp)]
        exact c3
      have T3 : Hid (Turned w w3 (blocksOf b fs.length ad)) := T1.out.trans ⟨t3.os, t3.tape, t3.output, t3.size, fun x hx hn => t3.block x hx (fun e => hn (.inl e))⟩
      have H3 := Lib.hid h3
      clear h3 t3 p1 p2 q1 q2 hpl htl c0 c1 c2 c3 f0 f1 T1 np nt
      refine (markPtS_any _ _ _ _ _ P3.out P3s.out (by omega) (by omega) (by omega)).mono ?_
      rintro e w4 ⟨rfl, g1, g2, g3, g4⟩
      have Q4 : Hid (TagsAt w4 (ad j).2.1 (fts fs j)) := Q3.out.turned (S := fun x => blk (ad j).1.1 = some x) (Turned.of_grown g3 fun x hx => hx) fun x hx he => HS.out.two j hlt x he hx
      have Q4s : Hid (Soft w4 (ad j).2.1 (fts fs j).length) := Q3s.out.turnedT Q3.out (S := fun x => blk (ad j).1.1 = some x) (Turned.of_grown g3 fun x hx => hx) fun x hx he => HS.out.two j hlt x he hx
      replace c3' : w4.cell? ⟨b, off + j * 4 + 3, none⟩ = some (.slice (ad j).2.1 (fts fs j).length (ad j).2.2) := g3.cell c3' (fun e => ob1 e.symm)
      have T4 : Hid (Turned w w4 (blocksOf b fs.length ad)) := T3.out.trans (Turned.of_grown g3 fun x hx => .inr ⟨j, hlt, .inl hx⟩)
      have G1 := Lib.hid g1
      have G2 := Lib.hid g2
      have G3 := Lib.hid g3
      clear g1 g2 g3 g4 T3 Q3 Q3s P3 P3s
      go_wp2_with fail
      refine (markTagS_any _ _ _ _ _ Q4.out Q4s.out (by omega) (by omega) (by omega)).mono ?_
      rintro e w5 ⟨rfl, r1, r2, r3⟩
      have e2 : lmk fs k j + 1 + 1 = lmk fs k j + 2 := by omega
      rw [e2] at r1
      have G1' := G1.out
      rw [e2] at G1'
      have L5 : Hid (Lies w5 b off (lmkTo fs k (j + 1)) ad) := L1.out.step hlt HS.out H3.out.symm G1' G2.out G3.out r1 r2 r3
      have T5 : Hid (Turned w w5 (blocksOf b fs.length ad)) := T4.out.trans (Turned.of_grown r3 fun x hx => .inr ⟨j, hlt, .inr hx⟩)
      clear r1 r2 r3 c3' G1'
      go_wp2
      go_roundw
      case rel => exact ⟨j + 1, by omega, congrArg (Value.int .i64) (by show _ = lmk fs k j + 2 + 2 * ((fps fs j).length : Int) + 2 * ((fts fs j).length : Int); omega), by go_num, L5.out, T5.out⟩
      case measure => simp [intOf]; omega
    · obtain rfl : j = fs.length := by omega
      go_wp2
      go_ret
      exact ⟨rfl, HLi.out, HT.out⟩
end Go.Proofs.YtdfadpejddhbkaaGreat
