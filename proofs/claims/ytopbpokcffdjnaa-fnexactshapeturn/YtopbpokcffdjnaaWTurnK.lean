/- Proved here: the three kinds' turn: a dot's and a line's row is copied, a ring's is begun at its least row, in a row of its own; rows of 1 to 1,048,576 points whose slice has room for them. -/
import Derived.Test.YtopbpokcffdjnaaWConcat
import Derived.Test.YtopbpokcffdjnaaWTurnF
import Derived.Test.YtopbpokcffdjnaaWTurnS
namespace Go.Proofs.Ytopbpokcffdjnaa
set_option linter.unusedVariables false
open Go.ChangeShapes Go.WideShapes Go.ChangeAt Go.RowKit Go.Deep

set_option maxHeartbeats 400000 in
theorem dotTurn_any (b off cap : Nat) (ps : List (Int × Int)) (w : World) (hp : PtsAt w (some ⟨b, off, none⟩) ps) (hl : ps.length ≤ 1048576) (h0 : 0 < ps.length) :
    Calls Try.prog 82 #[.agg #[], .slice (some ⟨b, off, none⟩) ps.length cap] w (PtsAns w ps) := by
  have HP := Lib.hid hp
  clear hp
  go_enter Try.func82, Try.ntmps82
  go_wp2_with fail
  refine (clone_any _ _ _ _ _ (HP.out.below ((Below.refl _ _).alloc (Nat.le_refl _) _)) hl h0).mono ?_
  intro e w2 hA
  obtain ⟨g, c2, rfl, h1, h2, h3, h4, h5⟩ := PtsAns.since hA ((Below.refl w.heap.size w).alloc (Nat.le_refl _) _)
  have H1 := Lib.hid h1
  have H2 := Lib.hid h2
  have H5 := Lib.hid h5
  clear hA h1 h2 h5
  go_wp2
  go_ret
  exact ⟨g, c2, rfl, H1.out, H2.out, h3, h4, H5.out⟩

set_option maxHeartbeats 400000 in
theorem lineTurn_any (b off cap : Nat) (ps : List (Int × Int)) (w : World) (hp : PtsAt w (some ⟨b, off, none⟩) ps) (hl : ps.length ≤ 1048576) (h0 : 0 < ps.length) :
    Calls Try.prog 87 #[.agg #[], .slice (some ⟨b, off, none⟩) ps.length cap] w (PtsAns w ps) := by
  have HP := Lib.hid hp
  clear hp
  go_enter Try.func87, Try.ntmps87
  go_wp2_with fail
  refine (clone_any _ _ _ _ _ (HP.out.below ((Below.refl _ _).alloc (Nat.le_refl _) _)) hl h0).mono ?_
  intro e w2 hA
  obtain ⟨g, c2, rfl, h1, h2, h3, h4, h5⟩ := PtsAns.since hA ((Below.refl w.heap.size w).alloc (Nat.le_refl _) _)
  have H1 := Lib.hid h1
  have H2 := Lib.hid h2
  have H5 := Lib.hid h5
  clear hA h1 h2 h5
  go_wp2
  go_ret
  exact ⟨g, c2, rfl, H1.out, H2.out, h3, h4, H5.out⟩

/-- the least of the rows begun at the places ahead of j -/
def bestTo (ps : List (Int × Int)) (j : Nat) : List (Int × Int) := best ps (j - 1)

theorem bestTo_len {ps : List (Int × Int)} {j : Nat} (h : j ≤ ps.length) (h0 : 0 < ps.length) : (bestTo ps j).length = ps.length := best_len ps _ (by omega)

set_option maxHeartbeats 2000000 in
theorem ringTurn_any (b off cap : Nat) (ps : List (Int × Int)) (w : World) (hp : PtsAt w (some ⟨b, off, none⟩) ps) (hl : ps.length ≤ 1048576) (hcap : ps.length ≤ cap) (h0 : 0 < ps.length) :
    Calls Try.prog 92 #[.agg #[], .slice (some ⟨b, off, none⟩) ps.length cap] w (PtsAns w (best ps (ps.length - 1))) := by
  have HP := Lib.hid hp
  clear hp
  go_enter Try.func92, Try.ntmps92
  go_wp2_with fail
  refine (rowFrom_zero _ _ _ _ _ (HP.out.below ((Below.refl _ _).alloc (Nat.le_refl _) _)) hl hcap h0).mono ?_
  intro e w2 hA
  obtain ⟨g, c2, rfl, h1, h2, h3, h4, h5⟩ := PtsAns.since hA ((Below.refl w.heap.size w).alloc (Nat.le_refl _) _)
  have H1 := Lib.hid h1
  have H2 := Lib.hid h2
  have H5 := Lib.hid h5
  clear hA h1 h2 h5
  go_wp2
  go_loopw [5, 6, 7, 12] (fun v _ _ i wr => ∃ j g' cg : Nat, j ≤ ps.length ∧ i = .int .i64 (j : Int) ∧ v = .slice (some ⟨g', 0, none⟩) (bestTo ps j).length cg ∧ PtsAt wr (some ⟨g', 0, none⟩) (bestTo ps j) ∧ Soft wr (some ⟨g', 0, none⟩) (bestTo ps j).length ∧ w.heap.size ≤ g' ∧ g' < wr.heap.size ∧ Below w.heap.size w wr) (fun _ _ _ i _ => ps.length - (intOf i).toNat)
  case atStart => exact ⟨0, g, c2, Nat.zero_le _, rfl, rfl, H1.out, H2.out, h3, h4, H5.out⟩
  case round =>
    obtain ⟨j, g', cg, hj, rfl, rfl, q1, q2, q3, q4, q5⟩ := hrel
    have Q1 := Lib.hid q1
    have Q2 := Lib.hid q2
    have Q5 := Lib.hid q5
    clear q1 q2 q5
    by_cases hlt : j < ps.length
    · have hlen := Lib.hid (bestTo_len (ps := ps) hj h0)
      by_cases hj0 : j = 0
      · subst hj0
        go_wp2_with fail
        refine (rowFrom_zero _ _ _ _ _ (HP.out.below Q5.out) hl hcap h0).mono ?_
        rintro e w3 ⟨g2, cg2, rfl, p2, s2, hg2, hg2lt, hb3⟩
        have P2 := Lib.hid p2
        have HB3 := Lib.hid hb3
        clear p2 s2 hb3
        have HS := Lib.hid (row_same ps)
        have hc : decide (rowCmp ps ps < 0) = false := by rw [HS.out.2]; rfl
        go_wp2_with fail
        refine (compareFunc_any _ _ _ _ ps ps _ P2.out (Q1.out.below HB3.out) rfl hl).mono ?_
        rintro e w4 ⟨rfl, hb4⟩
        have HB4 := Lib.hid hb4
        clear hb4
        go_wp2
        go_roundw
        case rel =>
          exact ⟨1, g', cg, by omega, rfl, rfl, (Q1.out.below HB3.out).below HB4.out, (Q2.out.below Q1.out HB3.out).below (Q1.out.below HB3.out) HB4.out, q3, by have := HB3.out.size; have := HB4.out.size; omega, (Q5.out.trans (HB3.out.mono Q5.out.size)).trans (HB4.out.mono (by have := HB3.out.size; have := Q5.out.size; omega))⟩
        case measure => simp [intOf]; omega
      · have hj1 : 0 < j := by omega
        go_wp2_with fail
        refine (rowFrom_any _ _ _ j _ _ (HP.out.below Q5.out) hl hcap hj1 hlt).mono ?_
        rintro e w3 ⟨g2, cg2, rfl, p2, s2, hg2, hg2lt, hb3⟩
        have P2 := Lib.hid p2
        have S2 := Lib.hid s2
        have HB3 := Lib.hid hb3
        clear p2 s2 hb3
        have HN := Lib.hid (rowCmp_neg (rowAt ps j) (bestTo ps j))
        have HST : Hid (bestTo ps (j + 1) = if rowAhead (rowAt ps j) (bestTo ps j) then rowAt ps j else bestTo ps j) := best_step ps hj1
        by_cases hA : rowAhead (rowAt ps j) (bestTo ps j) = true
        · have hc : decide (rowCmp (rowAt ps j) (bestTo ps j) < 0) = true := by rw [HN.out]; exact hA
          have HX : Hid (bestTo ps (j + 1) = rowAt ps j) := by show _ = _; rw [HST.out, if_pos hA]
          clear hA
          go_wp2_with fail
          refine (compareFunc_any _ _ _ _ _ _ _ P2.out (Q1.out.below HB3.out) (by rw [rowAt_len _ hj, hlen.out]) (by rw [rowAt_len _ hj]; exact hl)).mono ?_
          rintro e w4 ⟨rfl, hb4⟩
          have HB4 := Lib.hid hb4
          clear hb4
          go_wp2
          go_roundw
          case rel =>
            refine ⟨j + 1, g2, cg2, by omega, by go_num, ?_⟩
            rw [HX.out]
            exact ⟨rfl, P2.out.below HB4.out, S2.out.below P2.out HB4.out, by have := Q5.out.size; omega, by have := HB4.out.size; omega, (Q5.out.trans (HB3.out.mono Q5.out.size)).trans (HB4.out.mono (by have := HB3.out.size; have := Q5.out.size; omega))⟩
          case measure => simp [intOf]; omega
        · have hc : decide (rowCmp (rowAt ps j) (bestTo ps j) < 0) = false := by rw [HN.out]; simpa using hA
          have HX : Hid (bestTo ps (j + 1) = bestTo ps j) := by show _ = _; rw [HST.out, if_neg hA]
          clear hA
          go_wp2_with fail
          refine (compareFunc_any _ _ _ _ _ _ _ P2.out (Q1.out.below HB3.out) (by rw [rowAt_len _ hj, hlen.out]) (by rw [rowAt_len _ hj]; exact hl)).mono ?_
          rintro e w4 ⟨rfl, hb4⟩
          have HB4 := Lib.hid hb4
          clear hb4
          go_wp2
          go_roundw
          case rel =>
            refine ⟨j + 1, g', cg, by omega, by go_num, ?_⟩
            rw [HX.out]
            exact ⟨rfl, (Q1.out.below HB3.out).below HB4.out, (Q2.out.below Q1.out HB3.out).below (Q1.out.below HB3.out) HB4.out, q3, by have := HB3.out.size; have := HB4.out.size; omega, (Q5.out.trans (HB3.out.mono Q5.out.size)).trans (HB4.out.mono (by have := HB3.out.size; have := Q5.out.size; omega))⟩
          case measure => simp [intOf]; omega
    · obtain rfl : j = ps.length := by omega
      go_wp2
      go_ret
      exact ⟨g', cg, rfl, Q1.out, Q2.out, q3, q4, Q5.out⟩
end Go.Proofs.Ytopbpokcffdjnaa
