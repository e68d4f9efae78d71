/- Proved here: the calls that the laws on rows make: what both functions of a chapter answer, and whether two rows are one, or a point is in a row; rows of at most 1,048,576 points. -/
import Derived.Test.YtaefibefagbheaaWSeqTwo
import Derived.Test.YtaefibefagbheaaWSeqLaws
import Derived.Test.YtaefibefagbheaaWSeqMergeF
import Derived.Test.YtaefibefagbheaaWSeqMergeS
import Derived.Test.YtaefibefagbheaaWSeqPairsI
import Derived.Test.YtaefibefagbheaaWEq
namespace Go.Proofs.Ytaefibefagbheaa
set_option linter.unusedVariables false
open Go.ChangeShapes Go.WideShapes Go.ChangeAt Go.RowKit

theorem ptsEq_one (ps : List (Int × Int)) : ptsEq ps ps = true := by simp [ptsEq]

/-- what is made of three rows, its parts named -/
def MOut (w : World) (ml : List (Int × Int)) (ok : Bool) (e : Ending) (w' : World) : Prop :=
  ∃ a cap, e = .returned (.tuple #[.slice a ml.length cap, .bool ok]) ∧ RowIs w a ml w'

theorem implMerge (ml : List (Int × Int)) (ok : Bool) (qb qa qc : Option Addr) (cb ca cc : Nat) (base a b : List (Int × Int)) (w : World) (hm : (mergedOf base a b).getD [] = ml) (hk : (mergedOf base a b).isSome = ok) (h1 : PtsAt w qb base) (h2 : PtsAt w qa a) (h3 : PtsAt w qc b) (l1 : base.length ≤ 1048576) (l2 : a.length ≤ 1048576) (l3 : b.length ≤ 1048576) (k1 : base.length ≤ cb) (k2 : a.length ≤ ca) (k3 : b.length ≤ cc) :
    Calls Try.prog 21 #[.slice qb base.length cb, .slice qa a.length ca, .slice qc b.length cc] w (MOut w ml ok) := by
  subst hm hk
  exact implSeqMerge_any qb qa qc cb ca cc base a b w h1 h2 h3 l1 l2 l3 k1 k2 k3

theorem specMerge (ml : List (Int × Int)) (ok : Bool) (qb qa qc : Option Addr) (cb ca cc : Nat) (base a b : List (Int × Int)) (w : World) (hm : (mergedOf base a b).getD [] = ml) (hk : (mergedOf base a b).isSome = ok) (h1 : PtsAt w qb base) (h2 : PtsAt w qa a) (h3 : PtsAt w qc b) (l1 : base.length ≤ 1048576) (l2 : a.length ≤ 1048576) (l3 : b.length ≤ 1048576) (k1 : base.length ≤ cb) (k2 : a.length ≤ ca) (k3 : b.length ≤ cc) :
    Calls Try.prog 22 #[.slice qb base.length cb, .slice qa a.length ca, .slice qc b.length cc] w (MOut w ml ok) := by
  subst hm hk
  exact specSeqMerge_any qb qa qc cb ca cc base a b w h1 h2 h3 l1 l2 l3 k1 k2 k3

theorem merged_short (base a b : List (Int × Int)) : ((mergedOf base a b).getD []).length ≤ 1048576 := by
  unfold mergedOf
  split
  · next hf =>
    have hl : base.length ≤ 12 ∧ a.length ≤ 12 ∧ b.length ≤ 12 := by simpa [fewB] using hf
    cases hm : merged base a b with
    | none => simp
    | some m =>
      have e := mg_all ((none, 0, base), (none, 0, a), (none, 0, b))
      simp only at e
      rw [hm] at e
      have h1 := mg_le (short_all (S := ((none, 0, base), (none, 0, a), (none, 0, b))) hl.1 hl.2.1 hl.2.2 _) e
      have h2 := all_len (S := ((none, 0, base), (none, 0, a), (none, 0, b))) hl.1
      simp only at h2
      simp only [Option.getD_some]
      omega
  · simp

theorem implMerge0 (ml : List (Int × Int)) (ok : Bool) (qa qc : Option Addr) (ca cc : Nat) (a b : List (Int × Int)) (w : World) (hm : (mergedOf [] a b).getD [] = ml) (hk : (mergedOf [] a b).isSome = ok) (h2 : PtsAt w qa a) (h3 : PtsAt w qc b) (l2 : a.length ≤ 1048576) (l3 : b.length ≤ 1048576) (k2 : a.length ≤ ca) (k3 : b.length ≤ cc) :
    Calls Try.prog 21 #[.slice none 0 0, .slice qa a.length ca, .slice qc b.length cc] w (MOut w ml ok) :=
  implMerge ml ok none qa qc 0 ca cc [] a b w hm hk (PtsAt.nil _ _) h2 h3 (Nat.zero_le _) l2 l3 (Nat.zero_le _) k2 k3

theorem specMerge0 (ml : List (Int × Int)) (ok : Bool) (qa qc : Option Addr) (ca cc : Nat) (a b : List (Int × Int)) (w : World) (hm : (mergedOf [] a b).getD [] = ml) (hk : (mergedOf [] a b).isSome = ok) (h2 : PtsAt w qa a) (h3 : PtsAt w qc b) (l2 : a.length ≤ 1048576) (l3 : b.length ≤ 1048576) (k2 : a.length ≤ ca) (k3 : b.length ≤ cc) :
    Calls Try.prog 22 #[.slice none 0 0, .slice qa a.length ca, .slice qc b.length cc] w (MOut w ml ok) :=
  specMerge ml ok none qa qc 0 ca cc [] a b w hm hk (PtsAt.nil _ _) h2 h3 (Nat.zero_le _) l2 l3 (Nat.zero_le _) k2 k3

set_option maxHeartbeats 400000 in
theorem wsSame_any (a a' : Option Addr) (cap cap' : Nat) (ps qs : List (Int × Int)) (w : World) (hp : PtsAt w a ps) (hq : PtsAt w a' qs) (hl : ps.length ≤ 1048576) (hl' : qs.length ≤ 1048576) :
    Calls Try.prog 23 #[.slice a ps.length cap, .slice a' qs.length cap'] w fun e w' => e = .returned (.bool (ptsEq ps qs)) ∧ ∃ n, w' = w.drewN n := by
  have HP := Lib.hid hp
  have HQ := Lib.hid hq
  clear hp hq
  by_cases he : ps.length = qs.length
  · have HE := Lib.hid he
    rw [← he]
    have h1 : ((ps.length : Int) != (ps.length : Int)) = false := by simp
    clear he
    go_enter Try.func23, Try.ntmps23
    go_wp2
    go_loopw [5] (fun i wr => ∃ k n : Nat, k ≤ ps.length ∧ i = .int .i64 k ∧ wr = w.drewN n ∧ ∀ j, j < k → px ps j = px qs j ∧ py ps j = py qs j) (fun i _ => ps.length - (intOf i).toNat)
    case atStart => exact ⟨0, 0, Nat.zero_le _, rfl, rfl, fun j h => absurd h (Nat.not_lt_zero _)⟩
    case round =>
      obtain ⟨k, n, hk, rfl, rfl, hall⟩ := hrel
      have HA := Lib.hid hall
      clear hall
      by_cases hlt : k < ps.length
      · obtain ⟨b, off, rfl, hb, hc1, hc2⟩ := HP.out k hlt
        obtain ⟨b', off', rfl, hb', hd1, hd2⟩ := HQ.out k (by have := HE.out; omega)
        have hn := run_ptNeq
        by_cases hs : px ps k = px qs k ∧ py ps k = py qs k
        · have hb1 : ptEq (px ps k, py ps k) (px qs k, py qs k) = true := by simp [ptEq, hs]
          have HS := Lib.hid hs
          clear hs
          go_wp2
          go_quiet (fail)
          go_wp2
          go_roundw
          case rel => exact ⟨k + 1, _, by omega, by go_num, rfl, fun j hj => by by_cases e : j = k; (subst e; exact HS.out); exact HA.out j (by omega)⟩
          case measure => simp [intOf]; omega
        · have hb1 : ptEq (px ps k, py ps k) (px qs k, py qs k) = false := by simpa [ptEq] using hs
          have HS := Lib.hid (ptsEq_ne hs)
          clear hs
          go_wp2
          go_quiet (fail)
          go_wp2
          go_ret
          exact ⟨by rw [HS.out]; rfl, n + nq, by rw [World.drewN_drewN]⟩
      · obtain rfl : k = ps.length := by omega
        have HT := Lib.hid (ptsEq_of HE.out HA.out)
        go_wp2
        go_ret
        exact ⟨by rw [HT.out]; rfl, n, rfl⟩
  · have h1 : ((ps.length : Int) != (qs.length : Int)) = true := by simp; omega
    have HT := Lib.hid (ptsEq_len he)
    clear he
    go_enter Try.func23, Try.ntmps23
    go_wp2
    go_ret
    exact ⟨by rw [HT.out]; rfl, 0, rfl⟩

set_option maxHeartbeats 400000 in
theorem wsHas_any (a : Option Addr) (cap : Nat) (ps : List (Int × Int)) (x y : Int) (w : World) (hp : PtsAt w a ps) (hl : ps.length ≤ 1048576) :
    Calls Try.prog 24 #[.slice a ps.length cap, .agg #[.int .i64 x, .int .i64 y]] w fun e w' => e = .returned (.bool (decide ((x, y) ∈ ps))) ∧ Below w.heap.size w w' := by
  have HP := Lib.hid hp
  clear hp
  go_enter Try.func24, Try.ntmps24
  go_wp2
  go_loopw [5] (fun i wr => ∃ k n : Nat, k ≤ ps.length ∧ i = .int .i64 k ∧ wr = (w.alloc (.cells #[.int .i64 x, .int .i64 y] 32)).drewN n ∧ ∀ j, j < k → ¬ (px ps j, py ps j) = (x, y)) (fun i _ => ps.length - (intOf i).toNat)
  case atStart => exact ⟨0, 0, Nat.zero_le _, rfl, rfl, fun j h => absurd h (Nat.not_lt_zero _)⟩
  case round =>
    obtain ⟨k, n, hk, rfl, rfl, hall⟩ := hrel
    have HA := Lib.hid hall
    clear hall
    by_cases hlt : k < ps.length
    · obtain ⟨b, off, rfl, hb, hc1, hc2⟩ := HP.out k hlt
      have bb : Below w.heap.size w ((w.alloc (.cells #[.int .i64 x, .int .i64 y] 32)).drewN n) := below_drewN ((Below.refl _ _).alloc (Nat.le_refl _) _) n
      rw [← bb.cell (p := ⟨b, _, none⟩) hb] at hc1 hc2
      obtain ⟨e0, e1, _, _⟩ := cell_duo w (.int .i64 x) (.int .i64 y) 32
      have f0 : ((w.alloc (.cells #[.int .i64 x, .int .i64 y] 32)).drewN n).cell? ⟨w.heap.size, 0, none⟩ = some (.int .i64 x) := e0
      have f1 : ((w.alloc (.cells #[.int .i64 x, .int .i64 y] 32)).drewN n).cell? ⟨w.heap.size, 1, none⟩ = some (.int .i64 y) := e1
      have hn := run_ptEql
      clear e0 e1 bb
      generalize hW : (w.alloc (.cells #[.int .i64 x, .int .i64 y] 32)).drewN n = W at *
      have HW := Lib.hid hW
      clear hW
      by_cases hs : (px ps k, py ps k) = (x, y)
      · have hb1 : ptEq (px ps k, py ps k) (x, y) = true := by simp only [ptEq, hs, decide_true]
        have HS := Lib.hid hs
        clear hs
        go_wp2
        go_quiet (fail)
        go_wp2
        go_ret
        have hm : (x, y) ∈ ps := by
          rw [← HS.out]
          exact mem_getD hlt
        refine ⟨by rw [decide_eq_true hm]; rfl, ?_⟩
        rw [← HW.out]
        exact below_drewN (below_drewN ((Below.refl _ _).alloc (Nat.le_refl _) _) n) nq
      · have hb1 : ptEq (px ps k, py ps k) (x, y) = false := by simp only [ptEq, hs, decide_false]
        have HS := Lib.hid hs
        clear hs
        go_wp2
        go_quiet (fail)
        go_wp2
        go_roundw
        case rel =>
          refine ⟨k + 1, n + nq, by omega, by go_num, ?_, fun j hj => ?_⟩
          · rw [← HW.out, World.drewN_drewN]
          · by_cases e : j = k
            · subst e; exact HS.out
            · exact HA.out j (by omega)
        case measure => simp [intOf]; omega
    · go_wp2
      go_ret
      have hm : ¬ (x, y) ∈ ps := fun h => by
        obtain ⟨j, hj, e⟩ := List.getElem_of_mem h
        refine HA.out j (by omega) ?_
        rw [← e]
        simp [px, py, hj]
      exact ⟨by rw [decide_eq_false hm]; rfl, below_drewN ((Below.refl _ _).alloc (Nat.le_refl _) _) n⟩
theorem run_pairNeq (x y a b : Int) (w : World) : (binOp .neq 30 (.agg #[.int .i64 x, .int .i64 y]) (.agg #[.int .i64 a, .int .i64 b])).run Try.prog w = .ok (.bool (!ptEq (x, y) (a, b))) w := by
  have u3 := Try.underlying3
  have a3 := Try.isAgg3
  have z3 := Try.sizeOf3
  have hS : Try.prog.underlying 30 = some (.struct (Try.prog.fieldsOf 30)) := by kernel_rfl
  have hp : Try.prog.stoodInHeld 30 = false := by kernel_rfl
  rw [run_neq_struct, show (10000 : Nat) = 9999 + 1 from rfl, run_equalIn_agg w 9999 30 _ _ hS hp]
  simp only [Program.fieldsOf, Try.underlying30]
  go_simp
  by_cases h1 : x = a <;> by_cases h2 : y = b <;> simp [h1, h2, ptEq]

theorem implLongN (n : Int) (pa pb : Option Addr) (ca cb : Nat) (a b : List (Int × Int)) (w : World) (h : longOf a b = n) (hp : PtsAt w pa a) (hq : PtsAt w pb b) (hl : a.length ≤ 1048576) (hl' : b.length ≤ 1048576) :
    Calls Try.prog 17 #[.slice pa a.length ca, .slice pb b.length cb] w fun e w' => e = .returned (.int .i64 n) ∧ Below w.heap.size w w' := by
  subst h
  exact implSeqLong_any pa pb ca cb a b w hp hq hl hl'

theorem specLongN (n : Int) (pa pb : Option Addr) (ca cb : Nat) (a b : List (Int × Int)) (w : World) (h : longOf a b = n) (hp : PtsAt w pa a) (hq : PtsAt w pb b) (hl : a.length ≤ 1048576) (hl' : b.length ≤ 1048576) :
    Calls Try.prog 18 #[.slice pa a.length ca, .slice pb b.length cb] w fun e w' => e = .returned (.int .i64 n) ∧ Below w.heap.size w w' := by
  subst h
  exact specSeqLong_any pa pb ca cb a b w hp hq hl hl'

theorem implPairsN (pl : List (Int × Int)) (pa pb : Option Addr) (ca cb : Nat) (a b : List (Int × Int)) (w : World) (h : zp (pairsOf a b) = pl) (hp : PtsAt w pa a) (hq : PtsAt w pb b) (hl : a.length ≤ 1048576) (hl' : b.length ≤ 1048576) :
    Calls Try.prog 15 #[.slice pa a.length ca, .slice pb b.length cb] w (RowAns w pl) := by
  subst h
  exact implSeqPairs_any pa pb ca cb a b w hp hq hl hl'

theorem specPairsN (pl : List (Int × Int)) (pa pb : Option Addr) (ca cb : Nat) (a b : List (Int × Int)) (w : World) (h : zp (pairsOf a b) = pl) (hp : PtsAt w pa a) (hq : PtsAt w pb b) (hl : a.length ≤ 1048576) (hl' : b.length ≤ 1048576) (hca : a.length ≤ ca) (hcb : b.length ≤ cb) :
    Calls Try.prog 16 #[.slice pa a.length ca, .slice pb b.length cb] w (RowAns w pl) := by
  subst h
  exact specSeqPairs_any pa pb ca cb a b w hp hq hl hl' hca hcb

theorem Grow.reads {w0 wr : World} {e : TypeId} {qs : List (Int × Int)} {a : Option Addr} {c : Nat} (h : Grow w0 e qs wr (.slice a qs.length c)) : PtsAt wr a qs ∧ qs.length ≤ c := by
  obtain ⟨a', c', e1, h1, _⟩ := owned_pts h.own rfl
  obtain ⟨a2, c2, e2, h2⟩ := h.form
  cases e1
  cases e2
  exact ⟨h1, h2⟩

theorem longOf_lcs {a b : List (Int × Int)} (ha : a.length ≤ 12) (hb : b.length ≤ 12) : longOf a b = (lcs a b : Nat) := longOf_few (by simpa [fewB] using ⟨ha, hb⟩)
theorem pairsOf_prs {a b : List (Int × Int)} (ha : a.length ≤ 12) (hb : b.length ≤ 12) : pairsOf a b = prs 0 0 a b := pairsOf_few (by simpa [fewB] using ⟨ha, hb⟩)

theorem longOf_pairs (a b : List (Int × Int)) : longOf a b = ((zp (pairsOf a b)).length : Int) := by
  rw [zp_len]
  unfold longOf pairsOf
  split
  · rw [prs_len]
  · rfl

theorem longOf_bd (a b : List (Int × Int)) : 0 ≤ longOf a b ∧ longOf a b ≤ a.length ∧ longOf a b ≤ b.length := by
  unfold longOf
  split
  · have := lcs_le a b
    have := lcs_le' a b
    omega
  · omega

end Go.Proofs.Ytaefibefagbheaa
