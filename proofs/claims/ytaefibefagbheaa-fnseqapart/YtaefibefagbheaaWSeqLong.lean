/- Proved here: both functions that tell how many points of two rows can be one answer it, and 0 if a row has more than 12; rows of at most 1,048,576 points. -/
import Derived.Test.YtaefibefagbheaaWSeqTab
namespace Go.Proofs.Ytaefibefagbheaa
set_option linter.unusedVariables false
open Go.ChangeShapes Go.WideShapes Go.ChangeAt Go.RowKit

/-- no row is too long -/
def fewB (ns : List Nat) : Bool := ns.all fun n => decide (n ≤ 12)

/-- rows that lie in a row -/
def rowA (rs : List (Option Addr × Nat × Nat)) (i : Nat) : Value := .slice (rs.getD i (none, 0, 0)).1 (rs.getD i (none, 0, 0)).2.1 (rs.getD i (none, 0, 0)).2.2

set_option maxHeartbeats 1000000 in
theorem inBound_any (B : Nat) (rs : List (Option Addr × Nat × Nat)) (w : World) (hc : ∀ i, i < rs.length → w.cell? ⟨B, i, none⟩ = some (rowA rs i)) (hl : rs.length ≤ 3) (hm : ∀ r ∈ rs, r.2.1 ≤ 1048576) :
    Calls Try.prog 34 #[.slice (some ⟨B, 0, none⟩) rs.length rs.length] w fun e w' => e = .returned (.bool (fewB (rs.map (·.2.1)))) ∧ w = w' := by
  have HC := Lib.hid hc
  have HM := Lib.hid hm
  clear hc hm
  go_enter Try.func34, Try.ntmps34
  go_wp2
  go_loop [7] (fun i => ∃ k : Nat, k ≤ rs.length ∧ i = .int .i64 k ∧ ∀ j, j < k → (rs.getD j (none, 0, 0)).2.1 ≤ 12) (fun i => rs.length - (intOf i).toNat)
  case atStart => exact ⟨0, Nat.zero_le _, rfl, fun j h => absurd h (Nat.not_lt_zero _)⟩
  case round =>
    obtain ⟨k, hk, rfl, hall⟩ := hrel
    have HA := Lib.hid hall
    clear hall
    by_cases hlt : k < rs.length
    · have hc := HC.out k hlt
      unfold rowA at hc
      have hm : (rs.getD k (none, 0, 0)).2.1 ≤ 1048576 := by
        refine HM.out _ ?_
        rw [List.getD_eq_getElem?_getD, List.getElem?_eq_getElem hlt]
        exact List.getElem_mem hlt
      have hmem : (rs.getD k (none, 0, 0)).2.1 ∈ rs.map (·.2.1) := by
        refine List.mem_map_of_mem ?_
        rw [List.getD_eq_getElem?_getD, List.getElem?_eq_getElem hlt]
        exact List.getElem_mem hlt
      by_cases h12 : (rs.getD k (none, 0, 0)).2.1 ≤ 12
      · have HA' : Hid (∀ j, j < k + 1 → (rs.getD j (none, 0, 0)).2.1 ≤ 12) := fun j hj => by
          by_cases e : j = k
          · subst e; exact h12
          · exact HA.out j (by omega)
        generalize rs.getD k (none, 0, 0) = r at *
        obtain ⟨r1, r2, r3⟩ := r
        simp only at hc hm h12
        clear hmem
        go_wp2
        go_round
        case rel => exact ⟨k + 1, by omega, by go_num, HA'.out⟩
        case measure => simp [intOf]; omega
      · have HF : Hid (fewB (rs.map (·.2.1)) = false) := by
          show fewB (rs.map (·.2.1)) = false
          unfold fewB
          rw [List.all_eq_false]
          exact ⟨_, hmem, by simpa using h12⟩
        generalize rs.getD k (none, 0, 0) = r at *
        obtain ⟨r1, r2, r3⟩ := r
        simp only at hc hm h12
        clear hmem
        go_wp2
        go_ret
        exact ⟨by rw [HF.out]; rfl, rfl⟩
    · obtain rfl : k = rs.length := by omega
      have HT : Hid (fewB (rs.map (·.2.1)) = true) := by
        show fewB (rs.map (·.2.1)) = true
        unfold fewB
        rw [List.all_eq_true]
        intro n hn
        obtain ⟨r, hr, rfl⟩ := List.mem_map.1 hn
        obtain ⟨j, hj, rfl⟩ := List.getElem_of_mem hr
        have := HA.out j hj
        rw [List.getD_eq_getElem?_getD, List.getElem?_eq_getElem hj] at this
        simpa using this
      go_wp2
      go_ret
      exact ⟨by rw [HT.out]; rfl, rfl⟩

theorem l5Few_any (pa pb : Option Addr) (ca cb n m : Nat) (w : World) (hn : n ≤ 1048576) (hm : m ≤ 1048576) :
    Calls Try.prog 36 #[.slice pa n ca, .slice pb m cb] w fun e w' => e = .returned (.bool (fewB [n, m])) ∧ w = w' := by
  have h : fewB [n, m] = (decide (n ≤ 12) && decide (m ≤ 12)) := by simp [fewB]
  rw [h]
  clear h
  by_cases h1 : n ≤ 12
  · by_cases h2 : m ≤ 12
    all_goals
      go_enter Try.func36, Try.ntmps36
      go_wp2
      go_ret
      exact ⟨by simp [h1, h2]; omega, rfl⟩
  · go_enter Try.func36, Try.ntmps36
    go_wp2
    go_ret
    exact ⟨by simp, rfl⟩

/-- how many can be one, or 0 of rows that are too long -/
def longOf (a b : List (Int × Int)) : Int := if fewB [a.length, b.length] = true then lcs a b else 0

theorem fewB_two {n m : Nat} (h : fewB [n, m] = true) : n ≤ 12 ∧ m ≤ 12 := by simpa [fewB] using h

theorem inBound2 (B : Nat) (pa pb : Option Addr) (n m ca cb : Nat) (w : World) (h0 : w.cell? ⟨B, 0, none⟩ = some (.slice pa n ca)) (h1 : w.cell? ⟨B, 1, none⟩ = some (.slice pb m cb)) (hn : n ≤ 1048576) (hm : m ≤ 1048576) :
    Calls Try.prog 34 #[.slice (some ⟨B, 0, none⟩) 2 2] w fun e w' => e = .returned (.bool (fewB [n, m])) ∧ w = w' :=
  inBound_any B [(pa, n, ca), (pb, m, cb)] w (fun i hi => by
    rcases i with _ | _ | i
    · exact h0
    · exact h1
    · simp only [List.length_cons, List.length_nil] at hi; omega) (by simp) (by simp [hn, hm])

theorem inBound3 (B : Nat) (pa pb pc : Option Addr) (n m k ca cb cc : Nat) (w : World) (h0 : w.cell? ⟨B, 0, none⟩ = some (.slice pa n ca)) (h1 : w.cell? ⟨B, 1, none⟩ = some (.slice pb m cb)) (h2 : w.cell? ⟨B, 2, none⟩ = some (.slice pc k cc)) (hn : n ≤ 1048576) (hm : m ≤ 1048576) (hk : k ≤ 1048576) :
    Calls Try.prog 34 #[.slice (some ⟨B, 0, none⟩) 3 3] w fun e w' => e = .returned (.bool (fewB [n, m, k])) ∧ w = w' :=
  inBound_any B [(pa, n, ca), (pb, m, cb), (pc, k, cc)] w (fun i hi => by
    rcases i with _ | _ | _ | i
    · exact h0
    · exact h1
    · exact h2
    · simp only [List.length_cons, List.length_nil] at hi; omega) (by simp) (by simp [hn, hm, hk])

theorem longOf_few {a b : List (Int × Int)} (h : fewB [a.length, b.length] = true) : longOf a b = lcs a b := if_pos h
theorem longOf_many {a b : List (Int × Int)} (h : fewB [a.length, b.length] = false) : longOf a b = 0 := by unfold longOf; rw [h]; rfl

theorem tab_getD (a b : List (Int × Int)) (j : Nat) (hj : j < 169) : (tabOf a b)[j]? = some (.int .i64 (lAt a b j)) := by simp [tabOf, hj]

theorem tab_at {w : World} {B : Nat} {a b : List (Int × Int)} (h : w.rangeAt B 0 (tabOf a b)) {i k : Nat} (hi : i < 13) (hk : k < 13) : w.cell? ⟨B, i * 13 + k, none⟩ = some (.int .i64 (lcs (a.drop i) (b.drop k) : Nat)) := by
  have := h (i * 13 + k) (.int .i64 (lAt a b (i * 13 + k))) (by rw [tab_getD _ _ _ (by omega)])
  rwa [Nat.zero_add, lAt_of a b i k hk] at this

set_option maxRecDepth 100000 in
set_option maxHeartbeats 1000000 in
theorem implSeqLong_any (pa pb : Option Addr) (ca cb : Nat) (a b : List (Int × Int)) (w : World) (hp : PtsAt w pa a) (hq : PtsAt w pb b) (hl : a.length ≤ 1048576) (hl' : b.length ≤ 1048576) :
    Calls Try.prog 17 #[.slice pa a.length ca, .slice pb b.length cb] w fun e w' => e = .returned (.int .i64 (longOf a b)) ∧ Below w.heap.size w w' := by
  have HP := Lib.hid hp
  have HQ := Lib.hid hq
  clear hp hq
  have hz := run_zeroTab
  go_enter Try.func17, Try.ntmps17
  go_wp2_with fail
  refine (inBound2 w.heap.size pa pb a.length b.length ca cb _ (by simp) (by simp) hl hl').mono ?_
  rintro e w1 ⟨rfl, rfl⟩
  cases hf : fewB [a.length, b.length] with
  | false =>
    have HF := Lib.hid (longOf_many hf)
    clear hf
    go_wp2
    go_ret
    exact ⟨by rw [HF.out]; rfl, (Below.refl _ _).alloc (Nat.le_refl _) _⟩
  | true =>
    obtain ⟨h1, h2⟩ := fewB_two hf
    have HF := Lib.hid (longOf_few hf)
    clear hf
    have Ba : Below w.heap.size w (w.alloc (Obj.cells #[Value.slice pa a.length ca, Value.slice pb b.length cb] 23)) := (Below.refl _ _).alloc (Nat.le_refl _) _
    go_wp2_with fail
    refine (fillLong_any _ _ _ _ _ _ _ (HP.out.below Ba) (HQ.out.below Ba) h1 h2).mono ?_
    rintro e w1 ⟨rfl, hb⟩
    have HB : Hid (Below w.heap.size w w1) := Ba.trans (hb.mono (by simp))
    clear hb Ba
    have HT := Lib.hid (tab_there (n := (tabOf a b).toArray.size) (by simp [tab_len]) (zer_row w1 52))
    have hat := tab_at (i := 0) (k := 0) (World.rangeAt_setCells_same (w1.alloc (.cells zer 52)) w1.heap.size 0 (tabOf a b) (tab_there (tab_len a b) (zer_row w1 _))) (by omega) (by omega)
    simp only [Nat.zero_mul, Nat.zero_add, List.drop_zero] at hat
    have HBB : Hid (Below w.heap.size w ((w1.alloc (.cells zer 52)).setCells w1.heap.size 0 (tabOf a b))) := below_setCells _ HB.out.size _ _ _ (HB.out.alloc HB.out.size _)
    have HI := Lib.hid (show (Try.prog.info? 52).map (·.size) = some (tabOf a b).toArray.size by simpa using info_tab2 a b)
    have HO := Lib.hid (tab_one a b)
    have hl : tabOf a b = (tabOf a b).toArray.toList := rfl
    rw [hl] at hat HBB
    clear hl
    generalize (tabOf a b).toArray = T at *
    go_wp2_with (refine wpList_store_mid rfl 52 _ _ rfl w1.heap.size 0 T (by rfl) (by rfl) HT.out HI.out HO.out ?_)
    generalize (w1.alloc (.cells zer 52)).setCells w1.heap.size 0 T.toList = W at *
    go_wp2
    go_ret
    exact ⟨by rw [HF.out]; rfl, HBB.out⟩
end Go.Proofs.Ytaefibefagbheaa
