/- Proved here: the table of how many points can be one, filled from its end, holds at each two places how many points can be one from there on; rows of at most 12 points. -/
import Derived.Test.YtaefibefagbheaaWSeqMath
import Derived.StillTailTactics
import Derived.Deep.MidRow
import Derived.Deep.WholeRow
import Derived.IntWalk
namespace Go.Proofs.Ytaefibefagbheaa
set_option linter.unusedVariables false
open Go.ChangeShapes Go.WideShapes Go.ChangeAt Go.RowKit

/-- what stands in the table -/
def lAt (a b : List (Int × Int)) (j : Nat) : Nat := lcs (a.drop (j / 13)) (b.drop (j % 13))

theorem drop_pt (a : List (Int × Int)) (i : Nat) (h : i < a.length) : a.drop i = (px a i, py a i) :: a.drop (i + 1) := by
  rw [List.drop_eq_getElem_cons h]
  congr 1
  unfold px py
  rw [List.getD_eq_getElem?_getD, List.getElem?_eq_getElem h]
  rfl

theorem lAt_step (a b : List (Int × Int)) (i k : Nat) (hi : i < a.length) (hk : k < b.length) :
    lcs (a.drop i) (b.drop k) = if ptEq (px a i, py a i) (px b k, py b k) = true then lcs (a.drop (i + 1)) (b.drop (k + 1)) + 1 else max (lcs (a.drop (i + 1)) (b.drop k)) (lcs (a.drop i) (b.drop (k + 1))) := by
  conv => lhs; rw [drop_pt a i hi, drop_pt b k hk, lcs_cons]
  rw [← drop_pt a i hi, ← drop_pt b k hk]
  unfold ptEq
  simp only [decide_eq_true_eq]

theorem lAt_of (a b : List (Int × Int)) (i k : Nat) (hk : k < 13) : lAt a b (i * 13 + k) = lcs (a.drop i) (b.drop k) := by
  unfold lAt
  rw [show (i * 13 + k) / 13 = i by omega, show (i * 13 + k) % 13 = k by omega]

/-- how far it is filled: the rows from n on, and of the one ahead the columns from m on -/
def tv (a b : List (Int × Int)) (n m j : Nat) : Int := if n ≤ j / 13 then lAt a b j else if j / 13 + 1 = n ∧ m ≤ j % 13 then lAt a b j else 0

theorem tv_start (a b : List (Int × Int)) (m j : Nat) (hm : 13 ≤ m) : tv a b a.length m j = 0 := by
  unfold tv
  split
  · next h => unfold lAt; rw [List.drop_eq_nil_of_le h, lcs_nil]; rfl
  · rw [if_neg (by omega)]

theorem tv_row (a b : List (Int × Int)) (n m j : Nat) (hm : 13 ≤ m) : tv a b n m j = tv a b n b.length j := by
  unfold tv
  split
  · rfl
  · rw [if_neg (by omega)]
    split
    · next h => unfold lAt; rw [List.drop_eq_nil_of_le h.2, lcs_nil']; rfl
    · rfl

theorem tv_next (a b : List (Int × Int)) (i m j : Nat) (hm : 13 ≤ m) : tv a b (i + 1) 0 j = tv a b i m j := by
  unfold tv
  by_cases h : i + 1 ≤ j / 13
  · rw [if_pos h, if_pos (by omega)]
  · rw [if_neg h]
    by_cases e : j / 13 = i
    · rw [if_pos ⟨by omega, Nat.zero_le _⟩, if_pos (by omega)]
    · rw [if_neg (by omega), if_neg (by omega), if_neg (by omega)]

theorem tv_end (a b : List (Int × Int)) (m j : Nat) : tv a b 0 m j = lAt a b j := by unfold tv; rw [if_pos (Nat.zero_le _)]

theorem tv_set (a b : List (Int × Int)) (i k j : Nat) (hk : k < 13) :
    (if j = i * 13 + k then Value.int .i64 ((lcs (a.drop i) (b.drop k) : Nat) : Int) else .int .i64 (tv a b (i + 1) (k + 1) j)) = .int .i64 (tv a b (i + 1) k j) := by
  by_cases e : j = i * 13 + k
  · subst e
    rw [if_pos rfl]
    unfold tv
    rw [if_neg (by omega), if_pos (by omega), lAt_of a b i k hk]
  · rw [if_neg e]
    unfold tv
    by_cases h : i + 1 ≤ j / 13
    · rw [if_pos h, if_pos h]
    · rw [if_neg h, if_neg h]
      by_cases h2 : j / 13 + 1 = i + 1 ∧ k + 1 ≤ j % 13
      · rw [if_pos h2, if_pos (by omega)]
      · rw [if_neg h2, if_neg (by omega)]

theorem tv_at1 (a b : List (Int × Int)) (i k : Nat) (m : Nat) (hk : k < 13) : tv a b (i + 1) m ((i + 1) * 13 + k) = lcs (a.drop (i + 1)) (b.drop k) := by
  unfold tv
  rw [if_pos (by omega), lAt_of _ _ _ _ hk]

theorem tv_at0 (a b : List (Int × Int)) (i k : Nat) (hk : k + 1 < 13) : tv a b (i + 1) (k + 1) (i * 13 + (k + 1)) = lcs (a.drop i) (b.drop (k + 1)) := by
  unfold tv
  rw [if_neg (by omega), if_pos (by omega), lAt_of _ _ _ _ hk]

def zer : Array Value := Array.replicate 169 (.int .i64 0)
theorem info_tab : (Try.prog.info? 52).map (fun i => (i.zero, i.size)) = some (some (.agg zer), 169) := by kernel_rfl
theorem run_zeroTab (u : World) : (zeroValue 52).run Try.prog u = .ok (.agg zer) u := by
  have h := info_tab
  cases hq : Try.prog.info? 52 with
  | none => simp [hq] at h
  | some i =>
    obtain ⟨h1, h2⟩ : i.zero = some (.agg zer) ∧ i.size = 169 := by simpa [hq] using h
    simp [zeroValue, typeInfo, Sem.run_bind, hq, h1]

/-- the whole table -/
def tabOf (a b : List (Int × Int)) : List Value := (List.range 169).map fun j => .int .i64 (lAt a b j)

theorem zer_row (w : World) (t : TypeId) : (w.alloc (.cells zer t)).rowIs w.heap.size t 169 (fun _ => .int .i64 0) := by
  have := World.rowIs_alloc w zer t (fun _ => .int .i64 0) (by
    intro i hi
    simp only [zer, Array.size_replicate] at hi
    simp [zer, hi])
  simpa [zer] using this

/-- the loops' world -/
def TabW (w : World) (f : Nat → Int) (wr : World) : Prop :=
  wr.rowIs (w.heap.size + 1) 52 169 (fun j => .int .i64 (f j)) ∧ wr.rowIs w.heap.size 52 169 (fun _ => .int .i64 0) ∧ Below w.heap.size w wr

theorem TabW.congr {w : World} {f g : Nat → Int} {wr : World} (h : TabW w f wr) (e : ∀ j, f j = g j) : TabW w g wr :=
  ⟨h.1.congr fun j _ => by rw [e], h.2.1, h.2.2⟩

theorem TabW.set {w : World} {a b : List (Int × Int)} {i k : Nat} {wr : World} {x : Int} (hk : k < 13) (h : TabW w (tv a b (i + 1) (k + 1)) wr) (hx : ((lcs (a.drop i) (b.drop k) : Nat) : Int) = x) :
    TabW w (tv a b (i + 1) k) (wr.setCell ⟨w.heap.size + 1, i * 13 + k, none⟩ (.int .i64 x)) := by
  subst hx
  exact ⟨(h.1.set (i * 13 + k) _).congr fun j _ => tv_set a b i k j hk, h.2.1.setOther (by simp) _, h.2.2.setCell (by simp) _⟩

theorem TabW.drew {w : World} {f : Nat → Int} {wr : World} (h : TabW w f wr) : TabW w f wr.drew := ⟨h.1.of_block rfl, h.2.1.of_block rfl, h.2.2.drew⟩

theorem below_setCells {B : Nat} {w0 : World} (b : Nat) (hb : B ≤ b) : ∀ (vs : List Value) (o : Nat) (w : World), Below B w0 w → Below B w0 (w.setCells b o vs)
  | [], _, _, h => h
  | v :: r, o, w, h => below_setCells b hb r (o + 1) _ (h.setCell hb v)

theorem results_cell1 {fn : Func} {p : Tmp} {ty : TypeId} (h : fn.results = #[.cell p ty]) (tmps : Array Value) (P : Program) (w : World) :
    (results fn tmps).run P w = ((asAddr (tmps.getD p undef)).run P w).andThen fun a w₁ => (loadVar ty a).run P w₁ := by
  simp only [results, h]
  simp [Sem.run_bind, Result.andThen]

theorem tab_len (a b : List (Int × Int)) : (tabOf a b).length = 169 := by simp [tabOf]
theorem info_tab2 (a b : List (Int × Int)) : (Try.prog.info? 52).map (·.size) = some (tabOf a b).length := by
  have h := info_tab
  rw [tab_len]
  cases hq : Try.prog.info? 52 with
  | none => simp [hq] at h
  | some i => simp [hq] at h ⊢; exact h.2
theorem tab_one (a b : List (Int × Int)) : (tabOf a b).toArray.all (·.oneCell') = true := all_oneCell_toArray fun v hv => by
  simp only [tabOf, List.mem_map] at hv
  obtain ⟨j, _, rfl⟩ := hv
  rfl
theorem tab_range {w : World} {B : Nat} {t : TypeId} {a b : List (Int × Int)} (h : w.rowIs B t 169 (fun j => .int .i64 (lAt a b j))) : w.rangeAt B 0 (tabOf a b) := by
  intro j v hv
  have hj : j < 169 := by have := (List.getElem?_eq_some_iff.1 hv).1; rwa [tab_len] at this
  rw [Nat.zero_add, h.cell hj, ← hv]
  simp [tabOf, hj]
theorem tab_there {w : World} {B : Nat} {t : TypeId} {f : Nat → Value} {n : Nat} (hn : n = 169) (h : w.rowIs B t 169 f) : w.there B 0 n := by
  intro j hj
  rw [Nat.zero_add]
  exact ⟨by rw [h.cell (by omega)]; rfl, h.frozen _⟩

set_option maxRecDepth 100000 in
set_option maxHeartbeats 1000000 in
theorem fillLong_any (pa pb : Option Addr) (ca cb : Nat) (a b : List (Int × Int)) (w : World) (hp : PtsAt w pa a) (hq : PtsAt w pb b) (hl : a.length ≤ 12) (hl' : b.length ≤ 12) :
    Calls Try.prog 35 #[.slice pa a.length ca, .slice pb b.length cb] w fun e w' => e = .returned (.agg (tabOf a b).toArray) ∧ Below w.heap.size w w' := by
  have HP := Lib.hid hp
  have HQ := Lib.hid hq
  clear hp hq
  have hz := run_zeroTab
  go_enter Try.func35, Try.ntmps35
  go_wp2
  clear hz
  go_loopw [6] (fun i wr => ∃ n : Nat, n ≤ a.length ∧ i = .int .i64 ((n : Int) - 1) ∧ TabW w (tv a b n 13) wr) (fun i _ => (intOf i + 1).toNat)
  case atStart =>
    refine ⟨a.length, Nat.le_refl _, rfl, ?_, (zer_row w _).alloc _, ((Below.refl _ _).alloc (Nat.le_refl _) _).alloc (by simp) _⟩
    refine (by simpa using zer_row (w.alloc (.cells zer 52)) 52 : World.rowIs _ _ _ _ _).congr fun j _ => ?_
    rw [tv_start a b 13 j (Nat.le_refl _)]
  case round =>
    obtain ⟨n, hn, rfl, hW⟩ := hrel
    have HW := Lib.hid hW
    clear hW
    rcases n with _ | i
    · simp only [Int.natCast_zero, Int.zero_sub]
      have h1 : decide ((0 : Int) ≤ -1) = false := by decide
      have hr := tab_range (HW.out.1.congr fun j _ => by rw [tv_end])
      have ht := tab_there rfl HW.out.2.1
      have hu := Try.underlying52
      have HH := Lib.hid hr
      have HT := Lib.hid ht
      clear hr ht
      go_wp2_with (first | (refine wpList_load_mid (by rfl) 52 _ (by rfl) (w.heap.size + 1) 0 (by rfl) (tabOf a b) _ HH.out hu (by rfl) (info_tab2 a b) ?_) | (refine wpList_store_mid (by rfl) 52 _ _ (by rfl) w.heap.size 0 (tabOf a b).toArray (by rfl) (by rfl) (by simpa [tab_len] using HT.out) (by simpa using info_tab2 a b) (tab_one a b) ?_))
      have hld := run_loadVar_mid (P := Try.prog) _ w.heap.size 0 52 (tabOf a b) _ (World.rangeAt_setCells_same wr w.heap.size 0 (tabOf a b) (by simpa [tab_len] using HT.out)) hu rfl (info_tab2 a b)
      refine bodyPost_ret (v := .agg (tabOf a b).toArray) ?_ rfl ⟨rfl, below_setCells _ (Nat.le_refl _) _ _ _ HW.out.2.2⟩
      rw [results_cell1 rfl]
      show ((asAddr (.pointer (some ⟨w.heap.size, 0, none⟩))).run Try.prog (wr.setCells w.heap.size 0 (tabOf a b))).andThen _ = _
      simp [asAddr, Result.andThen, hld]
    · have e1 : ((i + 1 : Nat) : Int) - 1 = (i : Int) := by omega
      rw [e1]
      clear e1
      go_wp2
      go_loopw [7] (fun k wr => ∃ m : Nat, m ≤ b.length ∧ k = .int .i64 ((m : Int) - 1) ∧ TabW w (tv a b (i + 1) m) wr) (fun k _ => (intOf k + 1).toNat)
      case atStart => exact ⟨b.length, Nat.le_refl _, rfl, HW.out.congr fun j => tv_row a b (i + 1) 13 j (Nat.le_refl _)⟩
      case round =>
        clear HW
        obtain ⟨m, hm, rfl, hW⟩ := hrel
        have HW := Lib.hid hW
        clear hW
        rcases m with _ | k
        · simp only [Int.natCast_zero, Int.zero_sub]
          have h1 : decide ((0 : Int) ≤ -1) = false := by decide
          go_wp2
          go_roundw
          case rel => exact ⟨i, by omega, rfl, HW.out.congr fun j => tv_next a b i 13 j (Nat.le_refl _)⟩
          case measure => simp [intOf]
        · have e1 : ((k + 1 : Nat) : Int) - 1 = (k : Int) := by omega
          rw [e1]
          clear e1
          obtain ⟨ba, oa, rfl, hba, hx1, hx2⟩ := HP.out i hn
          obtain ⟨bb, ob, rfl, hbb, hy1, hy2⟩ := HQ.out k hm
          rw [← HW.out.2.2.cell (p := ⟨ba, _, none⟩) hba] at hx1 hx2
          rw [← HW.out.2.2.cell (p := ⟨bb, _, none⟩) hbb] at hy1 hy2
          have hst := lAt_step a b i k hn hm
          have hn' := run_ptEql
          have q1 : (0 : Int) ≤ (i : Int) + 1 := by omega
          have q2 : (i : Int) + 1 < 13 := by omega
          have q3 : (0 : Int) ≤ (k : Int) + 1 := by omega
          have q4 : (k : Int) + 1 < 13 := by omega
          have q5 : (0 : Int) ≤ (i : Int) := by omega
          have q6 : (i : Int) < 13 := by omega
          have q7 : (0 : Int) ≤ (k : Int) := by omega
          have q8 : (k : Int) < 13 := by omega
          by_cases hs : ptEq (px a i, py a i) (px b k, py b k) = true
          · rw [if_pos hs] at hst
            have HS := Lib.hid hst
            clear hst
            go_wp2
            go_quiet (fail)
            clear hn' hx1 hx2 hy1 hy2
            have HW1 : Hid (TabW w (tv a b (i + 1) (k + 1)) (wr.drewN nq)) := ⟨HW.out.1.of_block rfl, HW.out.2.1.of_block rfl, below_drewN HW.out.2.2 nq⟩
            generalize wr.drewN nq = W1 at HW1 ⊢
            have d1 := HW1.out.1.cell (i := (i + 1) * 13 + (k + 1)) (by omega)
            rw [tv_at1 a b i (k + 1) _ (by omega)] at d1
            have d2 := HW1.out.1.cell (i := i * 13 + k) (by omega)
            have f2 := HW1.out.1.frozen (i * 13 + k)
            have hle := lcs_le (a.drop (i + 1)) (b.drop (k + 1))
            simp only [List.length_drop] at hle
            generalize hX : lcs (a.drop (i + 1)) (b.drop (k + 1)) = X at *
            clear hX
            have w3 : IntKind.i64.wrap ((X : Int) + 1) = (X : Int) + 1 := IntWalk.i64_in _ (by omega)
            have w1 : IntKind.i64.wrap ((i : Int) + 1) = (i : Int) + 1 := IntWalk.i64_in _ (by omega)
            have w2 : IntKind.i64.wrap ((k : Int) + 1) = (k : Int) + 1 := IntWalk.i64_in _ (by omega)
            have t1 : ((i : Int) + 1).toNat = i + 1 := by omega
            have t2 : ((k : Int) + 1).toNat = k + 1 := by omega
            go_wp2
            go_still_tail 12, (by kernel_rfl)
            go_wp2
            go_roundw
            case rel => exact ⟨k, by omega, rfl, (HW1.out.set (by omega) (by rw [HS.out]; rfl)).drew⟩
            case measure => simp [intOf]
          · rw [if_neg hs] at hst
            have hs' : ptEq (px a i, py a i) (px b k, py b k) = false := by simpa using hs
            have HS := Lib.hid hst
            clear hst hs
            go_wp2
            go_quiet (fail)
            clear hn' hx1 hx2 hy1 hy2
            have HW1 : Hid (TabW w (tv a b (i + 1) (k + 1)) (wr.drewN nq)) := ⟨HW.out.1.of_block rfl, HW.out.2.1.of_block rfl, below_drewN HW.out.2.2 nq⟩
            generalize wr.drewN nq = W1 at HW1 ⊢
            have d1 := HW1.out.1.cell (i := (i + 1) * 13 + k) (by omega)
            rw [tv_at1 a b i k _ (by omega)] at d1
            have d3 := HW1.out.1.cell (i := i * 13 + (k + 1)) (by omega)
            rw [tv_at0 a b i k (by omega)] at d3
            have d2 := HW1.out.1.cell (i := i * 13 + k) (by omega)
            have f2 := HW1.out.1.frozen (i * 13 + k)
            generalize hX : lcs (a.drop (i + 1)) (b.drop k) = X at *
            generalize hY : lcs (a.drop i) (b.drop (k + 1)) = Y at *
            clear hX hY
            have w1 : IntKind.i64.wrap ((i : Int) + 1) = (i : Int) + 1 := IntWalk.i64_in _ (by omega)
            have w2 : IntKind.i64.wrap ((k : Int) + 1) = (k : Int) + 1 := IntWalk.i64_in _ (by omega)
            have t1 : ((i : Int) + 1).toNat = i + 1 := by omega
            have t2 : ((k : Int) + 1).toNat = k + 1 := by omega
            by_cases hxy : (Y : Int) ≤ (X : Int)
            all_goals
              go_wp2
              go_still_tail 17, (by kernel_rfl)
              go_wp2
              go_roundw
              case rel => exact ⟨k, by omega, rfl, (HW1.out.set (by omega) (by rw [HS.out]; omega)).drew⟩
              case measure => simp [intOf]
end Go.Proofs.Ytaefibefagbheaa
