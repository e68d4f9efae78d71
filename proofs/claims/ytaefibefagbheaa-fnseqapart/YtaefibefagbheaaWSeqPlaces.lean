/- Proved here: pairs put into a map of places; what a look-up there tells; at most 12 pairs. -/
import Derived.Test.YtaefibefagbheaaWSeqRow
import Derived.Maps.OwnSet
import Derived.Maps.Own
import Derived.Maps.Views
namespace Go.Proofs.Ytaefibefagbheaa
set_option linter.unusedVariables false
open Go.ChangeShapes Go.WideShapes Go.ChangeAt Go.RowKit Go.Maps

/-- an element of a map that no one else reads: the value itself -/
def heldElem (v : Value) : Option (DataW Value × List MemPlace) := some (.held v, [])

/-- the map of pairs -/
def mapI (ps : List (Nat × Nat)) : DataW Value := ps.foldl (fun D p => D.put (.int .i64 (p.1 : Int)) (.held (.int .i64 (p.2 : Int)))) (.map [])

theorem mapI_snoc (ps : List (Nat × Nat)) (p : Nat × Nat) : mapI (ps ++ [p]) = (mapI ps).put (.int .i64 (p.1 : Int)) (.held (.int .i64 (p.2 : Int))) := by simp [mapI, List.foldl_append]

theorem lookup_snoc (ps : List (Nat × Nat)) (p : Nat × Nat) (i : Nat) : (ps ++ [p]).lookup i = (ps.lookup i).or (if i = p.1 then some p.2 else none) := by
  induction ps with
  | nil =>
    obtain ⟨p1, p2⟩ := p
    simp only [List.nil_append, List.lookup, Option.none_or]
    by_cases e : i = p1
    · subst e; simp
    · rw [beq_false_of_ne e, if_neg e]
  | cons q r ih =>
    obtain ⟨q1, q2⟩ := q
    simp only [List.cons_append, List.lookup]
    by_cases e : i = q1
    · subst e; simp
    · rw [beq_false_of_ne e]; exact ih

theorem lookup_none_of {ps : List (Nat × Nat)} {i : Nat} (h : ∀ p ∈ ps, p.1 ≠ i) : ps.lookup i = none := by
  induction ps with
  | nil => rfl
  | cons q r ih =>
    obtain ⟨q1, q2⟩ := q
    simp only [List.lookup]
    rw [beq_false_of_ne (fun e => h (q1, q2) (by simp) e.symm)]
    exact ih fun p hp => h p (by simp [hp])

/-- the map tells the pairs -/
def TellsI (D : DataW Value) (ps : List (Nat × Nat)) : Prop := IsMap D ∧ ∀ i : Nat, i ≤ 12 → has D (.int .i64 (i : Int)) = (ps.lookup i).isSome ∧ ∀ q, ps.lookup i = some q → ∀ z, D.atKey (.int .i64 (i : Int)) z = .held (.int .i64 (q : Int))

theorem tells_nil : TellsI (.map []) [] := ⟨isMap_empty, fun i _ => ⟨rfl, fun q h => by cases h⟩⟩

theorem int_ne {i j : Nat} (h : i ≠ j) : (Lit.int .i64 (i : Int)) ≠ .int .i64 (j : Int) := fun e => h (by injection e; omega)

theorem tells_snoc {D : DataW Value} {ps : List (Nat × Nat)} {p : Nat × Nat} (h : TellsI D ps) (hp : ∀ q ∈ ps, q.1 ≠ p.1) : TellsI (D.put (.int .i64 (p.1 : Int)) (.held (.int .i64 (p.2 : Int)))) (ps ++ [p]) := by
  refine ⟨h.1.put _ _, fun i hi => ?_⟩
  obtain ⟨h1, h2⟩ := h.2 i hi
  rw [lookup_snoc]
  by_cases e : i = p.1
  · subst e
    rw [lookup_none_of hp, if_pos rfl, has_put_same h.1 (k := .int .i64 (p.1 : Int)) trivial]
    exact ⟨rfl, fun q hq z => by cases hq; exact atKey_put_same h.1 (k := .int .i64 (p.1 : Int)) trivial _ _⟩
  · rw [if_neg e, Option.or_none, has_put_other (int_ne e)]
    exact ⟨h1, fun q hq z => by rw [atKey_put_other (int_ne e)]; exact h2 q hq z⟩

/-- pairs whose first places ascend -/
def Asc1 (ps : List (Nat × Nat)) : Prop := ps.Pairwise fun p q => p.1 < q.1

theorem tells_mapI : ∀ (n : Nat) (ps : List (Nat × Nat)), n ≤ ps.length → Asc1 ps → TellsI (mapI (ps.take n)) (ps.take n)
  | 0, ps, _, _ => by simpa [mapI] using tells_nil
  | n + 1, ps, h, ha => by
    have ih := tells_mapI n ps (by omega) ha
    rw [List.take_succ_eq_append_getElem (by omega), mapI_snoc]
    refine tells_snoc ih fun q hq => ?_
    obtain ⟨j, hj, rfl⟩ := List.getElem_of_mem hq
    simp only [List.length_take] at hj
    rw [List.getElem_take]
    have := (List.pairwise_iff_getElem.1 ha) j n (by omega) (by omega) (by omega)
    omega

theorem keyInt : Keyed Try.prog 3 := int_keyed Try.underlying3
theorem keyOfInt (i : Nat) (h : i ≤ 12) : keyOf Try.prog 3 (.int .i64 (i : Int)) = some (.int .i64 (i : Int)) := keyOf_int_mk Try.underlying3 (by
  simp only [Lit.wf, Bool.and_eq_true, decide_eq_true_eq]
  have h1 : IntKind.i64.min = -9223372036854775808 := by decide
  have h2 : IntKind.i64.max = 9223372036854775807 := by decide
  omega)
theorem zeroInt (w : World) : (zeroValue 3).run Try.prog w = .ok (.int .i64 0) w := by kernel_rfl

/-- what a look-up tells -/
theorem look_place {w : World} {b n : Nat} {D : DataW Value} {ps : List (Nat × Nat)} (hown : w.ownsMap Try.prog 3 heldElem b n D) (ht : TellsI D ps) (i : Nat) (hi : i ≤ 12) :
    (Instr.lookup 80 (.map (some b)) (.int .i64 (i : Int)) true).run Try.prog w = .ok (.tuple #[.int .i64 (((ps.lookup i).getD 0 : Nat) : Int), .bool (ps.lookup i).isSome]) w := by
  obtain ⟨v, pl, hrun, hv⟩ := hown.look_ok keyInt Try.underlying80 (zeroInt w) (zd := .held (.int .i64 0)) (zp := []) rfl (keyOfInt i hi)
  simp only [heldElem, Option.some.injEq, Prod.mk.injEq] at hv
  obtain ⟨h1, h2⟩ := ht.2 i hi
  rw [hrun, h1]
  cases hg : ps.lookup i with
  | none =>
    rw [hg] at h1
    have h3 := hv.1
    rw [atKey_of_not_has h1] at h3
    rw [DataW.held.inj h3]
    rfl
  | some q =>
    have h3 := hv.1
    rw [h2 q hg] at h3
    rw [DataW.held.inj h3]
    rfl

theorem px_zp (ps : List (Nat × Nat)) (i : Nat) (h : i < ps.length) : px (zp ps) i = (ps[i].1 : Nat) := by simp [px, zp, h]
theorem py_zp (ps : List (Nat × Nat)) (i : Nat) (h : i < ps.length) : py (zp ps) i = (ps[i].2 : Nat) := by simp [py, zp, h]

set_option maxHeartbeats 1000000 in
theorem pairedPlaces_any (a : Option Addr) (cap : Nat) (ps : List (Nat × Nat)) (w : World) (hp : PtsAt w a (zp ps)) (hl : ps.length ≤ 12) (hb : ∀ p ∈ ps, p.1 ≤ 12) :
    Calls Try.prog 55 #[.slice a (zp ps).length cap] w fun e w' => e = .returned (.map (some w.heap.size)) ∧ w'.ownsMap Try.prog 3 heldElem w.heap.size ps.length (mapI ps) ∧ Below w.heap.size w w' := by
  have HP := Lib.hid hp
  have HL := Lib.hid hb
  have HZ := Lib.hid (zp_len ps)
  rw [zp_len]
  clear hp hb
  have hmm := @run_makeMap Try.prog
  go_enter Try.func55, Try.ntmps55
  go_wp2
  clear hmm
  go_loopw [5, 9] (fun _ i wr => ∃ k : Nat, k ≤ ps.length ∧ i = .int .i64 k ∧ wr.ownsMap Try.prog 3 heldElem w.heap.size k (mapI (ps.take k)) ∧ Below w.heap.size w wr) (fun _ i _ => ps.length - (intOf i).toNat)
  case atStart => exact ⟨0, Nat.zero_le _, rfl, World.ownsMap_made _ _ _ _, (Below.refl _ _).alloc (Nat.le_refl _) _⟩
  case round =>
    obtain ⟨k, hk, rfl, hown, hbel⟩ := hrel
    have HB := Lib.hid hbel
    have hsz := hbel.size
    by_cases hlt : k < ps.length
    · obtain ⟨b, off, rfl, hb, hc1, hc2⟩ := HP.out k (by rw [HZ.out]; exact hlt)
      rw [← hbel.cell (p := ⟨b, _, none⟩) hb] at hc1 hc2
      rw [px_zp ps k hlt] at hc1
      rw [py_zp ps k hlt] at hc2
      clear hbel
      have h12 : ps[k].1 ≤ 12 := HL.out _ (List.getElem_mem hlt)
      have HST : Hid (mapI (ps.take (k + 1)) = (mapI (ps.take k)).put (.int .i64 (ps[k].1 : Int)) (.held (.int .i64 (ps[k].2 : Int)))) := by
        show _ = _
        rw [List.take_succ_eq_append_getElem hlt, mapI_snoc]
      generalize ps[k].1 = p1 at *
      generalize ps[k].2 = p2 at *
      have hkey := keyOfInt p1 h12
      go_wp2_with (at_mapUpdate; refine wpList_mapUpdate_own _ rfl _ _ _ 80 rfl 3 3 keyInt Try.underlying80 _ w.heap.size k _ rfl (hown.alloc _) (by unfold maxLen; omega) _ _ _ rfl rfl hkey (.held (.int .i64 (p2 : Int))) [] rfl ?_; intro w1 hown1 hgrow1)
      rw [← HST.out] at hown1
      have HO := Lib.hid hown1
      have HG := Lib.hid hgrow1
      clear hown1 hgrow1 hown
      go_roundw
      case rel => exact ⟨k + 1, by omega, by go_num, HO.out, (HB.out.alloc hsz _).grown HG.out (by simp; omega) (fun j hj => by cases hj; exact Nat.le_refl _)⟩
      case measure => simp [intOf]; omega
    · obtain rfl : k = ps.length := by omega
      have HO := Lib.hid hown
      clear hown hbel
      go_wp2
      go_ret
      exact ⟨rfl, by simpa using HO.out, HB.out⟩
end Go.Proofs.Ytaefibefagbheaa
