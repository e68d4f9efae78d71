/- Proved here: the value of a key of a thing, by the model's search and by the program's map; rows of at most 1,048,576 points and tags, texts of at most 1,048,576 bytes. -/
import Derived.Test.YtelimcknhaflfaaWFeatOk
namespace Go.Proofs.Ytelimcknhaflfaa
set_option linter.unusedVariables false
open Go.ChangeShapes Go.WideShapes Go.ChangeAt Go.RowKit Go.Maps

/-- the value at a key, the first -/
def getT : List Tg → ByteArray → Option ByteArray
  | [], _ => none
  | t :: r, k => if t.1 = k then some t.2 else getT r k

def getV (ts : List Tg) (k : ByteArray) : ByteArray := (getT ts k).getD .empty
def getB (ts : List Tg) (k : ByteArray) : Bool := (getT ts k).isSome

theorem getT_at : ∀ {ts : List Tg} {key : ByteArray} {k : Nat}, k < ts.length → (∀ j, j < k → tk ts j ≠ key) → tk ts k = key → getT ts key = some (tv ts k)
  | [], _, k, h, _, _ => absurd h (Nat.not_lt_zero _)
  | t :: r, key, 0, _, _, e => by
    have : t.1 = key := by simpa [tk] using e
    simp [getT, this, tv]
  | t :: r, key, k + 1, h, hall, e => by
    have h0 : t.1 ≠ key := by simpa [tk] using hall 0 (by omega)
    have ih := getT_at (ts := r) (key := key) (k := k) (by simpa using h) (fun j hj => by simpa [tk] using hall (j + 1) (by omega)) (by simpa [tk] using e)
    rw [getT, if_neg h0, ih]
    simp [tv]

theorem getT_none : ∀ {ts : List Tg} {key : ByteArray}, (∀ j, j < ts.length → tk ts j ≠ key) → getT ts key = none
  | [], _, _ => rfl
  | t :: r, key, hall => by
    have h0 : t.1 ≠ key := by simpa [tk] using hall 0 (by simp)
    rw [getT, if_neg h0]
    exact getT_none fun j hj => by simpa [tk] using hall (j + 1) (by simpa using hj)

theorem getT_some : ∀ {ts : List Tg} {key v : ByteArray}, getT ts key = some v → (key, v) ∈ ts
  | [], _, _, h => by simp [getT] at h
  | t :: r, key, v, h => by
    unfold getT at h
    split at h
    · rename_i e
      obtain rfl : t.2 = v := by simpa using h
      subst e
      exact .head _
    · exact .tail _ (getT_some h)

theorem getT_miss : ∀ {ts : List Tg} {key : ByteArray}, getT ts key = none → ∀ t ∈ ts, t.1 ≠ key
  | [], _, _, t, ht => by simp at ht
  | u :: r, key, h, t, ht => by
    unfold getT at h
    split at h
    · cases h
    · rename_i e
      rcases List.mem_cons.1 ht with rfl | h1
      · exact e
      · exact getT_miss h t h1

/-- what a look-up with 'ok' gives -/
theorem look_ok_held {w : World} {b n : Nat} {D : DataW Value} {us : List Tg} (hown : w.ownsMap Try.prog 9 heldElem b n D) (ht : Tells D us) (key : ByteArray) (hl : key.size ≤ maxLen) :
    ∃ x, (Instr.lookup 105 (.map (some b)) (.string key) true).run Try.prog w = .ok (.tuple #[.agg #[.string x, .string (getV us key)], .bool (getB us key)]) w := by
  have hz : (zeroValue 81).run Try.prog w = .ok (.agg #[.string .empty, .string .empty]) w := by kernel_rfl
  obtain ⟨v, ps, hrun, hv⟩ := hown.look_ok keyT Try.underlying105 hz (zd := .held (.agg #[.string .empty, .string .empty])) (zp := []) rfl (Go.WideMaps.keyOf_string_mk Try.underlying9 hl)
  simp only [heldElem, Option.some.injEq, Prod.mk.injEq] at hv
  cases hg : getT us key with
  | none =>
    have hn : Maps.has D (.string key.data.toList) = false := by
      cases hh : Maps.has D (.string key.data.toList)
      · rfl
      · obtain ⟨t, h1, h2⟩ := ht.has _ hh
        refine absurd ?_ (getT_miss hg t h1)
        rw [← toList_inj, ByteArray.toList_eq, ByteArray.toList_eq]
        exact h2
    have h3 := hv.1
    rw [atKey_of_not_has hn] at h3
    refine ⟨.empty, ?_⟩
    rw [hrun, DataW.held.inj h3, hn]
    simp [getV, getB, hg]
  | some y =>
    have hm := getT_some hg
    have h1 := ht.at_ _ hm
    have hh : Maps.has D (.string key.data.toList) = true := has_true_of_atKey h1
    have h3 := hv.1
    rw [show D.atKey (.string key.data.toList) _ = .held (tagV (key, y)) from h1 _] at h3
    refine ⟨key, ?_⟩
    rw [hrun, DataW.held.inj h3, hh]
    simp [getV, getB, hg, tagV]

def fgV (id : ByteArray) (k : Int) (ps : List (Int × Int)) (ts : List Tg) (key : ByteArray) : ByteArray := if featOk id k ps ts then getV ts key else .empty
def fgB (id : ByteArray) (k : Int) (ps : List (Int × Int)) (ts : List Tg) (key : ByteArray) : Bool := featOk id k ps ts && getB ts key

theorem featOk_asc {id : ByteArray} {k : Int} {ps : List (Int × Int)} {ts : List Tg} (h : featOk id k ps ts = true) : Asc ts := by
  simp [featOk] at h
  exact asc_of_good h.2.1

theorem tells_ok {id : ByteArray} {k : Int} {ps : List (Int × Int)} {ts : List Tg} (h : featOk id k ps ts = true) : Tells (mapOf ts) ts := by
  have := tells_mapOf ts
  rwa [told_asc (featOk_asc h)] at this

end Go.Proofs.Ytelimcknhaflfaa
