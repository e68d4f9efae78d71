/- Proved here: the value of a key of a thing, by the model's search and by the program's map; rows of at most 1,048,576 points and tags, texts of at most 1,048,576 bytes. -/
import Derived.Test.YtdfadpejddhbkaaWFeatOk
namespace Go.Proofs.Ytdfadpejddhbkaa
set_option linter.unusedVariables false
open Go.ChangeShapes Go.WideShapes Go.ChangeAt Go.RowKit Go.Maps

/-- the value at a key, the first -/
def getT : List Tg → ByteArray → Option ByteArray
  | [], _ => none
  | t :: r, k => if t.1 = k then some t.2 else getT r k

def getV (ts : List Tg) (k : ByteArray) : ByteArray := (getT ts k).getD .empty
def getB (ts : List Tg) (k : ByteArray) : Bool := (getT ts k).isSome

theorem getT_at : ∀ {ts : List Tg} {key : ByteArray} {k : Nat}, k < ts.length → (∀ j, j < k → tk ts j ≠ key) → tk ts k = key → getT ts key = some (tv ts k)
  | [], _, k, h, _, _ => absurd h (Nat.not_lt_zero _)
  | t :: r, key, 0, _, _, e => by
    have : t.1 = key := by simpa [tk] using e
    simp [getT, this, tv]
  | t :: r, key, k + 1, h, hall, e => by
    have h0 : t.1 ≠ key := by simpa [tk] using hall 0 (by omega)
    have ih := getT_at (ts := r) (key := key) (k := k) (by simpa using h) (fun j hj => by simpa [tk] using hall (j + 1) (by omega)) (by simpa [tk] using e)
    rw [getT, if_neg h0, ih]
    simp [tv]

theorem getT_none : ∀ {ts : List Tg} {key : ByteArray}, (∀ j, j < ts.length → tk ts j ≠ key) → getT ts key = none
  | [], _, _ => rfl
  | t :: r, key, hall => by
    have h0 : t.1 ≠ key := by simpa [tk] using hall 0 (by simp)
    rw [getT, if_neg h0]
    exact getT_none fun j hj => by simpa [tk] using hall (j + 1) (by simpa using hj)

theorem getT_some : ∀ {ts : List Tg} {key v : ByteArray}, getT ts key = some v → (key, v) ∈ ts
  | [], _, _, h => by simp [getT] at h
  | t :: r, key, v, h => by
    unfold getT at h
    split at h
    · rename_i e
      obtain rfl : t.2 = v := by simpa using h
      subst e
      exact .head _
    · exact .tail _ (getT_some h)

theorem getT_miss : ∀ {ts : List Tg} {key : ByteArray}, getT ts key = none → ∀ t ∈ ts, t.1 ≠ key
  | [], _, _, t, ht => by simp at ht
  | u :: r, key, h, t, ht => by
    unfold getT at h
    split at h
    · cases h
    · rename_i e
      rcases List.mem_cons.1 ht with rfl | h1
      · exact e
      · exact getT_miss h t h1

set_option maxHeartbeats 1000000 in
theorem l2Get_any (a : Option Addr) (cap : Nat) (ts : List Tg) (key : ByteArray) (w : World) (hp : TagsAt w a ts) (hl : ts.length ≤ 1048576) :
    Calls Try.prog 51 #[.slice a ts.length cap, .string key] w fun e w' => e = .returned (.tuple #[.string (getV ts key), .bool (getB ts key)]) ∧ w = w' := by
  have HP := Lib.hid hp
  clear hp
  go_enter Try.func51, Try.ntmps51
  go_wp2
  go_loop [6] (fun i => ∃ k : Nat, k ≤ ts.length ∧ i = .int .i64 k ∧ ∀ j, j < k → tk ts j ≠ key) (fun i => ts.length - (intOf i).toNat)
  case atStart => exact ⟨0, Nat.zero_le _, rfl, fun j h => absurd h (Nat.not_lt_zero _)⟩
  case round =>
    obtain ⟨k, hk, rfl, hall⟩ := hrel
    have HA := Lib.hid hall
    clear hall
    by_cases hlt : k < ts.length
    · obtain ⟨b, off, rfl, hb, hc1, hc2⟩ := HP.out k hlt
      have e1 := bytes_beq (tk ts k) key
      by_cases h1 : tk ts k = key
      · rw [decide_eq_true h1] at e1
        have HG : Hid (getT ts key = some (tv ts k)) := getT_at hlt HA.out h1
        clear h1
        go_wp2
        go_ret2
        exact ⟨by simp [getV, getB, HG.out], rfl⟩
      · rw [decide_eq_false h1] at e1
        have H1 := Lib.hid h1
        clear h1
        go_wp2
        go_round
        case rel => exact ⟨k + 1, by omega, by go_num, fun j hj => by by_cases e : j = k; (subst e; exact H1.out); exact HA.out j (by omega)⟩
        case measure => simp [intOf]; omega
    · obtain rfl : k = ts.length := by omega
      have HG : Hid (getT ts key = none) := getT_none HA.out
      go_wp2
      go_ret2
      exact ⟨by simp [getV, getB, HG.out]; rfl, rfl⟩

/-- what a look-up with 'ok' gives -/
theorem look_ok_held {w : World} {b n : Nat} {D : DataW Value} {us : List Tg} (hown : w.ownsMap Try.prog 9 heldElem b n D) (ht : Tells D us) (key : ByteArray) (hl : key.size ≤ maxLen) :
    ∃ x, (Instr.lookup 73 (.map (some b)) (.string key) true).run Try.prog w = .ok (.tuple #[.agg #[.string x, .string (getV us key)], .bool (getB us key)]) w := by
  have hz : (zeroValue 52).run Try.prog w = .ok (.agg #[.string .empty, .string .empty]) w := by kernel_rfl
  obtain ⟨v, ps, hrun, hv⟩ := hown.look_ok keyT Try.underlying73 hz (zd := .held (.agg #[.string .empty, .string .empty])) (zp := []) rfl (Go.WideMaps.keyOf_string_mk Try.underlying9 hl)
  simp only [heldElem, Option.some.injEq, Prod.mk.injEq] at hv
  cases hg : getT us key with
  | none =>
    have hn : Maps.has D (.string key.data.toList) = false := by
      cases hh : Maps.has D (.string key.data.toList)
      · rfl
      · obtain ⟨t, h1, h2⟩ := ht.has _ hh
        refine absurd ?_ (getT_miss hg t h1)
        rw [← toList_inj, ByteArray.toList_eq, ByteArray.toList_eq]
        exact h2
    have h3 := hv.1
    rw [atKey_of_not_has hn] at h3
    refine ⟨.empty, ?_⟩
    rw [hrun, DataW.held.inj h3, hn]
    simp [getV, getB, hg]
  | some y =>
    have hm := getT_some hg
    have h1 := ht.at_ _ hm
    have hh : Maps.has D (.string key.data.toList) = true := has_true_of_atKey h1
    have h3 := hv.1
    rw [show D.atKey (.string key.data.toList) _ = .held (tagV (key, y)) from h1 _] at h3
    refine ⟨key, ?_⟩
    rw [hrun, DataW.held.inj h3, hh]
    simp [getV, getB, hg, tagV]

def fgV (id : ByteArray) (k : Int) (ps : List (Int × Int)) (ts : List Tg) (key : ByteArray) : ByteArray := if featOk id k ps ts then getV ts key else .empty
def fgB (id : ByteArray) (k : Int) (ps : List (Int × Int)) (ts : List Tg) (key : ByteArray) : Bool := featOk id k ps ts && getB ts key

theorem featOk_asc {id : ByteArray} {k : Int} {ps : List (Int × Int)} {ts : List Tg} (h : featOk id k ps ts = true) : Asc ts := by
  simp [featOk] at h
  exact asc_of_good h.2.1

theorem tells_ok {id : ByteArray} {k : Int} {ps : List (Int × Int)} {ts : List Tg} (h : featOk id k ps ts = true) : Tells (mapOf ts) ts := by
  have := tells_mapOf ts
  rwa [told_asc (featOk_asc h)] at this

set_option maxRecDepth 100000 in
set_option maxHeartbeats 2000000 in
theorem specFeatGet_any (id : ByteArray) (k : Int) (a : Option Addr) (cap : Nat) (ps : List (Int × Int)) (c : Option Addr) (ca : Nat) (ts : List Tg) (key : ByteArray) (w : World) (hp : PtsAt w a ps) (ht : TagsAt w c ts) (hi : id.size ≤ 1048576) (hl : ps.length ≤ 1048576) (hm : ts.length ≤ 1048576) (hx : TagsLen ts 1048576) :
    Calls Try.prog 28 #[.agg #[.string id, .int .i64 k, .slice a ps.length cap, .slice c ts.length ca], .string key] w fun e w' => e = .returned (.tuple #[.string (fgV id k ps ts key), .bool (fgB id k ps ts key)]) ∧ Below w.heap.size w w' := by
  have HP := Lib.hid hp
  have HT := Lib.hid ht
  have HX := Lib.hid hx
  clear hp ht hx
  have A0 : Hid (∀ o, Below w.heap.size w (w.alloc o)) := fun o => (Below.refl _ _).alloc (Nat.le_refl _) _
  go_enter Try.func28, Try.ntmps28
  go_wp2_with fail
  refine (specFeatOk_any _ _ _ _ _ _ _ _ _ (HP.out.below (A0.out _)) (HT.out.below (A0.out _)) hi hl hm HX.out).mono ?_
  rintro e w1 ⟨rfl, hb1⟩
  have c3 := cell_later hb1 (a := ⟨w.heap.size, 3, none⟩) (v := .slice c ts.length ca) (by simp [go_sem])
  have B1 : Hid (Below w.heap.size w w1) := (A0.out _).trans (hb1.mono (by simp))
  clear hb1
  by_cases h1 : featOk id k ps ts = true
  · rw [h1]
    have H1 : Hid (fgV id k ps ts key = getV ts key ∧ fgB id k ps ts key = getB ts key) := by simp [Hid, fgV, fgB, h1]
    clear h1
    go_wp2_with fail
    refine (l2Get_any _ _ _ _ _ (HT.out.below B1.out) hm).mono ?_
    rintro e w2 ⟨rfl, rfl⟩
    go_wp2
    go_ret2
    exact ⟨by rw [H1.out.1, H1.out.2]; rfl, B1.out⟩
  · have h1' : featOk id k ps ts = false := by simpa using h1
    have H1 : Hid (fgV id k ps ts key = ⟨#[]⟩ ∧ fgB id k ps ts key = false) := ⟨by simp [fgV, h1']; rfl, by simp [fgB, h1']⟩
    rw [h1']
    clear h1 h1' c3
    go_wp2
    go_ret2
    exact ⟨by rw [H1.out.1, H1.out.2]; rfl, B1.out⟩

set_option maxRecDepth 100000 in
set_option maxHeartbeats 2000000 in
theorem implFeatGet_any (id : ByteArray) (k : Int) (a : Option Addr) (cap : Nat) (ps : List (Int × Int)) (c : Option Addr) (ca : Nat) (ts : List Tg) (key : ByteArray) (w : World) (hp : PtsAt w a ps) (ht : TagsAt w c ts) (hi : id.size ≤ 1048576) (hl : ps.length ≤ 1048576) (hm : ts.length ≤ 1048576) (hx : TagsLen ts 1048576) (hk : key.size ≤ 1048576) :
    Calls Try.prog 27 #[.agg #[.string id, .int .i64 k, .slice a ps.length cap, .slice c ts.length ca], .string key] w fun e w' => e = .returned (.tuple #[.string (fgV id k ps ts key), .bool (fgB id k ps ts key)]) ∧ Below w.heap.size w w' := by
  have HP := Lib.hid hp
  have HT := Lib.hid ht
  have HX := Lib.hid hx
  clear hp ht hx
  have A0 : Hid (∀ o, Below w.heap.size w (w.alloc o)) := fun o => (Below.refl _ _).alloc (Nat.le_refl _) _
  go_enter Try.func27, Try.ntmps27
  go_wp2_with fail
  refine (implFeatOk_any _ _ _ _ _ _ _ _ _ (HP.out.below (A0.out _)) (HT.out.below (A0.out _)) hi hl hm HX.out).mono ?_
  rintro e w1 ⟨rfl, hb1⟩
  have c3 := cell_later hb1 (a := ⟨w.heap.size, 3, none⟩) (v := .slice c ts.length ca) (by simp [go_sem])
  have B1 : Hid (Below w.heap.size w w1) := (A0.out _).trans (hb1.mono (by simp))
  clear hb1
  by_cases h1 : featOk id k ps ts = true
  · rw [h1]
    have H1 : Hid (fgV id k ps ts key = getV ts key ∧ fgB id k ps ts key = getB ts key) := by simp [Hid, fgV, fgB, h1]
    have TL := Lib.hid (tells_ok h1)
    clear h1
    go_wp2_with fail
    refine (tagsByKey_any _ _ _ _ (HT.out.below B1.out) hm (HX.out.mono (by omega))).mono ?_
    rintro e w2 ⟨rfl, hown, hb2⟩
    have B2 : Hid (Below w.heap.size w w2) := B1.out.trans (hb2.mono B1.out.size)
    have hz2 := B2.out.size
    obtain ⟨x, hlk⟩ := look_ok_held hown TL.out key (by unfold maxLen; omega)
    clear hown hb2 c3
    go_wp2
    go_ret2
    exact ⟨by rw [H1.out.1, H1.out.2]; rfl, B2.out.alloc hz2 _⟩
  · have h1' : featOk id k ps ts = false := by simpa using h1
    have H1 : Hid (fgV id k ps ts key = ⟨#[]⟩ ∧ fgB id k ps ts key = false) := ⟨by simp [fgV, h1']; rfl, by simp [fgB, h1']⟩
    rw [h1']
    clear h1 h1' c3
    go_wp2
    go_ret2
    exact ⟨by rw [H1.out.1, H1.out.2]; rfl, B1.out⟩
end Go.Proofs.Ytdfadpejddhbkaa
