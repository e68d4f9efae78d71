/- Proved here: the places of branches put into a map, each at its name, the later ones in the place of the earlier; at most 1,048,576 branches. -/
import Derived.Test.YtdchfologicbeaaGreatWHeads
import Derived.Test.YtdchfologicbeaaGreatWByKey
import Derived.Maps.Views
namespace Go.Proofs.YtdchfologicbeaaGreat
set_option linter.unusedVariables false
open Go.ChangeShapes Go.WideShapes Go.ChangeAt Go.RowKit Go.Maps

/-- the map of the places of the first branches -/
def mapH (hs : List Hd) : Nat → DataW Value
  | 0 => .map []
  | k + 1 => (mapH hs k).put (keyL (hdn hs k)) (.held (.int .i64 k))

theorem keyL_inj {x y : ByteArray} (h : keyL x = keyL y) : x = y := by
  have := Lit.string.inj h
  rw [← toList_inj, ByteArray.toList_eq, ByteArray.toList_eq]
  exact this

theorem mapH_tidy (hs : List Hd) : ∀ k, Tidy (mapH hs k)
  | 0 => tidy_empty
  | k + 1 => (mapH_tidy hs k).put (show WideAt.IsKeyLit (keyL _) from trivial) _

theorem has_mapH (hs : List Hd) (x : ByteArray) : ∀ k, Maps.has (mapH hs k) (keyL x) = true ↔ ∃ j, j < k ∧ hdn hs j = x
  | 0 => by simp [mapH, Maps.has]
  | k + 1 => by
    by_cases e : hdn hs k = x
    · subst e
      have : Maps.has (mapH hs (k + 1)) (keyL (hdn hs k)) = true := has_put_same (mapH_tidy hs k).isMap (show WideAt.IsKeyLit (keyL _) from trivial) _
      rw [this]
      exact ⟨fun _ => ⟨k, by omega, rfl⟩, fun _ => rfl⟩
    · have : Maps.has (mapH hs (k + 1)) (keyL x) = Maps.has (mapH hs k) (keyL x) := has_put_other (fun h => e (keyL_inj h).symm) _
      rw [this, has_mapH hs x k]
      constructor
      · rintro ⟨j, h1, h2⟩
        exact ⟨j, by omega, h2⟩
      · rintro ⟨j, h1, h2⟩
        refine ⟨j, ?_, h2⟩
        have : j ≠ k := fun h => e (h ▸ h2)
        omega

theorem at_mapH (hs : List Hd) (j : Nat) : ∀ k, j < k → (∀ i, j < i → i < k → hdn hs i ≠ hdn hs j) → ∀ z, (mapH hs k).atKey (keyL (hdn hs j)) z = .held (.int .i64 j)
  | 0, h, _, _ => absurd h (Nat.not_lt_zero _)
  | k + 1, h, hn, z => by
    by_cases e : j = k
    · subst e
      exact atKey_put_same (mapH_tidy hs j).isMap (show WideAt.IsKeyLit (keyL _) from trivial) _ _
    · have h1 : hdn hs k ≠ hdn hs j := hn k (by omega) (by omega)
      have : (mapH hs (k + 1)).atKey (keyL (hdn hs j)) z = (mapH hs k).atKey (keyL (hdn hs j)) z := atKey_put_other (fun h => h1 (keyL_inj h).symm) _ _
      rw [this]
      exact at_mapH hs j k (by omega) (fun i hi hk => hn i hi (by omega)) z

theorem size_mapH_le (hs : List Hd) : ∀ k, Maps.size (mapH hs k) ≤ k
  | 0 => Nat.le_refl _
  | k + 1 => by
    have h : Maps.size (mapH hs (k + 1)) = _ := size_put (mapH_tidy hs k) (.held (.int .i64 k))
    have := size_mapH_le hs k
    rw [h]
    split <;> omega

/-- no name of the first ones comes twice -/
def NamesApart (hs : List Hd) (k : Nat) : Prop := ∀ i j, j < i → i < k → hdn hs j ≠ hdn hs i

theorem size_mapH (hs : List Hd) : ∀ k, Maps.size (mapH hs k) = k ↔ NamesApart hs k
  | 0 => ⟨fun _ i j _ h => absurd h (Nat.not_lt_zero _), fun _ => rfl⟩
  | k + 1 => by
    have h : Maps.size (mapH hs (k + 1)) = _ := size_put (mapH_tidy hs k) (.held (.int .i64 k))
    have hl := size_mapH_le hs k
    have ih := size_mapH hs k
    have hh := has_mapH hs (hdn hs k) k
    rw [h]
    constructor
    · intro e
      split at e
      · omega
      · rename_i hn
        have ha : NamesApart hs k := ih.1 (by omega)
        intro i j hj hi
        by_cases e2 : i = k
        · subst e2
          exact fun h3 => hn (hh.2 ⟨j, hj, h3⟩)
        · exact ha i j hj (by omega)
    · intro ha
      have hn : ¬ Maps.has (mapH hs k) (keyL (hdn hs k)) = true := fun h2 => by
        obtain ⟨j, h3, h4⟩ := hh.1 h2
        exact ha k j h3 (by omega) h4
      rw [if_neg hn, ih.2 fun i j hj hi => ha i j hj (by omega)]

set_option maxHeartbeats 1000000 in
theorem headsByName_any (a : Option Addr) (cap : Nat) (hs : List Hd) (w : World) (hp : HeadsAt w a hs) (hl : hs.length ≤ 1048576) (ht : HeadsLen hs 9223372036854775807) :
    Calls Tryz.prog 106 #[.slice a hs.length cap] w fun e w' => e = .returned (.map (some w.heap.size)) ∧ w'.ownsMap Tryz.prog 9 heldElem w.heap.size hs.length (mapH hs hs.length) ∧ Below w.heap.size w w' := by
  have HP := Lib.hid hp
  have HL := Lib.hid ht
  clear hp ht
  have hmm := @run_makeMap Tryz.prog
  go_enter Tryz.func106, Tryz.ntmps106
  go_wp2
  clear hmm
  go_loopw [4, 5, 9] (fun _ _ i wr => ∃ k : Nat, k ≤ hs.length ∧ i = .int .i64 k ∧ wr.ownsMap Tryz.prog 9 heldElem w.heap.size k (mapH hs k) ∧ Below w.heap.size w wr) (fun _ _ i _ => hs.length - (intOf i).toNat)
  case atStart => exact ⟨0, Nat.zero_le _, rfl, World.ownsMap_made _ _ _ _, (Below.refl _ _).alloc (Nat.le_refl _) _⟩
  case round =>
    obtain ⟨k, hk, rfl, hown, hbel⟩ := hrel
    have HB := Lib.hid hbel
    have hsz := hbel.size
    by_cases hlt : k < hs.length
    · obtain ⟨b, off, rfl, hb, hc1, hc2⟩ := HP.out k hlt
      rw [← hbel.cell (p := ⟨b, _, none⟩) hb] at hc1 hc2
      clear hbel
      have hkey : keyOf Tryz.prog 9 (.string (hdn hs k)) = some (keyL (hdn hs k)) := Go.WideMaps.keyOf_string_mk Tryz.underlying9 (by have := HL.out k hlt; unfold maxLen; omega)
      go_wp2_with (at_mapUpdate; refine wpList_mapUpdate_own _ rfl _ _ _ 146 rfl 9 3 keyT Tryz.underlying146 _ w.heap.size k _ rfl (hown.alloc _) (by unfold maxLen; omega) _ _ _ rfl rfl hkey (.held (.int .i64 k)) [] rfl ?_; intro w1 hown1 hgrow1)
      have HO : Hid (w1.ownsMap Tryz.prog 9 heldElem w.heap.size (k + 1) (mapH hs (k + 1))) := hown1
      have HG := Lib.hid hgrow1
      clear hown1 hgrow1 hown
      go_roundw
      case rel => exact ⟨k + 1, by omega, by go_num, HO.out, (HB.out.alloc hsz _).grown HG.out (by simp; omega) (fun j hj => by cases hj; exact Nat.le_refl _)⟩
      case measure => simp [intOf]; omega
    · obtain rfl : k = hs.length := by omega
      have HO := Lib.hid hown
      clear hown hbel
      go_wp2
      go_ret
      exact ⟨rfl, HO.out, HB.out⟩

/-- where a branch of that name is, the last -/
def lastH (hs : List Hd) (x : ByteArray) : Nat → Option Nat
  | 0 => none
  | k + 1 => if hdn hs k = x then some k else lastH hs x k

theorem lastH_some {hs : List Hd} {x : ByteArray} : ∀ {k j : Nat}, lastH hs x k = some j → j < k ∧ hdn hs j = x ∧ ∀ i, j < i → i < k → hdn hs i ≠ x
  | 0, _, h => by cases h
  | k + 1, j, h => by
    unfold lastH at h
    split at h
    · rename_i e
      cases h
      exact ⟨by omega, e, fun i h1 h2 => absurd h2 (by omega)⟩
    · rename_i e
      obtain ⟨h1, h2, h3⟩ := lastH_some h
      exact ⟨by omega, h2, fun i hi hk => by by_cases q : i = k; (subst q; exact e); exact h3 i hi (by omega)⟩

theorem lastH_none {hs : List Hd} {x : ByteArray} : ∀ {k : Nat}, lastH hs x k = none → ∀ i, i < k → hdn hs i ≠ x
  | 0, _, i, hi => absurd hi (Nat.not_lt_zero _)
  | k + 1, h, i, hi => by
    unfold lastH at h
    split at h
    · cases h
    · rename_i e
      by_cases q : i = k
      · subst q
        exact e
      · exact lastH_none h i (by omega)

/-- the first branch of that name, among branches whose names are apart -/
theorem lastH_first {hs : List Hd} {x : ByteArray} {k j : Nat} (ha : NamesApart hs k) (hj : j < k) (e : hdn hs j = x) : lastH hs x k = some j := by
  cases h : lastH hs x k with
  | none => exact absurd e (lastH_none h j hj)
  | some i =>
    obtain ⟨h1, h2, _⟩ := lastH_some h
    by_cases q1 : i < j
    · exact absurd (h2.trans e.symm) (ha j i q1 hj)
    · by_cases q2 : j < i
      · exact absurd (e.trans h2.symm) (ha i j q2 h1)
      · rw [show i = j by omega]

/-- what a look-up with 'ok' gives -/
theorem look_head {w : World} {b n : Nat} {hs : List Hd} {k : Nat} (hown : w.ownsMap Tryz.prog 9 heldElem b n (mapH hs k)) (x : ByteArray) (hl : x.size ≤ maxLen) :
    (Instr.lookup 146 (.map (some b)) (.string x) true).run Tryz.prog w = .ok (.tuple #[.int .i64 (match lastH hs x k with | some j => j | none => 0), .bool (lastH hs x k).isSome]) w := by
  have hz : (zeroValue 3).run Tryz.prog w = .ok (.int .i64 0) w := by kernel_rfl
  obtain ⟨v, ps, hrun, hv⟩ := hown.look_ok keyT Tryz.underlying146 hz (zd := .held (.int .i64 0)) (zp := []) rfl (Go.WideMaps.keyOf_string_mk Tryz.underlying9 hl)
  simp only [heldElem, Option.some.injEq, Prod.mk.injEq] at hv
  cases hg : lastH hs x k with
  | none =>
    have hn : Maps.has (mapH hs k) (keyL x) = false := by
      cases hh : Maps.has (mapH hs k) (keyL x)
      · rfl
      · obtain ⟨j, h1, h2⟩ := (has_mapH hs x k).1 hh
        exact absurd h2 (lastH_none hg j h1)
    have h3 := hv.1
    rw [show (Lit.string x.data.toList) = keyL x from rfl, atKey_of_not_has hn] at h3
    rw [hrun, DataW.held.inj h3, show (Lit.string x.data.toList) = keyL x from rfl, hn]
    rfl
  | some j =>
    obtain ⟨h1, h2, h4⟩ := lastH_some hg
    have hh : Maps.has (mapH hs k) (keyL x) = true := (has_mapH hs x k).2 ⟨j, h1, h2⟩
    have h3 := hv.1
    subst h2
    rw [show (Lit.string (hdn hs j).data.toList) = keyL (hdn hs j) from rfl, at_mapH hs j k h1 h4] at h3
    rw [hrun, DataW.held.inj h3, show (Lit.string (hdn hs j).data.toList) = keyL (hdn hs j) from rfl, hh]
    rfl
end Go.Proofs.YtdchfologicbeaaGreat
