/- Proved here: tags put into a map, each at its key, the later ones in the place of the earlier; at most 1,048,576 tags. -/
import Derived.Test.YtdfadpejddhbkaaWTagEq
import Derived.Test.YtdfadpejddhbkaaWFeat
import Derived.Maps.OwnSet
import Derived.Maps.Own
namespace Go.Proofs.Ytdfadpejddhbkaa
set_option linter.unusedVariables false
open Go.ChangeShapes Go.WideShapes Go.ChangeAt Go.RowKit Go.Maps

/-- an element of a map that no one else reads: the value itself -/
def heldElem (v : Value) : Option (DataW Value × List MemPlace) := some (.held v, [])
/-- a tag, as a value -/
def tagV (t : Tg) : Value := .agg #[.string t.1, .string t.2]
/-- a text, as a key -/
def keyL (s : ByteArray) : Lit := .string s.data.toList
/-- the map of tags -/
def mapOf (ts : List Tg) : DataW Value := ts.foldl (fun D t => D.put (keyL t.1) (.held (tagV t))) (.map [])

theorem mapOf_step {ts : List Tg} {k : Nat} (h : k < ts.length) : mapOf (ts.take (k + 1)) = (mapOf (ts.take k)).put (keyL (tk ts k)) (.held (.agg #[.string (tk ts k), .string (tv ts k)])) := by
  have h1 : ts.take (k + 1) = ts.take k ++ [(tk ts k, tv ts k)] := by
    have h2 : (tk ts k, tv ts k) = ts[k] := by simp [tk, tv, h]
    rw [h2]
    exact List.take_succ_eq_append_getElem h
  rw [h1, mapOf, List.foldl_append]
  rfl

theorem keyT : Keyed Try.prog 9 := string_keyed Try.underlying9

set_option maxHeartbeats 1000000 in
theorem tagsByKey_any (a : Option Addr) (cap : Nat) (ts : List Tg) (w : World) (hp : TagsAt w a ts) (hl : ts.length ≤ 1048576) (ht : TagsLen ts 9223372036854775807) :
    Calls Try.prog 47 #[.slice a ts.length cap] w fun e w' => e = .returned (.map (some w.heap.size)) ∧ w'.ownsMap Try.prog 9 heldElem w.heap.size ts.length (mapOf ts) ∧ Below w.heap.size w w' := by
  have HP := Lib.hid hp
  have HL := Lib.hid ht
  clear hp ht
  have hmm := @run_makeMap Try.prog
  go_enter Try.func47, Try.ntmps47
  go_wp2
  clear hmm
  go_loopw [5, 9] (fun _ i wr => ∃ k : Nat, k ≤ ts.length ∧ i = .int .i64 k ∧ wr.ownsMap Try.prog 9 heldElem w.heap.size k (mapOf (ts.take k)) ∧ Below w.heap.size w wr) (fun _ i _ => ts.length - (intOf i).toNat)
  case atStart => exact ⟨0, Nat.zero_le _, rfl, World.ownsMap_made _ _ _ _, (Below.refl _ _).alloc (Nat.le_refl _) _⟩
  case round =>
    obtain ⟨k, hk, rfl, hown, hbel⟩ := hrel
    have HB := Lib.hid hbel
    have hsz := hbel.size
    by_cases hlt : k < ts.length
    · obtain ⟨b, off, rfl, hb, hc1, hc2⟩ := HP.out k hlt
      rw [← hbel.cell (p := ⟨b, _, none⟩) hb] at hc1 hc2
      clear hbel
      have hkey : keyOf Try.prog 9 (.string (tk ts k)) = some (keyL (tk ts k)) := Go.WideMaps.keyOf_string_mk Try.underlying9 (by have := (HL.out k hlt).1; unfold maxLen; omega)
      go_wp2_with (at_mapUpdate; refine wpList_mapUpdate_own _ rfl _ _ _ 73 rfl 9 52 keyT Try.underlying73 _ w.heap.size k _ rfl (hown.alloc _) (by unfold maxLen; omega) _ _ _ rfl rfl hkey (.held (.agg #[.string (tk ts k), .string (tv ts k)])) [] rfl ?_; intro w1 hown1 hgrow1)
      rw [← mapOf_step hlt] at hown1
      have HO := Lib.hid hown1
      have HG := Lib.hid hgrow1
      clear hown1 hgrow1 hown
      go_roundw
      case rel => exact ⟨k + 1, by omega, by go_num, HO.out, (HB.out.alloc hsz _).grown HG.out (by simp; omega) (fun j hj => by cases hj; exact Nat.le_refl _)⟩
      case measure => simp [intOf]; omega
    · obtain rfl : k = ts.length := by omega
      have HO := Lib.hid hown
      clear hown hbel
      go_wp2
      go_ret
      exact ⟨rfl, by simpa using HO.out, HB.out⟩
end Go.Proofs.Ytdfadpejddhbkaa
