/- Proved here: the program's map without a name holds copies of the other things, in memory of its own; lists of at most 1,048,576 things, points and tags, texts of at most 1,048,576 bytes. -/
import Derived.Test.YtjphlpjippojiaaGreatWInOrderF
namespace Go.Proofs.YtjphlpjippojiaaGreat
set_option linter.unusedVariables false
open Go.ChangeShapes Go.WideShapes Go.ChangeAt Go.RowKit Go.Deep Go.Maps

/-- the things of other names -/
def cutL (fs : List Ft) (id : ByteArray) : List Ft := fs.filter (fun f => decide (f.1 ≠ id))
/-- what a map without a name is -/
def cutR (fs : List Ft) (id : ByteArray) : List Ft := if getHas fs id then cutL fs id else []

theorem ents_cons {w : World} {e : En} {es : List En} {f : Ft} {fs : List Ft} : Ents w (e :: es) (f :: fs) ↔ (e.1 = f.1 ∧ FeatV w e.2 f) ∧ Ents w es fs := by
  constructor
  · rintro ⟨h1, h2⟩
    refine ⟨?_, by simpa using h1, fun i hi => ?_⟩
    · have := h2 0 (by simp)
      simpa [ek, ev, fid, fg] using this
    · have := h2 (i + 1) (by simpa using hi)
      simpa [ek, ev, fid, fg] using this
  · rintro ⟨h0, h1, h2⟩
    refine ⟨by simpa using h1, fun i hi => ?_⟩
    cases i with
    | zero => simpa [ek, ev, fid, fg] using h0
    | succ i =>
      have := h2 i (by simpa using hi)
      simpa [ek, ev, fid, fg] using this

theorem ents_cut {w : World} (id : ByteArray) : ∀ {es : List En} {fs : List Ft}, Ents w es fs → Ents w (cutF es id.data.toList) (cutL fs id)
  | [], [], h => h
  | [], f :: fs, h => absurd h.1 (by simp)
  | e :: es, [], h => absurd h.1 (by simp)
  | e :: es, f :: fs, h => by
    obtain ⟨⟨h1, h2⟩, h3⟩ := ents_cons.1 h
    have ih := ents_cut id h3
    have he : (klF e ≠ id.data.toList) ↔ f.1 ≠ id := by
      unfold klF
      rw [h1]
      constructor
      · intro h e
        exact h (by rw [e])
      · intro h e
        refine h ?_
        rw [← toList_inj, ByteArray.toList_eq, ByteArray.toList_eq]
        exact e
    unfold cutF cutL at ih ⊢
    by_cases hf : f.1 ≠ id
    · rw [List.filter_cons_of_pos (by simpa using he.2 hf), List.filter_cons_of_pos (by simpa using hf)]
      exact ents_cons.2 ⟨⟨h1, h2⟩, ih⟩
    · rw [List.filter_cons_of_neg (by simpa using fun h => hf (he.1 h)), List.filter_cons_of_neg (by simpa using hf)]
      exact ih

theorem featsLen_iff {fs : List Ft} {m : Int} : FeatsLen fs m ↔ ∀ f ∈ fs, (f.1.size : Int) ≤ m ∧ (f.2.2.1.length : Int) ≤ m ∧ (f.2.2.2.length : Int) ≤ m ∧ TagsLen f.2.2.2 m := by
  constructor
  · intro h f hf
    obtain ⟨i, hi, rfl⟩ := List.getElem_of_mem hf
    have := h i hi
    simpa [fid, fps, fts, fg_get hi] using this
  · intro h i hi
    have := h fs[i] (List.getElem_mem hi)
    simpa [fid, fps, fts, fg_get hi] using this

theorem cutL_lens {fs : List Ft} {m : Int} (id : ByteArray) (h : FeatsLen fs m) : FeatsLen (cutL fs id) m := featsLen_iff.2 fun f hf => featsLen_iff.1 h f ((List.mem_filter.1 hf).1)
theorem cutL_len (fs : List Ft) (id : ByteArray) : (cutL fs id).length ≤ fs.length := List.length_filter_le _ _

/-- what a function answers that makes a list of things, and says whether -/
def ListAns (w : World) (gs : List Ft) (b : Bool) (e : Ending) (w' : World) : Prop :=
  (∃ v ad, e = .returned (.tuple #[v, .bool b]) ∧ Built w' w.heap.size v gs.length gs ad) ∧ Below w.heap.size w w'

set_option maxRecDepth 100000 in
set_option maxHeartbeats 4000000 in
theorem implSheetCut_any (a : Option Addr) (cap : Nat) (fs : List Ft) (id : ByteArray) (w : World) (hp : FeatsAt w a fs) (hl : fs.length ≤ 1048576) (ht : FeatsLen fs 1048576) (hi : id.size ≤ 1048576) :
    Calls Tryz.prog 21 #[.slice a fs.length cap, .string id] w (ListAns w (cutR fs id) (getHas fs id)) := by
  have HP := Lib.hid hp
  have HL := Lib.hid ht
  clear hp ht
  go_enter Tryz.func21, Tryz.ntmps21
  go_wp2_with fail
  refine (implSheetOk_any _ _ _ _ HP.out hl HL.out).mono ?_
  rintro e w1 ⟨rfl, hb1⟩
  have B1 := Lib.hid hb1
  clear hb1
  by_cases hok : sheetOk fs = true
  · rw [hok]
    go_wp2_with fail
    refine (featsByName_any _ _ _ _ (HP.out.below B1.out) hl HL.out).mono ?_
    rintro e w2 ⟨rfl, ⟨es, he, ho⟩, hb2⟩
    have B2 : Hid (Below w.heap.size w w2) := B1.out.trans (hb2.mono B1.out.size)
    have HE := Lib.hid (he.below hb2)
    have HE1 := Lib.hid he
    have BB2 := Lib.hid hb2
    have hsz2 := hb2.size
    have hsz1 := B1.out.size
    have holt := ho.lt
    clear hb2
    by_cases hlt : firstF fs id < fs.length
    · have hat := firstF_at hlt
      have HH : Hid (getHas fs id = true) := by show _ = _; simp [getHas, hok, hlt]
      have HG : Hid (cutR fs id = cutL fs id) := by show _ = _; unfold cutR; rw [HH.out, if_pos rfl]
      obtain ⟨l1, l2, l3, _⟩ := HL.out (firstF fs id) hlt
      have hlk := look_hit ho he hok hlt (by unfold maxLen; omega)
      rw [hat] at hlk
      obtain ⟨pa, pc, ta, tc, hev, _⟩ := (HE.out.2 _ hlt).2
      rw [hev] at hlk
      have TL := Lib.hid (ok_tells he hok)
      have hkey : keyOf Tryz.prog 9 (.string id) = some (.string id.data.toList) := Go.WideMaps.keyOf_string_mk Tryz.underlying9 (by unfold maxLen; omega)
      clear he hok hev
      go_wp2_with (at_delete; refine wpList_delete_own _ rfl _ _ 54 9 rfl 29 keyT Tryz.underlying54 _ w1.heap.size fs.length (mapF es) rfl (ho.alloc _) _ _ rfl hkey ?_; intro w4 hown4 hturn4)
      have B4 : Hid (Below w1.heap.size w1 w4) := (BB2.out.alloc hsz2 _).grown hturn4.grown (by simp; omega) (fun j e => by obtain rfl : w1.heap.size = j := (by simpa using e); exact Nat.le_refl _)
      have O4 := Lib.hid hown4
      clear hown4 hturn4 ho hlk
      go_wp2_with fail
      refine (featsInOrder_any w1.heap.size _ _ (cutF es id.data.toList) (cutL fs id) _ O4.out (TL.out.cut _) (ents_cut id (HE1.out.below B4.out)) (by omega) (cutL_lens id HL.out)).mono ?_
      rintro e w5 ⟨⟨v, ad, rfl, hbu⟩, hl5, hb5⟩
      have B5 : Hid (Below w.heap.size w w5) := (B1.out.trans (B4.out.mono hsz1)).trans (hb5.mono (Nat.le_trans hsz1 B4.out.size))
      have HBu : Hid (Built w5 w.heap.size v (cutL fs id).length (cutL fs id) ad) := hbu.mono (Nat.le_trans hsz1 B4.out.size)
      clear hbu hb5
      go_wp2
      go_ret2
      rw [HH.out, HG.out]
      exact ⟨⟨v, ad, rfl, HBu.out⟩, B5.out⟩
    · have HH : Hid (getHas fs id = false) := by show _ = _; simp [getHas, hlt]
      have HG : Hid (cutR fs id = []) := by show _ = _; unfold cutR; rw [HH.out]; rfl
      have hlk := look_miss ho he (firstF_none hlt) (by unfold maxLen; omega)
      rw [show (ByteArray.empty) = ⟨#[]⟩ from rfl] at hlk
      clear ho he hok hlt
      go_wp2
      go_ret2
      rw [HH.out, HG.out]
      exact ⟨⟨_, fun _ => ((none, 0), (none, 0)), rfl, built_none _ _ _ _⟩, B2.out.alloc B2.out.size _⟩
  · have hok' : sheetOk fs = false := by simpa using hok
    have HH : Hid (getHas fs id = false) := by show _ = _; simp [getHas, hok']
    have HG : Hid (cutR fs id = []) := by show _ = _; unfold cutR; rw [HH.out]; rfl
    rw [hok']
    clear hok hok'
    go_wp2
    go_ret2
    rw [HH.out, HG.out]
    exact ⟨⟨_, fun _ => ((none, 0), (none, 0)), rfl, built_none _ _ _ _⟩, B1.out⟩
end Go.Proofs.YtjphlpjippojiaaGreat
