/- Proved here: the two functions that ask whether a thing is one answer as the plain definition 'featOk' says; rows of at most 1,048,576 points and tags, texts of at most 1,048,576 bytes. Proved here: the value of a key of a thing, by the model's search and by the program's map; rows of at most 1,048,576 points and tags, texts of at most 1,048,576 bytes. Proved here: the model puts a tag among tags as the plain definition 'putS' says, in memory of its own; at most 1,048,576 tags. Proved here: the draw of a thing is a thing of at most six points and three tags, in memory of its own, and turns nothing but the reader's place; codes of at most 2,000 bytes. Proved here: a thing is copied part by part into memory of its own; rows of at most 1,048,576 points and tags. Proved here: the size of a list of things, and that it is copied thing by thing into memory of its own; lists of at most 1,048,576 things, points and tags. Proved here: the three functions that hold two things against each other answer whether they are the same in all parts; rows of at most 1,048,576 points and tags. Proved here: the three functions that hold two lists of things against each other answer whether they are the same lists; lists of at most 1,048,576 things, points and tags. Proved here: a region that draws its order, whose operations only read and whose callees write no memory that was there ahead of the region: one walk of the order of the text serves every order; no condition. -/
import Derived.Test.YtdfadpejddhbkaaGreatWTagsOkI
import Derived.Test.YtdfadpejddhbkaaGreatWSpecOk
import Derived.Test.YtdfadpejddhbkaaGreatWImplOk
import Derived.Test.YtdfadpejddhbkaaGreatWCopyF
import Derived.Test.YtdfadpejddhbkaaGreatWDrawF
import Derived.Test.YtdfadpejddhbkaaGreatWDrawBent
import Derived.Test.YtdfadpejddhbkaaGreatWFeat
import Derived.Test.YtdfadpejddhbkaaGreatWBox4
import Derived.StillTailTactics
import Derived.Test.YtdfadpejddhbkaaGreatWBase
import Derived.Deep.Quiet
namespace Go.Proofs.YtdfadpejddhbkaaGreat
set_option linter.unusedVariables false
open Go.ChangeShapes Go.WideShapes Go.ChangeAt Go.RowKit

/-- a thing is one -/
def featOk (id : ByteArray) (k : Int) (ps : List (Int × Int)) (ts : List Tg) : Bool := wordOk id && shapeOk k ps && (tagsGood ts && decide (ts.length ≤ 4))

set_option maxRecDepth 100000 in
set_option maxHeartbeats 2000000 in
theorem specFeatOk_any (id : ByteArray) (k : Int) (a : Option Addr) (cap : Nat) (ps : List (Int × Int)) (c : Option Addr) (ca : Nat) (ts : List Tg) (w : World) (hp : PtsAt w a ps) (ht : TagsAt w c ts) (hi : id.size ≤ 1048576) (hl : ps.length ≤ 1048576) (hm : ts.length ≤ 1048576) (hx : TagsLen ts 1048576) :
    Calls Tryz.prog 74 #[.agg #[.string id, .int .i64 k, .slice a ps.length cap, .slice c ts.length ca]] w fun e w' => e = .returned (.bool (featOk id k ps ts)) ∧ Below w.heap.size w w' := by
  have HP := Lib.hid hp
  have HT := Lib.hid ht
  have HX := Lib.hid hx
  clear hp ht hx
  have A0 : Hid (∀ o, Below w.heap.size w (w.alloc o)) := fun o => (Below.refl _ _).alloc (Nat.le_refl _) _
  go_enter Tryz.func74, Tryz.ntmps74
  go_wp2_with fail
  refine (specWordOk_any _ _ hi).mono ?_
  rintro e w1 ⟨rfl, rfl⟩
  have c1 : (w.alloc (.cells #[.string id, .int .i64 k, .slice a ps.length cap, .slice c ts.length ca] 33)).cell? ⟨w.heap.size, 1, none⟩ = some (.int .i64 k) := by simp [go_sem]
  have c2 : (w.alloc (.cells #[.string id, .int .i64 k, .slice a ps.length cap, .slice c ts.length ca] 33)).cell? ⟨w.heap.size, 2, none⟩ = some (.slice a ps.length cap) := by simp [go_sem]
  have c3 : (w.alloc (.cells #[.string id, .int .i64 k, .slice a ps.length cap, .slice c ts.length ca] 33)).cell? ⟨w.heap.size, 3, none⟩ = some (.slice c ts.length ca) := by simp [go_sem]
  have B1 : Hid (Below w.heap.size w (w.alloc (.cells #[.string id, .int .i64 k, .slice a ps.length cap, .slice c ts.length ca] 33))) := A0.out _
  generalize (w.alloc (.cells #[.string id, .int .i64 k, .slice a ps.length cap, .slice c ts.length ca] 33)) = w1 at *
  by_cases h1 : wordOk id = true
  · rw [h1]
    go_wp2_with fail
    refine (specShapeOk_any _ _ _ _ _ (HP.out.below B1.out) hl).mono ?_
    rintro e w2 ⟨rfl, hb2⟩
    replace c3 := cell_later hb2 c3
    have B2 : Hid (Below w.heap.size w w2) := B1.out.trans (hb2.mono B1.out.size)
    clear hb2 c1 c2
    by_cases h2 : shapeOk k ps = true
    · rw [h2]
      have H2 : Hid (featOk id k ps ts = (tagsGood ts && decide (ts.length ≤ 4))) := by simp [Hid, featOk, h1, h2]
      clear h1 h2
      go_wp2_with fail
      refine (l2Tags_any _ _ _ _ (HT.out.below B2.out) hm HX.out).mono ?_
      rintro e w3 ⟨rfl, n, rfl⟩
      have B3 : Hid (Below w.heap.size w (w2.drewN n)) := below_drewN B2.out n
      clear c3
      go_wp2
      go_ret
      exact ⟨by rw [H2.out]; rfl, B3.out⟩
    · have h2' : shapeOk k ps = false := by simpa using h2
      have H2 : Hid (featOk id k ps ts = false) := by simp [Hid, featOk, h2']
      rw [h2']
      clear h1 h2 h2' c3
      go_wp2
      go_ret
      exact ⟨by rw [H2.out]; rfl, B2.out⟩
  · have h1' : wordOk id = false := by simpa using h1
    have H1 : Hid (featOk id k ps ts = false) := by simp [Hid, featOk, h1']
    rw [h1']
    clear h1 h1' c1 c2 c3
    go_wp2
    go_ret
    exact ⟨by rw [H1.out]; rfl, B1.out⟩

set_option maxRecDepth 100000 in
set_option maxHeartbeats 2000000 in
theorem implFeatOk_any (id : ByteArray) (k : Int) (a : Option Addr) (cap : Nat) (ps : List (Int × Int)) (c : Option Addr) (ca : Nat) (ts : List Tg) (w : World) (hp : PtsAt w a ps) (ht : TagsAt w c ts) (hi : id.size ≤ 1048576) (hl : ps.length ≤ 1048576) (hm : ts.length ≤ 1048576) (hx : TagsLen ts 1048576) :
    Calls Tryz.prog 67 #[.agg #[.string id, .int .i64 k, .slice a ps.length cap, .slice c ts.length ca]] w fun e w' => e = .returned (.bool (featOk id k ps ts)) ∧ Below w.heap.size w w' := by
  have HP := Lib.hid hp
  have HT := Lib.hid ht
  have HX := Lib.hid hx
  clear hp ht hx
  have A0 : Hid (∀ o, Below w.heap.size w (w.alloc o)) := fun o => (Below.refl _ _).alloc (Nat.le_refl _) _
  go_enter Tryz.func67, Tryz.ntmps67
  go_wp2_with fail
  refine (implWordOk_any _ _ hi).mono ?_
  rintro e w1 ⟨rfl, hb1⟩
  have c1 := cell_later hb1 (a := ⟨w.heap.size, 1, none⟩) (v := .int .i64 k) (by simp [go_sem])
  have c2 := cell_later hb1 (a := ⟨w.heap.size, 2, none⟩) (v := .slice a ps.length cap) (by simp [go_sem])
  have c3 := cell_later hb1 (a := ⟨w.heap.size, 3, none⟩) (v := .slice c ts.length ca) (by simp [go_sem])
  have B1 : Hid (Below w.heap.size w w1) := (A0.out _).trans (hb1.mono (by simp))
  clear hb1
  by_cases h1 : wordOk id = true
  · rw [h1]
    go_wp2_with fail
    refine (implShapeOk_any _ _ _ _ _ (HP.out.below B1.out)).mono ?_
    rintro e w2 ⟨rfl, hb2⟩
    replace c3 := cell_later hb2 c3
    have B2 : Hid (Below w.heap.size w w2) := B1.out.trans (hb2.mono B1.out.size)
    clear hb2 c1 c2
    by_cases h2 : shapeOk k ps = true
    · rw [h2]
      have H2 : Hid (featOk id k ps ts = (tagsGood ts && decide (ts.length ≤ 4))) := by simp [Hid, featOk, h1, h2]
      clear h1 h2
      go_wp2_with fail
      refine (implTagsOk_any _ _ _ _ (HT.out.below B2.out) hm HX.out).mono ?_
      rintro e w3 ⟨rfl, hb3⟩
      have B3 : Hid (Below w.heap.size w w3) := B2.out.trans (hb3.mono B2.out.size)
      clear hb3
      clear c3
      go_wp2
      go_ret
      exact ⟨by rw [H2.out]; rfl, B3.out⟩
    · have h2' : shapeOk k ps = false := by simpa using h2
      have H2 : Hid (featOk id k ps ts = false) := by simp [Hid, featOk, h2']
      rw [h2']
      clear h1 h2 h2' c3
      go_wp2
      go_ret
      exact ⟨by rw [H2.out]; rfl, B2.out⟩
  · have h1' : wordOk id = false := by simpa using h1
    have H1 : Hid (featOk id k ps ts = false) := by simp [Hid, featOk, h1']
    rw [h1']
    clear h1 h1' c1 c2 c3
    go_wp2
    go_ret
    exact ⟨by rw [H1.out]; rfl, B1.out⟩
end Go.Proofs.YtdfadpejddhbkaaGreat

namespace Go.Proofs.YtdfadpejddhbkaaGreat
set_option linter.unusedVariables false
open Go.ChangeShapes Go.WideShapes Go.ChangeAt Go.RowKit Go.Maps

/-- the value at a key, the first -/
def getT : List Tg → ByteArray → Option ByteArray
  | [], _ => none
  | t :: r, k => if t.1 = k then some t.2 else getT r k

def getV (ts : List Tg) (k : ByteArray) : ByteArray := (getT ts k).getD .empty
def getB (ts : List Tg) (k : ByteArray) : Bool := (getT ts k).isSome

theorem getT_at : ∀ {ts : List Tg} {key : ByteArray} {k : Nat}, k < ts.length → (∀ j, j < k → tk ts j ≠ key) → tk ts k = key → getT ts key = some (tv ts k)
  | [], _, k, h, _, _ => absurd h (Nat.not_lt_zero _)
  | t :: r, key, 0, _, _, e => by
    have : t.1 = key := by simpa [tk] using e
    simp [getT, this, tv]
  | t :: r, key, k + 1, h, hall, e => by
    have h0 : t.1 ≠ key := by simpa [tk] using hall 0 (by omega)
    have ih := getT_at (ts := r) (key := key) (k := k) (by simpa using h) (fun j hj => by simpa [tk] using hall (j + 1) (by omega)) (by simpa [tk] using e)
    rw [getT, if_neg h0, ih]
    simp [tv]

theorem getT_none : ∀ {ts : List Tg} {key : ByteArray}, (∀ j, j < ts.length → tk ts j ≠ key) → getT ts key = none
  | [], _, _ => rfl
  | t :: r, key, hall => by
    have h0 : t.1 ≠ key := by simpa [tk] using hall 0 (by simp)
    rw [getT, if_neg h0]
    exact getT_none fun j hj => by simpa [tk] using hall (j + 1) (by simpa using hj)

theorem getT_some : ∀ {ts : List Tg} {key v : ByteArray}, getT ts key = some v → (key, v) ∈ ts
  | [], _, _, h => by simp [getT] at h
  | t :: r, key, v, h => by
    unfold getT at h
    split at h
    · rename_i e
      obtain rfl : t.2 = v := by simpa using h
      subst e
      exact .head _
    · exact .tail _ (getT_some h)

theorem getT_miss : ∀ {ts : List Tg} {key : ByteArray}, getT ts key = none → ∀ t ∈ ts, t.1 ≠ key
  | [], _, _, t, ht => by simp at ht
  | u :: r, key, h, t, ht => by
    unfold getT at h
    split at h
    · cases h
    · rename_i e
      rcases List.mem_cons.1 ht with rfl | h1
      · exact e
      · exact getT_miss h t h1

/-- what a look-up with 'ok' gives -/
theorem look_ok_held {w : World} {b n : Nat} {D : DataW Value} {us : List Tg} (hown : w.ownsMap Tryz.prog 9 heldElem b n D) (ht : Tells D us) (key : ByteArray) (hl : key.size ≤ maxLen) :
    ∃ x, (Instr.lookup 189 (.map (some b)) (.string key) true).run Tryz.prog w = .ok (.tuple #[.agg #[.string x, .string (getV us key)], .bool (getB us key)]) w := by
  have hz : (zeroValue 92).run Tryz.prog w = .ok (.agg #[.string .empty, .string .empty]) w := by kernel_rfl
  obtain ⟨v, ps, hrun, hv⟩ := hown.look_ok keyT Tryz.underlying189 hz (zd := .held (.agg #[.string .empty, .string .empty])) (zp := []) rfl (Go.WideMaps.keyOf_string_mk Tryz.underlying9 hl)
  simp only [heldElem, Option.some.injEq, Prod.mk.injEq] at hv
  cases hg : getT us key with
  | none =>
    have hn : Maps.has D (.string key.data.toList) = false := by
      cases hh : Maps.has D (.string key.data.toList)
      · rfl
      · obtain ⟨t, h1, h2⟩ := ht.has _ hh
        refine absurd ?_ (getT_miss hg t h1)
        rw [← toList_inj, ByteArray.toList_eq, ByteArray.toList_eq]
        exact h2
    have h3 := hv.1
    rw [atKey_of_not_has hn] at h3
    refine ⟨.empty, ?_⟩
    rw [hrun, DataW.held.inj h3, hn]
    simp [getV, getB, hg]
  | some y =>
    have hm := getT_some hg
    have h1 := ht.at_ _ hm
    have hh : Maps.has D (.string key.data.toList) = true := has_true_of_atKey h1
    have h3 := hv.1
    rw [show D.atKey (.string key.data.toList) _ = .held (tagV (key, y)) from h1 _] at h3
    refine ⟨key, ?_⟩
    rw [hrun, DataW.held.inj h3, hh]
    simp [getV, getB, hg, tagV]

def fgV (id : ByteArray) (k : Int) (ps : List (Int × Int)) (ts : List Tg) (key : ByteArray) : ByteArray := if featOk id k ps ts then getV ts key else .empty
def fgB (id : ByteArray) (k : Int) (ps : List (Int × Int)) (ts : List Tg) (key : ByteArray) : Bool := featOk id k ps ts && getB ts key

theorem featOk_asc {id : ByteArray} {k : Int} {ps : List (Int × Int)} {ts : List Tg} (h : featOk id k ps ts = true) : Asc ts := by
  simp [featOk] at h
  exact asc_of_good h.2.1

theorem tells_ok {id : ByteArray} {k : Int} {ps : List (Int × Int)} {ts : List Tg} (h : featOk id k ps ts = true) : Tells (mapOf ts) ts := by
  have := tells_mapOf ts
  rwa [told_asc (featOk_asc h)] at this

end Go.Proofs.YtdfadpejddhbkaaGreat

namespace Go.Proofs.YtdfadpejddhbkaaGreat
set_option linter.unusedVariables false
open Go.ChangeShapes Go.WideShapes Go.ChangeAt Go.RowKit Go.Deep

/-- what is still to be put -/
def putR : List Tg → Tg → Bool → List Tg
  | [], t, d => if d then [] else [t]
  | u :: us, t, d => (if !d && decide (kl t ≤ kl u) then [t] else []) ++ ((if kl u = kl t then [] else [u]) ++ putR us t (d || decide (kl t ≤ kl u)))

theorem putR_true (t : Tg) : ∀ us : List Tg, putR us t true = us.filter (fun s => decide (kl s ≠ kl t))
  | [] => rfl
  | u :: us => by
    by_cases h : kl u = kl t <;> simp [putR, putR_true t us, h]

theorem putR_false (t : Tg) : ∀ us : List Tg, putR us t false = putS us t
  | [] => rfl
  | u :: us => by
    unfold putR putS
    by_cases h : kl t ≤ kl u
    · rw [if_pos h]
      by_cases h2 : kl u = kl t <;> simp [h, h2, putR_true]
    · rw [if_neg h]
      have h2 : kl u ≠ kl t := fun e => h (by rw [e]; exact List.le_refl _)
      simp [h, h2, putR_false t us]

/-- the rounds that are left make the list whole -/
def Puts (ts : List Tg) (t : Tg) (j : Nat) (o : List Tg) (d : Bool) : Prop := o ++ putR (ts.drop j) t d = putS ts t

theorem Puts.start (ts : List Tg) (t : Tg) : Puts ts t 0 [] false := by simp [Puts, putR_false]

theorem Puts.step {ts : List Tg} {t : Tg} {j : Nat} {o : List Tg} {d : Bool} (h : Puts ts t j o d) (hj : j < ts.length) :
    Puts ts t (j + 1) (o ++ (if !d && decide (kl t ≤ kb ts j) then [t] else []) ++ (if kb ts j = kl t then [] else [(tk ts j, tv ts j)])) (d || decide (kl t ≤ kb ts j)) := by
  unfold Puts at *
  have h2 : (tk ts j, tv ts j) = ts[j] := by simp [tk, tv, hj]
  rw [List.drop_eq_getElem_cons hj, putR, kb_get hj, ← h2] at h
  rw [← h]
  simp [List.append_assoc]

theorem Puts.done {ts : List Tg} {t : Tg} {o : List Tg} {d : Bool} (h : Puts ts t ts.length o d) : o ++ (if d then [] else [t]) = putS ts t := by
  unfold Puts at h
  rw [List.drop_length] at h
  exact h

theorem HG_cell {wr wa : World} {O : Obj} {x : Option Nat} {b o : Nat} {v : Value} (hg : (wr.alloc O).grownBy wa x) (hlt : b < wr.heap.size) (hc : wr.cell? ⟨b, o, none⟩ = some v) : x ≠ some b → wa.cell? ⟨b, o, none⟩ = some v := fun hne =>
  (hg.cell_far ⟨b, o, none⟩ (by simp; omega) (Ne.symm hne)).trans ((World.cell?_of_block (w := wr) (Below.heap_alloc _ _ _ hlt)).trans hc)

set_option maxRecDepth 100000 in
set_option maxHeartbeats 6400000 in
theorem l2Put_any (a : Option Addr) (cap : Nat) (ts : List Tg) (key val : ByteArray) (w : World) (hp : TagsAt w a ts) (hl : ts.length ≤ 1048576) :
    Calls Tryz.prog 161 #[.slice a ts.length cap, .string key, .string val] w (TagsAns w (putS ts (key, val))) := by
  have HP := Lib.hid hp
  clear hp
  obtain ⟨i0, hi, hz0, hz1, hz2⟩ := info_parts infoT
  have HI := Lib.hid hi
  have HZ0 := Lib.hid hz0
  have HZ1 := Lib.hid hz1
  have HZ2 := Lib.hid hz2
  clear hi hz0 hz1 hz2
  go_enter Tryz.func161, Tryz.ntmps161
  go_wp2
  go_loopw [7, 8, 9] (fun s d i wr => ∃ (j : Nat) (v : Value) (o : List Tg) (q : Bool), j ≤ ts.length ∧ i = .int .i64 j ∧ d = .bool q ∧ v = s ∧ Puts ts (key, val) j o q ∧ o.length ≤ j + q.toNat ∧ wr.ownsRow w.heap.size 92 2 v o.length (flatT o) ∧ Below w.heap.size w wr) (fun _ _ i _ => ts.length - (intOf i).toNat)
  case atStart => exact ⟨0, _, [], false, Nat.zero_le _, rfl, rfl, rfl, Puts.start _ _, by simp, World.ownsRow_made w #[] 0 (Nat.le_refl _) (by unfold maxLen; omega) rfl, (Below.refl _ _).alloc (Nat.le_refl _) _⟩
  case round =>
    obtain ⟨j, v, o, q, hj, rfl, rfl, rfl, hP, hol, hown, hbel⟩ := hrel
    have HW := Lib.hid hown
    have HB := Lib.hid hbel
    have hsz := hbel.size
    have HV : Hid (∀ i, v.ownBlock = some i → w.heap.size ≤ i) := fun i e => (hown.lt i e).1
    have hol' : o.length ≤ j + 1 := by cases q <;> simp at hol <;> omega
    by_cases hlt : j < ts.length
    · obtain ⟨b, off, rfl, hb, hc1, hc2⟩ := HP.out j hlt
      rw [← hbel.cell (p := ⟨b, _, none⟩) hb] at hc1 hc2
      have hst := hP.step hlt
      clear hown hbel hP
      have hblt : b < wr.heap.size := by omega
      have nb : ¬ wr.heap.size = b := by omega
      by_cases he : kb ts j = key.data.toList
      · have e2 := beq_of he
        have e1 : Op.bytesLess (tk ts j).toList key.toList = false := less_not (by show ¬ kb ts j < key.data.toList; rw [he]; exact List.lt_irrefl _)
        have hle : kl (key, val) ≤ kb ts j := by rw [he]; exact List.le_refl _
        cases q
        · replace hol : o.length ≤ j := hol
          have HS : Hid (Puts ts (key, val) (j + 1) (o ++ [(key, val)]) true) := by simpa [Hid, hle, kl, he] using hst
          clear hst he hle
          have tok1 : True := trivial
          go_wp2_with (at_builtin; have _t := tok1; refine wpList_append_lies _ (by rfl) _ _ _ (by rfl) w.heap.size 92 i0 _ 2 32 Tryz.underlying31 HI.out HZ0.out HZ1.out HZ2.out rfl (by omega) (v) (o.length) (flatT (o)) (by rfl) (HW.out.alloc _) ⟨wr.heap.size, 0, none⟩ 1 1 [.string key, .string val] (by rfl) (by rfl) (World.news_of_block (cs := #[.string key, .string val]) (t := 92) (fr := (0, 0)) (heap_alloc_new wr _)) (by simp [Value.oneCell']) (by omega) (by unfold maxLen; omega) (by omega) (by simp; omega) (wr.heap.size + 1) (by simp) ?_; intro gg cap' wa hown1 hgrow hat hlt'; clear tok1; replace hc1 := HG_cell hgrow hblt hc1 (fun e => by have := HV.out b e; omega); replace hc2 := HG_cell hgrow hblt hc2 (fun e => by have := HV.out b e; omega))
          have HO2 := Lib.hid hown1
          have HG2 := Lib.hid hgrow
          clear hown1 hgrow hat
          go_roundw
          case rel => exact ⟨j + 1, _, o ++ [(key, val)], _, by omega, by go_num, rfl, rfl, HS.out, by simp; omega, by have := HO2.out; rw [← flatT_snoc _ (key, val)] at this; simpa using this, (HB.out.alloc hsz _).grown HG2.out (by simp; omega) (fun j e => HV.out j e)⟩
          case measure => simp [intOf]; omega
        · have HS : Hid (Puts ts (key, val) (j + 1) o true) := by simpa [Hid, kl, he] using hst
          clear hst he hle
          go_wp2
          go_roundw
          case rel => exact ⟨j + 1, _, o, _, by omega, by go_num, rfl, rfl, HS.out, by simp; omega, HW.out, HB.out⟩
          case measure => simp [intOf]; omega
      · have e2 := beq_not he
        by_cases hq : kb ts j < key.data.toList
        · have e1 : Op.bytesLess (tk ts j).toList key.toList = true := less_of hq
          have hle : ¬ kl (key, val) ≤ kb ts j := fun h => h hq
          have HS : Hid (Puts ts (key, val) (j + 1) (o ++ [(tk ts j, tv ts j)]) q) := by
            have he' : ¬ kb ts j = kl (key, val) := he
            simpa [Hid, hle, he'] using hst
          clear hst he hle hq
          have tok1 : True := trivial
          cases q
          · replace hol : o.length ≤ j := hol
            go_wp2_with (at_builtin; have _t := tok1; refine wpList_append_lies _ (by rfl) _ _ _ (by rfl) w.heap.size 92 i0 _ 2 32 Tryz.underlying31 HI.out HZ0.out HZ1.out HZ2.out rfl (by omega) (v) (o.length) (flatT (o)) (by rfl) (HW.out.alloc _) ⟨wr.heap.size, 0, none⟩ 1 1 [.string (tk ts j), .string (tv ts j)] (by rfl) (by rfl) (World.news_of_block (cs := #[.string (tk ts j), .string (tv ts j)]) (t := 92) (fr := (0, 0)) (heap_alloc_new wr _)) (by simp [Value.oneCell']) (by omega) (by unfold maxLen; omega) (by omega) (by simp; omega) (wr.heap.size + 1) (by simp) ?_; intro gg cap' wa hown1 hgrow hat hlt'; clear tok1)
            have HO2 := Lib.hid hown1
            have HG2 := Lib.hid hgrow
            clear hown1 hgrow hat
            go_roundw
            case rel => exact ⟨j + 1, _, o ++ [(tk ts j, tv ts j)], _, by omega, by go_num, rfl, rfl, HS.out, by simp; omega, by have := HO2.out; rw [← flatT_snoc _ (tk ts j, tv ts j)] at this; simpa using this, (HB.out.alloc hsz _).grown HG2.out (by simp; omega) (fun j e => HV.out j e)⟩
            case measure => simp [intOf]; omega
          · replace hol : o.length ≤ j + 1 := hol
            go_wp2_with (at_builtin; have _t := tok1; refine wpList_append_lies _ (by rfl) _ _ _ (by rfl) w.heap.size 92 i0 _ 2 32 Tryz.underlying31 HI.out HZ0.out HZ1.out HZ2.out rfl (by omega) (v) (o.length) (flatT (o)) (by rfl) (HW.out.alloc _) ⟨wr.heap.size, 0, none⟩ 1 1 [.string (tk ts j), .string (tv ts j)] (by rfl) (by rfl) (World.news_of_block (cs := #[.string (tk ts j), .string (tv ts j)]) (t := 92) (fr := (0, 0)) (heap_alloc_new wr _)) (by simp [Value.oneCell']) (by omega) (by unfold maxLen; omega) (by omega) (by simp; omega) (wr.heap.size + 1) (by simp) ?_; intro gg cap' wa hown1 hgrow hat hlt'; clear tok1)
            have HO2 := Lib.hid hown1
            have HG2 := Lib.hid hgrow
            clear hown1 hgrow hat
            go_roundw
            case rel => exact ⟨j + 1, _, o ++ [(tk ts j, tv ts j)], _, by omega, by go_num, rfl, rfl, HS.out, by simp; omega, by have := HO2.out; rw [← flatT_snoc _ (tk ts j, tv ts j)] at this; simpa using this, (HB.out.alloc hsz _).grown HG2.out (by simp; omega) (fun j e => HV.out j e)⟩
            case measure => simp [intOf]; omega
        · have e1 : Op.bytesLess (tk ts j).toList key.toList = false := less_not hq
          have hle : kl (key, val) ≤ kb ts j := hq
          have he' : ¬ kb ts j = kl (key, val) := he
          cases q
          · replace hol : o.length ≤ j := hol
            have HS : Hid (Puts ts (key, val) (j + 1) (o ++ [(key, val)] ++ [(tk ts j, tv ts j)]) true) := by simpa [Hid, hle, he'] using hst
            clear hst he hle hq he'
            have tok1 : True := trivial
            go_wp2_with (first | (at_builtin; have _t := tok1; refine wpList_append_lies _ (by rfl) _ _ _ (by rfl) w.heap.size 92 i0 _ 2 32 Tryz.underlying31 HI.out HZ0.out HZ1.out HZ2.out rfl (by omega) (v) (o.length) (flatT (o)) (by rfl) (HW.out.alloc _) ⟨wr.heap.size, 0, none⟩ 1 1 [.string key, .string val] (by rfl) (by rfl) (World.news_of_block (cs := #[.string key, .string val]) (t := 92) (fr := (0, 0)) (heap_alloc_new wr _)) (by simp [Value.oneCell']) (by omega) (by unfold maxLen; omega) (by omega) (by simp; omega) (wr.heap.size + 1) (by simp) ?_; intro gg cap' wa hown1 hgrow hat hlt'; clear tok1; replace hc1 := HG_cell hgrow hblt hc1 (fun e => by have := HV.out b e; omega); replace hc2 := HG_cell hgrow hblt hc2 (fun e => by have := HV.out b e; omega); have hblt2 : b < wa.heap.size := (by have h := hgrow.size; simp at h; omega); have hszA : w.heap.size ≤ wa.heap.size := (by have h := hgrow.size; simp at h; omega); have HW2 : Hid (wa.ownsRow w.heap.size 92 2 (.slice (some ⟨gg, 0, none⟩) (o.length + 1) cap') (o.length + 1) (flatT (o ++ [(key, val)]))) := (by rw [flatT_snoc]; exact hown1); have BA := Lib.hid ((HB.out.alloc hsz _).grown hgrow (by simp; omega) (fun j e => HV.out j e)); have HVA : Hid (∀ i, (Value.slice (some ⟨gg, 0, none⟩) (o.length + 1) cap').ownBlock = some i → w.heap.size ≤ i) := (fun i e => (hown1.lt i e).1); clear hown1 hgrow hat; have tok2 : True := trivial) | (at_builtin; have _t := tok2; refine wpList_append_lies _ (by rfl) _ _ _ (by rfl) w.heap.size 92 i0 _ 2 32 Tryz.underlying31 HI.out HZ0.out HZ1.out HZ2.out rfl (by omega) (Value.slice (some ⟨gg, 0, none⟩) (o.length + 1) cap') (o.length + 1) (flatT (o ++ [(key, val)])) (by rfl) (HW2.out.alloc _) ⟨wa.heap.size, 0, none⟩ 1 1 [.string (tk ts j), .string (tv ts j)] (by rfl) (by rfl) (World.news_of_block (cs := #[.string (tk ts j), .string (tv ts j)]) (t := 92) (fr := (0, 0)) (heap_alloc_new wa _)) (by simp [Value.oneCell']) (by omega) (by unfold maxLen; omega) (by omega) (by simp; omega) (wa.heap.size + 1) (by simp) ?_; intro gg2 cap2' wb hown2 hgrow2 hat2 hlt2'; clear tok2))
            have HO2 := Lib.hid hown2
            have HG2 := Lib.hid hgrow2
            clear hown2 hgrow2 hat2
            go_roundw
            case rel => exact ⟨j + 1, _, o ++ [(key, val)] ++ [(tk ts j, tv ts j)], _, by omega, by go_num, rfl, rfl, HS.out, by simp; omega, by have := HO2.out; rw [← flatT_snoc _ (tk ts j, tv ts j)] at this; simpa using this, (BA.out.alloc hszA _).grown HG2.out (by simp; omega) (fun j e => HVA.out j e)⟩
            case measure => simp [intOf]; omega
          · have HS : Hid (Puts ts (key, val) (j + 1) (o ++ [(tk ts j, tv ts j)]) true) := by simpa [Hid, he'] using hst
            clear hst he hle hq he'
            have tok1 : True := trivial
            go_wp2_with (at_builtin; have _t := tok1; refine wpList_append_lies _ (by rfl) _ _ _ (by rfl) w.heap.size 92 i0 _ 2 32 Tryz.underlying31 HI.out HZ0.out HZ1.out HZ2.out rfl (by omega) (v) (o.length) (flatT (o)) (by rfl) (HW.out.alloc _) ⟨wr.heap.size, 0, none⟩ 1 1 [.string (tk ts j), .string (tv ts j)] (by rfl) (by rfl) (World.news_of_block (cs := #[.string (tk ts j), .string (tv ts j)]) (t := 92) (fr := (0, 0)) (heap_alloc_new wr _)) (by simp [Value.oneCell']) (by omega) (by unfold maxLen; omega) (by omega) (by simp; omega) (wr.heap.size + 1) (by simp) ?_; intro gg cap' wa hown1 hgrow hat hlt'; clear tok1)
            have HO2 := Lib.hid hown1
            have HG2 := Lib.hid hgrow
            clear hown1 hgrow hat
            go_roundw
            case rel => exact ⟨j + 1, _, o ++ [(tk ts j, tv ts j)], _, by omega, by go_num, rfl, rfl, HS.out, by simp; omega, by have := HO2.out; rw [← flatT_snoc _ (tk ts j, tv ts j)] at this; simpa using this, (HB.out.alloc hsz _).grown HG2.out (by simp; omega) (fun j e => HV.out j e)⟩
            case measure => simp [intOf]; omega
    · obtain rfl : j = ts.length := by omega
      have hd := hP.done
      have HD := Lib.hid hd
      clear hown hbel hP hd
      cases q
      · have tok1 : True := trivial
        go_wp2_with (at_builtin; have _t := tok1; refine wpList_append_lies _ (by rfl) _ _ _ (by rfl) w.heap.size 92 i0 _ 2 32 Tryz.underlying31 HI.out HZ0.out HZ1.out HZ2.out rfl (by omega) (v) (o.length) (flatT (o)) (by rfl) (HW.out.alloc _) ⟨wr.heap.size, 0, none⟩ 1 1 [.string key, .string val] (by rfl) (by rfl) (World.news_of_block (cs := #[.string key, .string val]) (t := 92) (fr := (0, 0)) (heap_alloc_new wr _)) (by simp [Value.oneCell']) (by omega) (by unfold maxLen; omega) (by omega) (by simp; omega) (wr.heap.size + 1) (by simp) ?_; intro gg cap' wa hown1 hgrow hat hlt'; clear tok1)
        have HO2 := Lib.hid hown1
        have HG2 := Lib.hid hgrow
        clear hown1 hgrow hat
        go_wp2
        go_ret
        refine ⟨_, rfl, ?_, (HB.out.alloc hsz _).grown HG2.out (by simp; omega) (fun j e => HV.out j e)⟩
        have := HO2.out
        rw [← flatT_snoc _ (key, val)] at this
        rw [← HD.out]
        simpa using this
      · go_wp2
        go_ret
        refine ⟨_, rfl, ?_, HB.out⟩
        rw [← HD.out]
        simpa using HW.out
end Go.Proofs.YtdfadpejddhbkaaGreat

namespace Go.Proofs.YtdfadpejddhbkaaGreat
set_option linter.unusedVariables false
open Go.ChangeShapes Go.WideShapes Go.ChangeAt Go.RowKit Go.Deep

theorem putS_len' (t : Tg) (us : List Tg) : (putS us t).length ≤ us.length + 1 := by
  induction us with
  | nil => simp [putS]
  | cons u us ih =>
    unfold putS
    split
    · have := List.length_filter_le (fun s => decide (kl s ≠ kl t)) (u :: us)
      rw [List.length_cons]
      omega
    · simp only [List.length_cons]
      omega

theorem putS_lens {ts : List Tg} {key val : ByteArray} {m : Int} (hl : TagsLen ts m) (hk : (key.size : Int) ≤ m) (hv : (val.size : Int) ≤ m) : TagsLen (putS ts (key, val)) m := by
  intro i hi
  have hm := List.getElem_mem hi
  rcases (mem_putS _ _ _).1 hm with e | ⟨h, _⟩
  · simp [tk, tv, hi, e]
    exact ⟨hk, hv⟩
  · obtain ⟨j, hj, e⟩ := List.getElem_of_mem h
    have := hl j hj
    simp [tk, tv, hi, hj] at this ⊢
    rw [← e]
    exact this

theorem PtsAt.kept {w w' : World} {r : Option Nat} {a : Option Addr} {ps : List (Int × Int)} (h : PtsAt w a ps) (hg : w.grownBy w' r) (hn : ∀ x, blk a = some x → r ≠ some x) : PtsAt w' a ps := by
  intro i hi
  obtain ⟨b, off, rfl, hlt, h1, h2⟩ := h i hi
  have hne : some b ≠ r := fun e => hn b rfl e.symm
  exact ⟨b, off, rfl, Nat.lt_of_lt_of_le hlt hg.size, (hg.cell_far ⟨b, _, none⟩ hlt hne).trans h1, (hg.cell_far ⟨b, _, none⟩ hlt hne).trans h2⟩

theorem grown_low {w w' : World} (r : Option Nat) (h : Below w.heap.size w w') : w.grownBy w' r := ⟨h.os, h.tape, h.output, h.size, fun k hk _ => h.block k hk⟩

theorem tags_of_own {w : World} {base : Nat} {e : TypeId} {ta : Option Addr} {tc : Nat} {ts : List Tg} (h : w.ownsRow base e 2 (.slice ta ts.length tc) ts.length (flatT ts)) : TagsAt w ta ts := by
  obtain ⟨a', c', e', h', _⟩ := owned_tags h rfl
  obtain ⟨rfl, rfl⟩ : ta = a' ∧ tc = c' := by simpa using e'
  exact h'

/-- what drawing a thing leaves -/
def FeatDrawn (w : World) (R : Nat) (a : Option Addr) (len cap : Nat) (p : Int) (m1 m2 : Nat) (q : Int) (e : Ending) (w' : World) : Prop :=
  ∃ (id : ByteArray) (k : Int) (pa : Option Addr) (pc : Nat) (ps : List (Int × Int)) (ta : Option Addr) (tc : Nat) (ts : List Tg) (p' : Int), e = .returned (.agg #[.string id, .int .i64 k, .slice pa ps.length pc, .slice ta ts.length tc]) ∧ id.size ≤ 8 ∧
    PtsAt w' pa ps ∧ (∀ x, blk pa = some x → w.heap.size ≤ x ∧ x < w'.heap.size) ∧ ps.length ≤ m1 ∧ w'.ownsRow w.heap.size 92 2 (.slice ta ts.length tc) ts.length (flatT ts) ∧ ts.length ≤ m2 ∧ TagsLen ts 8 ∧ Rd w' R a len cap p' ∧ p' ≤ p + q ∧ w.grownBy w' (some R) ∧ (∀ x, blk pa = some x → (Value.slice ta ts.length tc).ownBlock ≠ some x)

/-- a thing that is being drawn: its box, what it answers into, its points and tags, the reader -/
structure FeatLay (w : World) (R : Nat) (a : Option Addr) (len cap : Nat) (d : Nat) (id : ByteArray) (k : Int) (g c2 : Nat) (ps : List (Int × Int)) (v : Value) (ts : List Tg) (q : Int) (wr : World) : Prop where
  c0 : wr.cell? ⟨d, 0, none⟩ = some (.string id)
  c1 : wr.cell? ⟨d, 1, none⟩ = some (.int .i64 k)
  c2 : wr.cell? ⟨d, 2, none⟩ = some (.slice (some ⟨g, 0, none⟩) ps.length c2)
  c3 : wr.cell? ⟨d, 3, none⟩ = some v
  soft : ∀ i, wr.frozen? ⟨d, i, none⟩ = false
  r0 : wr.cell? ⟨w.heap.size, 0, none⟩ = some (.string ⟨#[]⟩)
  r1 : wr.cell? ⟨w.heap.size, 1, none⟩ = some (.int .i64 0)
  r2 : wr.cell? ⟨w.heap.size, 2, none⟩ = some (.slice none 0 0)
  r3 : wr.cell? ⟨w.heap.size, 3, none⟩ = some (.slice none 0 0)
  rs : ∀ i, wr.frozen? ⟨w.heap.size, i, none⟩ = false
  own : wr.ownsRow (d + 1) 92 2 v ts.length (flatT ts)
  pts : PtsAt wr (some ⟨g, 0, none⟩) ps
  rd : Rd wr R a len cap q
  grown : w.grownBy wr (some R)

/-- the reader goes on, or memory is made -/
theorem FeatLay.read {w wr w' : World} {R : Nat} {a : Option Addr} {len cap d : Nat} {id : ByteArray} {k : Int} {g c2 : Nat} {ps : List (Int × Int)} {v : Value} {ts : List Tg} {q q' : Int} (h : FeatLay w R a len cap d id k g c2 ps v ts q wr) (hg : wr.grownBy w' (some R)) (hr : Rd w' R a len cap q') (hRw : R < w.heap.size) (hd : w.heap.size < d) (hgd : R ≠ g) : FeatLay w R a len cap d id k g c2 ps v ts q' w' := by
  have hdl : d < wr.heap.size := World.block_lt_of_cell? _ _ h.c0
  have hwl : w.heap.size < wr.heap.size := World.block_lt_of_cell? _ _ h.r0
  have nd : some d ≠ some R := by simp; omega
  have nw : some w.heap.size ≠ some R := by simp; omega
  refine ⟨(hg.cell_far _ hdl nd).trans h.c0, (hg.cell_far _ hdl nd).trans h.c1, (hg.cell_far _ hdl nd).trans h.c2, (hg.cell_far _ hdl nd).trans h.c3, fun i => (hg.frozen_far _ hdl nd).trans (h.soft i), (hg.cell_far _ hwl nw).trans h.r0, (hg.cell_far _ hwl nw).trans h.r1, (hg.cell_far _ hwl nw).trans h.r2, (hg.cell_far _ hwl nw).trans h.r3, fun i => (hg.frozen_far _ hwl nw).trans (h.rs i), World.ownsRow.kept h.own hg (.inr fun e => by have := (h.own.lt R e).1; omega), h.pts.kept hg (fun x hx e => by simp [blk] at hx e; omega), hr, h.grown.trans hg⟩

theorem FeatLay.lay {w wr w' : World} {R : Nat} {a : Option Addr} {len cap d : Nat} {id : ByteArray} {k : Int} {g c2 : Nat} {ps : List (Int × Int)} {v : Value} {ts : List Tg} {q : Int} (h : FeatLay w R a len cap d id k g c2 ps v ts q wr) (hb : Below wr.heap.size wr w') (hRw : R < w.heap.size) (hd : w.heap.size < d) (hgd : R ≠ g) : FeatLay w R a len cap d id k g c2 ps v ts q w' :=
  h.read (grown_low _ hb) (h.rd.kept (r := none) (grown_low _ hb) (by simp) (fun i hi => by obtain ⟨b, off, c, e, _⟩ := h.rd.bytes i hi; rw [e]; simp [blk])) hRw hd hgd

/-- other tags are put into the box -/
theorem FeatLay.put {w wr : World} {R : Nat} {a : Option Addr} {len cap d : Nat} {id : ByteArray} {k : Int} {g c2 : Nat} {ps : List (Int × Int)} {v v' : Value} {ts us : List Tg} {q : Int} (h : FeatLay w R a len cap d id k g c2 ps v ts q wr) (ho : wr.ownsRow (d + 1) 92 2 v' us.length (flatT us)) (hRw : R < w.heap.size) (hd : w.heap.size < d) (hgd : g ≠ d) (hcd : ∀ i, i < len → blk a ≠ some d) : FeatLay w R a len cap d id k g c2 ps v' us q (wr.setCell ⟨d, 3, none⟩ v') := by
  have hg : wr.grownBy (wr.setCell ⟨d, 3, none⟩ v') (some d) := grown_set (World.grownBy.refl _ _) _ _
  refine ⟨(World.cell?_setCell_other _ _ _ _ (by simp)).trans h.c0, (World.cell?_setCell_other _ _ _ _ (by simp)).trans h.c1, (World.cell?_setCell_other _ _ _ _ (by simp)).trans h.c2, World.cell?_setCell_same _ _ _ h.c3, fun i => by rw [World.frozen?_setCell]; exact h.soft i, (World.cell?_setCell_other _ _ _ _ (by simp <;> omega)).trans h.r0, (World.cell?_setCell_other _ _ _ _ (by simp <;> omega)).trans h.r1, (World.cell?_setCell_other _ _ _ _ (by simp <;> omega)).trans h.r2, (World.cell?_setCell_other _ _ _ _ (by simp <;> omega)).trans h.r3, fun i => by rw [World.frozen?_setCell]; exact h.rs i, World.ownsRow.kept ho hg (.inr fun e => by have := (ho.lt d e).1; omega), h.pts.kept hg (fun x hx e => by simp [blk] at hx e; omega), h.rd.kept hg (by simp; omega) hcd, grown_set_new h.grown (by omega)⟩

/-- what is answered -/
theorem FeatLay.fin {w wr : World} {R : Nat} {a : Option Addr} {len cap d : Nat} {id : ByteArray} {k : Int} {g c2 : Nat} {ps : List (Int × Int)} {ta : Option Addr} {tc : Nat} {ts : List Tg} {p q : Int} {x0 x1 x2 x3 : Value} (h : FeatLay w R a len cap d id k g c2 ps (.slice ta ts.length tc) ts q wr) (hid : id.size ≤ 8) (hps : ps.length ≤ 6) (hts : ts.length ≤ 3) (htl : TagsLen ts 8) (hq : q ≤ p + 60) (hRw : R < w.heap.size) (hd : w.heap.size < d) (hgw : w.heap.size < g ∧ g < d) (hcd : ∀ i, i < len → blk a ≠ some w.heap.size) :
    FeatDrawn w R a len cap p 6 3 60 (.returned (.agg #[.string id, .int .i64 k, .slice (some ⟨g, 0, none⟩) ps.length c2, .slice ta ts.length tc])) ((((wr.setCell ⟨w.heap.size, 0, none⟩ x0).setCell ⟨w.heap.size, 1, none⟩ x1).setCell ⟨w.heap.size, 2, none⟩ x2).setCell ⟨w.heap.size, 3, none⟩ x3) := by
  have hg : wr.grownBy ((((wr.setCell ⟨w.heap.size, 0, none⟩ x0).setCell ⟨w.heap.size, 1, none⟩ x1).setCell ⟨w.heap.size, 2, none⟩ x2).setCell ⟨w.heap.size, 3, none⟩ x3) (some w.heap.size) := grown_set (grown_set (grown_set (grown_set (World.grownBy.refl _ _) _ _) _ _) _ _) _ _
  have hdl : d < wr.heap.size := World.block_lt_of_cell? _ _ h.c0
  refine ⟨id, k, _, _, ps, ta, tc, ts, q, rfl, hid, h.pts.kept hg (fun x hx e => by simp [blk] at hx e; omega), fun x hx => ?_, hps, owns_base (World.ownsRow.kept h.own hg (.inr fun e => by have := (h.own.lt _ e).1; omega)) (by omega), hts, htl, h.rd.kept hg (by simp; omega) hcd, hq, grown_set_new (grown_set_new (grown_set_new (grown_set_new h.grown (Nat.le_refl _)) (Nat.le_refl _)) (Nat.le_refl _)) (Nat.le_refl _), fun x hx e => by have := (h.own.lt x e).1; simp [blk] at hx; omega⟩
  have := hg.size
  simp [blk] at hx
  omega

set_option maxRecDepth 100000 in
set_option maxHeartbeats 8000000 in
theorem l2Feat_any (R : Nat) (a : Option Addr) (len cap : Nat) (p : Int) (id : ByteArray) (w : World) (h : Rd w R a len cap p) (hp : p ≤ 70000) (hl : len ≤ 2000) (hid : id.size ≤ 8) :
    Calls Tryz.prog 125 #[.pointer (some ⟨R, 0, none⟩), .string id] w (FeatDrawn w R a len cap p 6 3 60) := by
  have HR := Lib.hid h
  have hRlt := h.lt
  have hcode : Hid (∀ c, w.heap.size ≤ c → ∀ i, i < len → blk a ≠ some c) := fun c hc => h.codeLt hc
  clear h
  go_enter Tryz.func125, Tryz.ntmps125
  go_wp2_with fail
  refine (l1Shape_any _ _ _ _ _ _ (HR.out.alloc _) (by omega) hl).mono ?_
  rintro e w1 ⟨k, g, c2, ps, p1, rfl, hown, ⟨hp0, hp6⟩, ⟨hc1, hc2⟩, hr, hp1, hg⟩
  have nw : some w.heap.size ≠ some R := by simp; omega
  obtain ⟨g0, g1, g2, g3⟩ := Box4.new w (.string ⟨#[]⟩) (.int .i64 0) (.slice none 0 0) (.slice none 0 0) 33
  obtain ⟨a3, c3, e3, hpt, _, hrg⟩ := owned_pts hown rfl
  obtain ⟨rfl, rfl⟩ : some ⟨g, 0, none⟩ = a3 ∧ c2 = c3 := by simpa using e3
  have hgl := hrg g (by simp [blk])
  have z1 : w.heap.size < w1.heap.size := by have := hg.size; simp at this; omega
  simp only [World.size_alloc] at hgl
  have L0 : Hid (FeatLay w R a len cap w1.heap.size id k g c2 ps (.slice none 0 0) [] p1 (w1.alloc (.cells #[.string id, .int .i64 k, .slice (some ⟨g, 0, none⟩) ps.length c2, .slice none 0 0] 33))) := by
    have hb : Below w1.heap.size w1 (w1.alloc (.cells #[.string id, .int .i64 k, .slice (some ⟨g, 0, none⟩) ps.length c2, .slice none 0 0] 33)) := (Below.refl _ _).alloc (Nat.le_refl _) _
    obtain ⟨q0, q1, q2, q3⟩ := Box4.new w1 (.string id) (.int .i64 k) (.slice (some ⟨g, 0, none⟩) ps.length c2) (.slice none 0 0) 33
    refine ⟨q0, q1, q2, q3, fun i => by simp [go_sem], cell_later hb ((hg.cell_far _ (by simp) nw).trans g0), cell_later hb ((hg.cell_far _ (by simp) nw).trans g1), cell_later hb ((hg.cell_far _ (by simp) nw).trans g2), cell_later hb ((hg.cell_far _ (by simp) nw).trans g3), fun i => ?_, World.ownsRow_nil _ _ _ _, hpt.below hb, hr.alloc _, ((World.grownBy_alloc w _ _).trans hg).trans (grown_low _ hb)⟩
    rw [hb.frozen (p := ⟨w.heap.size, i, none⟩) z1, hg.frozen_far ⟨w.heap.size, i, none⟩ (by simp) nw]
    simp [go_sem]
  clear hown hr hg g0 g1 g2 g3 e3 hpt hrg
  go_upto_region 2 with (fail)
  generalize (w1.alloc (.cells #[.string id, .int .i64 k, .slice (some ⟨g, 0, none⟩) ps.length c2, .slice none 0 0] 33)) = W at *
  generalize hd : w1.heap.size = d at *
  have gR : R ≠ g := by omega
  have gd : g ≠ d := by omega
  have CD := Lib.hid (hcode.out d (by omega))
  go_wp2_with fail
  refine (pick_any _ _ _ _ _ _ _ L0.out.rd (by omega) hl (by omega) (by omega)).mono ?_
  rintro e w2 ⟨x, rfl, hx0, hx1, hr, hg, hs⟩
  have L1 := Lib.hid (L0.out.read hg hr hRlt z1 gR)
  obtain ⟨X, rfl⟩ : ∃ X : Nat, x = (X : Int) := ⟨x.toNat, by omega⟩
  clear hr hg hs L0
  go_wp2
  go_loopw [6] (fun i wr => ∃ (m : Nat) (v : Value) (ts : List Tg) (q : Int), m ≤ 3 ∧ i = .int .i64 m ∧ ts.length + m ≤ 3 ∧ TagsLen ts 8 ∧ q ≤ p + 50 - 2 * (m : Int) ∧ FeatLay w R a len cap d id k g c2 ps v ts q wr) (fun i _ => (intOf i).toNat)
  case atStart => exact ⟨X, _, [], _, by omega, rfl, by simp; omega, fun i hi => absurd hi (Nat.not_lt_zero _), by omega, L1.out⟩
  case round =>
    clear L1
    obtain ⟨m, v, ts, q, hm, rfl, hts, htl, hq, hlay⟩ := hrel
    have L := Lib.hid (hlay.lay (Below.refl _ _).drew hRlt z1 gR)
    have L' := Lib.hid hlay
    have TL := Lib.hid htl
    clear hlay htl
    by_cases h0 : 0 < m
    · obtain ⟨ta, tc, rfl, htag, _, _⟩ := owned_tags L'.out.own rfl
      clear htag
      have c3 := L.out.c3
      have f3 := L.out.soft 3
      have hdl : d < wr.heap.size := World.block_lt_of_cell? _ _ L'.out.c0
      go_upto_region 5 with (fail)
      go_region_with (first
        | (go_at_call 162; refine (l2Key_any R a len cap _ _ L.out.rd (by omega) hl).mono ?_; rintro e wk ⟨key, rfl, hks, hrk, hgk⟩; have LK := Lib.hid (L.out.read hgk hrk hRlt z1 gR); have c3k := LK.out.c3; have f3k := LK.out.soft 3; clear hrk hgk)
        | (go_at_call 163; refine (l2Val_any R a len cap _ _ LK.out.rd (by omega) hl).mono ?_; rintro e wv ⟨val, rfl, hvs, hrv, hgv⟩; have LV := Lib.hid (LK.out.read hgv hrv hRlt z1 gR); have c3v := LV.out.c3; have f3v := LV.out.soft 3; have TV : Hid (TagsAt wv ta ts) := (tags_of_own LV.out.own); clear hrv hgv)
        | (go_at_call 161; refine (l2Put_any ta tc ts key val _ TV.out (by omega)).mono ?_; rintro e wp ⟨v2, rfl, hown2, hbp⟩; have LP := Lib.hid (LV.out.lay hbp hRlt z1 gR); have c3p := LP.out.c3; have f3p := LP.out.soft 3; have zv : d < wv.heap.size := World.block_lt_of_cell? _ _ c3v; have OP : Hid (wp.ownsRow (d + 1) 92 2 v2 (putS ts (key, val)).length (flatT (putS ts (key, val)))) := owns_base hown2 (by omega); have LF := Lib.hid (LP.out.put OP.out hRlt z1 gd CD.out); obtain ⟨t2, tc2, rfl, _, _, _⟩ := owned_tags hown2 rfl; clear hown2 hbp))
      all_goals
        have hpl := putS_len' (key, val) ts
        have TP := Lib.hid (putS_lens TL.out (key := key) (val := val) (by omega) (by omega))
        obtain ⟨n, rfl⟩ : ∃ n, m = n + 1 := ⟨m - 1, by omega⟩
        clear c3 f3 c3k f3k c3v f3v c3p f3p
        go_wp2
        go_roundw
        case rel => exact ⟨n, _, putS ts (key, val), q + 1 + 1, by omega, congrArg (Value.int .i64) (by omega), by omega, TP.out, by omega, LF.out⟩
        case measure => simp [intOf]
    · obtain rfl : m = 0 := by omega
      obtain ⟨ta, tc, rfl, _, _, _⟩ := owned_tags L'.out.own rfl
      have c0 := L'.out.c0
      have c1 := L'.out.c1
      have c2' := L'.out.c2
      have c3 := L'.out.c3
      have r0 := L'.out.r0
      have r1 := L'.out.r1
      have r2 := L'.out.r2
      have r3 := L'.out.r3
      have s0 := L'.out.rs 0
      have s1 := L'.out.rs 1
      have s2 := L'.out.rs 2
      have s3 := L'.out.rs 3
      go_wp2
      refine bodyPost_ret (v := .agg #[.string id, .int .i64 k, .slice (some ⟨g, 0, none⟩) ps.length c2, .slice ta ts.length tc]) (by simp [results, Tryz.results125, go_sem, r0, r1, r2, r3]) rfl ?_
      exact L'.out.fin hid hp6 (by omega) TL.out (by omega) hRlt z1 (by omega) (hcode.out _ (Nat.le_refl _))
end Go.Proofs.YtdfadpejddhbkaaGreat

namespace Go.Proofs.YtdfadpejddhbkaaGreat
set_option linter.unusedVariables false
open Go.ChangeShapes Go.WideShapes Go.ChangeAt Go.RowKit

/-- what 'toFeat' answers: a thing whose points and tags lie in two rows of its own -/
def NewFeat (w : World) (id : ByteArray) (k : Int) (ps : List (Int × Int)) (ts : List Tg) (e : Ending) (w' : World) : Prop :=
  ∃ b c, e = .returned (.agg #[.string id, .int .i64 k, .slice (some ⟨b, 0, none⟩) ps.length ps.length, .slice (some ⟨c, 0, none⟩) ts.length ts.length]) ∧
    w'.rowIs b 148 (ps.length * 2) (ptCell ps) ∧ w'.rowIs c 92 (ts.length * 2) (tagCell ts) ∧ w.heap.size ≤ b ∧ w.heap.size ≤ c ∧ b ≠ c ∧ Below w.heap.size w w'

set_option maxRecDepth 100000 in
set_option maxHeartbeats 2000000 in
theorem toFeat_any (id : ByteArray) (k : Int) (a : Option Addr) (cap : Nat) (ps : List (Int × Int)) (c : Option Addr) (cap' : Nat) (ts : List Tg) (w : World) (hp : PtsAt w a ps) (ht : TagsAt w c ts) (hl : ps.length ≤ 1048576) (hl' : ts.length ≤ 1048576) :
    Calls Tryz.prog 95 #[.agg #[.string id, .int .i64 k, .slice a ps.length cap, .slice c ts.length cap']] w (NewFeat w id k ps ts) := by
  have HP := Lib.hid hp
  have HT := Lib.hid ht
  clear hp ht
  go_enter Tryz.func95, Tryz.ntmps95
  go_wp2_with fail
  refine (toShape_any _ _ _ _ _ (HP.out.below ((((Below.refl _ _).alloc (Nat.le_refl _) _).alloc (by simp) _).alloc (by simp; omega) _)) hl).mono ?_
  rintro e w1 ⟨b, rfl, hrow, hb, hbel⟩
  have HR := Lib.hid hrow
  have B1 : Hid (Below w.heap.size w w1) := ((((Below.refl _ _).alloc (Nat.le_refl _) _).alloc (by simp) _).alloc (by simp; omega) _).trans (hbel.mono (by simp; omega))
  obtain ⟨hc, hf⟩ := bcell hbel
  have hz := hbel.size
  simp only [World.size_alloc] at hz hb
  clear hrow hbel
  have d0 : w1.cell? ⟨w.heap.size + 1 + 1, 0, none⟩ = some (.string id) := by rw [hc _ _ (by simp)]; simp [go_sem]
  have d1 : w1.cell? ⟨w.heap.size + 1 + 1, 1, none⟩ = some (.int .i64 0) := by rw [hc _ _ (by simp)]; simp [go_sem]
  have d2 : w1.cell? ⟨w.heap.size + 1 + 1, 2, none⟩ = some (.slice none 0 0) := by rw [hc _ _ (by simp)]; simp [go_sem]
  have d3 : w1.cell? ⟨w.heap.size + 1 + 1, 3, none⟩ = some (.slice none 0 0) := by rw [hc _ _ (by simp)]; simp [go_sem]
  have f1 : w1.frozen? ⟨w.heap.size + 1 + 1, 1, none⟩ = false := by rw [hf _ _ (by simp)]; simp [go_sem]
  have f2 : w1.frozen? ⟨w.heap.size + 1 + 1, 2, none⟩ = false := by rw [hf _ _ (by simp)]; simp [go_sem]
  have f3 : w1.frozen? ⟨w.heap.size + 1 + 1, 3, none⟩ = false := by rw [hf _ _ (by simp)]; simp [go_sem]
  have g0 : w1.cell? ⟨w.heap.size + 1, 0, none⟩ = some (.string ⟨#[]⟩) := by rw [hc _ _ (by simp)]; simp [go_sem]
  have g1 : w1.cell? ⟨w.heap.size + 1, 1, none⟩ = some (.int .i64 0) := by rw [hc _ _ (by simp)]; simp [go_sem]
  have g2 : w1.cell? ⟨w.heap.size + 1, 2, none⟩ = some (.slice none 0 0) := by rw [hc _ _ (by simp)]; simp [go_sem]
  have g3 : w1.cell? ⟨w.heap.size + 1, 3, none⟩ = some (.slice none 0 0) := by rw [hc _ _ (by simp)]; simp [go_sem]
  have k0 : w1.frozen? ⟨w.heap.size + 1, 0, none⟩ = false := by rw [hf _ _ (by simp)]; simp [go_sem]
  have k1 : w1.frozen? ⟨w.heap.size + 1, 1, none⟩ = false := by rw [hf _ _ (by simp)]; simp [go_sem]
  have k2 : w1.frozen? ⟨w.heap.size + 1, 2, none⟩ = false := by rw [hf _ _ (by simp)]; simp [go_sem]
  have k3 : w1.frozen? ⟨w.heap.size + 1, 3, none⟩ = false := by rw [hf _ _ (by simp)]; simp [go_sem]
  have a3 : w1.cell? ⟨w.heap.size, 3, none⟩ = some (.slice c ts.length cap') := by rw [hc _ _ (by simp; omega)]; simp [go_sem]
  clear hc hf
  go_wp2_with fail
  have HT1 : Hid (TagsAt ((w1.setCell ⟨w.heap.size + 1 + 1, 1, none⟩ (.int .i64 k)).setCell ⟨w.heap.size + 1 + 1, 2, none⟩ (.slice (some ⟨b, 0, none⟩) ps.length ps.length)) c ts) :=
    HT.out.below ((B1.out.setCell (by simp; omega) _).setCell (by simp; omega) _)
  refine (toTagS_any _ _ _ _ HT1.out hl').mono ?_
  rintro e w2 ⟨c', rfl, hrow2, hb2, hbel2⟩
  have HR2 := Lib.hid hrow2
  have HR1 : Hid (w2.rowIs b 148 (ps.length * 2) (ptCell ps)) := by
    have := ((HR.out.setOther (a := ⟨w.heap.size + 1 + 1, 1, none⟩) (by simp; omega) (.int .i64 k)).setOther (a := ⟨w.heap.size + 1 + 1, 2, none⟩) (by simp; omega) (.slice (some ⟨b, 0, none⟩) ps.length ps.length))
    exact this.of_block (hbel2.block _ this.lt)
  have B2 : Hid (Below w.heap.size w w2) := ((B1.out.setCell (by simp; omega) _).setCell (by simp; omega) _).trans (hbel2.mono (by simp [World.setCell]; omega))
  have hblt : b < w1.heap.size := HR.out.lt
  have hz2 := hbel2.size
  simp only [World.setCell, Array.size_modify] at hz2
  have cc : ∀ (o : Nat) v, w1.cell? ⟨w.heap.size + 1, o, none⟩ = some v → w2.cell? ⟨w.heap.size + 1, o, none⟩ = some v := fun o v h =>
    cell_later hbel2 (by rw [World.cell?_setCell_other _ _ _ _ (by simp), World.cell?_setCell_other _ _ _ _ (by simp)]; exact h)
  have ff : ∀ (p : Addr), p.block < w1.heap.size → w2.frozen? p = w1.frozen? p := fun p hp => by
    rw [hbel2.frozen (p := p) (by simpa [World.setCell] using hp), World.frozen?_setCell, World.frozen?_setCell]
  replace d0 : w2.cell? ⟨w.heap.size + 1 + 1, 0, none⟩ = some (.string id) := cell_later hbel2 (by rw [World.cell?_setCell_other _ _ _ _ (by simp), World.cell?_setCell_other _ _ _ _ (by simp)]; exact d0)
  replace d1 : w2.cell? ⟨w.heap.size + 1 + 1, 1, none⟩ = some (.int .i64 k) := cell_later hbel2 (by rw [World.cell?_setCell_other _ _ _ _ (by simp)]; exact World.cell?_setCell_same _ _ _ d1)
  replace d2 : w2.cell? ⟨w.heap.size + 1 + 1, 2, none⟩ = some (.slice (some ⟨b, 0, none⟩) ps.length ps.length) := cell_later hbel2 (World.cell?_setCell_same _ _ _ ((World.cell?_setCell_other _ _ _ _ (by simp)).trans d2))
  replace d3 : w2.cell? ⟨w.heap.size + 1 + 1, 3, none⟩ = some (.slice none 0 0) := cell_later hbel2 (by rw [World.cell?_setCell_other _ _ _ _ (by simp), World.cell?_setCell_other _ _ _ _ (by simp)]; exact d3)
  replace g0 := cc _ _ g0
  replace g1 := cc _ _ g1
  replace g2 := cc _ _ g2
  replace g3 := cc _ _ g3
  rw [← ff _ (by show w.heap.size + 1 < _; omega)] at k0 k1 k2 k3
  rw [← ff _ (by show w.heap.size + 1 + 1 < _; omega)] at f3
  have hcb : w.heap.size + 1 + 1 + 1 ≤ c' ∧ b ≠ c' := by
    simp only [World.setCell, Array.size_modify] at hb2
    omega
  clear hbel2 hrow2 hb2 cc ff f1 f2 a3 HT1
  go_wp2
  refine bodyPost_ret (v := .agg #[.string id, .int .i64 k, .slice (some ⟨b, 0, none⟩) ps.length ps.length, .slice (some ⟨c', 0, none⟩) ts.length ts.length]) (by simp [results, Tryz.results95, go_sem, g0, g1, g2, g3]) rfl ?_
  refine ⟨b, c', rfl, ?_, ?_, by omega, by omega, hcb.2, ?_⟩
  · exact ((((HR1.out.setOther (by simp; omega) _).setOther (by simp; omega) _).setOther (by simp; omega) _).setOther (by simp; omega) _).setOther (by simp; omega) _
  · exact ((((HR2.out.setOther (by simp; omega) _).setOther (by simp; omega) _).setOther (by simp; omega) _).setOther (by simp; omega) _).setOther (by simp; omega) _
  · exact ((((B2.out.setCell (by simp; omega) _).setCell (by simp) _).setCell (by simp) _).setCell (by simp) _).setCell (by simp) _
end Go.Proofs.YtdfadpejddhbkaaGreat

namespace Go.Proofs.YtdfadpejddhbkaaGreat
set_option linter.unusedVariables false
open Go.ChangeShapes Go.WideShapes Go.ChangeAt Go.RowKit

/-- a thing: its name, its kind, its points and its tags -/
abbrev Ft := ByteArray × Int × List (Int × Int) × List Tg

/-- the parts of a thing of a list -/
def fg (fs : List Ft) (i : Nat) : Ft := fs.getD i (.empty, 0, [], [])
def fid (fs : List Ft) (i : Nat) : ByteArray := (fg fs i).1
def fkd (fs : List Ft) (i : Nat) : Int := (fg fs i).2.1
def fps (fs : List Ft) (i : Nat) : List (Int × Int) := (fg fs i).2.2.1
def fts (fs : List Ft) (i : Nat) : List Tg := (fg fs i).2.2.2

theorem fg_eq (fs : List Ft) (i : Nat) : fg fs i = (fid fs i, fkd fs i, fps fs i, fts fs i) := rfl
theorem fg_get {fs : List Ft} {i : Nat} (h : i < fs.length) : fg fs i = fs[i] := by simp [fg, h]

/-- no part of a thing is longer than that -/
def FtLen (f : Ft) (m : Int) : Prop := (f.1.size : Int) ≤ m ∧ (f.2.2.1.length : Int) ≤ m ∧ (f.2.2.2.length : Int) ≤ m ∧ TagsLen f.2.2.2 m

/-- a slice that reads as things -/
def FeatsAt (w : World) (a : Option Addr) (fs : List Ft) : Prop :=
  ∀ i, i < fs.length → ∃ b off pa pc ta tc, a = some ⟨b, off, none⟩ ∧ b < w.heap.size ∧
    w.cell? ⟨b, off + i * 4, none⟩ = some (.string (fid fs i)) ∧ w.cell? ⟨b, off + i * 4 + 1, none⟩ = some (.int .i64 (fkd fs i)) ∧
    w.cell? ⟨b, off + i * 4 + 2, none⟩ = some (.slice pa (fps fs i).length pc) ∧ w.cell? ⟨b, off + i * 4 + 3, none⟩ = some (.slice ta (fts fs i).length tc) ∧
    PtsAt w pa (fps fs i) ∧ TagsAt w ta (fts fs i)

theorem FeatsAt.nil (w : World) (a : Option Addr) : FeatsAt w a [] := fun _ h => absurd h (Nat.not_lt_zero _)

theorem FeatsAt.below {w w' : World} {a : Option Addr} {fs : List Ft} (h : FeatsAt w a fs) (hb : Below w.heap.size w w') : FeatsAt w' a fs := by
  intro i hi
  obtain ⟨b, off, pa, pc, ta, tc, rfl, hlt, h1, h2, h3, h4, h5, h6⟩ := h i hi
  exact ⟨b, off, pa, pc, ta, tc, rfl, Nat.lt_of_lt_of_le hlt hb.size, by rw [hb.cell (p := ⟨b, _, none⟩) hlt]; exact h1, by rw [hb.cell (p := ⟨b, _, none⟩) hlt]; exact h2, by rw [hb.cell (p := ⟨b, _, none⟩) hlt]; exact h3, by rw [hb.cell (p := ⟨b, _, none⟩) hlt]; exact h4, h5.below hb, h6.below hb⟩

/-- no part is longer than that -/
def FeatsLen (fs : List Ft) (m : Int) : Prop := ∀ j, j < fs.length → ((fid fs j).size : Int) ≤ m ∧ ((fps fs j).length : Int) ≤ m ∧ ((fts fs j).length : Int) ≤ m ∧ TagsLen (fts fs j) m

theorem FeatsLen.mono {fs : List Ft} {l m : Int} (h : FeatsLen fs l) (hm : l ≤ m) : FeatsLen fs m := fun j hj =>
  ⟨Int.le_trans (h j hj).1 hm, Int.le_trans (h j hj).2.1 hm, Int.le_trans (h j hj).2.2.1 hm, (h j hj).2.2.2.mono hm⟩

def SzFeats (fs : List Ft) (left : Int) (r : Int) : Prop := r = -1 ∨ (0 ≤ r ∧ r ≤ left ∧ (fs.length : Int) ≤ left ∧ FeatsLen fs left)

/-- a list of things of the laws that came in, none of its parts longer than can be -/
structure FeatsIn (w : World) (a : Option Addr) (fs : List Ft) : Prop where
  reads : FeatsAt w a fs
  len : fs.length ≤ 9223372036854775807
  lens : FeatsLen fs 9223372036854775807

theorem FeatsIn.below {w w' : World} {a : Option Addr} {fs : List Ft} (h : FeatsIn w a fs) (hb : Below w.heap.size w w') : FeatsIn w' a fs := ⟨h.reads.below hb, h.len, h.lens⟩

set_option maxRecDepth 100000 in
set_option maxHeartbeats 2000000 in
theorem szFeatS_any (a : Option Addr) (cap : Nat) (fs : List Ft) (left : Int) (w : World) (hf : FeatsIn w a fs) (h0 : 0 ≤ left) (h1 : left ≤ 1048576) :
    Calls Tryz.prog 39 #[.slice a fs.length cap, .int .i64 left] w fun e w' => (∃ r, e = .returned (.int .i64 r) ∧ SzFeats fs left r) ∧ Below w.heap.size w w' := by
  obtain ⟨hp, hm, hl⟩ := hf
  have HP := Lib.hid hp
  have HL := Lib.hid hl
  clear hp hl
  by_cases g1 : (fs.length : Int) ≤ left
  · go_enter Tryz.func39, Tryz.ntmps39
    go_wp2
    go_loopw [1, 5] (fun l i wr => ∃ (k : Nat) (r : Int), k ≤ fs.length ∧ i = .int .i64 k ∧ l = .int .i64 r ∧ 0 ≤ r ∧ r ≤ left ∧ Below w.heap.size w wr ∧ ∀ j, j < k → ((fid fs j).size : Int) ≤ left ∧ ((fps fs j).length : Int) ≤ left ∧ ((fts fs j).length : Int) ≤ left ∧ TagsLen (fts fs j) left) (fun _ i _ => fs.length - (intOf i).toNat)
    case atStart => exact ⟨0, left - fs.length, Nat.zero_le _, rfl, by simp, by omega, by omega, Below.refl _ _, fun j h => absurd h (Nat.not_lt_zero _)⟩
    case round =>
      obtain ⟨k, r, hk, rfl, rfl, hr0, hr1, hbel, hall⟩ := hrel
      have HA := Lib.hid hall
      have HB := Lib.hid hbel
      have hsz := hbel.size
      clear hall
      by_cases hlt : k < fs.length
      · obtain ⟨b, off, pa, pc, ta, tc, rfl, hb, hc1, hc2, hc3, hc4, hpp, htt⟩ := HP.out k hlt
        rw [← hbel.cell (p := ⟨b, _, none⟩) hb] at hc1 hc2 hc3 hc4
        have HI : Hid (FeatIn wr (fid fs k) pa (fps fs k) ta (fts fs k)) := ⟨hpp.below hbel, htt.below hbel, by have := (HL.out k hlt).1; omega, by have := (HL.out k hlt).2.1; omega, by have := (HL.out k hlt).2.2.1; omega, (HL.out k hlt).2.2.2⟩
        clear hbel hpp htt
        go_wp2_with fail
        refine (szFeat_any _ _ _ _ _ _ _ _ _ _ HI.out hr0 (by omega)).mono ?_
        rintro e w1 ⟨⟨r', rfl, hs⟩, hb1⟩
        have B1 : Hid (Below w.heap.size w w1) := HB.out.trans (hb1.mono hsz)
        clear hb1 hc1 hc2 hc3 hc4
        rcases hs with rfl | ⟨g2, g3, g4, g5, g6, g7⟩
        · go_wp2
          go_ret
          exact ⟨⟨_, rfl, .inl rfl⟩, B1.out⟩
        · have G7 := Lib.hid g7
          clear g7
          go_wp2
          go_roundw
          case rel => exact ⟨k + 1, r', by omega, by go_num, rfl, g2, by omega, B1.out, fun j hj => by by_cases e : j = k; (subst e; exact ⟨by omega, by omega, by omega, G7.out.mono (by omega)⟩); exact HA.out j (by omega)⟩
          case measure => simp [intOf]; omega
      · obtain rfl : k = fs.length := by omega
        clear hbel
        go_wp2
        go_ret
        exact ⟨⟨_, rfl, .inr ⟨hr0, hr1, g1, HA.out⟩⟩, HB.out⟩
  · go_enter Tryz.func39, Tryz.ntmps39
    go_wp2
    go_ret
    exact ⟨⟨_, rfl, .inl rfl⟩, Below.refl _ _⟩

theorem infoFeat : (Tryz.prog.info? 33).map (fun i => (i.zero, i.size, i.bytes)) = some (some (.agg #[.string .empty, .int .i64 0, .slice none 0 0, .slice none 0 0]), 4, 72) := by kernel_rfl

/-- a things' cell by its place; the rows of points and tags lie where 'ad' says -/
def featCell (fs : List Ft) (ad : Nat → Nat × Nat) (j : Nat) : Value :=
  if j % 4 = 0 then .string (fid fs (j / 4)) else if j % 4 = 1 then .int .i64 (fkd fs (j / 4))
  else if j % 4 = 2 then .slice (some ⟨(ad (j / 4)).1, 0, none⟩) (fps fs (j / 4)).length (fps fs (j / 4)).length
  else .slice (some ⟨(ad (j / 4)).2, 0, none⟩) (fts fs (j / 4)).length (fts fs (j / 4)).length

def zeroF (j : Nat) : Value := if j % 4 = 0 then .string .empty else if j % 4 = 1 then .int .i64 0 else .slice none 0 0

/-- how far a row is filled -/
def filledF (fs : List Ft) (ad : Nat → Nat × Nat) (k j : Nat) : Value := if j < k * 4 then featCell fs ad j else zeroF j

/-- the places, with one more -/
def adSet (ad : Nat → Nat × Nat) (k : Nat) (x : Nat × Nat) : Nat → Nat × Nat := fun i => if i = k then x else ad i

theorem adSet_at (ad : Nat → Nat × Nat) (k : Nat) (x : Nat × Nat) : adSet ad k x k = x := if_pos rfl
theorem adSet_lt {ad : Nat → Nat × Nat} {k i : Nat} {x : Nat × Nat} (h : i < k) : adSet ad k x i = ad i := if_neg (by omega)

theorem filledF_step (fs : List Ft) (ad : Nat → Nat × Nat) (k j p t : Nat) :
    (if j = k * 4 + 3 then .slice (some ⟨t, 0, none⟩) (fts fs k).length (fts fs k).length else if j = k * 4 + 2 then .slice (some ⟨p, 0, none⟩) (fps fs k).length (fps fs k).length else if j = k * 4 + 1 then .int .i64 (fkd fs k) else if j = k * 4 then .string (fid fs k) else filledF fs ad k j) = filledF fs (adSet ad k (p, t)) (k + 1) j := by
  unfold filledF featCell
  by_cases h1 : j = k * 4 + 3
  · subst h1
    rw [if_pos rfl, if_pos (by omega), if_neg (by omega), if_neg (by omega), if_neg (by omega), show (k * 4 + 3) / 4 = k by omega, adSet_at]
  · rw [if_neg h1]
    by_cases h2 : j = k * 4 + 2
    · subst h2
      rw [if_pos rfl, if_pos (by omega), if_neg (by omega), if_neg (by omega), if_pos (by omega), show (k * 4 + 2) / 4 = k by omega, adSet_at]
    · rw [if_neg h2]
      by_cases h3 : j = k * 4 + 1
      · subst h3
        rw [if_pos rfl, if_pos (by omega), if_neg (by omega), if_pos (by omega), show (k * 4 + 1) / 4 = k by omega]
      · rw [if_neg h3]
        by_cases h4 : j = k * 4
        · subst h4
          rw [if_pos rfl, if_pos (by omega), if_pos (by omega), show (k * 4) / 4 = k by omega]
        · rw [if_neg h4]
          by_cases h5 : j < k * 4
          · have h6 : j < (k + 1) * 4 := by omega
            rw [if_pos h5, if_pos h6, adSet_lt (by omega)]
          · rw [if_neg h5, if_neg (by omega)]

theorem made_rowF (w : World) (n : Nat) (t : TypeId) : (w.alloc (.cells (madeCells #[.string .empty, .int .i64 0, .slice none 0 0, .slice none 0 0] (n * 4)) t)).rowIs w.heap.size t (n * 4) zeroF := by
  have hs : (madeCells #[Value.string .empty, .int .i64 0, .slice none 0 0, .slice none 0 0] (n * 4)).size = n * 4 := by simp [madeCells]
  have := World.rowIs_alloc w (madeCells #[.string .empty, .int .i64 0, .slice none 0 0, .slice none 0 0] (n * 4)) t zeroF (by
    intro i hi
    rw [hs] at hi
    simp only [madeCells, Array.getElem?_map, Array.getElem?_range, if_pos hi, Option.map_some]
    have : i % 4 = 0 ∨ i % 4 = 1 ∨ i % 4 = 2 ∨ i % 4 = 3 := by omega
    rcases this with h | h | h | h <;> simp [h, zeroF])
  rwa [hs] at this

/-- the rows of the points and tags of the first things -/
def Parts (w : World) (base : Nat) (fs : List Ft) (ad : Nat → Nat × Nat) (k : Nat) : Prop :=
  ∀ i, i < k → w.rowIs (ad i).1 148 ((fps fs i).length * 2) (ptCell (fps fs i)) ∧ w.rowIs (ad i).2 92 ((fts fs i).length * 2) (tagCell (fts fs i)) ∧ base < (ad i).1 ∧ base < (ad i).2 ∧ (ad i).1 ≠ (ad i).2 ∧ ∀ j, j < i → (ad j).1 < (ad i).1 ∧ (ad j).1 < (ad i).2 ∧ (ad j).2 < (ad i).1 ∧ (ad j).2 < (ad i).2

theorem Parts.below {w w' : World} {base : Nat} {fs : List Ft} {ad : Nat → Nat × Nat} {k : Nat} (h : Parts w base fs ad k) (hb : Below w.heap.size w w') : Parts w' base fs ad k := fun i hi =>
  ⟨(h i hi).1.of_block (hb.block _ (h i hi).1.lt), (h i hi).2.1.of_block (hb.block _ (h i hi).2.1.lt), (h i hi).2.2⟩

theorem Parts.setBase {w : World} {base : Nat} {fs : List Ft} {ad : Nat → Nat × Nat} {k : Nat} (h : Parts w base fs ad k) (o : Nat) (v : Value) : Parts (w.setCell ⟨base, o, none⟩ v) base fs ad k := fun i hi =>
  ⟨(h i hi).1.setOther (by have := (h i hi).2.2.1; show _ ≠ _; simp; omega) _, (h i hi).2.1.setOther (by have := (h i hi).2.2.2.1; show _ ≠ _; simp; omega) _, (h i hi).2.2⟩

/-- what 'toFeatS' answers: a row of its own, with the rows of the parts -/
def NewFeats (w : World) (fs : List Ft) (e : Ending) (w' : World) : Prop :=
  ∃ b ad, e = .returned (.slice (some ⟨b, 0, none⟩) fs.length fs.length) ∧ w'.rowIs b 33 (fs.length * 4) (featCell fs ad) ∧ Parts w' b fs ad fs.length ∧ w.heap.size ≤ b ∧ Below w.heap.size w w'

theorem FeatsAt.of_row {fs : List Ft} {ad : Nat → Nat × Nat} {w : World} {b : Nat} {t : TypeId} (h : w.rowIs b t (fs.length * 4) (featCell fs ad)) (hp : Parts w b fs ad fs.length) : FeatsAt w (some ⟨b, 0, none⟩) fs := by
  intro i hi
  refine ⟨b, 0, some ⟨(ad i).1, 0, none⟩, (fps fs i).length, some ⟨(ad i).2, 0, none⟩, (fts fs i).length, rfl, h.lt, ?_, ?_, ?_, ?_, PtsAt.of_row (hp i hi).1, TagsAt.of_row (hp i hi).2.1⟩
  · have := h.cell (i := i * 4) (by omega)
    rw [Nat.zero_add, this]
    unfold featCell
    rw [if_pos (by omega), show i * 4 / 4 = i by omega]
  · have := h.cell (i := i * 4 + 1) (by omega)
    rw [Nat.zero_add, this]
    unfold featCell
    rw [if_neg (by omega), if_pos (by omega), show (i * 4 + 1) / 4 = i by omega]
  · have := h.cell (i := i * 4 + 2) (by omega)
    rw [Nat.zero_add, this]
    unfold featCell
    rw [if_neg (by omega), if_neg (by omega), if_pos (by omega), show (i * 4 + 2) / 4 = i by omega]
  · have := h.cell (i := i * 4 + 3) (by omega)
    rw [Nat.zero_add, this]
    unfold featCell
    rw [if_neg (by omega), if_neg (by omega), if_neg (by omega), show (i * 4 + 3) / 4 = i by omega]

set_option maxRecDepth 100000 in
set_option maxHeartbeats 2000000 in
theorem toFeatS_any (a : Option Addr) (cap : Nat) (fs : List Ft) (w : World) (hp : FeatsAt w a fs) (hlen : fs.length ≤ 1048576) (hl : FeatsLen fs 1048576) :
    Calls Tryz.prog 42 #[.slice a fs.length cap] w (NewFeats w fs) := by
  obtain ⟨i0, hi, hz0, hz1, hz2⟩ := info_parts infoFeat
  have hmk : ∀ u : World, (Instr.makeSlice 23 (.int .i64 (fs.length : Int)) (.int .i64 (fs.length : Int))).run Tryz.prog u =
      .ok (.slice (some ⟨u.heap.size, 0, none⟩) fs.length fs.length) (u.alloc (.cells (madeCells #[.string .empty, .int .i64 0, .slice none 0 0, .slice none 0 0] (fs.length * 4)) 33)) := fun u => by
    have h := run_make (P := Tryz.prog) u 23 33 i0 (.agg #[.string .empty, .int .i64 0, .slice none 0 0, .slice none 0 0]) Tryz.underlying23 hi hz0 .i64 .i64 (fs.length : Int) (fs.length : Int) (by omega) (Int.le_refl _) (by rw [hz2]; omega) (by omega)
    simpa [hz1, Value.cells] using h
  have H0 := Lib.hid hp
  have HL := Lib.hid hl
  clear hp hz0 hz1 hz2 hi hl
  go_enter Tryz.func42, Tryz.ntmps42
  go_wp2
  clear hmk
  go_loopw [4] (fun i wr => ∃ (k : Nat) (ad : Nat → Nat × Nat), k ≤ fs.length ∧ i = .int .i64 k ∧ wr.rowIs w.heap.size 33 (fs.length * 4) (filledF fs ad k) ∧ Parts wr w.heap.size fs ad k ∧ Below w.heap.size w wr) (fun i _ => fs.length - (intOf i).toNat)
  case atStart =>
    refine ⟨0, fun _ => (0, 0), Nat.zero_le _, rfl, (made_rowF w fs.length _).congr fun i _ => ?_, fun i hi => absurd hi (Nat.not_lt_zero _), (Below.refl _ _).alloc (Nat.le_refl _) _⟩
    unfold filledF
    rw [if_neg (by omega)]
  case round =>
    obtain ⟨k, ad, hk, rfl, hrow, hpar, hbel⟩ := hrel
    by_cases hlt : k < fs.length
    · obtain ⟨b, off, pa, pc, ta, tc, rfl, hb, hc1, hc2, hc3, hc4, hpp, htt⟩ := H0.out k hlt
      rw [← hbel.cell (p := ⟨b, _, none⟩) hb] at hc1 hc2 hc3 hc4
      obtain ⟨l1, l2, l3, l4⟩ := HL.out k hlt
      have HR := Lib.hid hrow
      have HB := Lib.hid hbel
      have HPar := Lib.hid hpar
      have HPP := Lib.hid (hpp.below hbel)
      have HTT := Lib.hid (htt.below hbel)
      have hwlt := hrow.lt
      clear hrow hbel hpar hpp htt l4
      have hsz := HB.out.size
      go_wp2_with fail
      refine (toFeat_any _ _ _ _ _ _ _ _ _ HPP.out HTT.out (by omega) (by omega)).mono ?_
      rintro e w1 ⟨pb, tb, rfl, hr1, hr2, hg1, hg2, hne, hb1⟩
      have hrow1 : w1.rowIs w.heap.size 33 (fs.length * 4) (filledF fs ad k) := HR.out.of_block (hb1.block _ HR.out.lt)
      have hf1 := hrow1.frozen (k * 4)
      have hf2 := hrow1.frozen (k * 4 + 1)
      have hf3 := hrow1.frozen (k * 4 + 2)
      have hf4 := hrow1.frozen (k * 4 + 3)
      have hd1 := hrow1.cell (i := k * 4) (by omega)
      have hd2 := hrow1.cell (i := k * 4 + 1) (by omega)
      have hd3 := hrow1.cell (i := k * 4 + 2) (by omega)
      have hd4 := hrow1.cell (i := k * 4 + 3) (by omega)
      have HR1 := Lib.hid hrow1
      have HB1 := Lib.hid hb1
      have HP1 : Hid (Parts w1 w.heap.size fs (adSet ad k (pb, tb)) (k + 1)) := by
        intro i hi
        by_cases e : i = k
        · subst e
          rw [adSet_at]
          exact ⟨hr1, hr2, by omega, by omega, hne, fun j hj => by
            rw [adSet_lt hj]
            have h1 := (HPar.out j (by omega)).1.lt
            have h2 := (HPar.out j (by omega)).2.1.lt
            omega⟩
        · rw [adSet_lt (by omega)]
          obtain ⟨x1, x2, x3, x4, x5, x6⟩ := HPar.out.below hb1 i (by omega)
          exact ⟨x1, x2, x3, x4, x5, fun j hj => by rw [adSet_lt (by omega)]; exact x6 j hj⟩
      clear hrow1 hb1 hr1 hr2 hc1 hc2 hc3 hc4
      go_wp2
      go_roundw
      case rel =>
        refine ⟨k + 1, adSet ad k (pb, tb), by omega, by go_num, ((((HR1.out.set (k * 4) _).set (k * 4 + 1) _).set (k * 4 + 2) _).set (k * 4 + 3) _).congr fun j _ => filledF_step fs ad k j pb tb, (((HP1.out.setBase _ _).setBase _ _).setBase _ _).setBase _ _, ?_⟩
        exact ((((HB.out.trans (HB1.out.mono hsz)).setCell (Nat.le_refl _) _).setCell (Nat.le_refl _) _).setCell (Nat.le_refl _) _).setCell (Nat.le_refl _) _
      case measure => simp [intOf]; omega
    · have HR := Lib.hid hrow
      have HB := Lib.hid hbel
      have HPar := Lib.hid hpar
      clear hrow hbel hpar
      go_wp2
      go_ret
      obtain rfl : k = fs.length := by omega
      exact ⟨w.heap.size, ad, rfl, HR.out.congr fun j hj => (by unfold filledF; rw [if_pos hj]), HPar.out, Nat.le_refl _, HB.out⟩
end Go.Proofs.YtdfadpejddhbkaaGreat

namespace Go.Proofs.YtdfadpejddhbkaaGreat
set_option linter.unusedVariables false
open Go.ChangeShapes Go.WideShapes Go.ChangeAt Go.RowKit

/-- two shapes are one -/
def shEq (k k' : Int) (ps qs : List (Int × Int)) : Bool := decide (k = k') && ptsEq ps qs
/-- two things are one -/
def featEq (id id' : ByteArray) (k k' : Int) (ps qs : List (Int × Int)) (ts us : List Tg) : Bool := decide (id = id') && shEq k k' ps qs && tgsEq ts us

theorem featEq_id {id id' : ByteArray} {k k' : Int} {ps qs : List (Int × Int)} {ts us : List Tg} (h : ¬ id = id') : featEq id id' k k' ps qs ts us = false := by simp [featEq, h]
theorem featEq_sh {id id' : ByteArray} {k k' : Int} {ps qs : List (Int × Int)} {ts us : List Tg} (h : shEq k k' ps qs = false) : featEq id id' k k' ps qs ts us = false := by simp [featEq, h]
theorem featEq_tg {id id' : ByteArray} {k k' : Int} {ps qs : List (Int × Int)} {ts us : List Tg} (h1 : id = id') (h : shEq k k' ps qs = true) : featEq id id' k k' ps qs ts us = tgsEq ts us := by simp [featEq, h, h1]

set_option maxRecDepth 100000 in
set_option maxHeartbeats 2000000 in
theorem eqFeat_any (id id' : ByteArray) (k k' : Int) (a a' : Option Addr) (cap cap' : Nat) (ps qs : List (Int × Int)) (c c' : Option Addr) (ca ca' : Nat) (ts us : List Tg) (w : World) (hp : PtsAt w a ps) (hq : PtsAt w a' qs) (ht : TagsAt w c ts) (hu : TagsAt w c' us) (hl : ps.length ≤ 1048576) (hl' : qs.length ≤ 1048576) (hm : ts.length ≤ 1048576) (hm' : us.length ≤ 1048576) :
    Calls Tryz.prog 103 #[.agg #[.string id, .int .i64 k, .slice a ps.length cap, .slice c ts.length ca], .agg #[.string id', .int .i64 k', .slice a' qs.length cap', .slice c' us.length ca']] w fun e w' => e = .returned (.bool (featEq id id' k k' ps qs ts us)) ∧ Below w.heap.size w w' := by
  have HP := Lib.hid hp
  have HQ := Lib.hid hq
  have HT := Lib.hid ht
  have HU := Lib.hid hu
  clear hp hq ht hu
  have B0 : Hid (∀ o o', Below w.heap.size w ((w.alloc o).alloc o')) := fun o o' => ((Below.refl _ _).alloc (Nat.le_refl _) _).alloc (by simp) _
  have e1 := bytes_beq id id'
  by_cases h1 : id = id'
  · rw [decide_eq_true h1] at e1
    have H1 := Lib.hid h1
    clear h1
    go_enter Tryz.func103, Tryz.ntmps103
    go_wp2_with fail
    refine (eqShape_any _ _ _ _ _ _ _ _ _ (HP.out.below (B0.out _ _)) (HQ.out.below (B0.out _ _)) hl hl').mono ?_
    rintro e w1 ⟨rfl, hb1⟩
    have c3 := cell_later hb1 (a := ⟨w.heap.size, 3, none⟩) (v := .slice c ts.length ca) (by simp [go_sem])
    have d3 := cell_later hb1 (a := ⟨w.heap.size + 1, 3, none⟩) (v := .slice c' us.length ca') (by simp [go_sem])
    have B1 : Hid (Below w.heap.size w w1) := (B0.out _ _).trans (hb1.mono (by simp; omega))
    clear hb1
    rw [show (decide (k = k') && ptsEq ps qs) = shEq k k' ps qs from rfl]
    by_cases h2 : shEq k k' ps qs = true
    · rw [h2]
      have H2 := Lib.hid (featEq_tg (ts := ts) (us := us) H1.out h2)
      clear h2
      go_wp2_with fail
      refine (eqTagS_any _ _ _ _ _ _ _ (HT.out.below B1.out) (HU.out.below B1.out) hm hm').mono ?_
      rintro e w2 ⟨rfl, hb2⟩
      have B2 : Hid (Below w.heap.size w w2) := B1.out.trans (hb2.mono B1.out.size)
      clear hb2
      clear c3 d3
      go_wp2
      all_goals go_ret
      all_goals exact ⟨by rw [H2.out]; simp_all, B2.out⟩
    · have h2' : shEq k k' ps qs = false := by simpa using h2
      rw [h2']
      have H2 := Lib.hid (featEq_sh (id := id) (id' := id') (ts := ts) (us := us) h2')
      clear h2 h2' c3 d3
      go_wp2
      go_ret
      exact ⟨by rw [H2.out]; rfl, B1.out⟩
  · rw [decide_eq_false h1] at e1
    have H1 := Lib.hid (featEq_id (k := k) (k' := k') (ps := ps) (qs := qs) (ts := ts) (us := us) h1)
    clear h1
    go_enter Tryz.func103, Tryz.ntmps103
    go_wp2
    go_ret
    exact ⟨by rw [H1.out]; rfl, B0.out _ _⟩

set_option maxRecDepth 100000 in
set_option maxHeartbeats 2000000 in
theorem specFeatSame_any (id id' : ByteArray) (k k' : Int) (a a' : Option Addr) (cap cap' : Nat) (ps qs : List (Int × Int)) (c c' : Option Addr) (ca ca' : Nat) (ts us : List Tg) (w : World) (hp : PtsAt w a ps) (hq : PtsAt w a' qs) (ht : TagsAt w c ts) (hu : TagsAt w c' us) (hl : ps.length ≤ 1048576) (hl' : qs.length ≤ 1048576) (hm : ts.length ≤ 1048576) (hm' : us.length ≤ 1048576) :
    Calls Tryz.prog 139 #[.agg #[.string id, .int .i64 k, .slice a ps.length cap, .slice c ts.length ca], .agg #[.string id', .int .i64 k', .slice a' qs.length cap', .slice c' us.length ca']] w fun e w' => e = .returned (.bool (featEq id id' k k' ps qs ts us)) ∧ Below w.heap.size w w' := by
  have HP := Lib.hid hp
  have HQ := Lib.hid hq
  have HT := Lib.hid ht
  have HU := Lib.hid hu
  clear hp hq ht hu
  have B0 : Hid (∀ o o', Below w.heap.size w ((w.alloc o).alloc o')) := fun o o' => ((Below.refl _ _).alloc (Nat.le_refl _) _).alloc (by simp) _
  have e1 := bytes_beq id id'
  by_cases h1 : id = id'
  · rw [decide_eq_true h1] at e1
    have H1 := Lib.hid h1
    clear h1
    go_enter Tryz.func139, Tryz.ntmps139
    go_wp2_with fail
    refine (specShapeSame_any _ _ _ _ _ _ _ _ _ (HP.out.below (B0.out _ _)) (HQ.out.below (B0.out _ _)) hl hl').mono ?_
    rintro e w1 ⟨rfl, hb1⟩
    have c3 := cell_later hb1 (a := ⟨w.heap.size, 3, none⟩) (v := .slice c ts.length ca) (by simp [go_sem])
    have d3 := cell_later hb1 (a := ⟨w.heap.size + 1, 3, none⟩) (v := .slice c' us.length ca') (by simp [go_sem])
    have B1 : Hid (Below w.heap.size w w1) := (B0.out _ _).trans (hb1.mono (by simp; omega))
    clear hb1
    rw [show (decide (k = k') && ptsEq ps qs) = shEq k k' ps qs from rfl]
    by_cases h2 : shEq k k' ps qs = true
    · rw [h2]
      have H2 := Lib.hid (featEq_tg (ts := ts) (us := us) H1.out h2)
      clear h2
      go_wp2_with fail
      refine (l2Same_any _ _ _ _ _ _ _ (HT.out.below B1.out) (HU.out.below B1.out) hm hm').mono ?_
      rintro e w2 ⟨rfl, n, rfl⟩
      have B2 : Hid (Below w.heap.size w (w1.drewN n)) := below_drewN B1.out n
      clear c3 d3
      go_wp2
      all_goals go_ret
      all_goals exact ⟨by rw [H2.out]; simp_all, B2.out⟩
    · have h2' : shEq k k' ps qs = false := by simpa using h2
      rw [h2']
      have H2 := Lib.hid (featEq_sh (id := id) (id' := id') (ts := ts) (us := us) h2')
      clear h2 h2' c3 d3
      go_wp2
      go_ret
      exact ⟨by rw [H2.out]; rfl, B1.out⟩
  · rw [decide_eq_false h1] at e1
    have H1 := Lib.hid (featEq_id (k := k) (k' := k') (ps := ps) (qs := qs) (ts := ts) (us := us) h1)
    clear h1
    go_enter Tryz.func139, Tryz.ntmps139
    go_wp2
    go_ret
    exact ⟨by rw [H1.out]; rfl, B0.out _ _⟩

set_option maxRecDepth 100000 in
set_option maxHeartbeats 2000000 in
theorem implFeatSame_any (id id' : ByteArray) (k k' : Int) (a a' : Option Addr) (cap cap' : Nat) (ps qs : List (Int × Int)) (c c' : Option Addr) (ca ca' : Nat) (ts us : List Tg) (w : World) (hp : PtsAt w a ps) (hq : PtsAt w a' qs) (ht : TagsAt w c ts) (hu : TagsAt w c' us) (hl : ps.length ≤ 1048576) (hl' : qs.length ≤ 1048576) (hm : ts.length ≤ 1048576) (hm' : us.length ≤ 1048576) :
    Calls Tryz.prog 20 #[.agg #[.string id, .int .i64 k, .slice a ps.length cap, .slice c ts.length ca], .agg #[.string id', .int .i64 k', .slice a' qs.length cap', .slice c' us.length ca']] w fun e w' => e = .returned (.bool (featEq id id' k k' ps qs ts us)) ∧ Below w.heap.size w w' := by
  have HP := Lib.hid hp
  have HQ := Lib.hid hq
  have HT := Lib.hid ht
  have HU := Lib.hid hu
  clear hp hq ht hu
  have B0 : Hid (∀ o o', Below w.heap.size w ((w.alloc o).alloc o')) := fun o o' => ((Below.refl _ _).alloc (Nat.le_refl _) _).alloc (by simp) _
  have e1 := bytes_beq id id'
  by_cases h1 : id = id'
  · rw [decide_eq_true h1] at e1
    have H1 := Lib.hid h1
    clear h1
    go_enter Tryz.func20, Tryz.ntmps20
    go_wp2_with fail
    refine (implShapeSame_any _ _ _ _ _ _ _ _ _ (HP.out.below (B0.out _ _)) (HQ.out.below (B0.out _ _)) hl hl').mono ?_
    rintro e w1 ⟨rfl, hb1⟩
    have c3 := cell_later hb1 (a := ⟨w.heap.size, 3, none⟩) (v := .slice c ts.length ca) (by simp [go_sem])
    have d3 := cell_later hb1 (a := ⟨w.heap.size + 1, 3, none⟩) (v := .slice c' us.length ca') (by simp [go_sem])
    have B1 : Hid (Below w.heap.size w w1) := (B0.out _ _).trans (hb1.mono (by simp; omega))
    clear hb1
    rw [show (decide (k = k') && ptsEq ps qs) = shEq k k' ps qs from rfl]
    by_cases h2 : shEq k k' ps qs = true
    · rw [h2]
      have H2 := Lib.hid (featEq_tg (ts := ts) (us := us) H1.out h2)
      clear h2
      go_wp2_with fail
      refine (slicesEqualT_any _ _ _ _ _ _ _ (HT.out.below B1.out) (HU.out.below B1.out) hm hm').mono ?_
      rintro e w2 ⟨rfl, n, rfl⟩
      have B2 : Hid (Below w.heap.size w (w1.drewN n)) := below_drewN B1.out n
      clear c3 d3
      go_wp2
      all_goals go_ret
      all_goals exact ⟨by rw [H2.out]; simp_all, B2.out⟩
    · have h2' : shEq k k' ps qs = false := by simpa using h2
      rw [h2']
      have H2 := Lib.hid (featEq_sh (id := id) (id' := id') (ts := ts) (us := us) h2')
      clear h2 h2' c3 d3
      go_wp2
      go_ret
      exact ⟨by rw [H2.out]; rfl, B1.out⟩
  · rw [decide_eq_false h1] at e1
    have H1 := Lib.hid (featEq_id (k := k) (k' := k') (ps := ps) (qs := qs) (ts := ts) (us := us) h1)
    clear h1
    go_enter Tryz.func20, Tryz.ntmps20
    go_wp2
    go_ret
    exact ⟨by rw [H1.out]; rfl, B0.out _ _⟩
end Go.Proofs.YtdfadpejddhbkaaGreat

namespace Go.Proofs.YtdfadpejddhbkaaGreat
set_option linter.unusedVariables false
open Go.ChangeShapes Go.WideShapes Go.ChangeAt Go.RowKit

/-- two lists of things are one -/
def fsEq (fs gs : List Ft) : Bool := decide (fs = gs)

theorem featEq_fg (fs gs : List Ft) (i j : Nat) : featEq (fid fs i) (fid gs j) (fkd fs i) (fkd gs j) (fps fs i) (fps gs j) (fts fs i) (fts gs j) = decide (fg fs i = fg gs j) := by
  rw [fg_eq, fg_eq]
  unfold featEq shEq ptsEq tgsEq
  by_cases h1 : fid fs i = fid gs j <;> by_cases h2 : fkd fs i = fkd gs j <;> by_cases h3 : fps fs i = fps gs j <;> by_cases h4 : fts fs i = fts gs j <;> simp [h1, h2, h3, h4]

theorem fsEq_of {fs gs : List Ft} (hl : fs.length = gs.length) (h : ∀ j, j < fs.length → fg fs j = fg gs j) : fsEq fs gs = true := by
  unfold fsEq
  rw [decide_eq_true_iff]
  refine List.ext_getElem hl fun i h1 h2 => ?_
  have := h i h1
  rwa [fg_get h1, fg_get h2] at this

theorem fsEq_ne {fs gs : List Ft} {j : Nat} (h : ¬ fg fs j = fg gs j) : fsEq fs gs = false := by
  unfold fsEq
  rw [decide_eq_false_iff_not]
  rintro rfl
  exact h rfl

theorem fsEq_len {fs gs : List Ft} (h : fs.length ≠ gs.length) : fsEq fs gs = false := by
  unfold fsEq
  rw [decide_eq_false_iff_not]
  rintro rfl
  exact h rfl

set_option maxRecDepth 100000 in
set_option maxHeartbeats 2000000 in
theorem eqFeatS_any (a a' : Option Addr) (cap cap' : Nat) (fs gs : List Ft) (w : World) (hp : FeatsAt w a fs) (hq : FeatsAt w a' gs) (hl : fs.length ≤ 1048576) (hl' : gs.length ≤ 1048576) (hs : FeatsLen fs 1048576) (hs' : FeatsLen gs 1048576) :
    Calls Tryz.prog 45 #[.slice a fs.length cap, .slice a' gs.length cap'] w fun e w' => e = .returned (.bool (fsEq fs gs)) ∧ Below w.heap.size w w' := by
  have HP := Lib.hid hp
  have HQ := Lib.hid hq
  have HS := Lib.hid hs
  have HS' := Lib.hid hs'
  clear hp hq hs hs'
  by_cases he : fs.length = gs.length
  · have HE := Lib.hid he
    rw [← he]
    have h1 : ((fs.length : Int) != (fs.length : Int)) = false := by simp
    clear he
    go_enter Tryz.func45, Tryz.ntmps45
    go_wp2
    go_loopw [5] (fun i wr => ∃ k : Nat, k ≤ fs.length ∧ i = .int .i64 k ∧ Below w.heap.size w wr ∧ ∀ j, j < k → fg fs j = fg gs j) (fun i _ => fs.length - (intOf i).toNat)
    case atStart => exact ⟨0, Nat.zero_le _, rfl, Below.refl _ _, fun j h => absurd h (Nat.not_lt_zero _)⟩
    case round =>
      obtain ⟨k, hk, rfl, hbel, hall⟩ := hrel
      have HA := Lib.hid hall
      have HB := Lib.hid hbel
      have hsz := hbel.size
      clear hall
      by_cases hlt : k < fs.length
      · obtain ⟨b, off, pa, pc, ta, tc, rfl, hb, hc1, hc2, hc3, hc4, hpp, htt⟩ := HP.out k hlt
        obtain ⟨b', off', pa', pc', ta', tc', rfl, hb', hd1, hd2, hd3, hd4, hpp', htt'⟩ := HQ.out k (by have := HE.out; omega)
        obtain ⟨l1, l2, l3, _⟩ := HS.out k hlt
        obtain ⟨m1, m2, m3, _⟩ := HS'.out k (by have := HE.out; omega)
        rw [← hbel.cell (p := ⟨b, _, none⟩) hb] at hc1 hc2 hc3 hc4
        rw [← hbel.cell (p := ⟨b', _, none⟩) hb'] at hd1 hd2 hd3 hd4
        have D1 := Lib.hid (hpp.below hbel.drew)
        have D2 := Lib.hid (htt.below hbel.drew)
        have D3 := Lib.hid (hpp'.below hbel.drew)
        have D4 := Lib.hid (htt'.below hbel.drew)
        clear hbel hpp htt hpp' htt'
        have hfe := featEq_fg fs gs k k
        by_cases hs : fg fs k = fg gs k
        · rw [decide_eq_true hs] at hfe
          have HG := Lib.hid hs
          clear hs
          go_wp2
          go_still_tail 8, (by kernel_rfl)
          go_wp2_with fail
          refine (eqFeat_any _ _ _ _ _ _ _ _ _ _ _ _ _ _ _ _ _ D1.out D3.out D2.out D4.out (by omega) (by omega) (by omega) (by omega)).mono ?_
          rintro e w1 ⟨rfl, hb2⟩
          have HB2 := Lib.hid hb2
          clear hb2
          go_wp2
          go_roundw
          case rel => exact ⟨k + 1, by omega, by go_num, HB.out.drew.trans (HB2.out.mono hsz), fun j hj => by by_cases e : j = k; (subst e; exact HG.out); exact HA.out j (by omega)⟩
          case measure => simp [intOf]; omega
        · rw [decide_eq_false hs] at hfe
          have HG := Lib.hid (fsEq_ne hs)
          clear hs
          go_wp2
          go_still_tail 8, (by kernel_rfl)
          go_wp2_with fail
          refine (eqFeat_any _ _ _ _ _ _ _ _ _ _ _ _ _ _ _ _ _ D1.out D3.out D2.out D4.out (by omega) (by omega) (by omega) (by omega)).mono ?_
          rintro e w1 ⟨rfl, hb2⟩
          have HB2 := Lib.hid hb2
          clear hb2
          go_wp2
          go_ret
          exact ⟨by rw [HG.out]; rfl, HB.out.drew.trans (HB2.out.mono hsz)⟩
      · obtain rfl : k = fs.length := by omega
        have HT := Lib.hid (fsEq_of HE.out HA.out)
        clear hbel
        go_wp2
        go_ret
        exact ⟨by rw [HT.out]; rfl, HB.out⟩
  · have h1 : ((fs.length : Int) != (gs.length : Int)) = true := by simp; omega
    have HT := Lib.hid (fsEq_len he)
    clear he
    go_enter Tryz.func45, Tryz.ntmps45
    go_wp2
    go_ret
    exact ⟨by rw [HT.out]; rfl, Below.refl _ _⟩


set_option maxRecDepth 100000 in
set_option maxHeartbeats 2000000 in
theorem specSheetSame_any (a a' : Option Addr) (cap cap' : Nat) (fs gs : List Ft) (w : World) (hp : FeatsAt w a fs) (hq : FeatsAt w a' gs) (hl : fs.length ≤ 1048576) (hl' : gs.length ≤ 1048576) (hs : FeatsLen fs 1048576) (hs' : FeatsLen gs 1048576) :
    Calls Tryz.prog 91 #[.slice a fs.length cap, .slice a' gs.length cap'] w fun e w' => e = .returned (.bool (fsEq fs gs)) ∧ Below w.heap.size w w' := by
  have HP := Lib.hid hp
  have HQ := Lib.hid hq
  have HS := Lib.hid hs
  have HS' := Lib.hid hs'
  clear hp hq hs hs'
  by_cases he : fs.length = gs.length
  · have HE := Lib.hid he
    rw [← he]
    have h1 : ((fs.length : Int) != (fs.length : Int)) = false := by simp
    clear he
    go_enter Tryz.func91, Tryz.ntmps91
    go_wp2
    go_loopw [5] (fun i wr => ∃ k : Nat, k ≤ fs.length ∧ i = .int .i64 k ∧ Below w.heap.size w wr ∧ ∀ j, j < k → fg fs j = fg gs j) (fun i _ => fs.length - (intOf i).toNat)
    case atStart => exact ⟨0, Nat.zero_le _, rfl, Below.refl _ _, fun j h => absurd h (Nat.not_lt_zero _)⟩
    case round =>
      obtain ⟨k, hk, rfl, hbel, hall⟩ := hrel
      have HA := Lib.hid hall
      have HB := Lib.hid hbel
      have hsz := hbel.size
      clear hall
      by_cases hlt : k < fs.length
      · obtain ⟨b, off, pa, pc, ta, tc, rfl, hb, hc1, hc2, hc3, hc4, hpp, htt⟩ := HP.out k hlt
        obtain ⟨b', off', pa', pc', ta', tc', rfl, hb', hd1, hd2, hd3, hd4, hpp', htt'⟩ := HQ.out k (by have := HE.out; omega)
        obtain ⟨l1, l2, l3, _⟩ := HS.out k hlt
        obtain ⟨m1, m2, m3, _⟩ := HS'.out k (by have := HE.out; omega)
        rw [← hbel.cell (p := ⟨b, _, none⟩) hb] at hc1 hc2 hc3 hc4
        rw [← hbel.cell (p := ⟨b', _, none⟩) hb'] at hd1 hd2 hd3 hd4
        have D1 := Lib.hid (hpp.below hbel.drew)
        have D2 := Lib.hid (htt.below hbel.drew)
        have D3 := Lib.hid (hpp'.below hbel.drew)
        have D4 := Lib.hid (htt'.below hbel.drew)
        clear hbel hpp htt hpp' htt'
        have hfe := featEq_fg fs gs k k
        by_cases hs : fg fs k = fg gs k
        · rw [decide_eq_true hs] at hfe
          have HG := Lib.hid hs
          clear hs
          go_wp2
          go_still_tail 8, (by kernel_rfl)
          go_wp2_with fail
          refine (specFeatSame_any _ _ _ _ _ _ _ _ _ _ _ _ _ _ _ _ _ D1.out D3.out D2.out D4.out (by omega) (by omega) (by omega) (by omega)).mono ?_
          rintro e w1 ⟨rfl, hb2⟩
          have HB2 := Lib.hid hb2
          clear hb2
          go_wp2
          go_roundw
          case rel => exact ⟨k + 1, by omega, by go_num, HB.out.drew.trans (HB2.out.mono hsz), fun j hj => by by_cases e : j = k; (subst e; exact HG.out); exact HA.out j (by omega)⟩
          case measure => simp [intOf]; omega
        · rw [decide_eq_false hs] at hfe
          have HG := Lib.hid (fsEq_ne hs)
          clear hs
          go_wp2
          go_still_tail 8, (by kernel_rfl)
          go_wp2_with fail
          refine (specFeatSame_any _ _ _ _ _ _ _ _ _ _ _ _ _ _ _ _ _ D1.out D3.out D2.out D4.out (by omega) (by omega) (by omega) (by omega)).mono ?_
          rintro e w1 ⟨rfl, hb2⟩
          have HB2 := Lib.hid hb2
          clear hb2
          go_wp2
          go_ret
          exact ⟨by rw [HG.out]; rfl, HB.out.drew.trans (HB2.out.mono hsz)⟩
      · obtain rfl : k = fs.length := by omega
        have HT := Lib.hid (fsEq_of HE.out HA.out)
        clear hbel
        go_wp2
        go_ret
        exact ⟨by rw [HT.out]; rfl, HB.out⟩
  · have h1 : ((fs.length : Int) != (gs.length : Int)) = true := by simp; omega
    have HT := Lib.hid (fsEq_len he)
    clear he
    go_enter Tryz.func91, Tryz.ntmps91
    go_wp2
    go_ret
    exact ⟨by rw [HT.out]; rfl, Below.refl _ _⟩

end Go.Proofs.YtdfadpejddhbkaaGreat

namespace Go.Proofs.YtdfadpejddhbkaaGreat
set_option linter.unusedVariables false
open Go.ChangeShapes Go.WideShapes Go.ChangeAt Go.RowKit

/-- the worlds in which what lies below is kept -/
def Kept (w : World) : Type := { u : World // Below w.heap.size w u }

instance (w : World) : Nonempty (Kept w) := ⟨⟨w, Below.refl _ _⟩⟩

theorem wp_region_kept {P : Program} {id : Nat} {Q : Exit → Act → World → Prop} {a : Act} {w : World} {l : List Oper} (hm : P.follows .mixedOrders = true) (hB : Region.lexB .any l.toArray = true)
    (h : wpQuiet P l.toArray (fun w' => ∃ x : Kept w, w' = x.1) (fun a' => ∀ w', (∃ x : Kept w, w' = x.1) → Q .normal a' w') l a) : (Code.region id l.toArray true).wp P Q a w :=
  wp_region_quiet (C := fun w' => ∃ x : Kept w, w' = x.1) hm hB ⟨⟨_, (Below.refl _ _).drew⟩, rfl⟩ (by simpa using h)

theorem Kept.cell {w : World} (x : Kept w) {a : Addr} {v : Value} (h : w.cell? a = some v) : x.1.cell? a = some v := cell_later x.2 h

theorem Kept.calls {P : Program} {f : FuncId} {args : Array Value} {w : World} {v : Value} (x : Kept w) (h : Calls P f args x.1 fun e w' => e = .returned v ∧ Below x.1.heap.size x.1 w') :
    Calls P f args x.1 fun e w' => e = .returned v ∧ ∃ y : Kept w, w' = y.1 :=
  h.mono fun _ w' ⟨he, hb⟩ => ⟨he, ⟨w', x.2.trans (hb.mono x.2.size)⟩, rfl⟩
end Go.Proofs.YtdfadpejddhbkaaGreat
