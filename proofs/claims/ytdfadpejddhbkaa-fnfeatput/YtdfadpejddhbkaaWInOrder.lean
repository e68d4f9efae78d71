/- Proved here: the tags of a map, told in the order of their keys, in memory of their own; a map of at most 1,048,577 tags. -/
import Derived.Test.YtdfadpejddhbkaaWKeys
import Derived.Test.YtdfadpejddhbkaaWTells
import Derived.Test.YtdfadpejddhbkaaWBack
namespace Go.Proofs.Ytdfadpejddhbkaa
set_option linter.unusedVariables false
open Go.ChangeShapes Go.WideShapes Go.ChangeAt Go.RowKit Go.Maps Go.Sort

/-- tags as cells -/
def flatT (ts : List Tg) : List Value := ts.flatMap fun p => [.string p.1, .string p.2]

theorem flatT_len : ∀ ts : List Tg, (flatT ts).length = ts.length * 2
  | [] => rfl
  | p :: r => by
    have := flatT_len r
    simp only [flatT, List.flatMap_cons, List.length_append, List.length_cons, List.length_nil] at *
    omega

theorem flatT_at : ∀ (ts : List Tg) (i : Nat), i < ts.length → (flatT ts)[i * 2]? = some (.string (tk ts i)) ∧ (flatT ts)[i * 2 + 1]? = some (.string (tv ts i))
  | [], i, h => absurd h (Nat.not_lt_zero _)
  | p :: r, 0, _ => by simp [flatT, tk, tv]
  | p :: r, i + 1, h => by
    have ih := flatT_at r i (by simpa using h)
    have e : flatT (p :: r) = [.string p.1, .string p.2] ++ flatT r := by simp [flatT]
    rw [e, show (i + 1) * 2 = 2 + i * 2 by omega, show 2 + i * 2 + 1 = 2 + (i * 2 + 1) by omega]
    simp only [List.getElem?_append_right (show [Value.string p.1, .string p.2].length ≤ 2 + i * 2 by simp), List.getElem?_append_right (show [Value.string p.1, .string p.2].length ≤ 2 + (i * 2 + 1) by simp)]
    simp only [List.length_cons, List.length_nil, Nat.zero_add, Nat.add_sub_cancel_left, Nat.reduceAdd]
    simpa [tk, tv] using ih

theorem flatT_snoc (ts : List Tg) (p : Tg) : flatT (ts ++ [p]) = flatT ts ++ [.string p.1, .string p.2] := by simp [flatT]

/-- an owned row reads as its tags -/
theorem owned_tags {w : World} {base : Nat} {e : TypeId} {v : Value} {n : Nat} {ts : List Tg} (h : w.ownsRow base e 2 v n (flatT ts)) (hn : n = ts.length) :
    ∃ a cap, v = .slice a ts.length cap ∧ TagsAt w a ts ∧ Soft w a ts.length ∧ ∀ x, blk a = some x → base ≤ x ∧ x < w.heap.size := by
  subst hn
  obtain ⟨h1, ⟨rfl, h2⟩ | ⟨g, cap, cur, rfl, hb, hg, hc, hm, hs, hx⟩⟩ := h
  · have : ts.length = 0 := by omega
    refine ⟨none, 0, by rw [this], fun i hi => by omega, fun i hi => by omega, fun x h => by simp [blk] at h⟩
  · refine ⟨some ⟨g, 0, none⟩, cap, rfl, ?_, ?_, fun x h => by obtain rfl : g = x := (by simpa [blk] using h); exact ⟨hb, (Array.getElem?_eq_some_iff.1 hg).1⟩⟩
    · have cell : ∀ j v, j < ts.length * 2 → (flatT ts)[j]? = some v → w.cell? ⟨g, 0 + j, none⟩ = some v := by
        intro j v hj hv
        rw [← hx, List.getElem?_take, if_pos hj] at hv
        simp only [World.cell?, hg, Option.isSome_none, Bool.false_eq_true, if_false, Nat.zero_add]
        simpa using hv
      intro i hi
      obtain ⟨e1, e2⟩ := flatT_at ts i hi
      exact ⟨g, 0, rfl, (Array.getElem?_eq_some_iff.1 hg).1, cell _ _ (by omega) e1, cell _ _ (by omega) e2⟩
    · intro i hi b off e
      obtain ⟨rfl, rfl⟩ : g = b ∧ 0 = off := by simpa using e
      simp [World.frozen?, hg]

/-- the keys of a map that tells these tags, sorted -/
theorem sorted_told {w : World} {b n : Nat} {D : DataW Value} {us : List Tg} {ss : List (List UInt8)} (hown : w.ownsMap Try.prog 9 heldElem b n D) (ht : Tells D us) (hp : ss.Perm (strKeys D)) :
    ss.mergeSort (fun x y => decide (x ≤ y)) = us.map kl ∧ ss.length = us.length := by
  have hnd : (us.map kl).Nodup := List.pairwise_map.2 (ht.asc.imp fun {p q} (h : kl p < kl q) (e : kl p = kl q) => List.lt_irrefl _ (e ▸ h))
  have hq : (us.map kl).Perm (strKeys D) := by
    obtain ⟨es, hD, hpw, _⟩ := hown.entries keyT
    obtain ⟨es', hD', hko⟩ := hown.keysOf
    obtain rfl : es = es' := by rw [hD] at hD'; simpa using hD'
    subst hD
    refine perm_strKeys hpw (fun p hp => by obtain ⟨v, hv⟩ := hko p hp; obtain ⟨x, _, hx, _⟩ := Maps.keyOf_str Try.underlying9 hv; exact ⟨x, hx⟩) hnd (fun x => ?_)
    rw [List.mem_map]
    constructor
    · rintro ⟨t, h1, rfl⟩
      exact has_true_of_atKey (ht.at_ t h1)
    · intro hx
      obtain ⟨t, h1, h2⟩ := ht.has x hx
      exact ⟨t, h1, h2⟩
  have hpm : ss.Perm (us.map kl) := hp.trans hq.symm
  refine ⟨?_, by simpa using hpm.length_eq⟩
  show ss.mergeSort leB = _
  rw [mergeSort_of_perm hpm]
  exact List.mergeSort_of_pairwise ((List.pairwise_map.2 ht.asc).imp fun h => decide_eq_true (List.le_of_lt h))

/-- a row of the keys -/
def KeysAt (w : World) (a : Option Addr) (us : List Tg) : Prop := ∀ i, i < us.length → ∃ g, a = some ⟨g, 0, none⟩ ∧ g < w.heap.size ∧ w.cell? ⟨g, i, none⟩ = some (.string (tk us i))

theorem owned_keys {w : World} {base : Nat} {v : Value} {n : Nat} {us : List Tg} (h : w.ownsRow base 9 1 v n ((us.map kl).map encStr)) (hn : n = us.length) :
    ∃ a cap, v = .slice a us.length cap ∧ KeysAt w a us := by
  subst hn
  obtain ⟨h1, ⟨rfl, h2⟩ | ⟨g, cap, cur, rfl, hb, hg, hc, hm, hs, hx⟩⟩ := h
  · have : us.length = 0 := by omega
    exact ⟨none, 0, by rw [this], fun i hi => by omega⟩
  · refine ⟨some ⟨g, 0, none⟩, cap, rfl, fun i hi => ⟨g, rfl, (Array.getElem?_eq_some_iff.1 hg).1, ?_⟩⟩
    have hv : ((us.map kl).map encStr)[i]? = some (.string (tk us i)) := by
      simp [hi, encStr, kl, tk]
    rw [← hx, List.getElem?_take, if_pos (by omega)] at hv
    simp only [World.cell?, hg, Option.isSome_none, Bool.false_eq_true, if_false]
    simpa using hv

theorem infoT : (Try.prog.info? 52).map (fun i => (i.zero, i.size, i.bytes)) = some (some (.agg #[.string .empty, .string .empty]), 2, 32) := by kernel_rfl

theorem ownsMap_below {w w' : World} {b n : Nat} {D : DataW Value} (h : w.ownsMap Try.prog 9 heldElem b n D) (hb : Below w.heap.size w w') : w'.ownsMap Try.prog 9 heldElem b n D := by
  have hlt := h.lt
  obtain ⟨es, clock, h1, F, hs, hD⟩ := h
  exact ⟨es, clock, (hb.block b hlt).trans h1, F, hs, hD⟩

/-- what a look-up of a key that is there gives -/
theorem look_held {w : World} {b n : Nat} {D : DataW Value} {us : List Tg} (hown : w.ownsMap Try.prog 9 heldElem b n D) (ht : Tells D us) {i : Nat} (hi : i < us.length) (hl : (tk us i).size ≤ maxLen) :
    (Instr.lookup 73 (.map (some b)) (.string (tk us i)) false).run Try.prog w = .ok (.agg #[.string (tk us i), .string (tv us i)]) w := by
  have hz : (zeroValue 52).run Try.prog w = .ok (.agg #[.string .empty, .string .empty]) w := by kernel_rfl
  obtain ⟨v, ps, hrun, hv⟩ := hown.lookup keyT Try.underlying73 hz (zd := .held (.agg #[.string .empty, .string .empty])) (zp := []) rfl (Go.WideMaps.keyOf_string_mk Try.underlying9 hl)
  have hm : us[i] ∈ us := List.getElem_mem hi
  have e : (tk us i) = us[i].1 := by simp [tk, hi]
  have e2 : (tv us i) = us[i].2 := by simp [tv, hi]
  have h1 := ht.at_ us[i] hm (.held (.agg #[.string .empty, .string .empty]))
  rw [e] at hv
  rw [show (DataW.atKey D (.string us[i].1.data.toList) (.held (.agg #[.string .empty, .string .empty]))) = .held (tagV us[i]) from h1] at hv
  simp only [heldElem, Option.some.injEq, Prod.mk.injEq] at hv
  have h3 := DataW.held.inj hv.1
  rw [hrun, h3, tagV, e, e2]

theorem ownsRow_base {w : World} {a a' : Nat} {e : TypeId} {sz : Nat} {v : Value} {n : Nat} {xs : List Value} (h : w.ownsRow a e sz v n xs) (ha : a' ≤ a) : w.ownsRow a' e sz v n xs := by
  obtain ⟨h1, h2 | ⟨g, cap, cur, h3, hb, h4⟩⟩ := h
  · exact ⟨h1, .inl h2⟩
  · exact ⟨h1, .inr ⟨g, cap, cur, h3, Nat.le_trans ha hb, h4⟩⟩

/-- what 'tagsInOrder' answers: the tags, in a row of its own -/
def TagsAns (w : World) (us : List Tg) (e : Ending) (w' : World) : Prop :=
  ∃ v, e = .returned v ∧ w'.ownsRow w.heap.size 52 2 v us.length (flatT us) ∧ Below w.heap.size w w'

def upTo (us : List Tg) (k : Nat) : List Tg := us.take k
theorem upTo_len {us : List Tg} {k : Nat} (h : k ≤ us.length) : (upTo us k).length = k := by simp [upTo]; omega
theorem upTo_step {us : List Tg} {k : Nat} (h : k < us.length) : upTo us (k + 1) = upTo us k ++ [(tk us k, tv us k)] := by
  have h2 : (tk us k, tv us k) = us[k] := by simp [tk, tv, h]
  rw [h2]
  exact List.take_succ_eq_append_getElem h

set_option maxRecDepth 100000 in
set_option maxHeartbeats 2000000 in
theorem tagsInOrder_any (b n : Nat) (D : DataW Value) (us : List Tg) (w : World) (hown : w.ownsMap Try.prog 9 heldElem b n D) (ht : Tells D us) (hn : n ≤ 1048577) (hl : ∀ i, i < us.length → (tk us i).size ≤ maxLen) :
    Calls Try.prog 65 #[.map (some b)] w (TagsAns w us) := by
  obtain ⟨i0, hi, hz0, hz1, hz2⟩ := info_parts infoT
  have HI := Lib.hid hi
  have HZ0 := Lib.hid hz0
  have HZ1 := Lib.hid hz1
  have HZ2 := Lib.hid hz2
  have HO := Lib.hid hown
  have HT := Lib.hid ht
  have HL := Lib.hid hl
  have hms := hown.size_le
  have SK := Lib.hid (sortedKeys_any b n D heldElem w hown (by omega))
  clear hi hz0 hz1 hz2 hown ht hl
  go_enter Try.func65, Try.ntmps65
  go_wp2_with fail
  refine (mapsKeys_any _ _).mono ?_
  rintro e w1 ⟨rfl, rfl⟩
  go_wp2_with fail
  refine SK.out.mono ?_
  rintro e w2 ⟨v, ss, rfl, hp, hrow, -, hb2⟩
  obtain ⟨hs1, hs2⟩ := sorted_told HO.out HT.out hp
  rw [hs1] at hrow
  obtain ⟨a, capk, rfl, hk⟩ := owned_keys hrow hs2
  have hlen : us.length ≤ 1048577 := by
    have h1 := hp.length_eq
    have h2 : (strKeys D).length = Maps.size D := by
      obtain ⟨es, rfl⟩ := HO.out.isMap
      simp [strKeys, Maps.size]
    omega
  have B2 : Hid (Below w.heap.size w w2) := ((Below.refl _ _).alloc (Nat.le_refl _) _).trans (hb2.mono (by simp))
  have O2 := Lib.hid (ownsMap_below HO.out B2.out)
  have HK := Lib.hid hk
  clear hrow hb2 hk hs1 hs2 hp SK HO
  go_wp2
  go_loopw [3, 5, 10] (fun s _ i wr => ∃ (k : Nat) (v : Value), k ≤ us.length ∧ i = .int .i64 k ∧ v = s ∧ wr.ownsRow w2.heap.size 52 2 v k (flatT (upTo us k)) ∧ Below w2.heap.size w2 wr) (fun _ _ i _ => us.length - (intOf i).toNat)
  case atStart => exact ⟨0, _, Nat.zero_le _, rfl, rfl, by simpa [flatT, upTo] using World.ownsRow_nil _ _ _ _, Below.refl _ _⟩
  case round =>
    obtain ⟨k, v, hk, rfl, rfl, hown, hbel⟩ := hrel
    have hsz := hbel.size
    by_cases hlt : k < us.length
    · obtain ⟨g, rfl, hg, hc⟩ := HK.out k hlt
      rw [← hbel.cell (p := ⟨g, _, none⟩) hg] at hc
      have hlk := look_held (ownsMap_below O2.out hbel) HT.out hlt (HL.out k hlt)
      have HW := Lib.hid hown
      have HB := Lib.hid hbel
      have hvb : ∀ j, v.ownBlock = some j → w2.heap.size ≤ j := fun j hj => (hown.lt j hj).1
      have HV := Lib.hid hvb
      clear hown hbel hvb
      go_wp2_with (at_builtin; refine wpList_append_lies _ (by rfl) _ _ _ (by rfl) w2.heap.size 52 i0 _ 2 32 Try.underlying41 HI.out HZ0.out HZ1.out HZ2.out rfl (by omega) v k (flatT (upTo us k)) (by rfl) (HW.out.alloc _) ⟨wr.heap.size, 0, none⟩ 1 1 [.string (tk us k), .string (tv us k)] (by rfl) (by rfl) (World.news_of_block (cs := #[.string (tk us k), .string (tv us k)]) (t := 52) (fr := (0, 0)) (heap_alloc_new wr _)) (by simp [Value.oneCell']) (by omega) (by unfold maxLen; omega) (by omega) (by simp; omega) (wr.heap.size + 1) (by simp) ?_; intro gg cap' wa hown1 hgrow hat hlt')
      rw [← flatT_snoc _ (tk us k, tv us k), ← upTo_step hlt] at hown1
      have HW1 := Lib.hid hown1
      have HG := Lib.hid hgrow
      clear hown1 hgrow hat hlk hc
      go_roundw
      case rel => exact ⟨k + 1, _, by omega, by go_num, rfl, HW1.out, (HB.out.alloc hsz _).grown HG.out (by simp; omega) (fun j hj => HV.out j hj)⟩
      case measure => simp [intOf]; omega
    · obtain rfl : k = us.length := by omega
      have hu : upTo us us.length = us := List.take_length
      rw [hu] at hown
      have HW : Hid (wr.ownsRow w.heap.size 52 2 v us.length (flatT us)) := ownsRow_base hown B2.out.size
      have HB : Hid (Below w.heap.size w wr) := B2.out.trans (hbel.mono B2.out.size)
      clear hown hbel
      go_wp2
      go_ret
      exact ⟨v, rfl, HW.out, HB.out⟩
end Go.Proofs.Ytdfadpejddhbkaa
