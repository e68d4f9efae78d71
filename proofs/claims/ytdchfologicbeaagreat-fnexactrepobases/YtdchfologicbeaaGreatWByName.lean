/- Proved here: things put into a map by their names, and the names of such a map in order; at most 1,048,576 things. -/
import Derived.Test.YtdchfologicbeaaGreatWKeysF
import Derived.Test.YtdchfologicbeaaGreatWTellsF
import Derived.Test.YtdchfologicbeaaGreatWInOrder
import Derived.Test.YtdchfologicbeaaGreatWSheetEq
namespace Go.Proofs.YtdchfologicbeaaGreat
set_option linter.unusedVariables false
open Go.ChangeShapes Go.WideShapes Go.ChangeAt Go.RowKit Go.Maps Go.Sort Go.Deep

/-- a value is a thing that lies in memory -/
def FeatV (w : World) (v : Value) (f : Ft) : Prop := ∃ pa pc ta tc, v = .agg #[.string f.1, .int .i64 f.2.1, .slice pa f.2.2.1.length pc, .slice ta f.2.2.2.length tc] ∧ PtsAt w pa f.2.2.1 ∧ TagsAt w ta f.2.2.2

theorem FeatV.below {w w' : World} {v : Value} {f : Ft} (h : FeatV w v f) (hb : Below w.heap.size w w') : FeatV w' v f := by
  obtain ⟨pa, pc, ta, tc, h1, h2, h3⟩ := h
  exact ⟨pa, pc, ta, tc, h1, h2.below hb, h3.below hb⟩

/-- these are the things, each with its name -/
def Ents (w : World) (es : List En) (fs : List Ft) : Prop := es.length = fs.length ∧ ∀ i, i < fs.length → ek es i = fid fs i ∧ FeatV w (ev es i) (fg fs i)

theorem Ents.below {w w' : World} {es : List En} {fs : List Ft} (h : Ents w es fs) (hb : Below w.heap.size w w') : Ents w' es fs := ⟨h.1, fun i hi => ⟨(h.2 i hi).1, (h.2 i hi).2.below hb⟩⟩

set_option maxRecDepth 100000 in
set_option maxHeartbeats 2000000 in
theorem featsByName_any (a : Option Addr) (cap : Nat) (fs : List Ft) (w : World) (hp : FeatsAt w a fs) (hl : fs.length ≤ 1048576) (ht : FeatsLen fs 1048576) :
    Calls Tryz.prog 173 #[.slice a fs.length cap] w fun e w' => e = .returned (.map (some w.heap.size)) ∧ (∃ es, Ents w es fs ∧ w'.ownsMap Tryz.prog 9 heldElem w.heap.size fs.length (mapF es)) ∧ Below w.heap.size w w' := by
  have each : ∀ i, i < fs.length → ∃ q : Option Addr × Nat × Option Addr × Nat, ∃ b off, a = some ⟨b, off, none⟩ ∧ b < w.heap.size ∧
    w.cell? ⟨b, off + i * 4, none⟩ = some (.string (fid fs i)) ∧ w.cell? ⟨b, off + i * 4 + 1, none⟩ = some (.int .i64 (fkd fs i)) ∧
    w.cell? ⟨b, off + i * 4 + 2, none⟩ = some (.slice q.1 (fps fs i).length q.2.1) ∧ w.cell? ⟨b, off + i * 4 + 3, none⟩ = some (.slice q.2.2.1 (fts fs i).length q.2.2.2) ∧
    PtsAt w q.1 (fps fs i) ∧ TagsAt w q.2.2.1 (fts fs i) := by
    intro i hi
    obtain ⟨b, off, pa, pc, ta, tc, h1, h2, h3, h4, h5, h6, h7, h8⟩ := hp i hi
    exact ⟨(pa, pc, ta, tc), b, off, h1, h2, h3, h4, h5, h6, h7, h8⟩
  obtain ⟨q, hq⟩ := choose_lt each
  clear each hp
  have HP := Lib.hid hq
  have HL := Lib.hid ht
  clear hq ht
  generalize hes : (List.range fs.length).map (fun i => ((fid fs i, .agg #[.string (fid fs i), .int .i64 (fkd fs i), .slice (q i).1 (fps fs i).length (q i).2.1, .slice (q i).2.2.1 (fts fs i).length (q i).2.2.2]) : En)) = es
  have hel : es.length = fs.length := by rw [← hes]; simp
  have hek : ∀ i, i < fs.length → ek es i = fid fs i ∧ ev es i = .agg #[.string (fid fs i), .int .i64 (fkd fs i), .slice (q i).1 (fps fs i).length (q i).2.1, .slice (q i).2.2.1 (fts fs i).length (q i).2.2.2] := by
    intro i hi
    rw [← hes]
    simp [ek, ev, hi]
  have HE : Hid (Ents w es fs) := ⟨hel, fun i hi => ⟨(hek i hi).1, by
    obtain ⟨b, off, _, _, _, _, _, _, h7, h8⟩ := HP.out i hi
    exact ⟨_, _, _, _, (hek i hi).2, h7, h8⟩⟩⟩
  have HK := Lib.hid hek
  clear hek hes
  have hmm := @run_makeMap Tryz.prog
  go_enter Tryz.func173, Tryz.ntmps173
  go_wp2
  clear hmm
  go_loopw [5, 9] (fun _ i wr => ∃ k : Nat, k ≤ fs.length ∧ i = .int .i64 k ∧ wr.ownsMap Tryz.prog 9 heldElem w.heap.size k (mapF (es.take k)) ∧ Below w.heap.size w wr) (fun _ i _ => fs.length - (intOf i).toNat)
  case atStart => exact ⟨0, Nat.zero_le _, rfl, World.ownsMap_made _ _ _ _, (Below.refl _ _).alloc (Nat.le_refl _) _⟩
  case round =>
    obtain ⟨k, hk, rfl, hown, hbel⟩ := hrel
    have HB := Lib.hid hbel
    have hsz := hbel.size
    by_cases hlt : k < fs.length
    · obtain ⟨b, off, rfl, hb, hc1, hc2, hc3, hc4, _, _⟩ := HP.out k hlt
      rw [← hbel.cell (p := ⟨b, _, none⟩) hb] at hc1 hc2 hc3 hc4
      clear hbel
      have hkey : keyOf Tryz.prog 9 (.string (fid fs k)) = some (keyL (fid fs k)) := Go.WideMaps.keyOf_string_mk Tryz.underlying9 (by have := (HL.out k hlt).1; unfold maxLen; omega)
      go_wp2_with (at_mapUpdate; refine wpList_mapUpdate_own _ rfl _ _ _ 100 rfl 9 43 keyT Tryz.underlying100 _ w.heap.size k _ rfl (hown.alloc _) (by unfold maxLen; omega) _ _ _ rfl rfl hkey (.held (.agg #[.string (fid fs k), .int .i64 (fkd fs k), .slice (q k).1 (fps fs k).length (q k).2.1, .slice (q k).2.2.1 (fts fs k).length (q k).2.2.2])) [] rfl ?_; intro w1 hown1 hgrow1)
      rw [← (HK.out k hlt).2, ← (HK.out k hlt).1, ← mapF_step (by omega)] at hown1
      have HO := Lib.hid hown1
      have HG := Lib.hid hgrow1
      clear hown1 hgrow1 hown
      go_roundw
      case rel => exact ⟨k + 1, by omega, by go_num, HO.out, (HB.out.alloc hsz _).grown HG.out (by simp; omega) (fun j hj => by cases hj; exact Nat.le_refl _)⟩
      case measure => simp [intOf]; omega
    · obtain rfl : k = fs.length := by omega
      have HO := Lib.hid hown
      clear hown hbel
      go_wp2
      go_ret
      exact ⟨rfl, ⟨es, HE.out, by have := HO.out; rwa [List.take_of_length_le (by omega)] at this⟩, HB.out⟩

/-- the names of a map that tells these, sorted -/
theorem sorted_toldF {w : World} {b n : Nat} {D : DataW Value} {us : List En} {ss : List (List UInt8)} (hown : w.ownsMap Tryz.prog 9 heldElem b n D) (ht : TellsF D us) (hp : ss.Perm (strKeys D)) :
    ss.mergeSort (fun x y => decide (x ≤ y)) = us.map klF ∧ ss.length = us.length := by
  have hnd : (us.map klF).Nodup := List.pairwise_map.2 (ht.asc.imp fun {p q} (h : klF p < klF q) (e : klF p = klF q) => List.lt_irrefl _ (e ▸ h))
  have hq : (us.map klF).Perm (strKeys D) := by
    obtain ⟨es, hD, hpw, _⟩ := hown.entries keyT
    obtain ⟨es', hD', hko⟩ := hown.keysOf
    obtain rfl : es = es' := by rw [hD] at hD'; simpa using hD'
    subst hD
    refine perm_strKeys hpw (fun p hp => by obtain ⟨v, hv⟩ := hko p hp; obtain ⟨x, _, hx, _⟩ := Maps.keyOf_str Tryz.underlying9 hv; exact ⟨x, hx⟩) hnd (fun x => ?_)
    rw [List.mem_map]
    constructor
    · rintro ⟨t, h1, rfl⟩
      exact has_true_of_atKey (ht.at_ t h1)
    · intro hx
      obtain ⟨t, h1, h2⟩ := ht.has x hx
      exact ⟨t, h1, h2⟩
  have hpm : ss.Perm (us.map klF) := hp.trans hq.symm
  refine ⟨?_, by simpa using hpm.length_eq⟩
  show ss.mergeSort leB = _
  rw [mergeSort_of_perm hpm]
  exact List.mergeSort_of_pairwise ((List.pairwise_map.2 ht.asc).imp fun h => decide_eq_true (List.le_of_lt h))

/-- a text of a list -/
def sx (xs : List ByteArray) (i : Nat) : ByteArray := xs.getD i .empty
/-- a slice that reads as texts -/
def StrsAt (w : World) (a : Option Addr) (xs : List ByteArray) : Prop :=
  ∀ i, i < xs.length → ∃ b off, a = some ⟨b, off, none⟩ ∧ b < w.heap.size ∧ w.cell? ⟨b, off + i, none⟩ = some (.string (sx xs i))

theorem StrsAt.below {w w' : World} {a : Option Addr} {xs : List ByteArray} (h : StrsAt w a xs) (hb : Below w.heap.size w w') : StrsAt w' a xs := by
  intro i hi
  obtain ⟨b, off, rfl, hlt, h1⟩ := h i hi
  exact ⟨b, off, rfl, Nat.lt_of_lt_of_le hlt hb.size, by rw [hb.cell (p := ⟨b, _, none⟩) hlt]; exact h1⟩

theorem StrsAt.nil (w : World) (a : Option Addr) : StrsAt w a [] := fun _ h => absurd h (Nat.not_lt_zero _)

/-- an owned row reads as its texts -/
theorem owned_strs {w : World} {base : Nat} {e : TypeId} {v : Value} {n : Nat} {xs : List ByteArray} (h : w.ownsRow base e 1 v n (xs.map .string)) (hn : n = xs.length) :
    ∃ a cap, v = .slice a xs.length cap ∧ StrsAt w a xs ∧ ∀ x, blk a = some x → base ≤ x ∧ x < w.heap.size := by
  subst hn
  obtain ⟨h1, ⟨rfl, h2⟩ | ⟨g, cap, cur, rfl, hb, hg, hc, hm, hs, hx⟩⟩ := h
  · have : xs.length = 0 := by omega
    exact ⟨none, 0, by rw [this], fun i hi => by omega, fun x h => by simp [blk] at h⟩
  · refine ⟨some ⟨g, 0, none⟩, cap, rfl, fun i hi => ⟨g, 0, rfl, (Array.getElem?_eq_some_iff.1 hg).1, ?_⟩, fun x h => by obtain rfl : g = x := (by simpa [blk] using h); exact ⟨hb, (Array.getElem?_eq_some_iff.1 hg).1⟩⟩
    have hv : (xs.map Value.string)[i]? = some (.string (sx xs i)) := by
      simp [hi, sx]
    rw [← hx, List.getElem?_take, if_pos (by omega)] at hv
    simp only [World.cell?, hg, Option.isSome_none, Bool.false_eq_true, if_false, Nat.zero_add]
    simpa using hv

theorem names_enc (us : List En) : (us.map klF).map encStr = (us.map (·.1)).map Value.string := by
  rw [List.map_map, List.map_map]
  exact List.map_congr_left fun u _ => by simp [encStr, klF]

set_option maxRecDepth 100000 in
set_option maxHeartbeats 2000000 in
/-- the names, in order, in a row of its own -/
theorem namesInOrder_any (b n : Nat) (D : DataW Value) (us : List En) (w : World) (hown : w.ownsMap Tryz.prog 9 heldElem b n D) (ht : TellsF D us) (hn : n ≤ 1048577) :
    Calls Tryz.prog 137 #[.map (some b)] w fun e w' => (∃ v, e = .returned v ∧ w'.ownsRow w.heap.size 9 1 v us.length ((us.map (·.1)).map Value.string)) ∧ us.length ≤ n ∧ Below w.heap.size w w' := by
  have HO := Lib.hid hown
  have HT := Lib.hid ht
  have hms := hown.size_le
  have SK := Lib.hid (sortedKeysF_any b n D heldElem w hown (by omega))
  clear hown ht
  go_enter Tryz.func137, Tryz.ntmps137
  go_wp2_with fail
  refine (mapsKeysF_any _ _).mono ?_
  rintro e w1 ⟨rfl, rfl⟩
  go_wp2_with fail
  refine SK.out.mono ?_
  rintro e w2 ⟨v, ss, rfl, hp, hrow, -, hb2⟩
  obtain ⟨hs1, hs2⟩ := sorted_toldF HO.out HT.out hp
  rw [hs1, names_enc, hs2] at hrow
  have hlen : us.length ≤ n := by
    have h1 := hp.length_eq
    have h2 : (strKeys D).length = Maps.size D := by
      obtain ⟨es, rfl⟩ := HO.out.isMap
      simp [strKeys, Maps.size]
    omega
  have B2 : Hid (Below w.heap.size w w2) := ((Below.refl _ _).alloc (Nat.le_refl _) _).trans (hb2.mono (by simp))
  have HR : Hid (w2.ownsRow w.heap.size 9 1 v us.length ((us.map (·.1)).map Value.string)) := ownsRow_base hrow (by simp)
  clear hrow hb2 hs1 hs2 hp SK HO
  go_wp2
  go_ret
  exact ⟨⟨v, rfl, HR.out⟩, hlen, B2.out⟩

end Go.Proofs.YtdchfologicbeaaGreat
