/- Proved here: the keys of a map of things, told in order: maps.Keys and slices.Sorted by their contracts; a map of at most 2 ^ 40 keys. Proved here: what a map of things tells in the order of its keys is one list alone, and what putting and cutting do to it; no condition. Proved here: things put into a map by their names, and the names of such a map in order; at most 1,048,576 things. Proved here: the library's function that holds two lists of texts against each other answers whether they are the same; lists of at most 1,048,577 texts. Proved here: the program's way of asking whether things are a map, by a map told in order, answers as the plain definition 'sheetOk' says; lists of at most 1,048,576 things, points and tags, texts of at most 1,048,576 bytes. Proved here: the model's thing of a name is a copy of the first of that name, in memory of its own; lists of at most 1,048,576 things, points and tags, texts of at most 1,048,576 bytes. Proved here: the program's thing of a name, by a map of names, is a copy of the first of that name, in memory of its own; lists of at most 1,048,576 things, points and tags, texts of at most 1,048,576 bytes. -/
import Derived.Test.YtdfadpejddhbkaaGreatKeysF
import Derived.Test.YtdfadpejddhbkaaGreatWTagEq
import Derived.Maps.OwnSet
import Derived.Test.YtdfadpejddhbkaaGreatWTells
import Derived.Sort.KeysCollected
import Derived.Maps.Views
import Derived.Sort.Walk0
import Derived.Test.YtdfadpejddhbkaaGreatWInOrder
import Derived.Test.YtdfadpejddhbkaaGreatWSheetEq
import Derived.Test.YtdfadpejddhbkaaGreatWSheetOk
import Derived.Test.YtdfadpejddhbkaaGreatG4
import Derived.Test.YtdfadpejddhbkaaGreatWMarkList
import Derived.Test.YtdfadpejddhbkaaGreatG1
namespace Go.Proofs.YtdfadpejddhbkaaGreat
set_option linter.unusedVariables false
open Go.RowKit Go.Maps Go.Sort Go.Shelf

theorem mapsKeysF_any (mb : Option Nat) (W : World) : Calls Tryz.prog 122 #[.map mb] W fun e w' => e = .returned (.func (.func 159) #[] #[.pointer (some ⟨W.heap.size, 0, none⟩)]) ∧ w' = W.alloc (.cells #[.map mb] 81) :=
  (callsIn_wide (n := 5)).1 (AnyZ.keys_in Tryz.keysF Fence.wide 5 trivial rfl mb W)

theorem sortsF (m : Nat) : AnyZ.SortsIn Tryz.prog Tryz.sortedF_ren Fence.wide m :=
  ⟨fun blk off cap ss W hH hblk hsz => callsIn_wide.2 (AnyM.slices_Sort_string Tryz.sortF blk off cap ss W hH hblk hsz),
   fun p cap W => callsIn_wide.2 (AnyM.slices_Sort_string_none Tryz.sortF p cap W)⟩

set_option maxHeartbeats 1000000 in
theorem sortedKeysF_any {H : Type} (b nn : Nat) (D0 : DataW H) (R : Value → Option (DataW H × List MemPlace)) (w : World) (hown : w.ownsMap Tryz.prog 9 R b nn D0) (hbytes : Maps.size D0 ≤ 1099511627776) :
    Calls Tryz.prog 121 #[.func (.func 159) #[] #[.pointer (some ⟨w.heap.size, 0, none⟩)]] (w.alloc (.cells #[.map (some b)] 81)) fun e w' => ∃ (v : Value) (ss : List (List UInt8)), e = .returned v ∧ ss.Perm (strKeys D0) ∧
      w'.ownsRow (w.alloc (.cells #[.map (some b)] 81)).heap.size 9 1 v ss.length ((ss.mergeSort (fun x y => decide (x ≤ y))).map encStr) ∧ (v = .slice none 0 0 ↔ ss = []) ∧ Below (w.alloc (.cells #[.map (some b)] 81)).heap.size (w.alloc (.cells #[.map (some b)] 81)) w' := by
  have hbl := hown.lt
  have hseq : SeqGives Fence.wide 2 Tryz.prog 159 #[.pointer (some ⟨w.heap.size, 0, none⟩)] encStr (fun ss => ss.Perm (strKeys D0)) (Maps.size D0) (w.alloc (.cells #[.map (some b)] 81)) :=
    AnyZ.keys_gives (ρ := Tryz.keysF_ren) { Tryz.keysF with } Fence.wide _ trivial rfl (by omega) w.heap.size b nn D0 _ (by simp) (by simp) (by
      obtain ⟨es, clock, hb, Ft, hs, hD⟩ := hown
      exact ⟨es, clock, (Below.heap_alloc _ _ b hbl).trans hb, Ft, hs, hD⟩)
  exact (callsIn_wide (n := 5)).1 (AnyZ.sorted_in Tryz.sortedF Fence.wide 5 trivial trivial trivial trivial rfl (by omega) (sortsF _) (enters_of Tryz.func158 (by kernel_rfl) rfl) 159 #[.pointer (some ⟨w.heap.size, 0, none⟩)] trivial (enters_of Tryz.func159 (by kernel_rfl) rfl) _ _ (by unfold maxLen; omega) (by omega) _ hseq)
end Go.Proofs.YtdfadpejddhbkaaGreat

namespace Go.Proofs.YtdfadpejddhbkaaGreat
set_option linter.unusedVariables false
open Go.ChangeShapes Go.WideShapes Go.ChangeAt Go.RowKit Go.Maps

/-- what a map by names holds: a name and a value -/
abbrev En := ByteArray × Value
def entV (t : En) : Value := t.2
/-- the map of these -/
def mapF (ts : List En) : DataW Value := ts.foldl (fun D t => D.put (keyL t.1) (.held (entV t))) (.map [])
def ek (ts : List En) (i : Nat) : ByteArray := (ts.getD i (.empty, .bool false)).1
def ev (ts : List En) (i : Nat) : Value := (ts.getD i (.empty, .bool false)).2

theorem mapF_step {ts : List En} {k : Nat} (h : k < ts.length) : mapF (ts.take (k + 1)) = (mapF (ts.take k)).put (keyL (ek ts k)) (.held (ev ts k)) := by
  have h1 : ts.take (k + 1) = ts.take k ++ [(ek ts k, ev ts k)] := by
    have h2 : (ek ts k, ev ts k) = ts[k] := by simp [ek, ev, h]
    rw [h2]
    exact List.take_succ_eq_append_getElem h
  rw [h1, mapF, List.foldl_append]
  rfl

/-- its key, as bytes -/
def klF (t : En) : List UInt8 := t.1.data.toList
/-- in the order of their keys, each once -/
def AscF (us : List En) : Prop := us.Pairwise (fun p q => klF p < klF q)

/-- the map tells these tags, in order -/
structure TellsF (D : DataW Value) (us : List En) : Prop where
  asc : AscF us
  at_ : ∀ t ∈ us, ∀ z, D.atKey (.string (klF t)) z = .held (entV t)
  has : ∀ x, Maps.has D (.string x) = true → ∃ t ∈ us, klF t = x

theorem ascF_ext : ∀ {us vs : List En}, AscF us → AscF vs → (∀ t, t ∈ us ↔ t ∈ vs) → us = vs
  | [], [], _, _, _ => rfl
  | [], v :: vs, _, _, h => absurd ((h v).2 (.head _)) (by simp)
  | u :: us, [], _, _, h => absurd ((h u).1 (.head _)) (by simp)
  | u :: us, v :: vs, hu, hv, h => by
    obtain ⟨hu1, hu2⟩ := List.pairwise_cons.1 hu
    obtain ⟨hv1, hv2⟩ := List.pairwise_cons.1 hv
    have e : u = v := by
      rcases List.mem_cons.1 ((h u).1 (.head _)) with e | h1
      · exact e
      · rcases List.mem_cons.1 ((h v).2 (.head _)) with e | h2
        · exact e.symm
        · exact absurd (List.lt_trans (hv1 u h1) (hu1 v h2)) (List.lt_irrefl _)
    subst e
    congr 1
    refine ascF_ext hu2 hv2 fun t => ⟨fun ht => ?_, fun ht => ?_⟩
    · rcases List.mem_cons.1 ((h t).1 (.tail _ ht)) with e | h1
      · subst e
        exact absurd (hu1 t ht) (List.lt_irrefl _)
      · exact h1
    · rcases List.mem_cons.1 ((h t).2 (.tail _ ht)) with e | h1
      · subst e
        exact absurd (hv1 t ht) (List.lt_irrefl _)
      · exact h1

/-- a tag put among tags, as the model puts it -/
def putF : List En → En → List En
  | [], t => [t]
  | u :: us, t => if klF t ≤ klF u then t :: (u :: us).filter (fun s => decide (klF s ≠ klF t)) else u :: putF us t

theorem mem_putF (s t : En) : ∀ us : List En, s ∈ putF us t ↔ s = t ∨ (s ∈ us ∧ klF s ≠ klF t)
  | [] => by simp [putF]
  | u :: us => by
    unfold putF
    split
    · simp only [List.mem_cons, List.mem_filter, decide_eq_true_eq]
    · rename_i h
      have hlt : klF u < klF t := Classical.byContradiction h
      rw [List.mem_cons, mem_putF s t us, List.mem_cons]
      constructor
      · rintro (rfl | rfl | ⟨h1, h2⟩)
        · exact .inr ⟨.inl rfl, fun e => List.lt_irrefl _ (e ▸ hlt)⟩
        · exact .inl rfl
        · exact .inr ⟨.inr h1, h2⟩
      · rintro (rfl | ⟨rfl | h1, h2⟩)
        · exact .inr (.inl rfl)
        · exact .inl rfl
        · exact .inr (.inr ⟨h1, h2⟩)

theorem asc_putF (t : En) : ∀ {us : List En}, AscF us → AscF (putF us t)
  | [], _ => List.pairwise_singleton _ _
  | u :: us, h => by
    obtain ⟨h1, h2⟩ := List.pairwise_cons.1 h
    unfold putF
    split
    · rename_i hle
      refine List.pairwise_cons.2 ⟨fun s hs => ?_, h.filter _⟩
      simp only [List.mem_filter, decide_eq_true_eq] at hs
      refine lt_of_le_ne ?_ hs.2
      rcases List.mem_cons.1 hs.1 with rfl | hm
      · exact hle
      · exact List.le_trans hle (List.le_of_lt (h1 s hm))
    · rename_i hle
      have hlt : klF u < klF t := Classical.byContradiction hle
      refine List.pairwise_cons.2 ⟨fun s hs => ?_, asc_putF t h2⟩
      rcases (mem_putF s t us).1 hs with rfl | ⟨hm, _⟩
      · exact hlt
      · exact h1 s hm

theorem key_neF {x : List UInt8} {t : En} (h : x ≠ klF t) : Lit.string x ≠ keyL t.1 := fun e => h (Lit.string.inj e)

theorem TellsF.put {D : DataW Value} {us : List En} (h : TellsF D us) (hD : IsMap D) (t : En) : TellsF (D.put (keyL t.1) (.held (entV t))) (putF us t) := by
  refine ⟨asc_putF t h.asc, fun s hs z => ?_, fun x hx => ?_⟩
  · rcases (mem_putF s t us).1 hs with rfl | ⟨hm, hne⟩
    · exact atKey_put_same (k := keyL s.1) hD (show WideAt.IsKeyLit (keyL s.1) from trivial) _ _
    · rw [atKey_put_other (key_neF hne)]
      exact h.at_ s hm z
  · by_cases e : x = klF t
    · exact ⟨t, (mem_putF t t us).2 (.inl rfl), e.symm⟩
    · rw [has_put_other (key_neF e)] at hx
      obtain ⟨s, hs, hk⟩ := h.has x hx
      exact ⟨s, (mem_putF s t us).2 (.inr ⟨hs, by rw [hk]; exact e⟩), hk⟩

/-- tags without a key -/
def cutF (us : List En) (x : List UInt8) : List En := us.filter (fun s => decide (klF s ≠ x))

theorem TellsF.cut {D : DataW Value} {us : List En} (h : TellsF D us) (x : List UInt8) : TellsF (D.del (.string x)) (cutF us x) := by
  refine ⟨h.asc.filter _, fun s hs z => ?_, fun y hy => ?_⟩
  · simp only [cutF, List.mem_filter, decide_eq_true_eq] at hs
    rw [atKey_del_other (fun e => hs.2 (Lit.string.inj e))]
    exact h.at_ s hs.1 z
  · by_cases e : y = x
    · subst e
      rw [has_del_same] at hy
      cases hy
    · rw [has_del_other (fun e' => e (Lit.string.inj e'))] at hy
      obtain ⟨s, hs, hk⟩ := h.has y hy
      exact ⟨s, by simp only [cutF, List.mem_filter, decide_eq_true_eq]; exact ⟨hs, by rw [hk]; exact e⟩, hk⟩

theorem tellsF_fold : ∀ (ts : List En) (D : DataW Value) (us : List En), IsMap D → TellsF D us →
    IsMap (ts.foldl (fun D t => D.put (keyL t.1) (.held (entV t))) D) ∧ TellsF (ts.foldl (fun D t => D.put (keyL t.1) (.held (entV t))) D) (ts.foldl putF us)
  | [], D, us, h1, h2 => ⟨h1, h2⟩
  | t :: r, D, us, h1, h2 => tellsF_fold r _ _ (h1.put _ _) (h2.put h1 t)

theorem tellsF_none : TellsF (.map []) [] := ⟨List.Pairwise.nil, fun t ht => by simp at ht, fun x hx => by simp [Maps.has] at hx⟩

theorem mapF_isMap (ts : List En) : IsMap (mapF ts) := (tellsF_fold ts _ _ isMap_empty tellsF_none).1
/-- what the map of tags tells -/
def toldF (ts : List En) : List En := ts.foldl putF []
theorem tellsF_mapF (ts : List En) : TellsF (mapF ts) (toldF ts) := (tellsF_fold ts _ _ isMap_empty tellsF_none).2

theorem putF_last {us : List En} {t : En} (h : ∀ u ∈ us, klF u < klF t) : putF us t = us ++ [t] := by
  induction us with
  | nil => rfl
  | cons u us ih =>
    have h1 : ¬ klF t ≤ klF u := fun h2 => h2 (h u (.head _))
    unfold putF
    rw [if_neg h1, ih fun s hs => h s (.tail _ hs)]
    rfl

theorem foldF_asc : ∀ (ts us : List En), AscF (us ++ ts) → ts.foldl putF us = us ++ ts
  | [], us, _ => by simp
  | t :: r, us, h => by
    rw [List.foldl_cons, putF_last fun u hu => (List.pairwise_append.1 h).2.2 u hu t (.head _), foldF_asc r (us ++ [t]) (by simpa using h)]
    simp

/-- tags that are in order are toldF as they are -/
theorem toldF_asc {ts : List En} (h : AscF ts) : toldF ts = ts := by simpa [toldF] using foldF_asc ts [] (by simpa using h)
/-- what is toldF is in order -/
theorem ascF_told (ts : List En) : AscF (toldF ts) := (tellsF_mapF ts).asc

theorem toldF_len (ts : List En) : (toldF ts).length ≤ ts.length := by
  have put : ∀ (t : En) (us : List En), (putF us t).length ≤ us.length + 1 := by
    intro t us
    induction us with
    | nil => simp [putF]
    | cons u us ih =>
      unfold putF
      split
      · have := List.length_filter_le (fun s => decide (klF s ≠ klF t)) (u :: us)
        rw [List.length_cons]
        omega
      · simp only [List.length_cons]
        omega
  have all : ∀ (ts us : List En), (ts.foldl putF us).length ≤ us.length + ts.length := by
    intro ts
    induction ts with
    | nil => simp
    | cons t r ih =>
      intro us
      rw [List.foldl_cons, List.length_cons]
      have := ih (putF us t)
      have := put t us
      omega
  simpa [toldF] using all ts []

theorem toldF_mem {ts : List En} {s : En} (h : s ∈ toldF ts) : s ∈ ts := by
  have all : ∀ (ts us : List En), s ∈ ts.foldl putF us → s ∈ us ∨ s ∈ ts := by
    intro ts
    induction ts with
    | nil => exact fun us h => .inl h
    | cons t r ih =>
      intro us h
      rcases ih _ h with h1 | h1
      · rcases (mem_putF s t us).1 h1 with rfl | ⟨h2, _⟩
        · exact .inr (.head _)
        · exact .inl h2
      · exact .inr (.tail _ h1)
  rcases all ts [] h with h1 | h1
  · simp at h1
  · exact h1


end Go.Proofs.YtdfadpejddhbkaaGreat

namespace Go.Proofs.YtdfadpejddhbkaaGreat
set_option linter.unusedVariables false
open Go.ChangeShapes Go.WideShapes Go.ChangeAt Go.RowKit Go.Maps Go.Sort Go.Deep

/-- a value is a thing that lies in memory -/
def FeatV (w : World) (v : Value) (f : Ft) : Prop := ∃ pa pc ta tc, v = .agg #[.string f.1, .int .i64 f.2.1, .slice pa f.2.2.1.length pc, .slice ta f.2.2.2.length tc] ∧ PtsAt w pa f.2.2.1 ∧ TagsAt w ta f.2.2.2

theorem FeatV.below {w w' : World} {v : Value} {f : Ft} (h : FeatV w v f) (hb : Below w.heap.size w w') : FeatV w' v f := by
  obtain ⟨pa, pc, ta, tc, h1, h2, h3⟩ := h
  exact ⟨pa, pc, ta, tc, h1, h2.below hb, h3.below hb⟩

/-- these are the things, each with its name -/
def Ents (w : World) (es : List En) (fs : List Ft) : Prop := es.length = fs.length ∧ ∀ i, i < fs.length → ek es i = fid fs i ∧ FeatV w (ev es i) (fg fs i)

theorem Ents.below {w w' : World} {es : List En} {fs : List Ft} (h : Ents w es fs) (hb : Below w.heap.size w w') : Ents w' es fs := ⟨h.1, fun i hi => ⟨(h.2 i hi).1, (h.2 i hi).2.below hb⟩⟩

set_option maxRecDepth 100000 in
set_option maxHeartbeats 2000000 in
theorem featsByName_any (a : Option Addr) (cap : Nat) (fs : List Ft) (w : World) (hp : FeatsAt w a fs) (hl : fs.length ≤ 1048576) (ht : FeatsLen fs 1048576) :
    Calls Tryz.prog 56 #[.slice a fs.length cap] w fun e w' => e = .returned (.map (some w.heap.size)) ∧ (∃ es, Ents w es fs ∧ w'.ownsMap Tryz.prog 9 heldElem w.heap.size fs.length (mapF es)) ∧ Below w.heap.size w w' := by
  have each : ∀ i, i < fs.length → ∃ q : Option Addr × Nat × Option Addr × Nat, ∃ b off, a = some ⟨b, off, none⟩ ∧ b < w.heap.size ∧
    w.cell? ⟨b, off + i * 4, none⟩ = some (.string (fid fs i)) ∧ w.cell? ⟨b, off + i * 4 + 1, none⟩ = some (.int .i64 (fkd fs i)) ∧
    w.cell? ⟨b, off + i * 4 + 2, none⟩ = some (.slice q.1 (fps fs i).length q.2.1) ∧ w.cell? ⟨b, off + i * 4 + 3, none⟩ = some (.slice q.2.2.1 (fts fs i).length q.2.2.2) ∧
    PtsAt w q.1 (fps fs i) ∧ TagsAt w q.2.2.1 (fts fs i) := by
    intro i hi
    obtain ⟨b, off, pa, pc, ta, tc, h1, h2, h3, h4, h5, h6, h7, h8⟩ := hp i hi
    exact ⟨(pa, pc, ta, tc), b, off, h1, h2, h3, h4, h5, h6, h7, h8⟩
  obtain ⟨q, hq⟩ := choose_lt each
  clear each hp
  have HP := Lib.hid hq
  have HL := Lib.hid ht
  clear hq ht
  generalize hes : (List.range fs.length).map (fun i => ((fid fs i, .agg #[.string (fid fs i), .int .i64 (fkd fs i), .slice (q i).1 (fps fs i).length (q i).2.1, .slice (q i).2.2.1 (fts fs i).length (q i).2.2.2]) : En)) = es
  have hel : es.length = fs.length := by rw [← hes]; simp
  have hek : ∀ i, i < fs.length → ek es i = fid fs i ∧ ev es i = .agg #[.string (fid fs i), .int .i64 (fkd fs i), .slice (q i).1 (fps fs i).length (q i).2.1, .slice (q i).2.2.1 (fts fs i).length (q i).2.2.2] := by
    intro i hi
    rw [← hes]
    simp [ek, ev, hi]
  have HE : Hid (Ents w es fs) := ⟨hel, fun i hi => ⟨(hek i hi).1, by
    obtain ⟨b, off, _, _, _, _, _, _, h7, h8⟩ := HP.out i hi
    exact ⟨_, _, _, _, (hek i hi).2, h7, h8⟩⟩⟩
  have HK := Lib.hid hek
  clear hek hes
  have hmm := @run_makeMap Tryz.prog
  go_enter Tryz.func56, Tryz.ntmps56
  go_wp2
  clear hmm
  go_loopw [5, 9] (fun _ i wr => ∃ k : Nat, k ≤ fs.length ∧ i = .int .i64 k ∧ wr.ownsMap Tryz.prog 9 heldElem w.heap.size k (mapF (es.take k)) ∧ Below w.heap.size w wr) (fun _ i _ => fs.length - (intOf i).toNat)
  case atStart => exact ⟨0, Nat.zero_le _, rfl, World.ownsMap_made _ _ _ _, (Below.refl _ _).alloc (Nat.le_refl _) _⟩
  case round =>
    obtain ⟨k, hk, rfl, hown, hbel⟩ := hrel
    have HB := Lib.hid hbel
    have hsz := hbel.size
    by_cases hlt : k < fs.length
    · obtain ⟨b, off, rfl, hb, hc1, hc2, hc3, hc4, _, _⟩ := HP.out k hlt
      rw [← hbel.cell (p := ⟨b, _, none⟩) hb] at hc1 hc2 hc3 hc4
      clear hbel
      have hkey : keyOf Tryz.prog 9 (.string (fid fs k)) = some (keyL (fid fs k)) := Go.WideMaps.keyOf_string_mk Tryz.underlying9 (by have := (HL.out k hlt).1; unfold maxLen; omega)
      go_wp2_with (at_mapUpdate; refine wpList_mapUpdate_own _ rfl _ _ _ 81 rfl 9 33 keyT Tryz.underlying81 _ w.heap.size k _ rfl (hown.alloc _) (by unfold maxLen; omega) _ _ _ rfl rfl hkey (.held (.agg #[.string (fid fs k), .int .i64 (fkd fs k), .slice (q k).1 (fps fs k).length (q k).2.1, .slice (q k).2.2.1 (fts fs k).length (q k).2.2.2])) [] rfl ?_; intro w1 hown1 hgrow1)
      rw [← (HK.out k hlt).2, ← (HK.out k hlt).1, ← mapF_step (by omega)] at hown1
      have HO := Lib.hid hown1
      have HG := Lib.hid hgrow1
      clear hown1 hgrow1 hown
      go_roundw
      case rel => exact ⟨k + 1, by omega, by go_num, HO.out, (HB.out.alloc hsz _).grown HG.out (by simp; omega) (fun j hj => by cases hj; exact Nat.le_refl _)⟩
      case measure => simp [intOf]; omega
    · obtain rfl : k = fs.length := by omega
      have HO := Lib.hid hown
      clear hown hbel
      go_wp2
      go_ret
      exact ⟨rfl, ⟨es, HE.out, by have := HO.out; rwa [List.take_of_length_le (by omega)] at this⟩, HB.out⟩

/-- the names of a map that tells these, sorted -/
theorem sorted_toldF {w : World} {b n : Nat} {D : DataW Value} {us : List En} {ss : List (List UInt8)} (hown : w.ownsMap Tryz.prog 9 heldElem b n D) (ht : TellsF D us) (hp : ss.Perm (strKeys D)) :
    ss.mergeSort (fun x y => decide (x ≤ y)) = us.map klF ∧ ss.length = us.length := by
  have hnd : (us.map klF).Nodup := List.pairwise_map.2 (ht.asc.imp fun {p q} (h : klF p < klF q) (e : klF p = klF q) => List.lt_irrefl _ (e ▸ h))
  have hq : (us.map klF).Perm (strKeys D) := by
    obtain ⟨es, hD, hpw, _⟩ := hown.entries keyT
    obtain ⟨es', hD', hko⟩ := hown.keysOf
    obtain rfl : es = es' := by rw [hD] at hD'; simpa using hD'
    subst hD
    refine perm_strKeys hpw (fun p hp => by obtain ⟨v, hv⟩ := hko p hp; obtain ⟨x, _, hx, _⟩ := Maps.keyOf_str Tryz.underlying9 hv; exact ⟨x, hx⟩) hnd (fun x => ?_)
    rw [List.mem_map]
    constructor
    · rintro ⟨t, h1, rfl⟩
      exact has_true_of_atKey (ht.at_ t h1)
    · intro hx
      obtain ⟨t, h1, h2⟩ := ht.has x hx
      exact ⟨t, h1, h2⟩
  have hpm : ss.Perm (us.map klF) := hp.trans hq.symm
  refine ⟨?_, by simpa using hpm.length_eq⟩
  show ss.mergeSort leB = _
  rw [mergeSort_of_perm hpm]
  exact List.mergeSort_of_pairwise ((List.pairwise_map.2 ht.asc).imp fun h => decide_eq_true (List.le_of_lt h))

/-- a text of a list -/
def sx (xs : List ByteArray) (i : Nat) : ByteArray := xs.getD i .empty
/-- a slice that reads as texts -/
def StrsAt (w : World) (a : Option Addr) (xs : List ByteArray) : Prop :=
  ∀ i, i < xs.length → ∃ b off, a = some ⟨b, off, none⟩ ∧ b < w.heap.size ∧ w.cell? ⟨b, off + i, none⟩ = some (.string (sx xs i))

theorem StrsAt.below {w w' : World} {a : Option Addr} {xs : List ByteArray} (h : StrsAt w a xs) (hb : Below w.heap.size w w') : StrsAt w' a xs := by
  intro i hi
  obtain ⟨b, off, rfl, hlt, h1⟩ := h i hi
  exact ⟨b, off, rfl, Nat.lt_of_lt_of_le hlt hb.size, by rw [hb.cell (p := ⟨b, _, none⟩) hlt]; exact h1⟩

theorem StrsAt.nil (w : World) (a : Option Addr) : StrsAt w a [] := fun _ h => absurd h (Nat.not_lt_zero _)

/-- an owned row reads as its texts -/
theorem owned_strs {w : World} {base : Nat} {e : TypeId} {v : Value} {n : Nat} {xs : List ByteArray} (h : w.ownsRow base e 1 v n (xs.map .string)) (hn : n = xs.length) :
    ∃ a cap, v = .slice a xs.length cap ∧ StrsAt w a xs ∧ ∀ x, blk a = some x → base ≤ x ∧ x < w.heap.size := by
  subst hn
  obtain ⟨h1, ⟨rfl, h2⟩ | ⟨g, cap, cur, rfl, hb, hg, hc, hm, hs, hx⟩⟩ := h
  · have : xs.length = 0 := by omega
    exact ⟨none, 0, by rw [this], fun i hi => by omega, fun x h => by simp [blk] at h⟩
  · refine ⟨some ⟨g, 0, none⟩, cap, rfl, fun i hi => ⟨g, 0, rfl, (Array.getElem?_eq_some_iff.1 hg).1, ?_⟩, fun x h => by obtain rfl : g = x := (by simpa [blk] using h); exact ⟨hb, (Array.getElem?_eq_some_iff.1 hg).1⟩⟩
    have hv : (xs.map Value.string)[i]? = some (.string (sx xs i)) := by
      simp [hi, sx]
    rw [← hx, List.getElem?_take, if_pos (by omega)] at hv
    simp only [World.cell?, hg, Option.isSome_none, Bool.false_eq_true, if_false, Nat.zero_add]
    simpa using hv

theorem names_enc (us : List En) : (us.map klF).map encStr = (us.map (·.1)).map Value.string := by
  rw [List.map_map, List.map_map]
  exact List.map_congr_left fun u _ => by simp [encStr, klF]

set_option maxRecDepth 100000 in
set_option maxHeartbeats 2000000 in
/-- the names, in order, in a row of its own -/
theorem namesInOrder_any (b n : Nat) (D : DataW Value) (us : List En) (w : World) (hown : w.ownsMap Tryz.prog 9 heldElem b n D) (ht : TellsF D us) (hn : n ≤ 1048577) :
    Calls Tryz.prog 69 #[.map (some b)] w fun e w' => (∃ v, e = .returned v ∧ w'.ownsRow w.heap.size 9 1 v us.length ((us.map (·.1)).map Value.string)) ∧ us.length ≤ n ∧ Below w.heap.size w w' := by
  have HO := Lib.hid hown
  have HT := Lib.hid ht
  have hms := hown.size_le
  have SK := Lib.hid (sortedKeysF_any b n D heldElem w hown (by omega))
  clear hown ht
  go_enter Tryz.func69, Tryz.ntmps69
  go_wp2_with fail
  refine (mapsKeysF_any _ _).mono ?_
  rintro e w1 ⟨rfl, rfl⟩
  go_wp2_with fail
  refine SK.out.mono ?_
  rintro e w2 ⟨v, ss, rfl, hp, hrow, -, hb2⟩
  obtain ⟨hs1, hs2⟩ := sorted_toldF HO.out HT.out hp
  rw [hs1, names_enc, hs2] at hrow
  have hlen : us.length ≤ n := by
    have h1 := hp.length_eq
    have h2 : (strKeys D).length = Maps.size D := by
      obtain ⟨es, rfl⟩ := HO.out.isMap
      simp [strKeys, Maps.size]
    omega
  have B2 : Hid (Below w.heap.size w w2) := ((Below.refl _ _).alloc (Nat.le_refl _) _).trans (hb2.mono (by simp))
  have HR : Hid (w2.ownsRow w.heap.size 9 1 v us.length ((us.map (·.1)).map Value.string)) := ownsRow_base hrow (by simp)
  clear hrow hb2 hs1 hs2 hp SK HO
  go_wp2
  go_ret
  exact ⟨⟨v, rfl, HR.out⟩, hlen, B2.out⟩

end Go.Proofs.YtdfadpejddhbkaaGreat

namespace Go.Proofs.YtdfadpejddhbkaaGreat
set_option linter.unusedVariables false
open Go.ChangeShapes Go.WideShapes Go.ChangeAt Go.RowKit

/-- two lists of texts are one -/
def ssEq (xs ys : List ByteArray) : Bool := decide (xs = ys)

theorem ssEq_of {xs ys : List ByteArray} (hl : xs.length = ys.length) (h : ∀ j, j < xs.length → sx xs j = sx ys j) : ssEq xs ys = true := by
  unfold ssEq
  rw [decide_eq_true_iff]
  refine List.ext_getElem hl fun i h1 h2 => ?_
  simpa [sx, h1, h2] using h i h1

theorem ssEq_ne {xs ys : List ByteArray} {j : Nat} (h : ¬ sx xs j = sx ys j) : ssEq xs ys = false := by
  unfold ssEq
  rw [decide_eq_false_iff_not]
  rintro rfl
  exact h rfl

theorem ssEq_len {xs ys : List ByteArray} (h : xs.length ≠ ys.length) : ssEq xs ys = false := by
  unfold ssEq
  rw [decide_eq_false_iff_not]
  rintro rfl
  exact h rfl

set_option maxHeartbeats 1000000 in
theorem slicesEqualS_any (a a' : Option Addr) (cap cap' : Nat) (xs ys : List ByteArray) (w : World) (hp : StrsAt w a xs) (hq : StrsAt w a' ys) (hl : xs.length ≤ 1048577) (hl' : ys.length ≤ 1048577) :
    Calls Tryz.prog 68 #[.slice a xs.length cap, .slice a' ys.length cap'] w fun e w' => e = .returned (.bool (ssEq xs ys)) ∧ ∃ n, w' = w.drewN n := by
  have HP := Lib.hid hp
  have HQ := Lib.hid hq
  clear hp hq
  by_cases he : xs.length = ys.length
  · have HE := Lib.hid he
    rw [← he]
    have h1 : ((xs.length : Int) != (xs.length : Int)) = false := by simp
    clear he
    go_enter Tryz.func68, Tryz.ntmps68
    go_wp2
    go_loopw [5, 13] (fun _ i wr => ∃ k n : Nat, k ≤ xs.length ∧ i = .int .i64 k ∧ wr = w.drewN n ∧ ∀ j, j < k → sx xs j = sx ys j) (fun _ i _ => xs.length - (intOf i).toNat)
    case atStart => exact ⟨0, 0, Nat.zero_le _, rfl, rfl, fun j h => absurd h (Nat.not_lt_zero _)⟩
    case round =>
      obtain ⟨k, n, hk, rfl, rfl, hall⟩ := hrel
      have HA := Lib.hid hall
      clear hall
      by_cases hlt : k < xs.length
      · obtain ⟨b, off, rfl, hb, hc1⟩ := HP.out k hlt
        obtain ⟨b', off', rfl, hb', hd1⟩ := HQ.out k (by have := HE.out; omega)
        have hbq := bytes_beq (sx xs k) (sx ys k)
        by_cases hs : sx xs k = sx ys k
        · rw [decide_eq_true hs] at hbq
          have HS := Lib.hid hs
          clear hs
          go_wp2
          go_quiet (fail)
          go_wp2
          go_roundw
          case rel => exact ⟨k + 1, _, by omega, by go_num, rfl, fun j hj => by by_cases e : j = k; (subst e; exact HS.out); exact HA.out j (by omega)⟩
          case measure => simp [intOf]; omega
        · rw [decide_eq_false hs] at hbq
          have HS := Lib.hid (ssEq_ne hs)
          clear hs
          go_wp2
          go_quiet (fail)
          go_wp2
          go_ret
          exact ⟨by rw [HS.out]; rfl, n + nq, by rw [World.drewN_drewN]⟩
      · obtain rfl : k = xs.length := by omega
        have HT := Lib.hid (ssEq_of HE.out HA.out)
        go_wp2
        go_ret
        exact ⟨by rw [HT.out]; rfl, n, rfl⟩
  · have h1 : ((xs.length : Int) != (ys.length : Int)) = true := by simp; omega
    have HT := Lib.hid (ssEq_len he)
    clear he
    go_enter Tryz.func68, Tryz.ntmps68
    go_wp2
    go_ret
    exact ⟨by rw [HT.out]; rfl, 0, rfl⟩
end Go.Proofs.YtdfadpejddhbkaaGreat

namespace Go.Proofs.YtdfadpejddhbkaaGreat
set_option linter.unusedVariables false
open Go.ChangeShapes Go.WideShapes Go.ChangeAt Go.RowKit Go.Maps

theorem infoStr : (Tryz.prog.info? 9).map (fun i => (i.zero, i.size, i.bytes)) = some (some (.string .empty), 1, 16) := by kernel_rfl

theorem ownsRow_later {w w' : World} {base : Nat} {e : TypeId} {sz : Nat} {v : Value} {n : Nat} {xs : List Value} (h : w.ownsRow base e sz v n xs) (hb : Below w.heap.size w w') : w'.ownsRow base e sz v n xs := by
  obtain ⟨h1, h2 | ⟨g, cap, cur, h3, h4, hg, h5⟩⟩ := h
  · exact ⟨h1, .inl h2⟩
  · exact ⟨h1, .inr ⟨g, cap, cur, h3, h4, (hb.block g (Array.getElem?_eq_some_iff.1 hg).1).trans hg, h5⟩⟩

/-- the names of things -/
def namesOf (fs : List Ft) : List ByteArray := fs.map (·.1)

theorem namesOf_len (fs : List Ft) : (namesOf fs).length = fs.length := by simp [namesOf]
theorem namesOf_at {fs : List Ft} {i : Nat} (h : i < fs.length) : sx (namesOf fs) i = fid fs i := by simp [sx, namesOf, fid, fg, h]

theorem names_step {fs : List Ft} {k : Nat} (h : k < fs.length) : ((namesOf fs).take (k + 1)).map Value.string = ((namesOf fs).take k).map Value.string ++ [.string (fid fs k)] := by
  have h1 : k < (namesOf fs).length := by rw [namesOf_len]; exact h
  rw [List.take_succ_eq_append_getElem h1, List.map_append]
  congr 1
  have := namesOf_at h
  simp only [sx, List.getD_eq_getElem?_getD, List.getElem?_eq_getElem h1, Option.getD_some] at this
  rw [this]
  rfl

theorem ents_names {w : World} {es : List En} {fs : List Ft} (h : Ents w es fs) : es.map (·.1) = namesOf fs := by
  refine List.ext_getElem (by simp [namesOf, h.1]) fun i h1 h2 => ?_
  have hi : i < fs.length := by simpa [namesOf] using h2
  have := (h.2 i hi).1
  have h3 := namesOf_at hi
  simp only [sx, List.getD_eq_getElem?_getD, List.getElem?_eq_getElem h2, Option.getD_some] at h3
  rw [h3, ← this]
  simp [ek, h.1, hi]

theorem kl_get {es : List En} {fs : List Ft} {w : World} (h : Ents w es fs) {i : Nat} (hi : i < es.length) : klF es[i] = fb fs i := by
  have := (h.2 i (by rw [← h.1]; exact hi)).1
  unfold fb
  rw [← this]
  simp [klF, ek, hi]

theorem ascF_of_good {w : World} {es : List En} {fs : List Ft} (he : Ents w es fs) (h : featsGood fs = true) : AscF es := by
  have step : ∀ j, j + 1 < fs.length → fb fs j < fb fs (j + 1) := fun j hj => by
    have := featsGood_at h hj
    simp [featGood] at this
    exact this.2
  have all : ∀ d i, i + d + 1 < fs.length → fb fs i < fb fs (i + d + 1) := by
    intro d
    induction d with
    | zero => exact fun i hi => step i hi
    | succ d ih => exact fun i hi => List.lt_trans (ih i (by omega)) (step _ hi)
  have hl := he.1
  refine List.pairwise_iff_getElem.2 fun i j hi hj hij => ?_
  rw [kl_get he hi, kl_get he hj]
  have := all (j - i - 1) i (by omega)
  rwa [show i + (j - i - 1) + 1 = j by omega] at this

theorem good_of_ascF {w : World} {es : List En} {fs : List Ft} (he : Ents w es fs) (hw : ∀ j, j < fs.length → ftOk fs j = true) (h : AscF es) : featsGood fs = true := by
  have hl := he.1
  refine featsGood_of fun j hj => ?_
  by_cases h0 : 0 < j
  · have := List.pairwise_iff_getElem.1 h (j - 1) j (by omega) (by omega) (by omega)
    rw [kl_get he, kl_get he] at this
    have hn : ¬ fb fs j ≤ fb fs (j - 1) := fun hle => hle this
    simp [featGood, hw j hj, hn]
  · simp [featGood, hw j hj, h0]

theorem asc_names {es fs' : List En} (h : AscF fs') (e : es.map (·.1) = fs'.map (·.1)) : AscF es := by
  have h1 : (fs'.map (·.1)).Pairwise (fun p q => p.data.toList < q.data.toList) := List.pairwise_map.2 (h.imp fun {p q} (h : klF p < klF q) => h)
  rw [← e] at h1
  exact (List.pairwise_map.1 h1).imp fun {p q} h => h

theorem told_goodF {w : World} {es : List En} {fs : List Ft} (he : Ents w es fs) (hw : ∀ j, j < fs.length → ftOk fs j = true) : ssEq (namesOf fs) ((toldF es).map (·.1)) = featsGood fs := by
  rw [← ents_names he]
  by_cases h : AscF es
  · rw [good_of_ascF he hw h, toldF_asc h]
    simp [ssEq]
  · have h1 : featsGood fs = false := by
      cases h2 : featsGood fs
      · rfl
      · exact absurd (ascF_of_good he h2) h
    rw [h1]
    unfold ssEq
    exact decide_eq_false fun e => h (asc_names (ascF_told es) e)

set_option maxRecDepth 100000 in
set_option maxHeartbeats 4000000 in
theorem implSheetOk_any (a : Option Addr) (cap : Nat) (fs : List Ft) (w : World) (hp : FeatsAt w a fs) (hl : fs.length ≤ 1048576) (ht : FeatsLen fs 1048576) :
    Calls Tryz.prog 22 #[.slice a fs.length cap] w fun e w' => e = .returned (.bool (sheetOk fs)) ∧ Below w.heap.size w w' := by
  obtain ⟨i0, hi, hz0, hz1, hz2⟩ := info_parts infoStr
  have HI := Lib.hid hi
  have HZ0 := Lib.hid hz0
  have HZ1 := Lib.hid hz1
  have HZ2 := Lib.hid hz2
  have HP := Lib.hid hp
  have HL := Lib.hid ht
  clear hp ht hi hz0 hz1 hz2
  by_cases h8 : fs.length ≤ 8
  · go_enter Tryz.func22, Tryz.ntmps22
    go_wp2
    go_loopw [3, 5, 11] (fun s _ i wr => ∃ (k : Nat) (v : Value), k ≤ fs.length ∧ i = .int .i64 k ∧ v = s ∧ wr.ownsRow w.heap.size 9 1 v k (((namesOf fs).take k).map Value.string) ∧ Below w.heap.size w wr ∧ ∀ j, j < k → ftOk fs j = true) (fun _ _ i _ => fs.length - (intOf i).toNat)
    case atStart => exact ⟨0, _, Nat.zero_le _, rfl, rfl, by simpa using World.ownsRow_nil _ _ _ _, Below.refl _ _, fun j h => absurd h (Nat.not_lt_zero _)⟩
    case round =>
      obtain ⟨k, v, hk, rfl, rfl, hown, hbel, hall⟩ := hrel
      have HA := Lib.hid hall
      have HB := Lib.hid hbel
      have HW := Lib.hid hown
      have hsz := hbel.size
      clear hall hown
      by_cases hlt : k < fs.length
      · obtain ⟨b, off, pa, pc, ta, tc, rfl, hb, hc1, hc2, hc3, hc4, hpp, htt⟩ := HP.out k hlt
        obtain ⟨l1, l2, l3, l4⟩ := HL.out k hlt
        rw [← hbel.cell (p := ⟨b, _, none⟩) hb] at hc1 hc2 hc3 hc4
        have D1 := Lib.hid (hpp.below hbel)
        have D2 := Lib.hid (htt.below hbel)
        have L4 := Lib.hid l4
        have zb : b < wr.heap.size := by omega
        clear hbel hpp htt l4
        have A0 : Hid (∀ o, Below wr.heap.size wr (wr.alloc o)) := fun o => (Below.refl _ _).alloc (Nat.le_refl _) _
        go_wp2_with fail
        clear hc1 hc2 hc3 hc4
        refine (implFeatOk_any _ _ _ _ _ _ _ _ _ (D1.out.below (A0.out _)) (D2.out.below (A0.out _)) (by omega) (by omega) (by omega) L4.out).mono ?_
        rintro e w1 ⟨rfl, hb1⟩
        have c0 := cell_later hb1 (a := ⟨wr.heap.size, 0, none⟩) (v := .string (fid fs k)) (by simp [go_sem])
        have B1 : Hid (Below wr.heap.size wr w1) := (A0.out _).trans (hb1.mono (by simp))
        have z1 : wr.heap.size < w1.heap.size := by have := hb1.size; simp at this; omega
        clear hb1 A0 D1 D2
        rw [show featOk (fid fs k) (fkd fs k) (fps fs k) (fts fs k) = ftOk fs k from rfl]
        by_cases hx : ftOk fs k = true
        · rw [hx]
          have HW1 : Hid (w1.ownsRow w.heap.size 9 1 v k (((namesOf fs).take k).map Value.string)) := ownsRow_later HW.out B1.out
          have HV : Hid (∀ j, v.ownBlock = some j → w.heap.size ≤ j) := fun j hj => (HW.out.lt j hj).1
          go_wp2_with (at_builtin; refine wpList_append_lies _ (by rfl) _ _ _ (by rfl) w.heap.size 9 i0 _ 1 16 Tryz.underlying94 HI.out HZ0.out HZ1.out HZ2.out rfl (by omega) v k (((namesOf fs).take k).map Value.string) (by rfl) (HW1.out.alloc _) ⟨w1.heap.size, 0, none⟩ 1 1 [.string (fid fs k)] (by rfl) (by rfl) (World.news_of_block (cs := #[.string (fid fs k)]) (t := 9) (fr := (0, 0)) (heap_alloc_new w1 _)) (by simp [Value.oneCell']) (by omega) (by unfold maxLen; omega) (by omega) (by simp; omega) (w1.heap.size + 1) (by simp) ?_; intro gg cap' wa hown1 hgrow hat hlt')
          rw [← names_step hlt] at hown1
          have HO := Lib.hid hown1
          have HG := Lib.hid hgrow
          clear hown1 hgrow hat c0
          go_roundw
          case rel => exact ⟨k + 1, _, by omega, by go_num, rfl, HO.out, (HB.out.trans ((B1.out.mono hsz).alloc (by omega) _)).grown HG.out (by simp; omega) (fun j hj => HV.out j hj), fun j hj => by by_cases e : j = k; (subst e; exact hx); exact HA.out j (by omega)⟩
          case measure => simp [intOf]; omega
        · have hx' : ftOk fs k = false := by simpa using hx
          rw [hx']
          have B2 : Hid (Below w.heap.size w w1) := HB.out.trans (B1.out.mono hsz)
          clear c0
          go_wp2
          go_ret
          exact ⟨by rw [sheetOk_not hlt (by simp [featGood, hx'])]; rfl, B2.out⟩
      · obtain rfl : k = fs.length := by omega
        have HO : Hid (wr.ownsRow w.heap.size 9 1 v fs.length ((namesOf fs).map Value.string)) := by
          have := HW.out
          rwa [List.take_of_length_le (by rw [namesOf_len]; omega)] at this
        clear hbel HW
        obtain ⟨an, cn, rfl, hn, _⟩ := owned_strs HO.out (namesOf_len fs).symm
        have HN := Lib.hid hn
        clear hn HO
        go_wp2_with fail
        refine (featsByName_any _ _ _ _ (HP.out.below HB.out) hl HL.out).mono ?_
        rintro e w1 ⟨rfl, ⟨es, he, ho⟩, hb1⟩
        have HE := Lib.hid he
        have HO := Lib.hid ho
        have B1 : Hid (Below w.heap.size w w1) := HB.out.trans (hb1.mono hsz)
        replace HN := Lib.hid (HN.out.below hb1)
        clear he ho hb1
        go_wp2_with fail
        refine (namesInOrder_any _ _ _ (toldF es) _ HO.out (tellsF_mapF es) (by omega)).mono ?_
        rintro e w2 ⟨⟨v2, rfl, hr2⟩, hl2, hb2⟩
        have B2 : Hid (Below w.heap.size w w2) := B1.out.trans (hb2.mono B1.out.size)
        replace HN := Lib.hid (HN.out.below hb2)
        generalize hys : (toldF es).map (·.1) = ys at hr2
        have hyl : (toldF es).length = ys.length := by rw [← hys, List.length_map]
        have HYS := Lib.hid hys
        clear hys
        obtain ⟨a2, cap2, rfl, h2, _⟩ := owned_strs hr2 hyl
        have H2 := Lib.hid h2
        clear hb2 hr2 h2 HO
        go_wp2_with fail
        refine (slicesEqualS_any _ _ _ _ _ _ _ HN.out H2.out (by rw [namesOf_len]; omega) (by omega)).mono ?_
        rintro e w3 ⟨rfl, n, rfl⟩
        have B3 : Hid (Below w.heap.size w (w2.drewN n)) := below_drewN B2.out n
        go_wp2
        go_ret
        exact ⟨by rw [← HYS.out, told_goodF HE.out HA.out]; simp [sheetOk, h8], B3.out⟩
  · go_enter Tryz.func22, Tryz.ntmps22
    go_wp2
    go_ret
    exact ⟨by simp [sheetOk, h8], Below.refl _ _⟩
end Go.Proofs.YtdfadpejddhbkaaGreat

namespace Go.Proofs.YtdfadpejddhbkaaGreat
set_option linter.unusedVariables false
open Go.ChangeShapes Go.WideShapes Go.ChangeAt Go.RowKit Go.Deep

/-- is there such a thing -/
def getHas (fs : List Ft) (id : ByteArray) : Bool := sheetOk fs && decide (firstF fs id < fs.length)
/-- the thing of a name -/
def getFt (fs : List Ft) (id : ByteArray) : Ft := if getHas fs id then fg fs (firstF fs id) else (⟨#[]⟩, 0, [], [])

/-- a value is a thing that lies between these blocks -/
def Got (lo hi : Nat) (w : World) (v : Value) (f : Ft) : Prop :=
  ∃ ax cx ay cy, v = .agg #[.string f.1, .int .i64 f.2.1, .slice ax f.2.2.1.length cx, .slice ay f.2.2.2.length cy] ∧ PtsAt w ax f.2.2.1 ∧ TagsAt w ay f.2.2.2 ∧ (f.2.2.1.length = 0 ∨ ∀ x, blk ax = some x → lo ≤ x ∧ x < hi) ∧ (f.2.2.2.length = 0 ∨ ∀ x, blk ay = some x → lo ≤ x ∧ x < hi)

theorem Got.turned {lo hi : Nat} {w w' : World} {v : Value} {f : Ft} {S : Nat → Prop} (h : Got lo hi w v f) (ht : Turned w w' S) (hS : ∀ x, lo ≤ x → x < hi → ¬ S x) : Got lo hi w' v f := by
  obtain ⟨ax, cx, ay, cy, h1, h2, h3, h4, h5⟩ := h
  refine ⟨ax, cx, ay, cy, h1, ?_, ?_, h4, h5⟩
  · rcases h4 with h | h
    · exact fun i hi => absurd hi (by omega)
    · exact h2.turned ht fun x hx => hS x (h x hx).1 (h x hx).2
  · rcases h5 with h | h
    · exact fun i hi => absurd hi (by omega)
    · exact h3.turned ht fun x hx => hS x (h x hx).1 (h x hx).2

theorem Got.below {lo hi : Nat} {w w' : World} {v : Value} {f : Ft} (h : Got lo hi w v f) (hb : Below w.heap.size w w') : Got lo hi w' v f := h.turned (S := fun _ => False) (Turned.of_below hb) fun _ _ _ h => h

theorem Got.nothing (lo hi : Nat) (w : World) : Got lo hi w (.agg #[.string ⟨#[]⟩, .int .i64 0, .slice none 0 0, .slice none 0 0]) (⟨#[]⟩, 0, [], []) :=
  ⟨none, 0, none, 0, rfl, PtsAt.nil _ _, TagsAt.nil _ _, .inl rfl, .inl rfl⟩

theorem good_ok {fs : List Ft} (h : sheetOk fs = true) {i : Nat} (hi : i < fs.length) : ftOk fs i = true := by
  simp [sheetOk] at h
  have := featsGood_at h.1 hi
  simp [featGood] at this
  exact this.1

theorem ftOk_pts {fs : List Ft} {i : Nat} (h : ftOk fs i = true) : 0 < (fps fs i).length := by
  unfold ftOk featOk at h
  simp only [Bool.and_eq_true] at h
  have h2 := h.1.2
  unfold shapeOk at h2
  simp only [Bool.and_eq_true] at h2
  have h3 := h2.1.2
  unfold kindHolds at h3
  split at h3
  · simp at h3; omega
  · split at h3
    · simp at h3; omega
    · split at h3
      · simp at h3; omega
      · simp at h3

theorem Got.mono {lo hi lo' hi' : Nat} {w : World} {v : Value} {f : Ft} (h : Got lo hi w v f) (h1 : lo' ≤ lo) (h2 : hi ≤ hi') : Got lo' hi' w v f := by
  obtain ⟨ax, cx, ay, cy, q1, q2, q3, q4, q5⟩ := h
  exact ⟨ax, cx, ay, cy, q1, q2, q3, q4.imp id fun h x hx => ⟨Nat.le_trans h1 (h x hx).1, Nat.lt_of_lt_of_le (h x hx).2 h2⟩, q5.imp id fun h x hx => ⟨Nat.le_trans h1 (h x hx).1, Nat.lt_of_lt_of_le (h x hx).2 h2⟩⟩

/-- four stores into a box -/
theorem turned4 (w : World) (r : Nat) (x0 x1 x2 x3 : Value) : Turned w ((((w.setCell ⟨r, 0, none⟩ x0).setCell ⟨r, 1, none⟩ x1).setCell ⟨r, 2, none⟩ x2).setCell ⟨r, 3, none⟩ x3) (fun x => x = r) :=
  (((Turned.of_set (S := fun x => x = r) w _ _ rfl).trans (Turned.of_set _ _ _ rfl)).trans (Turned.of_set _ _ _ rfl)).trans (Turned.of_set _ _ _ rfl)

theorem FeatAns.got {w w' : World} {id : ByteArray} {k : Int} {ps : List (Int × Int)} {ts : List Tg} {v : Value} (h : FeatAns w id k ps ts v w') : Got w.heap.size w'.heap.size w' v (id, k, ps, ts) ∧ Below w.heap.size w w' := by
  obtain ⟨a, cap, c, ca, h1, h2, _, h4, h5, _, h7, _, h9⟩ := h
  exact ⟨⟨a, cap, c, ca, h1, h2, h5, .inr h4, .inr h7⟩, h9⟩

set_option maxHeartbeats 2000000 in
theorem l2Copy_got (id : ByteArray) (k : Int) (a : Option Addr) (cap : Nat) (ps : List (Int × Int)) (c : Option Addr) (ca : Nat) (ts : List Tg) (w : World) (hp : PtsAt w a ps) (ht : TagsAt w c ts) (hl : ps.length ≤ 1048576) (h0 : 0 < ps.length) (hm : ts.length ≤ 1048576) :
    Calls Tryz.prog 63 #[.agg #[.string id, .int .i64 k, .slice a ps.length cap, .slice c ts.length ca]] w fun e w' => (∃ v, e = .returned v ∧ Got w.heap.size w'.heap.size w' v (id, k, ps, ts)) ∧ Below w.heap.size w w' := by
  obtain ⟨b, off, rfl, _⟩ := hp 0 h0
  by_cases h1 : 0 < ts.length
  · obtain ⟨b2, off2, rfl, _⟩ := ht 0 h1
    refine (l2Copy_any id k b off cap ps b2 off2 ca ts w hp ht hl h0 hm h1).mono ?_
    rintro e w' ⟨v, rfl, h⟩
    exact ⟨⟨v, rfl, h.got.1⟩, h.got.2⟩
  · obtain rfl : ts = [] := List.eq_nil_of_length_eq_zero (by omega)
    refine (l2Copy_n0 id k b off cap ps c ca w hp hl h0).mono ?_
    rintro e w' ⟨ax, cx, ay, cy, rfl, ⟨q1, _, q3⟩, hb⟩
    exact ⟨⟨_, rfl, ax, cx, ay, cy, rfl, q1, TagsAt.nil _ _, .inr q3, .inl rfl⟩, hb⟩

set_option maxRecDepth 100000 in
set_option maxHeartbeats 4000000 in
theorem specSheetGet_any (a : Option Addr) (cap : Nat) (fs : List Ft) (id : ByteArray) (w : World) (hp : FeatsAt w a fs) (hl : fs.length ≤ 1048576) (ht : FeatsLen fs 1048576) :
    Calls Tryz.prog 18 #[.slice a fs.length cap, .string id] w fun e w' => (∃ v, e = .returned (.tuple #[v, .bool (getHas fs id)]) ∧ Got w.heap.size w'.heap.size w' v (getFt fs id)) ∧ Below w.heap.size w w' := by
  have HP := Lib.hid hp
  have HL := Lib.hid ht
  clear hp ht
  have A0 : Hid (∀ o, Below w.heap.size w (w.alloc o)) := fun o => (Below.refl _ _).alloc (Nat.le_refl _) _
  go_enter Tryz.func18, Tryz.ntmps18
  go_wp2_with fail
  refine (l3Find_any _ _ _ _ _ (HP.out.below (A0.out _)) hl).mono ?_
  rintro e w1 ⟨rfl, rfl⟩
  have RB : Hid (BoxS (w.alloc (.cells #[.string ⟨#[]⟩, .int .i64 0, .slice none 0 0, .slice none 0 0] 33)) w.heap.size (.string ⟨#[]⟩) (.int .i64 0) (.slice none 0 0) (.slice none 0 0)) := BoxS.new w _ _ _ _ _
  have B1 : Hid (Below w.heap.size w (w.alloc (.cells #[.string ⟨#[]⟩, .int .i64 0, .slice none 0 0, .slice none 0 0] 33))) := A0.out _
  have hsz1 : (w.alloc (.cells #[.string ⟨#[]⟩, .int .i64 0, .slice none 0 0, .slice none 0 0] 33)).heap.size = w.heap.size + 1 := by simp
  generalize (w.alloc (.cells #[.string ⟨#[]⟩, .int .i64 0, .slice none 0 0, .slice none 0 0] 33)) = w1 at *
  clear A0
  go_wp2_with fail
  refine (specSheetOk_any _ _ _ _ (HP.out.below B1.out) hl HL.out).mono ?_
  rintro e w2 ⟨rfl, hb2⟩
  have R2 := Lib.hid (RB.out.later hb2)
  have B2 : Hid (Below w.heap.size w w2) := B1.out.trans (hb2.mono B1.out.size)
  have hsz2 : w.heap.size < w2.heap.size := by have := hb2.size; omega
  clear hb2 RB B1 hsz1
  obtain ⟨⟨r0, r1, r2, r3⟩, rf⟩ := R2.out
  have f0 := rf 0
  have f1 := rf 1
  have f2 := rf 2
  have f3 := rf 3
  clear rf
  have TN : Hid (∀ x0 x1 x2 x3, Below w.heap.size w ((((w2.setCell ⟨w.heap.size, 0, none⟩ x0).setCell ⟨w.heap.size, 1, none⟩ x1).setCell ⟨w.heap.size, 2, none⟩ x2).setCell ⟨w.heap.size, 3, none⟩ x3)) := fun x0 x1 x2 x3 => (((B2.out.setCell (by simp) _).setCell (by simp) _).setCell (by simp) _).setCell (by simp) _
  by_cases hok : sheetOk fs = true
  · rw [hok]
    by_cases hlt : firstF fs id < fs.length
    · have hfv : findV fs id = (firstF fs id : Int) := by unfold findV; rw [if_pos hlt]
      have HH : Hid (getHas fs id = true) := by show _ = _; simp [getHas, hok, hlt]
      have HG : Hid (getFt fs id = fg fs (firstF fs id)) := by show _ = _; unfold getFt; rw [HH.out, if_pos rfl]
      have hpos := ftOk_pts (good_ok hok hlt)
      rw [hfv]
      generalize firstF fs id = i at *
      obtain ⟨b, off, pa, pc, ta, tc, rfl, hb, hc1, hc2, hc3, hc4, hpp, htt⟩ := HP.out.below B2.out i hlt
      obtain ⟨l1, l2, l3, _⟩ := HL.out i hlt
      have D1 := Lib.hid hpp
      have D2 := Lib.hid htt
      clear hpp htt hok r0 r1 r2 r3 f0 f1 f2 f3 TN
      go_wp2_with fail
      refine (l2Copy_got _ _ _ _ _ _ _ _ _ D1.out D2.out (by omega) hpos (by omega)).mono ?_
      rintro e w3 ⟨⟨v, rfl, hg⟩, hb3⟩
      have B3 : Hid (Below w.heap.size w w3) := B2.out.trans (hb3.mono B2.out.size)
      obtain ⟨⟨r0, r1, r2, r3⟩, rf⟩ := R2.out.later hb3
      have f0 := rf 0
      have f1 := rf 1
      have f2 := rf 2
      have f3 := rf 3
      clear rf hb3 hc1 hc2 hc3 hc4
      have GG := Lib.hid hg
      obtain ⟨ax, cx, ay, cy, rfl, _⟩ := hg
      rw [show (fid fs i, fkd fs i, fps fs i, fts fs i) = fg fs i from rfl] at GG
      go_wp2
      refine bodyPost_ret (v := .tuple #[.agg #[.string (fid fs i), .int .i64 (fkd fs i), .slice ax (fps fs i).length cx, .slice ay (fts fs i).length cy], .bool true]) (by simp [results, Tryz.results18, go_sem, r0, r1, r2, r3]) rfl ?_
      refine ⟨⟨_, by rw [HH.out], ?_⟩, (((B3.out.setCell (by simp) _).setCell (by simp) _).setCell (by simp) _).setCell (by simp) _⟩
      rw [HG.out]
      exact ((GG.out.turned (turned4 _ _ _ _ _ _) (fun x h1 h2 e => by omega)).mono (by omega) (by simp [World.setCell]))
    · have hfv : findV fs id = -1 := by unfold findV; rw [if_neg hlt]
      have HH : Hid (getHas fs id = false) := by show _ = _; simp [getHas, hlt]
      have HG : Hid (getFt fs id = (⟨#[]⟩, 0, [], [])) := by show _ = _; unfold getFt; rw [HH.out]; rfl
      rw [hfv]
      clear hok
      go_wp2
      refine bodyPost_ret (v := .tuple #[.agg #[.string ⟨#[]⟩, .int .i64 0, .slice none 0 0, .slice none 0 0], .bool false]) (by simp [results, Tryz.results18, go_sem, r0, r1, r2, r3]) rfl ?_
      exact ⟨⟨_, by rw [HH.out], by rw [HG.out]; exact Got.nothing _ _ _⟩, TN.out _ _ _ _⟩
  · have hok' : sheetOk fs = false := by simpa using hok
    have HH : Hid (getHas fs id = false) := by show _ = _; simp [getHas, hok']
    have HG : Hid (getFt fs id = (⟨#[]⟩, 0, [], [])) := by show _ = _; unfold getFt; rw [HH.out]; rfl
    rw [hok']
    clear hok hok'
    go_wp2
    refine bodyPost_ret (v := .tuple #[.agg #[.string ⟨#[]⟩, .int .i64 0, .slice none 0 0, .slice none 0 0], .bool false]) (by simp [results, Tryz.results18, go_sem, r0, r1, r2, r3]) rfl ?_
    exact ⟨⟨_, by rw [HH.out], by rw [HG.out]; exact Got.nothing _ _ _⟩, TN.out _ _ _ _⟩
end Go.Proofs.YtdfadpejddhbkaaGreat

namespace Go.Proofs.YtdfadpejddhbkaaGreat
set_option linter.unusedVariables false
open Go.ChangeShapes Go.WideShapes Go.ChangeAt Go.RowKit Go.Deep Go.Maps

theorem ent_get {w : World} {es : List En} {fs : List Ft} (h : Ents w es fs) {i : Nat} (hi : i < fs.length) : es[i]'(by rw [h.1]; exact hi) = (fid fs i, ev es i) := by
  have h1 := (h.2 i hi).1
  have hi' : i < es.length := by rw [h.1]; exact hi
  rw [← h1]
  simp [ek, ev, hi']

theorem nothing_feat {w w1 : World} {r : Nat} {x0 x1 x2 x3 : Value} (hw : Below w.heap.size w w1) (hr : w.heap.size ≤ r) :
    FeatAns w ⟨#[]⟩ 0 [] [] (.agg #[.string ⟨#[]⟩, .int .i64 0, .slice none 0 0, .slice none 0 0]) ((((w1.setCell ⟨r, 0, none⟩ x0).setCell ⟨r, 1, none⟩ x1).setCell ⟨r, 2, none⟩ x2).setCell ⟨r, 3, none⟩ x3) :=
  ⟨none, 0, none, 0, rfl, PtsAt.nil _ _, fun i hi => absurd hi (Nat.not_lt_zero _), fun x h => by simp [blk] at h, TagsAt.nil _ _, fun i hi => absurd hi (Nat.not_lt_zero _), fun x h => by simp [blk] at h, fun x h => by simp [blk] at h, (((hw.setCell hr _).setCell hr _).setCell hr _).setCell hr _⟩

theorem ok_tells {w0 : World} {es : List En} {fs : List Ft} (he : Ents w0 es fs) (hok : sheetOk fs = true) : TellsF (mapF es) es := by
  have h := tellsF_mapF es
  rw [toldF_asc (ascF_of_good he (by simp [sheetOk] at hok; exact hok.1))] at h
  exact h

/-- a look-up of a name that is there -/
theorem look_hit {w0 w : World} {b n : Nat} {es : List En} {fs : List Ft} (hown : w.ownsMap Tryz.prog 9 heldElem b n (mapF es)) (he : Ents w0 es fs) (hok : sheetOk fs = true) {i : Nat} (hi : i < fs.length) (hl : (fid fs i).size ≤ maxLen) :
    (Instr.lookup 81 (.map (some b)) (.string (fid fs i)) true).run Tryz.prog w = .ok (.tuple #[ev es i, .bool true]) w := by
  have hz : (zeroValue 33).run Tryz.prog w = .ok (.agg #[.string .empty, .int .i64 0, .slice none 0 0, .slice none 0 0]) w := by kernel_rfl
  obtain ⟨v, ps, hrun, hv⟩ := hown.look_ok keyT Tryz.underlying81 hz (zd := .held (.agg #[.string .empty, .int .i64 0, .slice none 0 0, .slice none 0 0])) (zp := []) rfl (Go.WideMaps.keyOf_string_mk Tryz.underlying9 hl)
  simp only [heldElem, Option.some.injEq, Prod.mk.injEq] at hv
  have hm : ((fid fs i, ev es i) : En) ∈ es := by rw [← ent_get he hi]; exact List.getElem_mem _
  have h1 := (ok_tells he hok).at_ _ hm
  have hh : Maps.has (mapF es) (.string (fid fs i).data.toList) = true := has_true_of_atKey h1
  have h3 := hv.1
  rw [show (mapF es).atKey (.string (fid fs i).data.toList) _ = .held (ev es i) from h1 _] at h3
  rw [hrun, DataW.held.inj h3, hh]

/-- a look-up of a name that is not there -/
theorem look_miss {w0 w : World} {b n : Nat} {es : List En} {fs : List Ft} {id : ByteArray} (hown : w.ownsMap Tryz.prog 9 heldElem b n (mapF es)) (he : Ents w0 es fs) (hno : ∀ j, j < fs.length → fid fs j ≠ id) (hl : id.size ≤ maxLen) :
    (Instr.lookup 81 (.map (some b)) (.string id) true).run Tryz.prog w = .ok (.tuple #[.agg #[.string .empty, .int .i64 0, .slice none 0 0, .slice none 0 0], .bool false]) w := by
  have hz : (zeroValue 33).run Tryz.prog w = .ok (.agg #[.string .empty, .int .i64 0, .slice none 0 0, .slice none 0 0]) w := by kernel_rfl
  obtain ⟨v, ps, hrun, hv⟩ := hown.look_ok keyT Tryz.underlying81 hz (zd := .held (.agg #[.string .empty, .int .i64 0, .slice none 0 0, .slice none 0 0])) (zp := []) rfl (Go.WideMaps.keyOf_string_mk Tryz.underlying9 hl)
  simp only [heldElem, Option.some.injEq, Prod.mk.injEq] at hv
  have hn : Maps.has (mapF es) (.string id.data.toList) = false := by
    cases hh : Maps.has (mapF es) (.string id.data.toList)
    · rfl
    · obtain ⟨t, h1, h2⟩ := (tellsF_mapF es).has _ hh
      obtain ⟨j, hj, e⟩ := List.getElem_of_mem (toldF_mem h1)
      have hj' : j < fs.length := by rw [← he.1]; exact hj
      rw [ent_get he hj'] at e
      refine absurd ?_ (hno j hj')
      rw [← toList_inj, ByteArray.toList_eq, ByteArray.toList_eq, ← h2, ← e]
      rfl
  have h3 := hv.1
  rw [atKey_of_not_has hn] at h3
  rw [hrun, DataW.held.inj h3, hn]

theorem FeatAns.close {w u w3 : World} {id : ByteArray} {k : Int} {ps : List (Int × Int)} {ts : List Tg} {v : Value} {r : Nat} (h : FeatAns u id k ps ts v w3) (hu : Below w.heap.size w u) (hr : w.heap.size ≤ r) (hr' : r < u.heap.size) (x0 x1 x2 x3 : Value) :
    FeatAns w id k ps ts v ((((w3.setCell ⟨r, 0, none⟩ x0).setCell ⟨r, 1, none⟩ x1).setCell ⟨r, 2, none⟩ x2).setCell ⟨r, 3, none⟩ x3) := by
  obtain ⟨a, cap, c, ca, h1, h2, h3, h4, h5, h6, h7, h8, h9⟩ := h
  have na : blk a ≠ some r := fun e => by have := (h4 _ e).1; omega
  have nc : blk c ≠ some r := fun e => by have := (h7 _ e).1; omega
  have hs := hu.size
  exact ⟨a, cap, c, ca, h1, (((h2.set na).set na).set na).set na, (((h3.set _ _).set _ _).set _ _).set _ _, fun x e => ⟨by have := (h4 x e).1; omega, by have := (h4 x e).2; simpa [World.setCell] using this⟩, (((h5.set nc).set nc).set nc).set nc, (((h6.set _ _).set _ _).set _ _).set _ _, fun x e => ⟨by have := (h7 x e).1; omega, by have := (h7 x e).2; simpa [World.setCell] using this⟩, h8, ((((hu.trans (h9.mono hs)).setCell hr _).setCell hr _).setCell hr _).setCell hr _⟩

theorem firstF_none {fs : List Ft} {id : ByteArray} (h : ¬ firstF fs id < fs.length) : ∀ j, j < fs.length → fid fs j ≠ id := by
  intro j hj e
  refine h ?_
  unfold firstF
  exact List.findIdx_lt_length_of_exists ⟨fs[j], List.getElem_mem hj, by simp [fid_get hj, e]⟩

set_option maxRecDepth 100000 in
set_option maxHeartbeats 4000000 in
theorem implSheetGet_any (a : Option Addr) (cap : Nat) (fs : List Ft) (id : ByteArray) (w : World) (hp : FeatsAt w a fs) (hl : fs.length ≤ 1048576) (ht : FeatsLen fs 1048576) (hi : id.size ≤ 1048576) :
    Calls Tryz.prog 17 #[.slice a fs.length cap, .string id] w fun e w' => ∃ v, e = .returned (.tuple #[v, .bool (getHas fs id)]) ∧ FeatAns w (getFt fs id).1 (getFt fs id).2.1 (getFt fs id).2.2.1 (getFt fs id).2.2.2 v w' := by
  have HP := Lib.hid hp
  have HL := Lib.hid ht
  clear hp ht
  have A0 : Hid (∀ o, Below w.heap.size w (w.alloc o)) := fun o => (Below.refl _ _).alloc (Nat.le_refl _) _
  go_enter Tryz.func17, Tryz.ntmps17
  go_wp2_with fail
  refine (implSheetOk_any _ _ _ _ (HP.out.below (A0.out _)) hl HL.out).mono ?_
  rintro e w1 ⟨rfl, hb1⟩
  have R1 : Hid (BoxS w1 w.heap.size (.string ⟨#[]⟩) (.int .i64 0) (.slice none 0 0) (.slice none 0 0)) := (BoxS.new w _ _ _ _ _).later hb1
  have B1 : Hid (Below w.heap.size w w1) := (A0.out _).trans (hb1.mono (by simp))
  have hsz1 : w.heap.size < w1.heap.size := R1.out.1.lt
  clear hb1 A0
  by_cases hok : sheetOk fs = true
  · rw [hok]
    go_wp2_with fail
    refine (featsByName_any _ _ _ _ (HP.out.below B1.out) hl HL.out).mono ?_
    rintro e w2 ⟨rfl, ⟨es, he, ho⟩, hb2⟩
    have R2 := Lib.hid (R1.out.later hb2)
    have B2 : Hid (Below w.heap.size w w2) := B1.out.trans (hb2.mono B1.out.size)
    have HE := Lib.hid (he.below hb2)
    have hsz2 := hb2.size
    clear hb2 R1 B1
    by_cases hlt : firstF fs id < fs.length
    · have hat := firstF_at hlt
      have HH : Hid (getHas fs id = true) := by show _ = _; simp [getHas, hok, hlt]
      have HG : Hid (getFt fs id = fg fs (firstF fs id)) := by show _ = _; unfold getFt; rw [HH.out, if_pos rfl]
      obtain ⟨l1, l2, l3, _⟩ := HL.out (firstF fs id) hlt
      have hlk := look_hit ho he hok hlt (by unfold maxLen; omega)
      rw [hat] at hlk
      obtain ⟨pa, pc, ta, tc, hev, hpp, htt⟩ := (HE.out.2 _ hlt).2
      rw [hev] at hlk
      generalize firstF fs id = i at *
      have D1 := Lib.hid hpp
      have D2 := Lib.hid htt
      clear hpp htt hev ho he hok
      have A2 : Hid (∀ o, Below w2.heap.size w2 (w2.alloc o)) := fun o => (Below.refl _ _).alloc (Nat.le_refl _) _
      go_wp2_with fail
      refine (featCopy_any _ _ _ _ _ _ _ _ _ (D1.out.below (A2.out _)) (D2.out.below (A2.out _)) (by show (fps fs i).length ≤ _; omega) (by show (fts fs i).length ≤ _; omega)).mono ?_
      rintro e w3 ⟨v, rfl, hg⟩
      have hb3 := hg.got.2
      have GG := Lib.hid hg
      have U2 : Hid (∀ o, Below w.heap.size w (w2.alloc o)) := fun o => B2.out.alloc B2.out.size _
      obtain ⟨⟨r0, r1, r2, r3⟩, rf⟩ := (R2.out.later (A2.out (.cells #[.string (fg fs i).1, .int .i64 (fg fs i).2.1, .slice pa (fg fs i).2.2.1.length pc, .slice ta (fg fs i).2.2.2.length tc] 33))).later hb3
      have f0 := rf 0
      have f1 := rf 1
      have f2 := rf 2
      have f3 := rf 3
      clear rf hb3 hlk
      obtain ⟨ax, cx, ay, cy, rfl, _⟩ := hg
      go_wp2
      refine bodyPost_ret (v := .tuple #[.agg #[.string (fg fs i).1, .int .i64 (fg fs i).2.1, .slice ax (fg fs i).2.2.1.length cx, .slice ay (fg fs i).2.2.2.length cy], .bool true]) (by simp [results, Tryz.results17, go_sem, r0, r1, r2, r3]) rfl ?_
      refine ⟨_, by rw [HH.out], ?_⟩
      rw [HG.out]
      exact GG.out.close (U2.out _) (Nat.le_refl _) (by simp; omega) _ _ _ _
    · have HH : Hid (getHas fs id = false) := by show _ = _; simp [getHas, hlt]
      have HG : Hid (getFt fs id = (⟨#[]⟩, 0, [], [])) := by show _ = _; unfold getFt; rw [HH.out]; rfl
      have hlk := look_miss ho he (firstF_none hlt) (by unfold maxLen; omega)
      rw [show (ByteArray.empty) = ⟨#[]⟩ from rfl] at hlk
      clear ho he hok hlt
      have A2 : Hid (∀ o, Below w2.heap.size w2 (w2.alloc o)) := fun o => (Below.refl _ _).alloc (Nat.le_refl _) _
      go_wp2_with fail
      refine (featCopy_any ⟨#[]⟩ 0 none 0 [] none 0 [] _ (PtsAt.nil _ _) (TagsAt.nil _ _) (Nat.zero_le _) (Nat.zero_le _)).mono ?_
      rintro e w3 ⟨v, rfl, hg⟩
      have hb3 := hg.got.2
      have GG := Lib.hid hg
      have U2 : Hid (∀ o, Below w.heap.size w (w2.alloc o)) := fun o => B2.out.alloc B2.out.size _
      obtain ⟨⟨r0, r1, r2, r3⟩, rf⟩ := (R2.out.later (A2.out (.cells #[.string ⟨#[]⟩, .int .i64 0, .slice none 0 0, .slice none 0 0] 33))).later hb3
      have f0 := rf 0
      have f1 := rf 1
      have f2 := rf 2
      have f3 := rf 3
      clear rf hb3 hlk
      obtain ⟨ax, cx, ay, cy, rfl, _⟩ := hg
      go_wp2
      refine bodyPost_ret (v := .tuple #[.agg #[.string ⟨#[]⟩, .int .i64 0, .slice ax 0 cx, .slice ay 0 cy], .bool false]) (by simp [results, Tryz.results17, go_sem, r0, r1, r2, r3]) rfl ?_
      refine ⟨_, by rw [HH.out], ?_⟩
      rw [HG.out]
      exact GG.out.close (U2.out _) (Nat.le_refl _) (by simp; omega) _ _ _ _
  · have hok' : sheetOk fs = false := by simpa using hok
    have HH : Hid (getHas fs id = false) := by show _ = _; simp [getHas, hok']
    have HG : Hid (getFt fs id = (⟨#[]⟩, 0, [], [])) := by show _ = _; unfold getFt; rw [HH.out]; rfl
    rw [hok']
    clear hok hok'
    obtain ⟨⟨r0, r1, r2, r3⟩, rf⟩ := R1.out
    have f0 := rf 0
    have f1 := rf 1
    have f2 := rf 2
    have f3 := rf 3
    clear rf
    go_wp2
    refine bodyPost_ret (v := .tuple #[.agg #[.string ⟨#[]⟩, .int .i64 0, .slice none 0 0, .slice none 0 0], .bool false]) (by simp [results, Tryz.results17, go_sem, r0, r1, r2, r3]) rfl ?_
    exact ⟨_, by rw [HH.out], by rw [HG.out]; exact nothing_feat B1.out (Nat.le_refl _)⟩
end Go.Proofs.YtdfadpejddhbkaaGreat
