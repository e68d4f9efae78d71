/- Proved here: the model's FeatPut answers the thing with the value at the key, in memory of its own, or nothing and false; rows of at most 1,048,576 points and tags, texts of at most 1,048,576 bytes. -/
import Derived.Test.YtdfadpejddhbkaaWCopyGen
import Derived.Test.YtdfadpejddhbkaaWL2Put
import Derived.Test.YtdfadpejddhbkaaWFeatCutI
namespace Go.Proofs.Ytdfadpejddhbkaa
set_option linter.unusedVariables false
open Go.ChangeShapes Go.WideShapes Go.ChangeAt Go.RowKit Go.Deep

/-- what the copy of a thing leaves, whatever its lists hold -/
def CopyAns (w : World) (id : ByteArray) (k : Int) (ps : List (Int × Int)) (m : Nat) (e : Ending) (w' : World) : Prop :=
  ∃ ax cx ay cy, e = .returned (.agg #[.string id, .int .i64 k, .slice ax ps.length cx, .slice ay m cy]) ∧ (0 < ps.length → PtsAt w' ax ps ∧ Soft w' ax ps.length ∧ Fresh w w' ax) ∧ Below w.heap.size w w'

theorem l2Copy_gen (id : ByteArray) (k : Int) (a : Option Addr) (cap : Nat) (ps : List (Int × Int)) (c : Option Addr) (ca : Nat) (ts : List Tg) (w : World) (hp : PtsAt w a ps) (ht : TagsAt w c ts) (hl : ps.length ≤ 1048576) (hm : ts.length ≤ 1048576) :
    Calls Try.prog 49 #[.agg #[.string id, .int .i64 k, .slice a ps.length cap, .slice c ts.length ca]] w (CopyAns w id k ps ts.length) := by
  by_cases h0 : 0 < ps.length
  · obtain ⟨b, off, rfl⟩ := addr_of hp h0
    by_cases h1 : 0 < ts.length
    · obtain ⟨b2, off2, rfl⟩ := addr_ofT ht h1
      refine (l2Copy_any id k b off cap ps b2 off2 ca ts w hp ht hl h0 hm h1).mono ?_
      rintro e w' ⟨v, rfl, a3, cap3, c3, ca3, rfl, q1, q2, q3, -, -, -, -, q4⟩
      exact ⟨a3, cap3, c3, ca3, rfl, fun _ => ⟨q1, q2, q3⟩, q4⟩
    · have e1 : ts.length = 0 := by omega
      rw [e1]
      refine (l2Copy_n0 id k b off cap ps c ca w hp hl h0).mono ?_
      rintro e w' ⟨ax, cx, ay, cy, rfl, q, q4⟩
      exact ⟨ax, cx, ay, cy, rfl, fun _ => q, q4⟩
  · have e0 : ps.length = 0 := by omega
    unfold CopyAns
    rw [e0]
    by_cases h1 : 0 < ts.length
    · obtain ⟨b2, off2, rfl⟩ := addr_ofT ht h1
      refine (l2Copy_0n id k a cap b2 off2 ca ts w ht hm h1).mono ?_
      rintro e w' ⟨ax, cx, ay, cy, rfl, q4⟩
      exact ⟨ax, cx, ay, cy, rfl, fun h => absurd h (Nat.lt_irrefl _), q4⟩
    · have e1 : ts.length = 0 := by omega
      rw [e1]
      refine (l2Copy_00 id k a cap c ca w).mono ?_
      rintro e w' ⟨ax, cx, ay, cy, rfl, q4⟩
      exact ⟨ax, cx, ay, cy, rfl, fun h => absurd h (Nat.lt_irrefl _), q4⟩

/-- whether a value is put -/
def fpB (id : ByteArray) (k : Int) (ps : List (Int × Int)) (ts : List Tg) (key val : ByteArray) : Bool := featOk id k ps ts && featOk id k ps (putS ts (key, val))

theorem putS_len (t : Tg) (us : List Tg) : (putS us t).length ≤ us.length + 1 := by
  induction us with
  | nil => simp [putS]
  | cons u us ih =>
    unfold putS
    split
    · have := List.length_filter_le (fun s => decide (kl s ≠ kl t)) (u :: us)
      rw [List.length_cons]
      omega
    · simp only [List.length_cons]
      omega

theorem putS_tk {ts : List Tg} {key val : ByteArray} {m : Int} (hl : TagsLen ts m) (hk : (key.size : Int) ≤ m) (hv : (val.size : Int) ≤ m) : TagsLen (putS ts (key, val)) m := by
  intro i hi
  have hm := List.getElem_mem hi
  rcases (mem_putS _ _ _).1 hm with e | ⟨h, _⟩
  · simp [tk, tv, hi, e]
    exact ⟨hk, hv⟩
  · have := mem_tk h hl
    simpa [tk, tv, hi] using this

set_option maxRecDepth 100000 in
set_option maxHeartbeats 4000000 in
theorem specFeatPut_any (id : ByteArray) (k : Int) (a : Option Addr) (cap : Nat) (ps : List (Int × Int)) (c : Option Addr) (ca : Nat) (ts : List Tg) (key val : ByteArray) (w : World) (hp : PtsAt w a ps) (ht : TagsAt w c ts) (hi : id.size ≤ 1048576) (hl : ps.length ≤ 1048576) (hm : ts.length ≤ 1048576) (hx : TagsLen ts 1048576) (hk : key.size ≤ 1048576) (hv : val.size ≤ 1048576) :
    Calls Try.prog 33 #[.agg #[.string id, .int .i64 k, .slice a ps.length cap, .slice c ts.length ca], .string key, .string val] w
      (PutAns w (if fpB id k ps ts key val then id else ⟨#[]⟩) (if fpB id k ps ts key val then k else 0) (if fpB id k ps ts key val then ps else []) (if fpB id k ps ts key val then putS ts (key, val) else []) (fpB id k ps ts key val)) := by
  have HP := Lib.hid hp
  have HT := Lib.hid ht
  have HX := Lib.hid hx
  clear hp ht hx
  have A0 : Hid (∀ o o', Below w.heap.size w ((w.alloc o).alloc o')) := fun o o' => ((Below.refl _ _).alloc (Nat.le_refl _) _).alloc (by simp) _
  obtain ⟨R, hR⟩ : ∃ R : Ending → World → Prop, R = PutAns w (if fpB id k ps ts key val then id else ⟨#[]⟩) (if fpB id k ps ts key val then k else 0) (if fpB id k ps ts key val then ps else []) (if fpB id k ps ts key val then putS ts (key, val) else []) (fpB id k ps ts key val) := ⟨_, rfl⟩
  rw [← hR]
  have RYES : Hid (fpB id k ps ts key val = true → R = PutAns w id k ps (putS ts (key, val)) true) := fun h => by rw [hR]; simp [h]
  have RNO : Hid (fpB id k ps ts key val = false → R = PutAns w ⟨#[]⟩ 0 [] [] false) := fun h => by rw [hR]; simp [h]
  clear hR
  go_enter Try.func33, Try.ntmps33
  go_wp2_with fail
  refine (l2Copy_gen _ _ _ _ _ _ _ _ _ (HP.out.below (A0.out _ _)) (HT.out.below (A0.out _ _)) hl hm).mono ?_
  rintro e w1 ⟨ax, cx, ay, cy, rfl, hpt, hb1⟩
  have R1 : Hid (BoxS w1 (w.heap.size + 1) (.string ⟨#[]⟩) (.int .i64 0) (.slice none 0 0) (.slice none 0 0)) := by
    have := (BoxS.new (w.alloc (.cells #[.string id, .int .i64 k, .slice a ps.length cap, .slice c ts.length ca] 43)) (.string ⟨#[]⟩) (.int .i64 0) (.slice none 0 0) (.slice none 0 0) 43).later hb1
    simpa [Hid] using this
  have C1 : Hid (Box4 w1 w.heap.size (.string id) (.int .i64 k) (.slice a ps.length cap) (.slice c ts.length ca)) := ((Box4.new w _ _ _ _ _).alloc _).later hb1
  have B1 : Hid (Below w.heap.size w w1) := (A0.out _ _).trans (hb1.mono (by simp; omega))
  have P1 : Hid (0 < ps.length → PtsAt w1 ax ps ∧ Soft w1 ax ps.length ∧ ∀ x, blk ax = some x → w.heap.size + 1 < x ∧ x < w1.heap.size) := fun h => ⟨(hpt h).1, (hpt h).2.1, fun x e => ⟨by have := ((hpt h).2.2 x e).1; simp at this; omega, ((hpt h).2.2 x e).2⟩⟩
  have z1 : w.heap.size + 1 < w1.heap.size := R1.out.1.lt
  have z0 : w.heap.size < w1.heap.size := by omega
  clear hb1 hpt
  obtain ⟨c0, c1, c2, c3⟩ := C1.out
  go_wp2_with fail
  clear c0 c1 c2 c3
  have A1 : Hid (∀ o, Below w1.heap.size w1 (w1.alloc o)) := fun o => (Below.refl _ _).alloc (Nat.le_refl _) _
  refine (l2Put_any _ _ _ _ _ _ (HT.out.below (B1.out.alloc B1.out.size _)) hm).mono ?_
  rintro e w2 ⟨v, rfl, hrow, hb2⟩
  obtain ⟨a3, cap3, rfl, hT, hS, hN⟩ := owned_tags hrow rfl
  have hb12 : Below w1.heap.size w1 w2 := (A1.out _).trans (hb2.mono (by simp))
  have R2 := Lib.hid (R1.out.later hb12)
  have C2 := Lib.hid (C1.out.later hb12)
  have B2 : Hid (Below w.heap.size w w2) := B1.out.trans (hb12.mono B1.out.size)
  have O2 := Lib.hid ((BoxS.new w1 (.string id) (.int .i64 k) (.slice ax ps.length cx) (.slice ay ts.length cy) 43).later hb2)
  have P2 : Hid (0 < ps.length → PtsAt w2 ax ps ∧ Soft w2 ax ps.length ∧ ∀ x, blk ax = some x → w.heap.size + 1 < x ∧ x < w1.heap.size) := fun h => ⟨(P1.out h).1.below hb12, (P1.out h).2.1.below (P1.out h).1 hb12, (P1.out h).2.2⟩
  have T2 := Lib.hid hT
  have S2 := Lib.hid hS
  have N2 : Hid (∀ x, blk a3 = some x → w1.heap.size < x ∧ x < w2.heap.size) := fun x e => ⟨by have := (hN x e).1; simp at this; omega, (hN x e).2⟩
  have z2 : w1.heap.size < w2.heap.size := O2.out.1.lt
  have z3 : w.heap.size < w2.heap.size := by omega
  clear hrow hb2 hb12 hT hS hN R1 C1 B1 P1 A1
  obtain ⟨o0, o1, o2, o3⟩ := O2.out.1
  have of3 := O2.out.2 3
  obtain ⟨c0, c1, c2, c3⟩ := C2.out
  go_wp2_with fail
  clear c0 c1 c2 c3
  have B3 : Hid (Below w.heap.size w (w2.setCell ⟨w1.heap.size, 3, none⟩ (.slice a3 (putS ts (key, val)).length cap3))) := B2.out.setCell (by simp; omega) _
  have G3 : Hid (w2.grownBy (w2.setCell ⟨w1.heap.size, 3, none⟩ (.slice a3 (putS ts (key, val)).length cap3)) (some w1.heap.size)) := grown_set (World.grownBy.refl _ _) _ _
  have O3 : Hid (Box4 (w2.setCell ⟨w1.heap.size, 3, none⟩ (.slice a3 (putS ts (key, val)).length cap3)) w1.heap.size (.string id) (.int .i64 k) (.slice ax ps.length cx) (.slice a3 (putS ts (key, val)).length cap3)) :=
    ⟨(World.cell?_setCell_other _ _ _ _ (by simp)).trans o0, (World.cell?_setCell_other _ _ _ _ (by simp)).trans o1, (World.cell?_setCell_other _ _ _ _ (by simp)).trans o2, World.cell?_setCell_same _ _ _ o3⟩
  have R3 := Lib.hid (R2.out.grown G3.out (by simp; omega))
  have C3 := Lib.hid (C2.out.grown G3.out (by simp; omega))
  have P3 : Hid (0 < ps.length → PtsAt (w2.setCell ⟨w1.heap.size, 3, none⟩ (.slice a3 (putS ts (key, val)).length cap3)) ax ps ∧ Soft (w2.setCell ⟨w1.heap.size, 3, none⟩ (.slice a3 (putS ts (key, val)).length cap3)) ax ps.length ∧ ∀ x, blk ax = some x → w.heap.size + 1 < x ∧ x < w1.heap.size) := fun h =>
    ⟨(P2.out h).1.set (fun e => by have := ((P2.out h).2.2 _ e).2; omega), (P2.out h).2.1.set _ _, (P2.out h).2.2⟩
  have T3 : Hid (TagsAt (w2.setCell ⟨w1.heap.size, 3, none⟩ (.slice a3 (putS ts (key, val)).length cap3)) a3 (putS ts (key, val))) := T2.out.set (fun e => by have := (N2.out _ e).1; omega)
  have S3 : Hid (Soft (w2.setCell ⟨w1.heap.size, 3, none⟩ (.slice a3 (putS ts (key, val)).length cap3)) a3 (putS ts (key, val)).length) := S2.out.set _ _
  have N3 : Hid (∀ x, blk a3 = some x → w1.heap.size < x ∧ x < (w2.setCell ⟨w1.heap.size, 3, none⟩ (.slice a3 (putS ts (key, val)).length cap3)).heap.size) := fun x e => ⟨(N2.out x e).1, by have := (N2.out x e).2; simpa [World.setCell] using this⟩
  generalize (w2.setCell ⟨w1.heap.size, 3, none⟩ (.slice a3 (putS ts (key, val)).length cap3)) = w3 at *
  clear o0 o1 o2 o3 of3 G3 O2 R2 C2 B2 P2 T2 S2 N2
  refine (specFeatOk_any _ _ _ _ _ _ _ _ _ (HP.out.below B3.out) (HT.out.below B3.out) hi hl hm HX.out).mono ?_
  rintro e w4 ⟨rfl, hb4⟩
  have R4 := Lib.hid (R3.out.later hb4)
  have O4 := Lib.hid (O3.out.later hb4)
  have B4 : Hid (Below w.heap.size w w4) := B3.out.trans (hb4.mono B3.out.size)
  have P4 : Hid (0 < ps.length → PtsAt w4 ax ps ∧ Soft w4 ax ps.length ∧ ∀ x, blk ax = some x → w.heap.size + 1 < x ∧ x < w1.heap.size) := fun h => ⟨(P3.out h).1.below hb4, (P3.out h).2.1.below (P3.out h).1 hb4, (P3.out h).2.2⟩
  have T4 := Lib.hid (T3.out.below hb4)
  have S4 := Lib.hid (S3.out.belowT T3.out hb4)
  have N4 : Hid (∀ x, blk a3 = some x → w1.heap.size < x ∧ x < w4.heap.size) := fun x e => ⟨(N3.out x e).1, Nat.lt_of_lt_of_le (N3.out x e).2 hb4.size⟩
  have z4 : w1.heap.size < w4.heap.size := O4.out.lt
  clear hb4 R3 O3 B3 P3 T3 S3 N3 C3
  by_cases hok : featOk id k ps ts = true
  · rw [hok]
    obtain ⟨-, -, f4, f6, f0⟩ := featOk_parts hok
    have hpl := putS_len (key, val) ts
    obtain ⟨c0, c1, c2, c3⟩ := O4.out
    go_wp2_with fail
    clear c0 c1 c2 c3
    refine (specFeatOk_any _ _ _ _ _ _ _ _ _ (P4.out f0).1 T4.out hi hl (by omega) (putS_tk HX.out (by omega) (by omega))).mono ?_
    rintro e w5 ⟨rfl, hb5⟩
    have R5 := R4.out.later hb5
    have O5 := O4.out.later hb5
    have B5 : Hid (Below w.heap.size w w5) := B4.out.trans (hb5.mono B4.out.size)
    have P5 := Lib.hid ((P4.out f0).1.below hb5)
    have Q5 := Lib.hid ((P4.out f0).2.1.below (P4.out f0).1 hb5)
    have T5 := Lib.hid (T4.out.below hb5)
    have S5 := Lib.hid (S4.out.belowT T4.out hb5)
    have N5 : Hid (∀ x, blk a3 = some x → w1.heap.size < x ∧ x < w5.heap.size) := fun x e => ⟨(N4.out x e).1, Nat.lt_of_lt_of_le (N4.out x e).2 hb5.size⟩
    have z5 := hb5.size
    have NA := Lib.hid (P4.out f0).2.2
    obtain ⟨⟨r0, r1, r2, r3⟩, rf⟩ := R5
    obtain ⟨c0, c1, c2, c3⟩ := O5
    have g0 := rf 0
    have g1 := rf 1
    have g2 := rf 2
    have g3 := rf 3
    clear hb5 rf P4 T4 S4 N4 R4 O4 B4
    by_cases hok2 : featOk id k ps (putS ts (key, val)) = true
    · rw [hok2]
      have HR := Lib.hid (RYES.out (by simp [fpB, hok, hok2]))
      clear RYES RNO hok hok2
      go_wp2
      refine bodyPost_ret (v := .tuple #[.agg #[.string id, .int .i64 k, .slice ax ps.length cx, .slice a3 (putS ts (key, val)).length cap3], .bool true]) (by simp [results, Try.results33, go_sem, r0, r1, r2, r3]) rfl ?_
      have na : blk ax ≠ some (w.heap.size + 1) := fun e => by have := (NA.out _ e).1; omega
      have nc : blk a3 ≠ some (w.heap.size + 1) := fun e => by have := (N5.out _ e).1; omega
      rw [HR.out]
      refine ⟨_, rfl, ax, cx, a3, cap3, rfl, (((P5.out.set na).set na).set na).set na, (((Q5.out.set _ _).set _ _).set _ _).set _ _, fun x e => ⟨by have := (NA.out x e).1; omega, by have := (NA.out x e).2; simp [World.setCell]; omega⟩, (((T5.out.set nc).set nc).set nc).set nc, (((S5.out.set _ _).set _ _).set _ _).set _ _, fun x e => ⟨by have := (N5.out x e).1; omega, by have := (N5.out x e).2; simpa [World.setCell] using this⟩, fun x e e' => by have h1 := (NA.out x e).2; have h2 := (N5.out x e').1; omega, ?_⟩
      exact (((B5.out.setCell (by simp) _).setCell (by simp) _).setCell (by simp) _).setCell (by simp) _
    · have hok2' : featOk id k ps (putS ts (key, val)) = false := by simpa using hok2
      rw [hok2']
      have HR := Lib.hid (RNO.out (by simp [fpB, hok2']))
      clear RYES RNO hok hok2 hok2' c0 c1 c2 c3
      go_wp2
      refine bodyPost_ret (v := .tuple #[.agg #[.string ⟨#[]⟩, .int .i64 0, .slice none 0 0, .slice none 0 0], .bool false]) (by simp [results, Try.results33, go_sem, r0, r1, r2, r3]) rfl ?_
      rw [HR.out]
      exact ⟨_, rfl, nothing_feat B5.out (by omega)⟩
  · have hok' : featOk id k ps ts = false := by simpa using hok
    rw [hok']
    have HR := Lib.hid (RNO.out (by simp [fpB, hok']))
    obtain ⟨⟨r0, r1, r2, r3⟩, rf⟩ := R4.out
    have g0 := rf 0
    have g1 := rf 1
    have g2 := rf 2
    have g3 := rf 3
    clear rf RYES RNO hok hok'
    go_wp2
    refine bodyPost_ret (v := .tuple #[.agg #[.string ⟨#[]⟩, .int .i64 0, .slice none 0 0, .slice none 0 0], .bool false]) (by simp [results, Try.results33, go_sem, r0, r1, r2, r3]) rfl ?_
    rw [HR.out]
    exact ⟨_, rfl, nothing_feat B4.out (by omega)⟩
end Go.Proofs.Ytdfadpejddhbkaa
