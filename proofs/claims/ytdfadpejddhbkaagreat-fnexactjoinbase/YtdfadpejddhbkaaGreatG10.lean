/- Proved here: plain facts on the last versions of some, and on what is ahead of them; no condition. Proved here: the last versions that are ahead of both of two, by the model; rooms of at most 14 versions. Proved here: the last versions that are ahead of both of two, by the program; rooms of at most 14 versions. Proved here: the version that two were made of, by the program and by the model; lists of at most 1,048,576. -/
import Derived.Test.YtdfadpejddhbkaaGreatG9
import Derived.Test.YtdfadpejddhbkaaGreatG2
import Derived.Lib.LazyBuf
namespace Go.Proofs.YtdfadpejddhbkaaGreat
set_option linter.unusedVariables false
open Go.ChangeShapes Go.WideShapes Go.ChangeAt Go.RowKit

/-- one of these, from a place on, has it as one of its Up -/
def Struck (cs : List Cm) (B : Nat → Bool) (m j : Nat) : Prop := ∃ q, m ≤ q ∧ B q = true ∧ (j : Int) ∈ (mg cs q).1
open Classical in
noncomputable def struckB (cs : List Cm) (B : Nat → Bool) (m j : Nat) : Bool := decide (Struck cs B m j)
theorem struckB_iff {cs : List Cm} {B : Nat → Bool} {m j : Nat} : struckB cs B m j = true ↔ Struck cs B m j := by simp [struckB]

/-- those that are ahead of none of them -/
noncomputable def lastB (cs : List Cm) (B : Nat → Bool) (j : Nat) : Bool := B j && !struckB cs B 0 j

theorem struck_here {cs : List Cm} {B : Nat → Bool} {i : Nat} (g : UpsOk cs) : struckB cs B (i + 1) i = struckB cs B 0 i := by
  rw [Bool.eq_iff_iff, struckB_iff, struckB_iff]
  constructor
  · rintro ⟨q, h1, h2, h3⟩
    exact ⟨q, Nat.zero_le _, h2, h3⟩
  · rintro ⟨q, _, h2, h3⟩
    refine ⟨q, ?_, h2, h3⟩
    by_cases hq : q < cs.length
    · obtain ⟨u, e, hlt⟩ := g.mem hq h3
      omega
    · rw [mg_none (by omega)] at h3
      simp at h3

theorem struck_none (cs : List Cm) (B : Nat → Bool) (j : Nat) : struckB cs B cs.length j = false := by
  rw [← Bool.not_eq_true, struckB_iff]
  rintro ⟨q, h1, _, h3⟩
  rw [mg_none h1] at h3
  simp at h3

theorem struck_skip {cs : List Cm} {B : Nat → Bool} {i : Nat} (h : B i = false) (j : Nat) : struckB cs B (i + 1) j = struckB cs B i j := by
  rw [Bool.eq_iff_iff, struckB_iff, struckB_iff]
  constructor
  · rintro ⟨q, h1, h2, h3⟩
    exact ⟨q, by omega, h2, h3⟩
  · rintro ⟨q, h1, h2, h3⟩
    refine ⟨q, ?_, h2, h3⟩
    by_cases e : q = i
    · subst e; rw [h] at h2; cases h2
    · omega

theorem struck_step {cs : List Cm} {B : Nat → Bool} {i : Nat} (h : B i = true) (j : Nat) : (struckB cs B (i + 1) j || amongB (mg cs i).1 (mg cs i).1.length j) = struckB cs B i j := by
  rw [Bool.eq_iff_iff, Bool.or_eq_true, struckB_iff, struckB_iff]
  unfold amongB
  rw [decide_eq_true_iff, List.take_length]
  constructor
  · rintro (⟨q, h1, h2, h3⟩ | h3)
    · exact ⟨q, by omega, h2, h3⟩
    · exact ⟨i, Nat.le_refl _, h, h3⟩
  · rintro ⟨q, h1, h2, h3⟩
    by_cases e : q = i
    · subst e; exact .inr h3
    · exact .inl ⟨q, by omega, h2, h3⟩

/-- what the versions of these places have as their Up -/
def StrL (cs : List Cm) (l : List Int) (j : Nat) : Prop := ∃ q : Nat, (q : Int) ∈ l ∧ (j : Int) ∈ (mg cs q).1
open Classical in
noncomputable def strL (cs : List Cm) (l : List Int) (j : Nat) : Bool := decide (StrL cs l j)
theorem strL_iff {cs : List Cm} {l : List Int} {j : Nat} : strL cs l j = true ↔ StrL cs l j := by simp [strL]

theorem strL_nil (cs : List Cm) (j : Nat) : strL cs [] j = false := by
  rw [← Bool.not_eq_true, strL_iff]
  rintro ⟨q, h, _⟩
  simp at h

theorem strL_step {cs : List Cm} {l : List Int} {m q : Nat} (h : m < l.length) (e : ix l m = (q : Int)) (j : Nat) : (strL cs (l.take m) j || amongB (mg cs q).1 (mg cs q).1.length j) = strL cs (l.take (m + 1)) j := by
  have e2 : l.take (m + 1) = l.take m ++ [(q : Int)] := by
    rw [← e, ix_get h]
    exact List.take_succ_eq_append_getElem h
  rw [Bool.eq_iff_iff, Bool.or_eq_true, strL_iff, strL_iff, e2]
  unfold amongB
  rw [decide_eq_true_iff, List.take_length]
  constructor
  · rintro (⟨r, h1, h2⟩ | h2)
    · exact ⟨r, by simp [h1], h2⟩
    · exact ⟨q, by simp, h2⟩
  · rintro ⟨r, h1, h2⟩
    rcases List.mem_append.1 h1 with h3 | h3
    · exact .inl ⟨r, h3, h2⟩
    · have h4 : (r : Int) = (q : Int) := by simpa using h3
      have : r = q := by omega
      subst this
      exact .inr h2

theorem strL_past {cs : List Cm} {B : Nat → Bool} (hn : cs.length ≤ 14) (j : Nat) : strL cs (pastL B 14) j = struckB cs B 0 j := by
  rw [Bool.eq_iff_iff, strL_iff, struckB_iff]
  constructor
  · rintro ⟨q, h1, h2⟩
    obtain ⟨r, _, e, hB⟩ := mem_pastL.1 h1
    have : q = r := by omega
    subst this
    exact ⟨q, Nat.zero_le _, hB, h2⟩
  · rintro ⟨q, _, hB, h2⟩
    refine ⟨q, mem_pastL.2 ⟨q, ?_, rfl, hB⟩, h2⟩
    by_cases hq : q < cs.length
    · omega
    · rw [mg_none (by omega)] at h2
      simp at h2

/-- both lead to it -/
noncomputable def bothB (cs : List Cm) (i k j : Nat) : Bool := aheadB cs i j && aheadB cs k j

open Classical in
/-- the last versions that are ahead of both; none, if the room or one of them is not right -/
noncomputable def basesV (cs : List Cm) (hs : List Hd) (x y : Int) : List Int :=
  if RepoGood cs hs ∧ (0 ≤ x ∧ x < cs.length) ∧ 0 ≤ y ∧ y < cs.length then pastL (lastB cs (bothB cs x.toNat y.toNat)) 14 else []

theorem basesV_ok {cs : List Cm} {hs : List Hd} {i k : Nat} (g : RepoGood cs hs) (hi : i < cs.length) (hk : k < cs.length) : basesV cs hs i k = pastL (lastB cs (bothB cs i k)) 14 := by
  unfold basesV
  rw [if_pos ⟨g, ⟨by omega, by omega⟩, by omega, by omega⟩]
  simp

theorem basesV_bad {cs : List Cm} {hs : List Hd} {x y : Int} (h : ¬ (RepoGood cs hs ∧ (0 ≤ x ∧ x < cs.length) ∧ 0 ≤ y ∧ y < cs.length)) : basesV cs hs x y = [] := if_neg h

theorem basesV_len (cs : List Cm) (hs : List Hd) (x y : Int) : (basesV cs hs x y).length ≤ 14 := by
  unfold basesV
  split
  · exact pastL_len _ _
  · simp

theorem basesV_few {cs : List Cm} {hs : List Hd} {i k : Nat} (g : RepoGood cs hs) (hi : i < cs.length) (hk : k < cs.length) : basesV cs hs i k = pastL (lastB cs (bothB cs i k)) cs.length := by
  have hn := g.c2
  rw [basesV_ok g hi hk]
  refine pastL_more hn fun j hj => ?_
  unfold lastB bothB
  have : aheadB cs i j = false := by
    rw [← Bool.not_eq_true, aheadB_iff]
    intro h
    have := h.le g.ups hi
    omega
  rw [this]
  rfl
end Go.Proofs.YtdfadpejddhbkaaGreat

namespace Go.Proofs.YtdfadpejddhbkaaGreat
set_option linter.unusedVariables false
open Go.ChangeShapes Go.WideShapes Go.ChangeAt Go.RowKit

/-- a store into another block does not touch it -/
theorem GrowI.setNe {lo : Nat} {w : World} {is : List Int} {v : Value} (h : GrowI lo is w v) {p : Addr} (hp : ∀ g, v.ownBlock = some g → ¬ g = p.block) (u : Value) : GrowI lo is (w.setCell p u) v := by
  refine ⟨?_, by simpa [World.setCell] using h.le⟩
  obtain ⟨h1, h2 | ⟨g, cap, cur, rfl, hb', hg, rest⟩⟩ := h.own
  · exact ⟨h1, .inl h2⟩
  · exact ⟨h1, .inr ⟨g, cap, cur, rfl, hb', (Below.heap_setCell _ _ _ _ (fun e => hp g rfl (by omega))).trans hg, rest⟩⟩

set_option maxRecDepth 100000 in
set_option maxHeartbeats 8000000 in
theorem specRepoBases_any (a b : Option Addr) (ca cb : Nat) (cs : List Cm) (hs : List Hd) (x y : Int) (w : World) (hr : RepoAt w a b cs hs) (hl : RpLen cs hs 1048576) :
    Calls Tryz.prog 33 #[.agg #[.slice a cs.length ca, .slice b hs.length cb], .int .i64 x, .int .i64 y] w fun e w' => (∃ v, e = .returned v ∧ GrowI w.heap.size (basesV cs hs x y) w' v) ∧ Below w.heap.size w w' := by
  obtain ⟨i0, hi, hz0, hz1, hz2⟩ := info_parts infoBool
  have hmk : ∀ u : World, cs.length ≤ 1048576 → (Instr.makeSlice 109 (.int .i64 (cs.length : Int)) (.int .i64 (cs.length : Int))).run Tryz.prog u =
      .ok (.slice (some ⟨u.heap.size, 0, none⟩) cs.length cs.length) (u.alloc (.cells (madeCells #[.bool false] cs.length) 4)) := fun u hn => by
    have h := run_make (P := Tryz.prog) u 109 4 i0 (.bool false) Tryz.underlying109 hi hz0 .i64 .i64 (cs.length : Int) (cs.length : Int) (by omega) (Int.le_refl _) (by rw [hz2]; omega) (by omega)
    simpa [hz1, Value.cells] using h
  have HMK := Lib.hid hmk
  clear hz0 hz1 hz2 hi hmk
  have HR := Lib.hid hr
  have HL := Lib.hid hl
  clear hr hl
  have A1 : Hid (∀ o o', Below w.heap.size w ((w.alloc o).alloc o')) := fun o o' => ((Below.refl _ _).alloc (Nat.le_refl _) _).alloc (by simp) _
  have G0 : Hid (GrowI w.heap.size [] ((w.alloc (.cells #[.slice a cs.length ca, .slice b hs.length cb] 46)).alloc (.cells #[] 3)) (.slice (some ⟨w.heap.size + 1, 0, none⟩) 0 0)) := by
    have := World.ownsRow_made (w.alloc (.cells #[.slice a cs.length ca, .slice b hs.length cb] 46)) #[] 0 (base := w.heap.size) (e := 3) (size := 1) (by simp) (by unfold maxLen; omega) rfl
    rw [World.size_alloc] at this
    exact ⟨this, by simp; omega⟩
  have Z0 : Hid (BK ((w.alloc (.cells #[.slice a cs.length ca, .slice b hs.length cb] 46)).alloc (.cells #[] 3)) w.heap.size #[.slice a cs.length ca, .slice b hs.length cb] 46) := (BK.new _ _ _).alloc _
  go_enter Tryz.func33, Tryz.ntmps33
  go_wp2_with fail
  refine (l7In_any _ _ _ _ _ _ _ _ (HR.out.below (A1.out _ _)) HL.out).mono ?_
  rintro e w1 ⟨rfl, hb1⟩
  replace Z0 := Lib.hid (Z0.out.later hb1)
  have B1 : Hid (Below w.heap.size w w1) := (A1.out _ _).trans (hb1.mono (by simp; omega))
  have G1 := Lib.hid (G0.out.below hb1)
  clear hb1 G0
  cases hx : inB cs hs x
  · have HE : Hid (basesV cs hs x y = []) := basesV_bad fun h => by simp [inB, h] at hx
    clear hx
    go_wp2
    go_ret
    exact ⟨⟨_, rfl, by rw [HE.out]; exact G1.out⟩, B1.out⟩
  · have HX := Lib.hid hx
    clear hx
    have c0 := Z0.out.cell 0 rfl
    have c1 := Z0.out.cell 1 rfl
    go_wp2_with fail
    clear c0 c1
    refine (l7In_any _ _ _ _ _ _ _ _ (HR.out.below B1.out) HL.out).mono ?_
    rintro e w2 ⟨rfl, hb2⟩
    replace Z0 := Lib.hid (Z0.out.later hb2)
    replace G1 := Lib.hid (G1.out.below hb2)
    have B2 : Hid (Below w.heap.size w w2) := B1.out.trans (hb2.mono B1.out.size)
    clear hb2 B1
    cases hy : inB cs hs y
    · have HE : Hid (basesV cs hs x y = []) := basesV_bad fun h => by simp [inB, h] at hy
      clear hy
      go_wp2
      go_ret
      exact ⟨⟨_, rfl, by rw [HE.out]; exact G1.out⟩, B2.out⟩
    · have hX := HX.out
      simp only [inB, decide_eq_true_iff] at hX hy
      have HGG := Lib.hid hX.1
      obtain ⟨x, rfl⟩ : ∃ k : Nat, x = k := ⟨x.toNat, by omega⟩
      obtain ⟨y, rfl⟩ : ∃ k : Nat, y = k := ⟨y.toNat, by omega⟩
      have hxl : x < cs.length := by omega
      have hyl : y < cs.length := by omega
      have HE := Lib.hid (basesV_few HGG.out hxl hyl)
      have z1 : w.heap.size + 1 < w2.heap.size := (G1.out.own.lt (w.heap.size + 1) rfl).2
      clear hX hy HX
      have A2 : Hid (Below w2.heap.size w2 (w2.alloc (.cells #[.int .i64 (x : Int)] 3))) := (Below.refl _ _).alloc (Nat.le_refl _) _
      have c0 := Z0.out.cell 0 rfl
      have c1 := Z0.out.cell 1 rfl
      go_wp2_with fail
      clear c0 c1
      refine (l7Marks_any _ _ _ _ _ _ _ cs [(x : Int)] _ (HR.out.cms.below (B2.out.trans (A2.out.mono B2.out.size))) HGG.out.ups HGG.out.c2 HL.out.cms (int_one _ _ _) (by simp) (fun z hz => ⟨x, by simpa using hz, hxl⟩)).mono ?_
      rintro e w3 ⟨p1, rfl, hrow1, hp1, hb3⟩
      have hb23 : Below w2.heap.size w2 w3 := A2.out.trans (hb3.mono (by simp))
      have hz2 := B2.out.size
      have B3 : Hid (Below w.heap.size w w3) := B2.out.trans (hb23.mono hz2)
      replace Z0 := Lib.hid (Z0.out.later hb23)
      replace G1 := Lib.hid (G1.out.below hb23)
      have R1 : Hid (w3.rowIs p1 4 cs.length (fun j => .bool (aheadB cs x j))) := hrow1.congr fun j _ => by rw [marks_one]
      simp at hp1
      have hz23 := hb23.size
      clear hb3 hb23 hrow1 A2 B2
      have A2 : Hid (Below w3.heap.size w3 (w3.alloc (.cells #[.int .i64 (y : Int)] 3))) := (Below.refl _ _).alloc (Nat.le_refl _) _
      have c0 := Z0.out.cell 0 rfl
      have c1 := Z0.out.cell 1 rfl
      go_wp2_with fail
      clear c0 c1
      refine (l7Marks_any _ _ _ _ _ _ _ cs [(y : Int)] _ (HR.out.cms.below (B3.out.trans (A2.out.mono B3.out.size))) HGG.out.ups HGG.out.c2 HL.out.cms (int_one _ _ _) (by simp) (fun z hz => ⟨y, by simpa using hz, hyl⟩)).mono ?_
      rintro e w4 ⟨p2, rfl, hrow2, hp2, hb4⟩
      have hb34 : Below w3.heap.size w3 w4 := A2.out.trans (hb4.mono (by simp))
      have hz3 := B3.out.size
      have B4 : Hid (Below w.heap.size w w4) := B3.out.trans (hb34.mono hz3)
      replace Z0 := Lib.hid (Z0.out.later hb34)
      replace G1 := Lib.hid (G1.out.below hb34)
      have hl1 := R1.out.lt
      replace R1 := Lib.hid (R1.out.of_block (hb34.block _ R1.out.lt))
      have R2 : Hid (w4.rowIs p2 4 cs.length (fun j => .bool (aheadB cs y j))) := hrow2.congr fun j _ => by rw [marks_one]
      simp at hp2
      have hz34 := hb34.size
      have hl2 := R2.out.lt
      clear hb4 hb34 hrow2 A2 B3
      obtain ⟨B, hB⟩ : ∃ B, B = bothB cs x y := ⟨_, rfl⟩
      rw [← hB] at HE
      have EB : Hid (∀ j, B j = (aheadB cs x j && aheadB cs y j)) := fun j => by rw [hB]; rfl
      clear hB
      obtain ⟨L, hL⟩ : ∃ L, L = pastL (lastB cs B) cs.length := ⟨_, rfl⟩
      rw [← hL] at HE
      have LL := Lib.hid hL
      have hlen : L.length ≤ 14 := by rw [hL]; have := pastL_len (lastB cs B) cs.length; have := HGG.out.c2; omega
      clear hL
      have hcl := HGG.out.c2
      have HC := Lib.hid HR.out.cms
      have hmk := fun u => HMK.out u (by omega)
      have c0 := Z0.out.cell 0 rfl
      have c9 := (Z0.out.alloc (.cells (madeCells #[.bool false] cs.length) 4)).cell 0 rfl
      have ow : Hid (∀ g, (Value.slice (some ⟨w.heap.size + 1, 0, none⟩) 0 0).ownBlock = some g → ¬ g = w.heap.size ∧ ¬ g = p1 ∧ ¬ g = p2 ∧ ¬ g = w4.heap.size) := fun g hg => by
        have hg' : g = w.heap.size + 1 := by cases hg; rfl
        exact ⟨by omega, by omega, by omega, by omega⟩
      have R3 : Hid ((w4.alloc (.cells (madeCells #[.bool false] cs.length) 4)).rowIs w4.heap.size 4 cs.length (fun j => .bool (struckB cs B cs.length j))) := by
        have := World.rowIs_made w4 (.bool false) cs.length 4
        exact this.congr fun j _ => by rw [struck_none]
      go_wp2
      clear hmk c0 c9
      generalize hp3 : w4.heap.size = p3
      go_loopw [7, 11, 12] (fun s7 i _ wr => ∃ (q : Nat) (acc : List Int), q ≤ cs.length ∧ i = .int .i64 ((q : Int) - 1) ∧ acc ++ pastL (lastB cs B) q = L ∧ GrowI w.heap.size acc wr s7 ∧ (∀ g, s7.ownBlock = some g → ¬ g = w.heap.size ∧ ¬ g = p1 ∧ ¬ g = p2 ∧ ¬ g = p3) ∧ BK wr w.heap.size #[.slice a cs.length ca, .slice b hs.length cb] 46 ∧ wr.rowIs p1 4 cs.length (fun j => .bool (aheadB cs x j)) ∧ wr.rowIs p2 4 cs.length (fun j => .bool (aheadB cs y j)) ∧ wr.rowIs p3 4 cs.length (fun j => .bool (struckB cs B q j)) ∧ Below w.heap.size w wr) (fun _ i _ _ => (intOf i + 1).toNat)
      case atStart =>
        subst hp3
        exact ⟨cs.length, [], Nat.le_refl _, rfl, LL.out.symm, G1.out.below ((Below.refl _ _).alloc (Nat.le_refl _) _), ow.out, Z0.out.alloc _, R1.out.alloc _, R2.out.alloc _, R3.out, B4.out.alloc B4.out.size _⟩
      case round =>
        have n1 : ¬ (p3 = w.heap.size) := by omega
        have n2 : ¬ (p3 = p1) := by omega
        have n3 : ¬ (p3 = p2) := by omega
        have n4 : w.heap.size ≤ p3 := by omega
        clear G1 ow Z0 R1 R2 R3 B4 HR HMK hp3 z1 hl1 hl2 hz2 hz23 hz34 hz3 hp1 hp2
        obtain ⟨q, acc, hq, rfl, hacc, hG, hown, hk1, hr1, hr2, hr3, hbel⟩ := hrel
        have HG := Lib.hid hG
        have K0 := Lib.hid hk1
        have H1 := Lib.hid hr1
        have H2 := Lib.hid hr2
        have H3 := Lib.hid hr3
        have HB0 := Lib.hid hbel
        have HA := Lib.hid hacc
        have HO := Lib.hid hown
        have hsz0 := hbel.size
        obtain ⟨av, cv, rfl, hcv, _⟩ := hG.form
        rcases q with _ | i
        · simp only [Int.natCast_zero, Int.zero_sub]
          have h1 : decide ((0 : Int) ≤ -1) = false := by decide
          have e : Hid (acc = L) := by rw [Hid, ← hacc]; simp [pastL]
          clear hacc hG hr1 hr2 hr3 hbel hown hk1
          go_wp2
          go_ret
          exact ⟨⟨_, rfl, by rw [HE.out, ← e.out]; exact HG.out⟩, HB0.out⟩
        · have e1 : ((i + 1 : Nat) : Int) - 1 = (i : Int) := by omega
          rw [e1]
          clear e1
          have hin : i < cs.length := by omega
          have d1 := hr1.cell (i := i) hin
          have d2 := hr2.cell (i := i) hin
          have d3 := hr3.cell (i := i) hin
          rw [struck_here HGG.out.ups] at d3
          have q0 : (0 : Int) ≤ (i : Int) := by omega
          have q1 : (i : Int) < (cs.length : Int) := by omega
          have hla : acc.length ≤ 14 := by have : acc.length ≤ L.length := by rw [← hacc, List.length_append]; omega
                                           omega
          have EBI := Lib.hid (EB.out i)
          clear hacc hG hr1 hr2 hr3 hbel hown hk1
          cases hx : aheadB cs x i
          · rw [hx] at d1
            have HBI : Hid (B i = false) := by rw [Hid, EBI.out, hx]; rfl
            clear hx
            go_wp2
            go_roundw
            case rel => exact ⟨i, acc, by omega, rfl, by rw [← HA.out]; simp [pastL, lastB, HBI.out], HG.out, HO.out, K0.out, H1.out, H2.out, H3.out.congr fun j _ => by rw [struck_skip HBI.out], HB0.out⟩
            case measure => simp [intOf]
          · rw [hx] at d1
            cases hy : aheadB cs y i
            · rw [hy] at d2
              have HBI : Hid (B i = false) := by rw [Hid, EBI.out, hx, hy]; rfl
              clear hx hy
              go_wp2
              go_roundw
              case rel => exact ⟨i, acc, by omega, rfl, by rw [← HA.out]; simp [pastL, lastB, HBI.out], HG.out, HO.out, K0.out, H1.out, H2.out, H3.out.congr fun j _ => by rw [struck_skip HBI.out], HB0.out⟩
              case measure => simp [intOf]
            · rw [hy] at d2
              have HBI : Hid (B i = true) := by rw [Hid, EBI.out, hx, hy]; rfl
              clear hx hy
              cases hd : struckB cs B 0 i
              · rw [hd] at d3
                have HD := Lib.hid hd
                clear hd
                have AL : Hid (Below wr.heap.size wr (wr.alloc (.cells #[.int .i64 (i : Int)] 3))) := (Below.refl _ _).alloc (Nat.le_refl _) _
                go_wp2_with (at_builtin; refine wpList_moreJ (by rfl) _ _ (by rfl) (HG.out.below AL.out) (int_one _ _ _) (by rfl) (by rfl) (by simp; omega) ?_; intro r a2 c2 W2 hr hgrow hG2 hat; have R := Lib.hid hr; have HGR := Lib.hid hgrow; have HG2 := Lib.hid hG2; have HAT := Lib.hid hat.out; clear hr hgrow hG2 hat)
                have hblk := (HG.out.below AL.out).block
                have hz0 := H3.out.lt
                have hz1 := H1.out.lt
                have hz2 := H2.out.lt
                have hzk := K0.out.lt
                have K2 : Hid (BK W2 w.heap.size #[.slice a cs.length ca, .slice b hs.length cb] 46) := (HGR.out.block _ (by simp; omega) fun e => (HO.out _ e.symm).1 rfl).trans (K0.out.alloc _)
                have R1 := Lib.hid ((H1.out.alloc _).of_block (HGR.out.block _ (by simp; omega) fun e => (HO.out _ e.symm).2.1 rfl))
                have R2 := Lib.hid ((H2.out.alloc _).of_block (HGR.out.block _ (by simp; omega) fun e => (HO.out _ e.symm).2.2.1 rfl))
                have R3 := Lib.hid ((H3.out.alloc _).of_block (HGR.out.block _ (by simp; omega) fun e => (HO.out _ e.symm).2.2.2 rfl))
                have B2 : Hid (Below w.heap.size w W2) := (HB0.out.alloc hsz0 _).grown HGR.out (by simp; omega) fun j hj => hblk j hj
                have O2 : Hid (∀ g, (Value.slice a2 r.length c2).ownBlock = some g → ¬ g = w.heap.size ∧ ¬ g = p1 ∧ ¬ g = p2 ∧ ¬ g = p3) := fun g hg => by
                  rcases HAT.out g hg with h1 | h1
                  · exact HO.out g h1
                  · simp at h1
                    exact ⟨by omega, by omega, by omega, by omega⟩
                have A2 : Hid (r ++ pastL (lastB cs B) i = L) := by rw [Hid, R.out, ← HA.out]; simp [pastL, lastB, HBI.out, HD.out]
                go_wp2
                go_loopw [12] (fun s wr => ∃ t : Nat, s = .int .i64 t ∧ t ≤ (mg cs i).1.length ∧ BK wr w.heap.size #[.slice a cs.length ca, .slice b hs.length cb] 46 ∧ GrowI w.heap.size r wr (.slice a2 r.length c2) ∧ wr.rowIs p1 4 cs.length (fun j => .bool (aheadB cs x j)) ∧ wr.rowIs p2 4 cs.length (fun j => .bool (aheadB cs y j)) ∧ wr.rowIs p3 4 cs.length (fun j => .bool (struckB cs B (i + 1) j || amongB (mg cs i).1 t j)) ∧ Below w.heap.size w wr) (fun s _ => (mg cs i).1.length - (intOf s).toNat)
                case atStart => exact ⟨0, rfl, Nat.zero_le _, K2.out, HG2.out, R1.out, R2.out, R3.out.congr fun j _ => by simp [amongB], B2.out⟩
                case round =>
                  clear HG2 K2 R1 R2 R3 B2 HG K0 H1 H2 H3 HB0 HO hsz0 AL hblk
                  obtain ⟨t, rfl, htl, hk1, hG, hr1, hr2, hr3, hbel⟩ := hrel
                  have K1 := Lib.hid hk1
                  have HG2 := Lib.hid hG
                  have HR1 := Lib.hid hr1
                  have HR2 := Lib.hid hr2
                  have HR3 := Lib.hid hr3
                  have HB := Lib.hid hbel
                  have hsz := hbel.size
                  have r0 := hk1.cell 0 rfl
                  obtain ⟨bc, oc, ua, uc, sa, sc, e', hx⟩ := HC.out i hin
                  obtain ⟨zb, c0, c1, c2, hii, hff⟩ := hx.below hbel
                  have ne1 : ¬ (bc = p3) := by have := hx.lt; omega
                  have ne2 : ¬ (p3 = bc) := by omega
                  have q2 : (mg cs i).1.length ≤ 2 := (HGG.out.ups i hin).2.1
                  subst e'
                  by_cases hlt : t < (mg cs i).1.length
                  · obtain ⟨bu, ou, eu, hbu, hcu⟩ := hii t hlt
                    obtain ⟨b2, o2, eu2, hbu2, _⟩ := hx.ints t hlt
                    obtain ⟨u, hu, hult⟩ := HGG.out.ups.mem hin (mem_ix.2 ⟨t, hlt, rfl⟩)
                    rw [hu] at hcu
                    obtain ⟨rfl, rfl⟩ : bu = b2 ∧ ou = o2 := by rw [eu] at eu2; simpa using eu2
                    subst eu
                    have ne3 : ¬ (bu = p3) := by omega
                    have ne4 : ¬ (p3 = bu) := by omega
                    have hfz := hr3.frozen u
                    have hdu := hr3.cell (i := u) (by omega)
                    have q3 : (0 : Int) ≤ (u : Int) := by omega
                    have q4 : (u : Int) < (cs.length : Int) := by omega
                    have HU := Lib.hid hu
                    clear hk1 hG hr1 hr2 hr3 hx hff hbel hii hu
                    go_wp2
                    go_roundw
                    case rel => exact ⟨t + 1, by go_num, by omega, K1.out.setOther _ _ (by omega), GrowI.setNe HG2.out (fun g hg => (O2.out g hg).2.2.2) _, HR1.out.setOther (fun e => n2 e.symm) _, HR2.out.setOther (fun e => n3 e.symm) _, (HR3.out.set u _).congr fun j _ => (by rw [amongB_step hlt HU.out j]; by_cases e : j = u <;> simp [e]), HB.out.setCell (by omega) _⟩
                    case measure => simp [intOf]; omega
                  · obtain rfl : t = (mg cs i).1.length := by omega
                    clear hk1 hG hr1 hr2 hr3 hx hff hbel hii
                    go_wp2
                    go_roundw
                    case rel => exact ⟨i, r, by omega, rfl, A2.out, HG2.out, O2.out, K1.out, HR1.out, HR2.out, HR3.out.congr fun j _ => by rw [struck_step HBI.out], HB.out⟩
                    case measure => simp [intOf]
              · rw [hd] at d3
                have HD := Lib.hid hd
                clear hd
                go_wp2
                go_loopw [12] (fun s wr => ∃ t : Nat, s = .int .i64 t ∧ t ≤ (mg cs i).1.length ∧ BK wr w.heap.size #[.slice a cs.length ca, .slice b hs.length cb] 46 ∧ GrowI w.heap.size acc wr (.slice av acc.length cv) ∧ wr.rowIs p1 4 cs.length (fun j => .bool (aheadB cs x j)) ∧ wr.rowIs p2 4 cs.length (fun j => .bool (aheadB cs y j)) ∧ wr.rowIs p3 4 cs.length (fun j => .bool (struckB cs B (i + 1) j || amongB (mg cs i).1 t j)) ∧ Below w.heap.size w wr) (fun s _ => (mg cs i).1.length - (intOf s).toNat)
                case atStart => exact ⟨0, rfl, Nat.zero_le _, K0.out, HG.out, H1.out, H2.out, H3.out.congr fun j _ => by simp [amongB], HB0.out⟩
                case round =>
                  clear HG K0 H1 H2 H3 HB0 hsz0
                  obtain ⟨t, rfl, htl, hk1, hG, hr1, hr2, hr3, hbel⟩ := hrel
                  have K1 := Lib.hid hk1
                  have HG2 := Lib.hid hG
                  have HR1 := Lib.hid hr1
                  have HR2 := Lib.hid hr2
                  have HR3 := Lib.hid hr3
                  have HB := Lib.hid hbel
                  have hsz := hbel.size
                  have r0 := hk1.cell 0 rfl
                  obtain ⟨bc, oc, ua, uc, sa, sc, e', hx⟩ := HC.out i hin
                  obtain ⟨zb, c0, c1, c2, hii, hff⟩ := hx.below hbel
                  have ne1 : ¬ (bc = p3) := by have := hx.lt; omega
                  have ne2 : ¬ (p3 = bc) := by omega
                  have q2 : (mg cs i).1.length ≤ 2 := (HGG.out.ups i hin).2.1
                  subst e'
                  by_cases hlt : t < (mg cs i).1.length
                  · obtain ⟨bu, ou, eu, hbu, hcu⟩ := hii t hlt
                    obtain ⟨b2, o2, eu2, hbu2, _⟩ := hx.ints t hlt
                    obtain ⟨u, hu, hult⟩ := HGG.out.ups.mem hin (mem_ix.2 ⟨t, hlt, rfl⟩)
                    rw [hu] at hcu
                    obtain ⟨rfl, rfl⟩ : bu = b2 ∧ ou = o2 := by rw [eu] at eu2; simpa using eu2
                    subst eu
                    have ne3 : ¬ (bu = p3) := by omega
                    have ne4 : ¬ (p3 = bu) := by omega
                    have hfz := hr3.frozen u
                    have hdu := hr3.cell (i := u) (by omega)
                    have q3 : (0 : Int) ≤ (u : Int) := by omega
                    have q4 : (u : Int) < (cs.length : Int) := by omega
                    have HU := Lib.hid hu
                    clear hk1 hG hr1 hr2 hr3 hx hff hbel hii hu
                    go_wp2
                    go_roundw
                    case rel => exact ⟨t + 1, by go_num, by omega, K1.out.setOther _ _ (by omega), GrowI.setNe HG2.out (fun g hg => (HO.out g hg).2.2.2) _, HR1.out.setOther (fun e => n2 e.symm) _, HR2.out.setOther (fun e => n3 e.symm) _, (HR3.out.set u _).congr fun j _ => (by rw [amongB_step hlt HU.out j]; by_cases e : j = u <;> simp [e]), HB.out.setCell (by omega) _⟩
                    case measure => simp [intOf]; omega
                  · obtain rfl : t = (mg cs i).1.length := by omega
                    clear hk1 hG hr1 hr2 hr3 hx hff hbel hii
                    go_wp2
                    go_roundw
                    case rel => exact ⟨i, acc, by omega, rfl, by rw [← HA.out]; simp [pastL, lastB, HBI.out, HD.out], HG2.out, HO.out, K1.out, HR1.out, HR2.out, HR3.out.congr fun j _ => by rw [struck_step HBI.out], HB.out⟩
                    case measure => simp [intOf]
end Go.Proofs.YtdfadpejddhbkaaGreat

namespace Go.Proofs.YtdfadpejddhbkaaGreat
set_option linter.unusedVariables false
open Go.ChangeShapes Go.WideShapes Go.ChangeAt Go.RowKit

theorem GrowI.low {lo lo' : Nat} {w : World} {is : List Int} {v : Value} (h : GrowI lo is w v) (hl : lo' ≤ lo) : GrowI lo' is w v := by
  obtain ⟨⟨h1, h2⟩, h3⟩ := h
  refine ⟨⟨h1, h2.imp id ?_⟩, by omega⟩
  rintro ⟨g, cap, cur, q1, q2, q3⟩
  exact ⟨g, cap, cur, q1, by omega, q3⟩

theorem pvals_set {w : World} {b : Nat} {t : TypeId} {p q : Nat → Int} (h : w.rowIs b t 14 (fun j => .int .i64 (p j))) : (w.setCells b 0 (pvals q)).rowIs b t 14 (fun j => .int .i64 (q j)) :=
  (rowIs_setCells (pvals q) 0 w _ h).congr fun j hj => by
    rw [pvals_len, if_pos ⟨Nat.zero_le _, by omega⟩, Nat.sub_zero, pvals_at q hj]
    rfl

/-- the colours of both, and then of those that are struck -/
def eTwo (A : Nat → Bool) (j : Nat) (s : Bool) : Int := cond s (cond (A j) 3 2) (cond (A j) 1 0)
def eStr (A C : Nat → Bool) (j : Nat) (s : Bool) : Int := cond s (cond (C j) (cond (A j) 7 6) (cond (A j) 5 4)) (eTwo A j (C j))

theorem eTwo_0 (A : Nat → Bool) (j : Nat) : bits .and .i64 (eTwo A j false) 2 = 0 := by unfold eTwo; cases A j <;> decide
theorem eTwo_1 (A : Nat → Bool) (j : Nat) : bits .and .i64 (eTwo A j true) 2 ≠ 0 := by unfold eTwo; cases A j <;> decide
theorem eTwo_2 (A : Nat → Bool) (j : Nat) : bits .or .i64 (eTwo A j false) 2 = eTwo A j true := by unfold eTwo; cases A j <;> decide
theorem eStr_or (A C : Nat → Bool) (j : Nat) (s : Bool) : bits .or .i64 (eStr A C j s) 4 = eStr A C j true := by unfold eStr eTwo; cases A j <;> cases C j <;> cases s <;> decide
theorem eTwo_is (A C : Nat → Bool) (j : Nat) : decide (eTwo A j (C j) = 3) = (A j && C j) := by unfold eTwo; cases A j <;> cases C j <;> decide
theorem eStr_is (A C : Nat → Bool) (j : Nat) (s : Bool) : decide (eStr A C j s = 3) = ((A j && C j) && !s) := by unfold eStr eTwo; cases A j <;> cases C j <;> cases s <;> decide

set_option maxRecDepth 100000 in
set_option maxHeartbeats 8000000 in
theorem implRepoBases_any (a b : Option Addr) (ca cb : Nat) (cs : List Cm) (hs : List Hd) (x y : Int) (w : World) (hr : RepoAt w a b cs hs) (hl : RpLen cs hs 1048576) (hca : cs.length ≤ ca) :
    Calls Tryz.prog 32 #[.agg #[.slice a cs.length ca, .slice b hs.length cb], .int .i64 x, .int .i64 y] w fun e w' => (∃ v, e = .returned v ∧ GrowI w.heap.size (basesV cs hs x y) w' v) ∧ Below w.heap.size w w' := by
  have HR := Lib.hid hr
  have HL := Lib.hid hl
  clear hr hl
  have A1 : Hid (∀ o, Below w.heap.size w (w.alloc o)) := fun o => (Below.refl _ _).alloc (Nat.le_refl _) _
  have hz := run_zeroPaints
  go_enter Tryz.func32, Tryz.ntmps32
  go_wp2_with fail
  refine (implRepoOk_any _ _ _ _ _ _ _ (HR.out.below (A1.out _)) HL.out hca).mono ?_
  rintro e w1 ⟨rfl, hb1⟩
  have Z0 : Hid (BK w1 w.heap.size #[.slice a cs.length ca, .slice b hs.length cb] 46) := (BK.new w _ _).later hb1
  have B1 : Hid (Below w.heap.size w w1) := (A1.out _).trans (hb1.mono (by simp))
  clear hb1
  by_cases hg : RepoGood cs hs
  · rw [repoOk_true hg]
    have c0 := Z0.out.cell 0 rfl
    have c1 := Z0.out.cell 1 rfl
    go_wp2_with fail
    refine (isPlace_any _ _ _).mono ?_
    rintro e w2 ⟨rfl, rfl⟩
    by_cases hp : 0 ≤ x ∧ x < cs.length
    · rw [decide_eq_true hp]
      go_wp2_with fail
      refine (isPlace_any _ _ _).mono ?_
      rintro e w2 ⟨rfl, rfl⟩
      by_cases hq : 0 ≤ y ∧ y < cs.length
      · rw [decide_eq_true hq]
        obtain ⟨x, rfl⟩ : ∃ k : Nat, x = k := ⟨x.toNat, by omega⟩
        obtain ⟨y, rfl⟩ : ∃ k : Nat, y = k := ⟨y.toNat, by omega⟩
        have hxl : x < cs.length := by omega
        have hyl : y < cs.length := by omega
        have HP := Lib.hid (basesV_ok hg hxl hyl)
        have HGG := Lib.hid hg
        clear hp hq hg
        go_wp2_with fail
        clear c0 c1
        refine (paintPast_any _ _ _ _ _ cs x 1 (fun _ s => cond s 1 0) (fun _ => false) _ (HR.out.cms.below B1.out) HGG.out.ups HGG.out.c2 HL.out.cms hxl (fun j h => by simp at h) (fun _ => and00) (fun _ => and11) (fun _ => or01)).mono ?_
        rintro e w3 ⟨rfl, hb3⟩
        have B3 : Hid (Below w.heap.size w w3) := B1.out.trans (hb3.mono B1.out.size)
        replace Z0 := Lib.hid (Z0.out.later hb3)
        clear hb3 B1
        obtain ⟨A, hA⟩ : ∃ A, A = aheadB cs x := ⟨_, rfl⟩
        rw [← hA]
        have EA := Lib.hid hA
        clear hA
        obtain ⟨p1, hp1⟩ : ∃ p : Nat → Int, p = fun j => eTwo A j false := ⟨_, rfl⟩
        have hq1 : (fun j => bif A j then (1 : Int) else 0) = p1 := by rw [hp1]; rfl
        rw [show (fun j => bif (false || A j) then (1 : Int) else 0) = p1 from hq1]
        have HP1 := Lib.hid hp1
        clear hq1 hp1
        obtain ⟨W4, hW4⟩ : ∃ W4, W4 = (w3.alloc (.cells (pvals fun _ => 0).toArray 106)).setCells w3.heap.size 0 (pvals p1) := ⟨_, rfl⟩
        have T3 : Hid ((w3.alloc (.cells (pvals fun _ => 0).toArray 106)).there w3.heap.size 0 (pvals p1).toArray.size) := by simpa [Hid, pvals_len] using pvals_there rfl (pvals_row w3 (fun _ => 0) 106)
        have R4 : Hid (W4.rowIs w3.heap.size 106 14 (fun j => .int .i64 (p1 j))) := by rw [hW4]; exact pvals_set (pvals_row w3 (fun _ => 0) _)
        have BW : Below w3.heap.size w3 W4 := by rw [hW4]; exact below_setCells _ (Nat.le_refl _) _ _ _ ((Below.refl _ _).alloc (Nat.le_refl _) _)
        have B4 : Hid (Below w.heap.size w W4) := B3.out.trans (BW.mono B3.out.size)
        have Z4 := Lib.hid (Z0.out.later BW)
        clear BW
        have HW4 := Lib.hid hW4
        have h3z := B3.out.size
        obtain ⟨P, hP⟩ : ∃ P, P = w3.heap.size := ⟨_, rfl⟩
        have hP3 := Lib.hid hP
        have HN : Hid (w.heap.size < P) := by rw [Hid, hP]; exact Z0.out.lt
        rw [← hP] at R4
        have G4 := Lib.hid (pvals_range R4.out)
        have hu := Tryz.underlying106
        have c0 := Z4.out.cell 0 rfl
        have c1 := Z4.out.cell 1 rfl
        clear hW4 hP Z0 B3
        go_wp2_with (first | (refine wpList_load_mid (by rfl) 106 _ (by rfl) P 0 (by rfl) (pvals p1) _ G4.out hu (by rfl) (info_paints2 p1) ?_) | (refine wpList_store_mid (by rfl) 106 _ _ (by rfl) w3.heap.size 0 (pvals p1).toArray (by rfl) (by rfl) T3.out (by simpa using info_paints2 p1) (pvals_one p1) ?_; change wpList _ _ _ _ _ ((w3.alloc (.cells (pvals fun _ => 0).toArray 106)).setCells w3.heap.size 0 (pvals p1)); rw [← HW4.out, ← hP3.out]))
        clear c0 c1 G4 T3 HW4 hP3
        obtain rfl := HP1.out
        refine (paintPast_any _ _ _ _ _ cs y 2 (eTwo A) (fun _ => false) _ (HR.out.cms.below B4.out) HGG.out.ups HGG.out.c2 HL.out.cms hyl (fun j h => by simp at h) (eTwo_0 A) (eTwo_1 A) (eTwo_2 A)).mono ?_
        rintro e w5 ⟨rfl, hb5⟩
        obtain ⟨C, hC⟩ : ∃ C, C = aheadB cs y := ⟨_, rfl⟩
        rw [← hC]
        have EC := Lib.hid hC
        have B5 : Hid (Below w.heap.size w w5) := B4.out.trans (hb5.mono B4.out.size)
        have Z5 := Lib.hid (Z4.out.later hb5)
        have R5 := Lib.hid (R4.out.of_block (hb5.block _ R4.out.lt))
        clear hb5 hC Z4 R4 B4
        obtain ⟨p2, hp2⟩ : ∃ p : Nat → Int, p = fun j => eTwo A j (C j) := ⟨_, rfl⟩
        rw [show (fun j => eTwo A j (false || C j)) = p2 by rw [hp2]; rfl]
        have HP2 := Lib.hid hp2
        obtain ⟨W6, hW6⟩ : ∃ W6, W6 = w5.setCells P 0 (pvals p2) := ⟨_, rfl⟩
        have T5 : Hid (w5.there P 0 (pvals p2).toArray.size) := by simpa [Hid, pvals_len] using pvals_there rfl R5.out
        have R6 : Hid (W6.rowIs P 106 14 (fun j => .int .i64 (p2 j))) := by rw [hW6]; exact pvals_set R5.out
        have BW : Below P w5 W6 := by rw [hW6]; exact below_setCells _ (Nat.le_refl _) _ _ _ (Below.refl _ _)
        have B6 : Hid (Below w.heap.size w W6) := by rw [hW6]; exact below_setCells _ (Nat.le_of_lt HN.out) _ _ _ B5.out
        have Z6 : Hid (BK W6 w.heap.size #[.slice a cs.length ca, .slice b hs.length cb] 46) := (BW.block _ HN.out).trans Z5.out
        have HW6 := Lib.hid hW6
        have G6 := Lib.hid (pvals_range R6.out)
        clear hp2 hW6 BW Z5 R5 B5
        go_wp2_with (first | (refine wpList_load_mid (by rfl) 106 _ (by rfl) P 0 (by rfl) (pvals p2) _ G6.out hu (by rfl) (info_paints2 p2) ?_) | (refine wpList_store_mid (by rfl) 106 _ _ (by rfl) P 0 (pvals p2).toArray (by rfl) (by rfl) T5.out (by simpa using info_paints2 p2) (pvals_one p2) ?_; change wpList _ _ _ _ _ (w5.setCells P 0 (pvals p2)); rw [← HW6.out]))
        refine (paintedJust_any p2 3 _).mono ?_
        rintro e w7 ⟨⟨v, rfl, hG⟩, hb7⟩
        clear G6 T5 HW6
        have EB : ∀ j, decide (p2 j = 3) = bothB cs x y j := fun j => by rw [HP2.out, eTwo_is, EA.out, EC.out]; rfl
        rw [pastL_congr fun j _ => EB j] at hG
        have B7 : Hid (Below w.heap.size w w7) := B6.out.trans (hb7.mono B6.out.size)
        have Z7 := Lib.hid (Z6.out.later hb7)
        have R7 : Hid (w7.rowIs P 106 14 (fun j => .int .i64 (eTwo A j (C j)))) := by
          have h := R6.out.of_block (hb7.block _ R6.out.lt)
          rw [HP2.out] at h
          exact h
        have hPz := R6.out.lt
        obtain ⟨L0, hL0⟩ : ∃ L0, L0 = pastL (bothB cs x y) 14 := ⟨_, rfl⟩
        rw [← hL0] at hG
        have HL0 := Lib.hid hL0
        have hlen : L0.length ≤ 14 := by rw [hL0]; exact pastL_len _ _
        have HQ : Hid (∀ m, m < L0.length → ∃ q : Nat, ix L0 m = q ∧ q < cs.length) := fun m hm => by
          have h1 : ix L0 m ∈ pastL (bothB cs x y) 14 := by rw [← hL0]; exact mem_ix.2 ⟨m, hm, rfl⟩
          obtain ⟨q, _, e, hB⟩ := mem_pastL.1 h1
          refine ⟨q, e, ?_⟩
          unfold bothB at hB
          rw [Bool.and_eq_true, aheadB_iff] at hB
          have := hB.1.le HGG.out.ups hxl
          omega
        have G7 := Lib.hid (hG.low (lo' := P + 1) (by omega))
        obtain ⟨av, cv, rfl, hcv, _⟩ := hG.form
        have HC := Lib.hid HR.out.cms
        have hcl := HGG.out.c2
        clear hG hb7 Z6 R6 B6 hL0 hz HR EB HP2 HP1 hPz
        go_wp2
        go_loopw [9, 11, 42, 53] (fun _ _ i _ wr => ∃ m : Nat, m ≤ L0.length ∧ i = .int .i64 m ∧ GrowI (P + 1) L0 wr (.slice av L0.length cv) ∧ BK wr w.heap.size #[.slice a cs.length ca, .slice b hs.length cb] 46 ∧ wr.rowIs P 106 14 (fun j => .int .i64 (eStr A C j (strL cs (L0.take m) j))) ∧ Below w.heap.size w wr) (fun _ _ i _ _ => L0.length - (intOf i).toNat)
        case atStart => exact ⟨0, Nat.zero_le _, rfl, G7.out, Z7.out, R7.out.congr fun j _ => by rw [List.take_zero, strL_nil]; rfl, B7.out⟩
        case round =>
          clear G7 Z7 R7 B7
          obtain ⟨m, hm, rfl, hG, hk1, hrow, hbel⟩ := hrel
          have HG := Lib.hid hG
          have K1 := Lib.hid hk1
          have HR := Lib.hid hrow
          have HB := Lib.hid hbel
          have hsz := hbel.size
          have r0 := hk1.cell 0 rfl
          have hPl := hrow.lt
          by_cases hlt : m < L0.length
          · obtain ⟨a2, c2, e2, _, hia⟩ := hG.form
            cases e2
            obtain ⟨bf, off, ea, hb, hc1⟩ := hia m hlt
            obtain ⟨q, eq, hq⟩ := HQ.out m hlt
            rw [eq] at hc1
            have EQ := Lib.hid eq
            obtain ⟨bc, oc, ua, uc, sa, sc, e', hx⟩ := HC.out q hq
            obtain ⟨zb, c0, c1, c2, _, _⟩ := hx.below hbel
            have HX := Lib.hid hx.ints
            have q0 : (0 : Int) ≤ (q : Int) := by omega
            have q1 : (q : Int) < (cs.length : Int) := by omega
            have q2 : (mg cs q).1.length ≤ 2 := (HGG.out.ups q hq).2.1
            subst e' ea
            clear hG hk1 hrow hbel hx hia eq
            go_wp2
            go_loopw [11, 53] (fun _ s wr => ∃ t : Nat, s = .int .i64 t ∧ t ≤ (mg cs q).1.length ∧ GrowI (P + 1) L0 wr (.slice (some ⟨bf, off, none⟩) L0.length cv) ∧ BK wr w.heap.size #[.slice (some ⟨bc, oc, none⟩) cs.length ca, .slice b hs.length cb] 46 ∧ wr.rowIs P 106 14 (fun j => .int .i64 (eStr A C j (strL cs (L0.take m) j || amongB (mg cs q).1 t j))) ∧ Below w.heap.size w wr) (fun _ s _ => (mg cs q).1.length - (intOf s).toNat)
            case atStart => exact ⟨0, rfl, Nat.zero_le _, HG.out, K1.out, HR.out.congr fun j _ => by simp [amongB], HB.out⟩
            case round =>
              clear HG K1 HR HB hsz hPl r0 c0 c1 c2 hc1 hb zb
              obtain ⟨t, rfl, htl, hG, hk1, hrow, hbel⟩ := hrel
              have HG := Lib.hid hG
              have K1 := Lib.hid hk1
              have HR := Lib.hid hrow
              have HB := Lib.hid hbel
              by_cases hlt2 : t < (mg cs q).1.length
              · obtain ⟨bu, ou, eu, hbu, hcu⟩ := (HX.out.below hbel) t hlt2
                obtain ⟨u, hu', hult⟩ := HGG.out.ups.mem hq (mem_ix.2 ⟨t, hlt2, rfl⟩)
                rw [hu'] at hcu
                have HU := Lib.hid hu'
                have hfz := hrow.frozen u
                have hdu := hrow.cell (i := u) (by omega)
                have hor := eStr_or A C u (strL cs (L0.take m) u || amongB (mg cs q).1 t u)
                have q3 : (0 : Int) ≤ (u : Int) := by omega
                have q4 : (u : Int) < 14 := by omega
                subst eu
                clear hG hk1 hrow hbel hu'
                go_wp2
                go_roundw
                case rel => exact ⟨t + 1, by go_num, by omega, HG.out.set (by simp) _, K1.out.setOther _ _ (by have := HN.out; omega), (HR.out.set u _).congr fun j _ => (by rw [amongB_step hlt2 HU.out j]; by_cases e : j = u <;> simp [e]), HB.out.setCell (Nat.le_of_lt HN.out) _⟩
                case measure => simp [intOf]; omega
              · obtain rfl : t = (mg cs q).1.length := by omega
                clear hG hk1 hrow hbel
                go_wp2
                go_roundw
                case rel => exact ⟨m + 1, by omega, by go_num, HG.out, K1.out, HR.out.congr fun j _ => by rw [strL_step hlt EQ.out], HB.out⟩
                case measure => simp [intOf]; omega
          · obtain rfl : m = L0.length := by omega
            obtain ⟨p3, hp3⟩ : ∃ p : Nat → Int, p = fun j => eStr A C j (strL cs L0 j) := ⟨_, rfl⟩
            have R3 : wr.rowIs P 106 14 (fun j => .int .i64 (p3 j)) := hrow.congr fun j _ => by rw [List.take_length, hp3]
            have G3 := Lib.hid (pvals_range R3)
            have HP3 := Lib.hid hp3
            clear hG hk1 hrow hbel R3 hp3
            go_wp2_with (refine wpList_load_mid (by rfl) 106 _ (by rfl) P 0 (by rfl) (pvals p3) _ G3.out hu (by rfl) (info_paints2 p3) ?_)
            refine (paintedJust_any p3 3 _).mono ?_
            rintro e w8 ⟨⟨v, rfl, hG⟩, hb8⟩
            have EB : ∀ j, decide (p3 j = 3) = lastB cs (bothB cs x y) j := fun j => by
              rw [HP3.out, eStr_is, HL0.out, strL_past hcl, EA.out, EC.out]
              rfl
            rw [pastL_congr fun j _ => EB j, ← HP.out] at hG
            have B8 : Hid (Below w.heap.size w w8) := HB.out.trans (hb8.mono hsz)
            have G8 := Lib.hid (hG.low (lo' := w.heap.size) (by omega))
            clear hG hb8 EB
            go_wp2
            go_ret
            exact ⟨⟨_, rfl, G8.out⟩, B8.out⟩
      · rw [decide_eq_false hq]
        have HP := Lib.hid (basesV_bad (cs := cs) (hs := hs) (x := x) (y := y) fun h => hq h.2.2)
        clear hp hg hz hq c0 c1
        go_wp2
        go_ret
        exact ⟨⟨_, rfl, by rw [HP.out]; exact GrowI.nil B1.out.size⟩, B1.out⟩
    · rw [decide_eq_false hp]
      have HP := Lib.hid (basesV_bad (cs := cs) (hs := hs) (x := x) (y := y) fun h => hp h.2.1)
      clear hp hg hz c0 c1
      go_wp2
      go_ret
      exact ⟨⟨_, rfl, by rw [HP.out]; exact GrowI.nil B1.out.size⟩, B1.out⟩
  · rw [repoOk_false hg]
    have HP := Lib.hid (basesV_bad (cs := cs) (hs := hs) (x := x) (y := y) fun h => hg h.1)
    clear hg hz
    go_wp2
    go_ret
    exact ⟨⟨_, rfl, by rw [HP.out]; exact GrowI.nil B1.out.size⟩, B1.out⟩
end Go.Proofs.YtdfadpejddhbkaaGreat

namespace Go.Proofs.YtdfadpejddhbkaaGreat
set_option linter.unusedVariables false
open Go.ChangeShapes Go.WideShapes Go.ChangeAt Go.RowKit

/-- the version that two were made of -/
noncomputable def baseV (cs : List Cm) (hs : List Hd) (x y : Int) : Int := if (basesV cs hs x y).length = 0 then -1 else ix (basesV cs hs x y) 0

set_option maxRecDepth 100000 in
set_option maxHeartbeats 2000000 in
theorem specJoinBase_any (a b : Option Addr) (ca cb : Nat) (cs : List Cm) (hs : List Hd) (x y : Int) (w : World) (hr : RepoAt w a b cs hs) (hl : RpLen cs hs 1048576) :
    Calls Tryz.prog 37 #[.agg #[.slice a cs.length ca, .slice b hs.length cb], .int .i64 x, .int .i64 y] w fun e w' => e = .returned (.int .i64 (baseV cs hs x y)) ∧ Below w.heap.size w w' := by
  have HR := Lib.hid hr
  have HL := Lib.hid hl
  clear hr hl
  have A1 : Hid (∀ o, Below w.heap.size w (w.alloc o)) := fun o => (Below.refl _ _).alloc (Nat.le_refl _) _
  go_enter Tryz.func37, Tryz.ntmps37
  go_wp2_with fail
  refine (specRepoBases_any _ _ _ _ cs hs x y _ (HR.out.below (A1.out _)) HL.out).mono ?_
  rintro e w1 ⟨⟨v, rfl, hG⟩, hb1⟩
  obtain ⟨av, cv, rfl, hcv, hI⟩ := hG.form
  have B1 : Hid (Below w.heap.size w w1) := (A1.out _).trans (hb1.mono (by simp))
  clear hb1 hG
  have HLn := Lib.hid (basesV_len cs hs x y)
  have HE : Hid (baseV cs hs x y = if (basesV cs hs x y).length = 0 then -1 else ix (basesV cs hs x y) 0) := rfl
  generalize basesV cs hs x y = L at *
  by_cases h0 : L.length = 0
  · have HE2 : Hid (baseV cs hs x y = -1) := by rw [Hid, HE.out, if_pos h0]
    have hb : ((L.length : Int) == 0) = true := by rw [h0]; rfl
    clear h0 HE hI
    go_wp2
    go_ret
    exact ⟨by rw [HE2.out]; rfl, B1.out⟩
  · have HE2 : Hid (baseV cs hs x y = ix L 0) := by rw [Hid, HE.out, if_neg h0]
    have hb : ((L.length : Int) == 0) = false := by simp only [beq_eq_false_iff_ne, ne_eq]; omega
    have h1 : 0 < L.length := by omega
    obtain ⟨b', off, rfl, hlt, hc⟩ := hI 0 h1
    rw [Nat.add_zero] at hc
    clear h0 HE hI
    go_wp2
    go_ret
    exact ⟨by rw [HE2.out]; rfl, B1.out⟩

set_option maxRecDepth 100000 in
set_option maxHeartbeats 2000000 in
theorem implJoinBase_any (a b : Option Addr) (ca cb : Nat) (cs : List Cm) (hs : List Hd) (x y : Int) (w : World) (hr : RepoAt w a b cs hs) (hl : RpLen cs hs 1048576) (hca : cs.length ≤ ca) :
    Calls Tryz.prog 36 #[.agg #[.slice a cs.length ca, .slice b hs.length cb], .int .i64 x, .int .i64 y] w fun e w' => e = .returned (.int .i64 (baseV cs hs x y)) ∧ Below w.heap.size w w' := by
  have HR := Lib.hid hr
  have HL := Lib.hid hl
  clear hr hl
  have A1 : Hid (∀ o, Below w.heap.size w (w.alloc o)) := fun o => (Below.refl _ _).alloc (Nat.le_refl _) _
  go_enter Tryz.func36, Tryz.ntmps36
  go_wp2_with fail
  refine (implRepoBases_any _ _ _ _ cs hs x y _ (HR.out.below (A1.out _)) HL.out hca).mono ?_
  rintro e w1 ⟨⟨v, rfl, hG⟩, hb1⟩
  obtain ⟨av, cv, rfl, hcv, hI⟩ := hG.form
  have B1 : Hid (Below w.heap.size w w1) := (A1.out _).trans (hb1.mono (by simp))
  clear hb1 hG
  have HLn := Lib.hid (basesV_len cs hs x y)
  have HE : Hid (baseV cs hs x y = if (basesV cs hs x y).length = 0 then -1 else ix (basesV cs hs x y) 0) := rfl
  generalize basesV cs hs x y = L at *
  by_cases h0 : L.length = 0
  · have HE2 : Hid (baseV cs hs x y = -1) := by rw [Hid, HE.out, if_pos h0]
    have hb : ((L.length : Int) == 0) = true := by rw [h0]; rfl
    clear h0 HE hI
    go_wp2
    go_ret
    exact ⟨by rw [HE2.out]; rfl, B1.out⟩
  · have HE2 : Hid (baseV cs hs x y = ix L 0) := by rw [Hid, HE.out, if_neg h0]
    have hb : ((L.length : Int) == 0) = false := by simp only [beq_eq_false_iff_ne, ne_eq]; omega
    have h1 : 0 < L.length := by omega
    obtain ⟨b', off, rfl, hlt, hc⟩ := hI 0 h1
    rw [Nat.add_zero] at hc
    clear h0 HE hI
    go_wp2
    go_ret
    exact ⟨by rw [HE2.out]; rfl, B1.out⟩
end Go.Proofs.YtdfadpejddhbkaaGreat
