/- Proved here: the last versions that are ahead of both of two, by the model; rooms of at most 14 versions. Proved here: the last versions that are ahead of both of two, by the program; rooms of at most 14 versions. Proved here: the text of a mark is one and the same wherever it is written; marks of at most 8,388,608. Proved here: marking tags writes the marks into their own row and nothing else, and asking for the marks finds them; rows of at most 1,048,576 tags that may be written. Proved here: marking a thing writes the marks into its own two rows and nothing else, and asking for the marks finds them; rows of at most 1,048,576 points and tags that may be written and lie apart. Proved here: the library's Clone of points and the model's copy of a shape: a row of its own with the same points; rows of 1 to 1,048,576 points. Proved here: the model's copy of a thing is that thing in memory of its own; things with at least one point and one tag, at most 1,048,576 of each. Proved here: a thing put among things, as the model goes through them, in a row of its own; a thing appended to such a row; lists of at most 1,048,576 things. Proved here: a list of things whose parts lie apart is marked thing by thing, each part with marks of its own, and nothing else is turned; lists of at most 1,048,576 things, points and tags. -/
import Derived.Test.YtdchfologicbeaaGreatMBa1
import Derived.Test.YtdchfologicbeaaGreatWBK
import Derived.Lib.LazyBuf
import Derived.Test.YtdchfologicbeaaGreatWTag
import Derived.Laws.BytesArg
import Derived.Laws.Concat
import Derived.Test.YtdchfologicbeaaGreatWMark
import Derived.Deep.RegionHeld3
import Derived.Deep.DeepCutAuto
import Derived.Test.YtdchfologicbeaaGreatWFeat
import Derived.Test.YtdchfologicbeaaGreatWBack
import Derived.Test.YtdchfologicbeaaGreatWBox4
import Derived.BigRegion
import Derived.StillTailTactics
import Derived.Deep.SlicePairs
import Derived.Test.YtdchfologicbeaaGreatWInOrder
import Derived.Test.YtdchfologicbeaaGreatWSheet
import Derived.Test.YtdchfologicbeaaGreatWSheetOk
import Derived.Deep.AppendLies
import Derived.Deep.QuietTactic
import Derived.BigQuiet
namespace Go.Proofs.YtdchfologicbeaaGreat
set_option linter.unusedVariables false
open Go.ChangeShapes Go.WideShapes Go.ChangeAt Go.RowKit

/-- a store into another block does not touch it -/
theorem GrowI.setNe {lo : Nat} {w : World} {is : List Int} {v : Value} (h : GrowI lo is w v) {p : Addr} (hp : ∀ g, v.ownBlock = some g → ¬ g = p.block) (u : Value) : GrowI lo is (w.setCell p u) v := by
  refine ⟨?_, by simpa [World.setCell] using h.le⟩
  obtain ⟨h1, h2 | ⟨g, cap, cur, rfl, hb', hg, rest⟩⟩ := h.own
  · exact ⟨h1, .inl h2⟩
  · exact ⟨h1, .inr ⟨g, cap, cur, rfl, hb', (Below.heap_setCell _ _ _ _ (fun e => hp g rfl (by omega))).trans hg, rest⟩⟩

set_option maxRecDepth 100000 in
set_option maxHeartbeats 8000000 in
theorem specRepoBases_any (a b : Option Addr) (ca cb : Nat) (cs : List Cm) (hs : List Hd) (x y : Int) (w : World) (hr : RepoAt w a b cs hs) (hl : RpLen cs hs 1048576) :
    Calls Tryz.prog 54 #[.agg #[.slice a cs.length ca, .slice b hs.length cb], .int .i64 x, .int .i64 y] w fun e w' => (∃ v, e = .returned v ∧ GrowI w.heap.size (basesV cs hs x y) w' v) ∧ Below w.heap.size w w' := by
  obtain ⟨i0, hi, hz0, hz1, hz2⟩ := info_parts infoBool
  have hmk : ∀ u : World, cs.length ≤ 1048576 → (Instr.makeSlice 157 (.int .i64 (cs.length : Int)) (.int .i64 (cs.length : Int))).run Tryz.prog u =
      .ok (.slice (some ⟨u.heap.size, 0, none⟩) cs.length cs.length) (u.alloc (.cells (madeCells #[.bool false] cs.length) 4)) := fun u hn => by
    have h := run_make (P := Tryz.prog) u 157 4 i0 (.bool false) Tryz.underlying157 hi hz0 .i64 .i64 (cs.length : Int) (cs.length : Int) (by omega) (Int.le_refl _) (by rw [hz2]; omega) (by omega)
    simpa [hz1, Value.cells] using h
  have HMK := Lib.hid hmk
  clear hz0 hz1 hz2 hi hmk
  have HR := Lib.hid hr
  have HL := Lib.hid hl
  clear hr hl
  have A1 : Hid (∀ o o', Below w.heap.size w ((w.alloc o).alloc o')) := fun o o' => ((Below.refl _ _).alloc (Nat.le_refl _) _).alloc (by simp) _
  have G0 : Hid (GrowI w.heap.size [] ((w.alloc (.cells #[.slice a cs.length ca, .slice b hs.length cb] 62)).alloc (.cells #[] 3)) (.slice (some ⟨w.heap.size + 1, 0, none⟩) 0 0)) := by
    have := World.ownsRow_made (w.alloc (.cells #[.slice a cs.length ca, .slice b hs.length cb] 62)) #[] 0 (base := w.heap.size) (e := 3) (size := 1) (by simp) (by unfold maxLen; omega) rfl
    rw [World.size_alloc] at this
    exact ⟨this, by simp; omega⟩
  have Z0 : Hid (BK ((w.alloc (.cells #[.slice a cs.length ca, .slice b hs.length cb] 62)).alloc (.cells #[] 3)) w.heap.size #[.slice a cs.length ca, .slice b hs.length cb] 62) := (BK.new _ _ _).alloc _
  go_enter Tryz.func54, Tryz.ntmps54
  go_wp2_with fail
  refine (l7In_any _ _ _ _ _ _ _ _ (HR.out.below (A1.out _ _)) HL.out).mono ?_
  rintro e w1 ⟨rfl, hb1⟩
  replace Z0 := Lib.hid (Z0.out.later hb1)
  have B1 : Hid (Below w.heap.size w w1) := (A1.out _ _).trans (hb1.mono (by simp; omega))
  have G1 := Lib.hid (G0.out.below hb1)
  clear hb1 G0
  cases hx : inB cs hs x
  · have HE : Hid (basesV cs hs x y = []) := basesV_bad fun h => by simp [inB, h] at hx
    clear hx
    go_wp2
    go_ret
    exact ⟨⟨_, rfl, by rw [HE.out]; exact G1.out⟩, B1.out⟩
  · have HX := Lib.hid hx
    clear hx
    have c0 := Z0.out.cell 0 rfl
    have c1 := Z0.out.cell 1 rfl
    go_wp2_with fail
    clear c0 c1
    refine (l7In_any _ _ _ _ _ _ _ _ (HR.out.below B1.out) HL.out).mono ?_
    rintro e w2 ⟨rfl, hb2⟩
    replace Z0 := Lib.hid (Z0.out.later hb2)
    replace G1 := Lib.hid (G1.out.below hb2)
    have B2 : Hid (Below w.heap.size w w2) := B1.out.trans (hb2.mono B1.out.size)
    clear hb2 B1
    cases hy : inB cs hs y
    · have HE : Hid (basesV cs hs x y = []) := basesV_bad fun h => by simp [inB, h] at hy
      clear hy
      go_wp2
      go_ret
      exact ⟨⟨_, rfl, by rw [HE.out]; exact G1.out⟩, B2.out⟩
    · have hX := HX.out
      simp only [inB, decide_eq_true_iff] at hX hy
      have HGG := Lib.hid hX.1
      obtain ⟨x, rfl⟩ : ∃ k : Nat, x = k := ⟨x.toNat, by omega⟩
      obtain ⟨y, rfl⟩ : ∃ k : Nat, y = k := ⟨y.toNat, by omega⟩
      have hxl : x < cs.length := by omega
      have hyl : y < cs.length := by omega
      have HE := Lib.hid (basesV_few HGG.out hxl hyl)
      have z1 : w.heap.size + 1 < w2.heap.size := (G1.out.own.lt (w.heap.size + 1) rfl).2
      clear hX hy HX
      have A2 : Hid (Below w2.heap.size w2 (w2.alloc (.cells #[.int .i64 (x : Int)] 3))) := (Below.refl _ _).alloc (Nat.le_refl _) _
      have c0 := Z0.out.cell 0 rfl
      have c1 := Z0.out.cell 1 rfl
      go_wp2_with fail
      clear c0 c1
      refine (l7Marks_any _ _ _ _ _ _ _ cs [(x : Int)] _ (HR.out.cms.below (B2.out.trans (A2.out.mono B2.out.size))) HGG.out.ups HGG.out.c2 HL.out.cms (int_one _ _ _) (by simp) (fun z hz => ⟨x, by simpa using hz, hxl⟩)).mono ?_
      rintro e w3 ⟨p1, rfl, hrow1, hp1, hb3⟩
      have hb23 : Below w2.heap.size w2 w3 := A2.out.trans (hb3.mono (by simp))
      have hz2 := B2.out.size
      have B3 : Hid (Below w.heap.size w w3) := B2.out.trans (hb23.mono hz2)
      replace Z0 := Lib.hid (Z0.out.later hb23)
      replace G1 := Lib.hid (G1.out.below hb23)
      have R1 : Hid (w3.rowIs p1 4 cs.length (fun j => .bool (aheadB cs x j))) := hrow1.congr fun j _ => by rw [marks_one]
      simp at hp1
      have hz23 := hb23.size
      clear hb3 hb23 hrow1 A2 B2
      have A2 : Hid (Below w3.heap.size w3 (w3.alloc (.cells #[.int .i64 (y : Int)] 3))) := (Below.refl _ _).alloc (Nat.le_refl _) _
      have c0 := Z0.out.cell 0 rfl
      have c1 := Z0.out.cell 1 rfl
      go_wp2_with fail
      clear c0 c1
      refine (l7Marks_any _ _ _ _ _ _ _ cs [(y : Int)] _ (HR.out.cms.below (B3.out.trans (A2.out.mono B3.out.size))) HGG.out.ups HGG.out.c2 HL.out.cms (int_one _ _ _) (by simp) (fun z hz => ⟨y, by simpa using hz, hyl⟩)).mono ?_
      rintro e w4 ⟨p2, rfl, hrow2, hp2, hb4⟩
      have hb34 : Below w3.heap.size w3 w4 := A2.out.trans (hb4.mono (by simp))
      have hz3 := B3.out.size
      have B4 : Hid (Below w.heap.size w w4) := B3.out.trans (hb34.mono hz3)
      replace Z0 := Lib.hid (Z0.out.later hb34)
      replace G1 := Lib.hid (G1.out.below hb34)
      have hl1 := R1.out.lt
      replace R1 := Lib.hid (R1.out.of_block (hb34.block _ R1.out.lt))
      have R2 : Hid (w4.rowIs p2 4 cs.length (fun j => .bool (aheadB cs y j))) := hrow2.congr fun j _ => by rw [marks_one]
      simp at hp2
      have hz34 := hb34.size
      have hl2 := R2.out.lt
      clear hb4 hb34 hrow2 A2 B3
      obtain ⟨B, hB⟩ : ∃ B, B = bothB cs x y := ⟨_, rfl⟩
      rw [← hB] at HE
      have EB : Hid (∀ j, B j = (aheadB cs x j && aheadB cs y j)) := fun j => by rw [hB]; rfl
      clear hB
      obtain ⟨L, hL⟩ : ∃ L, L = pastL (lastB cs B) cs.length := ⟨_, rfl⟩
      rw [← hL] at HE
      have LL := Lib.hid hL
      have hlen : L.length ≤ 14 := by rw [hL]; have := pastL_len (lastB cs B) cs.length; have := HGG.out.c2; omega
      clear hL
      have hcl := HGG.out.c2
      have HC := Lib.hid HR.out.cms
      have hmk := fun u => HMK.out u (by omega)
      have c0 := Z0.out.cell 0 rfl
      have c9 := (Z0.out.alloc (.cells (madeCells #[.bool false] cs.length) 4)).cell 0 rfl
      have ow : Hid (∀ g, (Value.slice (some ⟨w.heap.size + 1, 0, none⟩) 0 0).ownBlock = some g → ¬ g = w.heap.size ∧ ¬ g = p1 ∧ ¬ g = p2 ∧ ¬ g = w4.heap.size) := fun g hg => by
        have hg' : g = w.heap.size + 1 := by cases hg; rfl
        exact ⟨by omega, by omega, by omega, by omega⟩
      have R3 : Hid ((w4.alloc (.cells (madeCells #[.bool false] cs.length) 4)).rowIs w4.heap.size 4 cs.length (fun j => .bool (struckB cs B cs.length j))) := by
        have := World.rowIs_made w4 (.bool false) cs.length 4
        exact this.congr fun j _ => by rw [struck_none]
      go_wp2
      clear hmk c0 c9
      generalize hp3 : w4.heap.size = p3
      go_loopw [7, 11, 12] (fun s7 i _ wr => ∃ (q : Nat) (acc : List Int), q ≤ cs.length ∧ i = .int .i64 ((q : Int) - 1) ∧ acc ++ pastL (lastB cs B) q = L ∧ GrowI w.heap.size acc wr s7 ∧ (∀ g, s7.ownBlock = some g → ¬ g = w.heap.size ∧ ¬ g = p1 ∧ ¬ g = p2 ∧ ¬ g = p3) ∧ BK wr w.heap.size #[.slice a cs.length ca, .slice b hs.length cb] 62 ∧ wr.rowIs p1 4 cs.length (fun j => .bool (aheadB cs x j)) ∧ wr.rowIs p2 4 cs.length (fun j => .bool (aheadB cs y j)) ∧ wr.rowIs p3 4 cs.length (fun j => .bool (struckB cs B q j)) ∧ Below w.heap.size w wr) (fun _ i _ _ => (intOf i + 1).toNat)
      case atStart =>
        subst hp3
        exact ⟨cs.length, [], Nat.le_refl _, rfl, LL.out.symm, G1.out.below ((Below.refl _ _).alloc (Nat.le_refl _) _), ow.out, Z0.out.alloc _, R1.out.alloc _, R2.out.alloc _, R3.out, B4.out.alloc B4.out.size _⟩
      case round =>
        have n1 : ¬ (p3 = w.heap.size) := by omega
        have n2 : ¬ (p3 = p1) := by omega
        have n3 : ¬ (p3 = p2) := by omega
        have n4 : w.heap.size ≤ p3 := by omega
        clear G1 ow Z0 R1 R2 R3 B4 HR HMK hp3 z1 hl1 hl2 hz2 hz23 hz34 hz3 hp1 hp2
        obtain ⟨q, acc, hq, rfl, hacc, hG, hown, hk1, hr1, hr2, hr3, hbel⟩ := hrel
        have HG := Lib.hid hG
        have K0 := Lib.hid hk1
        have H1 := Lib.hid hr1
        have H2 := Lib.hid hr2
        have H3 := Lib.hid hr3
        have HB0 := Lib.hid hbel
        have HA := Lib.hid hacc
        have HO := Lib.hid hown
        have hsz0 := hbel.size
        obtain ⟨av, cv, rfl, hcv, _⟩ := hG.form
        rcases q with _ | i
        · simp only [Int.natCast_zero, Int.zero_sub]
          have h1 : decide ((0 : Int) ≤ -1) = false := by decide
          have e : Hid (acc = L) := by rw [Hid, ← hacc]; simp [pastL]
          clear hacc hG hr1 hr2 hr3 hbel hown hk1
          go_wp2
          go_ret
          exact ⟨⟨_, rfl, by rw [HE.out, ← e.out]; exact HG.out⟩, HB0.out⟩
        · have e1 : ((i + 1 : Nat) : Int) - 1 = (i : Int) := by omega
          rw [e1]
          clear e1
          have hin : i < cs.length := by omega
          have d1 := hr1.cell (i := i) hin
          have d2 := hr2.cell (i := i) hin
          have d3 := hr3.cell (i := i) hin
          rw [struck_here HGG.out.ups] at d3
          have q0 : (0 : Int) ≤ (i : Int) := by omega
          have q1 : (i : Int) < (cs.length : Int) := by omega
          have hla : acc.length ≤ 14 := by have : acc.length ≤ L.length := by rw [← hacc, List.length_append]; omega
                                           omega
          have EBI := Lib.hid (EB.out i)
          clear hacc hG hr1 hr2 hr3 hbel hown hk1
          cases hx : aheadB cs x i
          · rw [hx] at d1
            have HBI : Hid (B i = false) := by rw [Hid, EBI.out, hx]; rfl
            clear hx
            go_wp2
            go_roundw
            case rel => exact ⟨i, acc, by omega, rfl, by rw [← HA.out]; simp [pastL, lastB, HBI.out], HG.out, HO.out, K0.out, H1.out, H2.out, H3.out.congr fun j _ => by rw [struck_skip HBI.out], HB0.out⟩
            case measure => simp [intOf]
          · rw [hx] at d1
            cases hy : aheadB cs y i
            · rw [hy] at d2
              have HBI : Hid (B i = false) := by rw [Hid, EBI.out, hx, hy]; rfl
              clear hx hy
              go_wp2
              go_roundw
              case rel => exact ⟨i, acc, by omega, rfl, by rw [← HA.out]; simp [pastL, lastB, HBI.out], HG.out, HO.out, K0.out, H1.out, H2.out, H3.out.congr fun j _ => by rw [struck_skip HBI.out], HB0.out⟩
              case measure => simp [intOf]
            · rw [hy] at d2
              have HBI : Hid (B i = true) := by rw [Hid, EBI.out, hx, hy]; rfl
              clear hx hy
              cases hd : struckB cs B 0 i
              · rw [hd] at d3
                have HD := Lib.hid hd
                clear hd
                have AL : Hid (Below wr.heap.size wr (wr.alloc (.cells #[.int .i64 (i : Int)] 3))) := (Below.refl _ _).alloc (Nat.le_refl _) _
                go_wp2_with (at_builtin; refine wpList_moreJ (by rfl) _ _ (by rfl) (HG.out.below AL.out) (int_one _ _ _) (by rfl) (by rfl) (by simp; omega) ?_; intro r a2 c2 W2 hr hgrow hG2 hat; have R := Lib.hid hr; have HGR := Lib.hid hgrow; have HG2 := Lib.hid hG2; have HAT := Lib.hid hat.out; clear hr hgrow hG2 hat)
                have hblk := (HG.out.below AL.out).block
                have hz0 := H3.out.lt
                have hz1 := H1.out.lt
                have hz2 := H2.out.lt
                have hzk := K0.out.lt
                have K2 : Hid (BK W2 w.heap.size #[.slice a cs.length ca, .slice b hs.length cb] 62) := (HGR.out.block _ (by simp; omega) fun e => (HO.out _ e.symm).1 rfl).trans (K0.out.alloc _)
                have R1 := Lib.hid ((H1.out.alloc _).of_block (HGR.out.block _ (by simp; omega) fun e => (HO.out _ e.symm).2.1 rfl))
                have R2 := Lib.hid ((H2.out.alloc _).of_block (HGR.out.block _ (by simp; omega) fun e => (HO.out _ e.symm).2.2.1 rfl))
                have R3 := Lib.hid ((H3.out.alloc _).of_block (HGR.out.block _ (by simp; omega) fun e => (HO.out _ e.symm).2.2.2 rfl))
                have B2 : Hid (Below w.heap.size w W2) := (HB0.out.alloc hsz0 _).grown HGR.out (by simp; omega) fun j hj => hblk j hj
                have O2 : Hid (∀ g, (Value.slice a2 r.length c2).ownBlock = some g → ¬ g = w.heap.size ∧ ¬ g = p1 ∧ ¬ g = p2 ∧ ¬ g = p3) := fun g hg => by
                  rcases HAT.out g hg with h1 | h1
                  · exact HO.out g h1
                  · simp at h1
                    exact ⟨by omega, by omega, by omega, by omega⟩
                have A2 : Hid (r ++ pastL (lastB cs B) i = L) := by rw [Hid, R.out, ← HA.out]; simp [pastL, lastB, HBI.out, HD.out]
                go_wp2
                go_loopw [12] (fun s wr => ∃ t : Nat, s = .int .i64 t ∧ t ≤ (mg cs i).1.length ∧ BK wr w.heap.size #[.slice a cs.length ca, .slice b hs.length cb] 62 ∧ GrowI w.heap.size r wr (.slice a2 r.length c2) ∧ wr.rowIs p1 4 cs.length (fun j => .bool (aheadB cs x j)) ∧ wr.rowIs p2 4 cs.length (fun j => .bool (aheadB cs y j)) ∧ wr.rowIs p3 4 cs.length (fun j => .bool (struckB cs B (i + 1) j || amongB (mg cs i).1 t j)) ∧ Below w.heap.size w wr) (fun s _ => (mg cs i).1.length - (intOf s).toNat)
                case atStart => exact ⟨0, rfl, Nat.zero_le _, K2.out, HG2.out, R1.out, R2.out, R3.out.congr fun j _ => by simp [amongB], B2.out⟩
                case round =>
                  clear HG2 K2 R1 R2 R3 B2 HG K0 H1 H2 H3 HB0 HO hsz0 AL hblk
                  obtain ⟨t, rfl, htl, hk1, hG, hr1, hr2, hr3, hbel⟩ := hrel
                  have K1 := Lib.hid hk1
                  have HG2 := Lib.hid hG
                  have HR1 := Lib.hid hr1
                  have HR2 := Lib.hid hr2
                  have HR3 := Lib.hid hr3
                  have HB := Lib.hid hbel
                  have hsz := hbel.size
                  have r0 := hk1.cell 0 rfl
                  obtain ⟨bc, oc, ua, uc, sa, sc, e', hx⟩ := HC.out i hin
                  obtain ⟨zb, c0, c1, c2, hii, hff⟩ := hx.below hbel
                  have ne1 : ¬ (bc = p3) := by have := hx.lt; omega
                  have ne2 : ¬ (p3 = bc) := by omega
                  have q2 : (mg cs i).1.length ≤ 2 := (HGG.out.ups i hin).2.1
                  subst e'
                  by_cases hlt : t < (mg cs i).1.length
                  · obtain ⟨bu, ou, eu, hbu, hcu⟩ := hii t hlt
                    obtain ⟨b2, o2, eu2, hbu2, _⟩ := hx.ints t hlt
                    obtain ⟨u, hu, hult⟩ := HGG.out.ups.mem hin (mem_ix.2 ⟨t, hlt, rfl⟩)
                    rw [hu] at hcu
                    obtain ⟨rfl, rfl⟩ : bu = b2 ∧ ou = o2 := by rw [eu] at eu2; simpa using eu2
                    subst eu
                    have ne3 : ¬ (bu = p3) := by omega
                    have ne4 : ¬ (p3 = bu) := by omega
                    have hfz := hr3.frozen u
                    have hdu := hr3.cell (i := u) (by omega)
                    have q3 : (0 : Int) ≤ (u : Int) := by omega
                    have q4 : (u : Int) < (cs.length : Int) := by omega
                    have HU := Lib.hid hu
                    clear hk1 hG hr1 hr2 hr3 hx hff hbel hii hu
                    go_wp2
                    go_roundw
                    case rel => exact ⟨t + 1, by go_num, by omega, K1.out.setOther _ _ (by omega), GrowI.setNe HG2.out (fun g hg => (O2.out g hg).2.2.2) _, HR1.out.setOther (fun e => n2 e.symm) _, HR2.out.setOther (fun e => n3 e.symm) _, (HR3.out.set u _).congr fun j _ => (by rw [amongB_step hlt HU.out j]; by_cases e : j = u <;> simp [e]), HB.out.setCell (by omega) _⟩
                    case measure => simp [intOf]; omega
                  · obtain rfl : t = (mg cs i).1.length := by omega
                    clear hk1 hG hr1 hr2 hr3 hx hff hbel hii
                    go_wp2
                    go_roundw
                    case rel => exact ⟨i, r, by omega, rfl, A2.out, HG2.out, O2.out, K1.out, HR1.out, HR2.out, HR3.out.congr fun j _ => by rw [struck_step HBI.out], HB.out⟩
                    case measure => simp [intOf]
              · rw [hd] at d3
                have HD := Lib.hid hd
                clear hd
                go_wp2
                go_loopw [12] (fun s wr => ∃ t : Nat, s = .int .i64 t ∧ t ≤ (mg cs i).1.length ∧ BK wr w.heap.size #[.slice a cs.length ca, .slice b hs.length cb] 62 ∧ GrowI w.heap.size acc wr (.slice av acc.length cv) ∧ wr.rowIs p1 4 cs.length (fun j => .bool (aheadB cs x j)) ∧ wr.rowIs p2 4 cs.length (fun j => .bool (aheadB cs y j)) ∧ wr.rowIs p3 4 cs.length (fun j => .bool (struckB cs B (i + 1) j || amongB (mg cs i).1 t j)) ∧ Below w.heap.size w wr) (fun s _ => (mg cs i).1.length - (intOf s).toNat)
                case atStart => exact ⟨0, rfl, Nat.zero_le _, K0.out, HG.out, H1.out, H2.out, H3.out.congr fun j _ => by simp [amongB], HB0.out⟩
                case round =>
                  clear HG K0 H1 H2 H3 HB0 hsz0
                  obtain ⟨t, rfl, htl, hk1, hG, hr1, hr2, hr3, hbel⟩ := hrel
                  have K1 := Lib.hid hk1
                  have HG2 := Lib.hid hG
                  have HR1 := Lib.hid hr1
                  have HR2 := Lib.hid hr2
                  have HR3 := Lib.hid hr3
                  have HB := Lib.hid hbel
                  have hsz := hbel.size
                  have r0 := hk1.cell 0 rfl
                  obtain ⟨bc, oc, ua, uc, sa, sc, e', hx⟩ := HC.out i hin
                  obtain ⟨zb, c0, c1, c2, hii, hff⟩ := hx.below hbel
                  have ne1 : ¬ (bc = p3) := by have := hx.lt; omega
                  have ne2 : ¬ (p3 = bc) := by omega
                  have q2 : (mg cs i).1.length ≤ 2 := (HGG.out.ups i hin).2.1
                  subst e'
                  by_cases hlt : t < (mg cs i).1.length
                  · obtain ⟨bu, ou, eu, hbu, hcu⟩ := hii t hlt
                    obtain ⟨b2, o2, eu2, hbu2, _⟩ := hx.ints t hlt
                    obtain ⟨u, hu, hult⟩ := HGG.out.ups.mem hin (mem_ix.2 ⟨t, hlt, rfl⟩)
                    rw [hu] at hcu
                    obtain ⟨rfl, rfl⟩ : bu = b2 ∧ ou = o2 := by rw [eu] at eu2; simpa using eu2
                    subst eu
                    have ne3 : ¬ (bu = p3) := by omega
                    have ne4 : ¬ (p3 = bu) := by omega
                    have hfz := hr3.frozen u
                    have hdu := hr3.cell (i := u) (by omega)
                    have q3 : (0 : Int) ≤ (u : Int) := by omega
                    have q4 : (u : Int) < (cs.length : Int) := by omega
                    have HU := Lib.hid hu
                    clear hk1 hG hr1 hr2 hr3 hx hff hbel hii hu
                    go_wp2
                    go_roundw
                    case rel => exact ⟨t + 1, by go_num, by omega, K1.out.setOther _ _ (by omega), GrowI.setNe HG2.out (fun g hg => (HO.out g hg).2.2.2) _, HR1.out.setOther (fun e => n2 e.symm) _, HR2.out.setOther (fun e => n3 e.symm) _, (HR3.out.set u _).congr fun j _ => (by rw [amongB_step hlt HU.out j]; by_cases e : j = u <;> simp [e]), HB.out.setCell (by omega) _⟩
                    case measure => simp [intOf]; omega
                  · obtain rfl : t = (mg cs i).1.length := by omega
                    clear hk1 hG hr1 hr2 hr3 hx hff hbel hii
                    go_wp2
                    go_roundw
                    case rel => exact ⟨i, acc, by omega, rfl, by rw [← HA.out]; simp [pastL, lastB, HBI.out, HD.out], HG2.out, HO.out, K1.out, HR1.out, HR2.out, HR3.out.congr fun j _ => by rw [struck_step HBI.out], HB.out⟩
                    case measure => simp [intOf]
end Go.Proofs.YtdchfologicbeaaGreat

namespace Go.Proofs.YtdchfologicbeaaGreat
set_option linter.unusedVariables false
open Go.ChangeShapes Go.WideShapes Go.ChangeAt Go.RowKit

theorem GrowI.low {lo lo' : Nat} {w : World} {is : List Int} {v : Value} (h : GrowI lo is w v) (hl : lo' ≤ lo) : GrowI lo' is w v := by
  obtain ⟨⟨h1, h2⟩, h3⟩ := h
  refine ⟨⟨h1, h2.imp id ?_⟩, by omega⟩
  rintro ⟨g, cap, cur, q1, q2, q3⟩
  exact ⟨g, cap, cur, q1, by omega, q3⟩

theorem pvals_set {w : World} {b : Nat} {t : TypeId} {p q : Nat → Int} (h : w.rowIs b t 14 (fun j => .int .i64 (p j))) : (w.setCells b 0 (pvals q)).rowIs b t 14 (fun j => .int .i64 (q j)) :=
  (rowIs_setCells (pvals q) 0 w _ h).congr fun j hj => by
    rw [pvals_len, if_pos ⟨Nat.zero_le _, by omega⟩, Nat.sub_zero, pvals_at q hj]
    rfl

/-- the colours of both, and then of those that are struck -/
def eTwo (A : Nat → Bool) (j : Nat) (s : Bool) : Int := cond s (cond (A j) 3 2) (cond (A j) 1 0)
def eStr (A C : Nat → Bool) (j : Nat) (s : Bool) : Int := cond s (cond (C j) (cond (A j) 7 6) (cond (A j) 5 4)) (eTwo A j (C j))

theorem eTwo_0 (A : Nat → Bool) (j : Nat) : bits .and .i64 (eTwo A j false) 2 = 0 := by unfold eTwo; cases A j <;> decide
theorem eTwo_1 (A : Nat → Bool) (j : Nat) : bits .and .i64 (eTwo A j true) 2 ≠ 0 := by unfold eTwo; cases A j <;> decide
theorem eTwo_2 (A : Nat → Bool) (j : Nat) : bits .or .i64 (eTwo A j false) 2 = eTwo A j true := by unfold eTwo; cases A j <;> decide
theorem eStr_or (A C : Nat → Bool) (j : Nat) (s : Bool) : bits .or .i64 (eStr A C j s) 4 = eStr A C j true := by unfold eStr eTwo; cases A j <;> cases C j <;> cases s <;> decide
theorem eTwo_is (A C : Nat → Bool) (j : Nat) : decide (eTwo A j (C j) = 3) = (A j && C j) := by unfold eTwo; cases A j <;> cases C j <;> decide
theorem eStr_is (A C : Nat → Bool) (j : Nat) (s : Bool) : decide (eStr A C j s = 3) = ((A j && C j) && !s) := by unfold eStr eTwo; cases A j <;> cases C j <;> cases s <;> decide

set_option maxRecDepth 100000 in
set_option maxHeartbeats 8000000 in
theorem implRepoBases_any (a b : Option Addr) (ca cb : Nat) (cs : List Cm) (hs : List Hd) (x y : Int) (w : World) (hr : RepoAt w a b cs hs) (hl : RpLen cs hs 1048576) (hca : cs.length ≤ ca) :
    Calls Tryz.prog 55 #[.agg #[.slice a cs.length ca, .slice b hs.length cb], .int .i64 x, .int .i64 y] w fun e w' => (∃ v, e = .returned v ∧ GrowI w.heap.size (basesV cs hs x y) w' v) ∧ Below w.heap.size w w' := by
  have HR := Lib.hid hr
  have HL := Lib.hid hl
  clear hr hl
  have A1 : Hid (∀ o, Below w.heap.size w (w.alloc o)) := fun o => (Below.refl _ _).alloc (Nat.le_refl _) _
  have hz := run_zeroPaints
  go_enter Tryz.func55, Tryz.ntmps55
  go_wp2_with fail
  refine (implRepoOk_any _ _ _ _ _ _ _ (HR.out.below (A1.out _)) HL.out hca).mono ?_
  rintro e w1 ⟨rfl, hb1⟩
  have Z0 : Hid (BK w1 w.heap.size #[.slice a cs.length ca, .slice b hs.length cb] 62) := (BK.new w _ _).later hb1
  have B1 : Hid (Below w.heap.size w w1) := (A1.out _).trans (hb1.mono (by simp))
  clear hb1
  by_cases hg : RepoGood cs hs
  · rw [repoOk_true hg]
    have c0 := Z0.out.cell 0 rfl
    have c1 := Z0.out.cell 1 rfl
    go_wp2_with fail
    refine (isPlace_any _ _ _).mono ?_
    rintro e w2 ⟨rfl, rfl⟩
    by_cases hp : 0 ≤ x ∧ x < cs.length
    · rw [decide_eq_true hp]
      go_wp2_with fail
      refine (isPlace_any _ _ _).mono ?_
      rintro e w2 ⟨rfl, rfl⟩
      by_cases hq : 0 ≤ y ∧ y < cs.length
      · rw [decide_eq_true hq]
        obtain ⟨x, rfl⟩ : ∃ k : Nat, x = k := ⟨x.toNat, by omega⟩
        obtain ⟨y, rfl⟩ : ∃ k : Nat, y = k := ⟨y.toNat, by omega⟩
        have hxl : x < cs.length := by omega
        have hyl : y < cs.length := by omega
        have HP := Lib.hid (basesV_ok hg hxl hyl)
        have HGG := Lib.hid hg
        clear hp hq hg
        go_wp2_with fail
        clear c0 c1
        refine (paintPast_any _ _ _ _ _ cs x 1 (fun _ s => cond s 1 0) (fun _ => false) _ (HR.out.cms.below B1.out) HGG.out.ups HGG.out.c2 HL.out.cms hxl (fun j h => by simp at h) (fun _ => and00) (fun _ => and11) (fun _ => or01)).mono ?_
        rintro e w3 ⟨rfl, hb3⟩
        have B3 : Hid (Below w.heap.size w w3) := B1.out.trans (hb3.mono B1.out.size)
        replace Z0 := Lib.hid (Z0.out.later hb3)
        clear hb3 B1
        obtain ⟨A, hA⟩ : ∃ A, A = aheadB cs x := ⟨_, rfl⟩
        rw [← hA]
        have EA := Lib.hid hA
        clear hA
        obtain ⟨p1, hp1⟩ : ∃ p : Nat → Int, p = fun j => eTwo A j false := ⟨_, rfl⟩
        have hq1 : (fun j => bif A j then (1 : Int) else 0) = p1 := by rw [hp1]; rfl
        rw [show (fun j => bif (false || A j) then (1 : Int) else 0) = p1 from hq1]
        have HP1 := Lib.hid hp1
        clear hq1 hp1
        obtain ⟨W4, hW4⟩ : ∃ W4, W4 = (w3.alloc (.cells (pvals fun _ => 0).toArray 163)).setCells w3.heap.size 0 (pvals p1) := ⟨_, rfl⟩
        have T3 : Hid ((w3.alloc (.cells (pvals fun _ => 0).toArray 163)).there w3.heap.size 0 (pvals p1).toArray.size) := by simpa [Hid, pvals_len] using pvals_there rfl (pvals_row w3 (fun _ => 0) 163)
        have R4 : Hid (W4.rowIs w3.heap.size 163 14 (fun j => .int .i64 (p1 j))) := by rw [hW4]; exact pvals_set (pvals_row w3 (fun _ => 0) _)
        have BW : Below w3.heap.size w3 W4 := by rw [hW4]; exact below_setCells _ (Nat.le_refl _) _ _ _ ((Below.refl _ _).alloc (Nat.le_refl _) _)
        have B4 : Hid (Below w.heap.size w W4) := B3.out.trans (BW.mono B3.out.size)
        have Z4 := Lib.hid (Z0.out.later BW)
        clear BW
        have HW4 := Lib.hid hW4
        have h3z := B3.out.size
        obtain ⟨P, hP⟩ : ∃ P, P = w3.heap.size := ⟨_, rfl⟩
        have hP3 := Lib.hid hP
        have HN : Hid (w.heap.size < P) := by rw [Hid, hP]; exact Z0.out.lt
        rw [← hP] at R4
        have G4 := Lib.hid (pvals_range R4.out)
        have hu := Tryz.underlying163
        have c0 := Z4.out.cell 0 rfl
        have c1 := Z4.out.cell 1 rfl
        clear hW4 hP Z0 B3
        go_wp2_with (first | (refine wpList_load_mid (by rfl) 163 _ (by rfl) P 0 (by rfl) (pvals p1) _ G4.out hu (by rfl) (info_paints2 p1) ?_) | (refine wpList_store_mid (by rfl) 163 _ _ (by rfl) w3.heap.size 0 (pvals p1).toArray (by rfl) (by rfl) T3.out (by simpa using info_paints2 p1) (pvals_one p1) ?_; change wpList _ _ _ _ _ ((w3.alloc (.cells (pvals fun _ => 0).toArray 163)).setCells w3.heap.size 0 (pvals p1)); rw [← HW4.out, ← hP3.out]))
        clear c0 c1 G4 T3 HW4 hP3
        obtain rfl := HP1.out
        refine (paintPast_any _ _ _ _ _ cs y 2 (eTwo A) (fun _ => false) _ (HR.out.cms.below B4.out) HGG.out.ups HGG.out.c2 HL.out.cms hyl (fun j h => by simp at h) (eTwo_0 A) (eTwo_1 A) (eTwo_2 A)).mono ?_
        rintro e w5 ⟨rfl, hb5⟩
        obtain ⟨C, hC⟩ : ∃ C, C = aheadB cs y := ⟨_, rfl⟩
        rw [← hC]
        have EC := Lib.hid hC
        have B5 : Hid (Below w.heap.size w w5) := B4.out.trans (hb5.mono B4.out.size)
        have Z5 := Lib.hid (Z4.out.later hb5)
        have R5 := Lib.hid (R4.out.of_block (hb5.block _ R4.out.lt))
        clear hb5 hC Z4 R4 B4
        obtain ⟨p2, hp2⟩ : ∃ p : Nat → Int, p = fun j => eTwo A j (C j) := ⟨_, rfl⟩
        rw [show (fun j => eTwo A j (false || C j)) = p2 by rw [hp2]; rfl]
        have HP2 := Lib.hid hp2
        obtain ⟨W6, hW6⟩ : ∃ W6, W6 = w5.setCells P 0 (pvals p2) := ⟨_, rfl⟩
        have T5 : Hid (w5.there P 0 (pvals p2).toArray.size) := by simpa [Hid, pvals_len] using pvals_there rfl R5.out
        have R6 : Hid (W6.rowIs P 163 14 (fun j => .int .i64 (p2 j))) := by rw [hW6]; exact pvals_set R5.out
        have BW : Below P w5 W6 := by rw [hW6]; exact below_setCells _ (Nat.le_refl _) _ _ _ (Below.refl _ _)
        have B6 : Hid (Below w.heap.size w W6) := by rw [hW6]; exact below_setCells _ (Nat.le_of_lt HN.out) _ _ _ B5.out
        have Z6 : Hid (BK W6 w.heap.size #[.slice a cs.length ca, .slice b hs.length cb] 62) := (BW.block _ HN.out).trans Z5.out
        have HW6 := Lib.hid hW6
        have G6 := Lib.hid (pvals_range R6.out)
        clear hp2 hW6 BW Z5 R5 B5
        go_wp2_with (first | (refine wpList_load_mid (by rfl) 163 _ (by rfl) P 0 (by rfl) (pvals p2) _ G6.out hu (by rfl) (info_paints2 p2) ?_) | (refine wpList_store_mid (by rfl) 163 _ _ (by rfl) P 0 (pvals p2).toArray (by rfl) (by rfl) T5.out (by simpa using info_paints2 p2) (pvals_one p2) ?_; change wpList _ _ _ _ _ (w5.setCells P 0 (pvals p2)); rw [← HW6.out]))
        refine (paintedJust_any p2 3 _).mono ?_
        rintro e w7 ⟨⟨v, rfl, hG⟩, hb7⟩
        clear G6 T5 HW6
        have EB : ∀ j, decide (p2 j = 3) = bothB cs x y j := fun j => by rw [HP2.out, eTwo_is, EA.out, EC.out]; rfl
        rw [pastL_congr fun j _ => EB j] at hG
        have B7 : Hid (Below w.heap.size w w7) := B6.out.trans (hb7.mono B6.out.size)
        have Z7 := Lib.hid (Z6.out.later hb7)
        have R7 : Hid (w7.rowIs P 163 14 (fun j => .int .i64 (eTwo A j (C j)))) := by
          have h := R6.out.of_block (hb7.block _ R6.out.lt)
          rw [HP2.out] at h
          exact h
        have hPz := R6.out.lt
        obtain ⟨L0, hL0⟩ : ∃ L0, L0 = pastL (bothB cs x y) 14 := ⟨_, rfl⟩
        rw [← hL0] at hG
        have HL0 := Lib.hid hL0
        have hlen : L0.length ≤ 14 := by rw [hL0]; exact pastL_len _ _
        have HQ : Hid (∀ m, m < L0.length → ∃ q : Nat, ix L0 m = q ∧ q < cs.length) := fun m hm => by
          have h1 : ix L0 m ∈ pastL (bothB cs x y) 14 := by rw [← hL0]; exact mem_ix.2 ⟨m, hm, rfl⟩
          obtain ⟨q, _, e, hB⟩ := mem_pastL.1 h1
          refine ⟨q, e, ?_⟩
          unfold bothB at hB
          rw [Bool.and_eq_true, aheadB_iff] at hB
          have := hB.1.le HGG.out.ups hxl
          omega
        have G7 := Lib.hid (hG.low (lo' := P + 1) (by omega))
        obtain ⟨av, cv, rfl, hcv, _⟩ := hG.form
        have HC := Lib.hid HR.out.cms
        have hcl := HGG.out.c2
        clear hG hb7 Z6 R6 B6 hL0 hz HR EB HP2 HP1 hPz
        go_wp2
        go_loopw [9, 11, 42, 53] (fun _ _ i _ wr => ∃ m : Nat, m ≤ L0.length ∧ i = .int .i64 m ∧ GrowI (P + 1) L0 wr (.slice av L0.length cv) ∧ BK wr w.heap.size #[.slice a cs.length ca, .slice b hs.length cb] 62 ∧ wr.rowIs P 163 14 (fun j => .int .i64 (eStr A C j (strL cs (L0.take m) j))) ∧ Below w.heap.size w wr) (fun _ _ i _ _ => L0.length - (intOf i).toNat)
        case atStart => exact ⟨0, Nat.zero_le _, rfl, G7.out, Z7.out, R7.out.congr fun j _ => by rw [List.take_zero, strL_nil]; rfl, B7.out⟩
        case round =>
          clear G7 Z7 R7 B7
          obtain ⟨m, hm, rfl, hG, hk1, hrow, hbel⟩ := hrel
          have HG := Lib.hid hG
          have K1 := Lib.hid hk1
          have HR := Lib.hid hrow
          have HB := Lib.hid hbel
          have hsz := hbel.size
          have r0 := hk1.cell 0 rfl
          have hPl := hrow.lt
          by_cases hlt : m < L0.length
          · obtain ⟨a2, c2, e2, _, hia⟩ := hG.form
            cases e2
            obtain ⟨bf, off, ea, hb, hc1⟩ := hia m hlt
            obtain ⟨q, eq, hq⟩ := HQ.out m hlt
            rw [eq] at hc1
            have EQ := Lib.hid eq
            obtain ⟨bc, oc, ua, uc, sa, sc, e', hx⟩ := HC.out q hq
            obtain ⟨zb, c0, c1, c2, _, _⟩ := hx.below hbel
            have HX := Lib.hid hx.ints
            have q0 : (0 : Int) ≤ (q : Int) := by omega
            have q1 : (q : Int) < (cs.length : Int) := by omega
            have q2 : (mg cs q).1.length ≤ 2 := (HGG.out.ups q hq).2.1
            subst e' ea
            clear hG hk1 hrow hbel hx hia eq
            go_wp2
            go_loopw [11, 53] (fun _ s wr => ∃ t : Nat, s = .int .i64 t ∧ t ≤ (mg cs q).1.length ∧ GrowI (P + 1) L0 wr (.slice (some ⟨bf, off, none⟩) L0.length cv) ∧ BK wr w.heap.size #[.slice (some ⟨bc, oc, none⟩) cs.length ca, .slice b hs.length cb] 62 ∧ wr.rowIs P 163 14 (fun j => .int .i64 (eStr A C j (strL cs (L0.take m) j || amongB (mg cs q).1 t j))) ∧ Below w.heap.size w wr) (fun _ s _ => (mg cs q).1.length - (intOf s).toNat)
            case atStart => exact ⟨0, rfl, Nat.zero_le _, HG.out, K1.out, HR.out.congr fun j _ => by simp [amongB], HB.out⟩
            case round =>
              clear HG K1 HR HB hsz hPl r0 c0 c1 c2 hc1 hb zb
              obtain ⟨t, rfl, htl, hG, hk1, hrow, hbel⟩ := hrel
              have HG := Lib.hid hG
              have K1 := Lib.hid hk1
              have HR := Lib.hid hrow
              have HB := Lib.hid hbel
              by_cases hlt2 : t < (mg cs q).1.length
              · obtain ⟨bu, ou, eu, hbu, hcu⟩ := (HX.out.below hbel) t hlt2
                obtain ⟨u, hu', hult⟩ := HGG.out.ups.mem hq (mem_ix.2 ⟨t, hlt2, rfl⟩)
                rw [hu'] at hcu
                have HU := Lib.hid hu'
                have hfz := hrow.frozen u
                have hdu := hrow.cell (i := u) (by omega)
                have hor := eStr_or A C u (strL cs (L0.take m) u || amongB (mg cs q).1 t u)
                have q3 : (0 : Int) ≤ (u : Int) := by omega
                have q4 : (u : Int) < 14 := by omega
                subst eu
                clear hG hk1 hrow hbel hu'
                go_wp2
                go_roundw
                case rel => exact ⟨t + 1, by go_num, by omega, HG.out.set (by simp) _, K1.out.setOther _ _ (by have := HN.out; omega), (HR.out.set u _).congr fun j _ => (by rw [amongB_step hlt2 HU.out j]; by_cases e : j = u <;> simp [e]), HB.out.setCell (Nat.le_of_lt HN.out) _⟩
                case measure => simp [intOf]; omega
              · obtain rfl : t = (mg cs q).1.length := by omega
                clear hG hk1 hrow hbel
                go_wp2
                go_roundw
                case rel => exact ⟨m + 1, by omega, by go_num, HG.out, K1.out, HR.out.congr fun j _ => by rw [strL_step hlt EQ.out], HB.out⟩
                case measure => simp [intOf]; omega
          · obtain rfl : m = L0.length := by omega
            obtain ⟨p3, hp3⟩ : ∃ p : Nat → Int, p = fun j => eStr A C j (strL cs L0 j) := ⟨_, rfl⟩
            have R3 : wr.rowIs P 163 14 (fun j => .int .i64 (p3 j)) := hrow.congr fun j _ => by rw [List.take_length, hp3]
            have G3 := Lib.hid (pvals_range R3)
            have HP3 := Lib.hid hp3
            clear hG hk1 hrow hbel R3 hp3
            go_wp2_with (refine wpList_load_mid (by rfl) 163 _ (by rfl) P 0 (by rfl) (pvals p3) _ G3.out hu (by rfl) (info_paints2 p3) ?_)
            refine (paintedJust_any p3 3 _).mono ?_
            rintro e w8 ⟨⟨v, rfl, hG⟩, hb8⟩
            have EB : ∀ j, decide (p3 j = 3) = lastB cs (bothB cs x y) j := fun j => by
              rw [HP3.out, eStr_is, HL0.out, strL_past hcl, EA.out, EC.out]
              rfl
            rw [pastL_congr fun j _ => EB j, ← HP.out] at hG
            have B8 : Hid (Below w.heap.size w w8) := HB.out.trans (hb8.mono hsz)
            have G8 := Lib.hid (hG.low (lo' := w.heap.size) (by omega))
            clear hG hb8 EB
            go_wp2
            go_ret
            exact ⟨⟨_, rfl, G8.out⟩, B8.out⟩
      · rw [decide_eq_false hq]
        have HP := Lib.hid (basesV_bad (cs := cs) (hs := hs) (x := x) (y := y) fun h => hq h.2.2)
        clear hp hg hz hq c0 c1
        go_wp2
        go_ret
        exact ⟨⟨_, rfl, by rw [HP.out]; exact GrowI.nil B1.out.size⟩, B1.out⟩
    · rw [decide_eq_false hp]
      have HP := Lib.hid (basesV_bad (cs := cs) (hs := hs) (x := x) (y := y) fun h => hp h.2.1)
      clear hp hg hz c0 c1
      go_wp2
      go_ret
      exact ⟨⟨_, rfl, by rw [HP.out]; exact GrowI.nil B1.out.size⟩, B1.out⟩
  · rw [repoOk_false hg]
    have HP := Lib.hid (basesV_bad (cs := cs) (hs := hs) (x := x) (y := y) fun h => hg h.1)
    clear hg hz
    go_wp2
    go_ret
    exact ⟨⟨_, rfl, by rw [HP.out]; exact GrowI.nil B1.out.size⟩, B1.out⟩
end Go.Proofs.YtdchfologicbeaaGreat

namespace Go.Proofs.YtdchfologicbeaaGreat
set_option linter.unusedVariables false
open Go.ChangeShapes Go.WideShapes Go.ChangeAt Go.RowKit

/-- a digit -/
def dig (j : Nat) : ByteArray := strOfNums [((48 + j % 10 : Nat) : Int)]
/-- the digits of a number, ahead of what is there -/
def decTo (j : Nat) (o : ByteArray) : ByteArray := if h : j = 0 then o else decTo (j / 10) (dig j ++ o)
termination_by j
decreasing_by omega

theorem decTo_step {j : Nat} (h : 0 < j) (o : ByteArray) : decTo (j / 10) (dig j ++ o) = decTo j o := by
  conv => rhs; unfold decTo
  rw [dif_neg (by omega)]

theorem dig_size (j : Nat) : (dig j).size = 1 := strOfNums_size _

/-- the text of a mark -/
def markT (k : Int) : ByteArray := if k ≤ 0 then ⟨#[109, 48]⟩ else ⟨#[109]⟩ ++ decTo k.toNat ⟨#[]⟩

theorem run_dig (u : World) (x : Int) : (convert 172 9 (.slice (some ⟨u.heap.size, 0, none⟩) 1 1)).run Tryz.prog (u.alloc (.cells #[.int .u8 x] 5)) = .ok (.string (strOfNums [x])) (u.alloc (.cells #[.int .u8 x] 5)) :=
  run_convert_bytes_arg (P := Tryz.prog) _ 172 5 Tryz.underlying172 Tryz.underlying5 u.heap.size 0 1 1 [x] rfl (fun i hi => by obtain rfl : i = 0 := (by omega); simp [go_sem]) 9 Tryz.underlying9

set_option maxHeartbeats 1000000 in
theorem markText_any (k : Int) (w : World) (hk : k ≤ 2305843009213693952) :
    Calls Tryz.prog 72 #[.int .i64 k] w fun e w' => e = .returned (.string (markT k)) ∧ Below w.heap.size w w' := by
  by_cases h0 : k ≤ 0
  · have HM : Hid (markT k = ⟨#[109, 48]⟩) := by simp [Hid, markT, h0]
    go_enter Tryz.func72, Tryz.ntmps72
    go_wp2
    go_ret
    exact ⟨by rw [HM.out]; rfl, Below.refl _ _⟩
  · obtain ⟨n, rfl⟩ : ∃ n : Nat, k = n := ⟨k.toNat, by omega⟩
    have HM : Hid (markT (n : Int) = ⟨#[109]⟩ ++ decTo n ⟨#[]⟩) := by
      show _ = _
      rw [markT, if_neg h0]
      rfl
    go_enter Tryz.func72, Tryz.ntmps72
    go_wp2
    go_loopw [0, 3] (fun s0 s3 wr => ∃ (j : Nat) (o : ByteArray), s0 = .int .i64 j ∧ s3 = .string o ∧ decTo j o = decTo n ⟨#[]⟩ ∧ o.size + j ≤ n ∧ Below w.heap.size w wr) (fun s0 _ _ => (intOf s0).toNat)
    case atStart => exact ⟨n, ⟨#[]⟩, rfl, rfl, rfl, Nat.le_of_eq (Nat.zero_add n), Below.refl _ _⟩
    case round =>
      obtain ⟨j, o, rfl, rfl, he, hs, hbel⟩ := hrel
      have HE := Lib.hid he
      have HB := Lib.hid hbel
      have hsz := hbel.size
      clear he hbel
      by_cases hj : 0 < j
      · have hcv := run_dig
        have hr : Int.tmod (j : Int) 10 = ((j % 10 : Nat) : Int) := by rw [Int.tmod_eq_emod_of_nonneg (by omega)]; omega
        have hq : Int.tdiv (j : Int) 10 = ((j / 10 : Nat) : Int) := by rw [Int.tdiv_eq_ediv_of_nonneg (by omega)]; omega
        have h1 : ∀ x : Int, (strOfNums [x]).size = 1 := fun x => strOfNums_size _
        have HD : Hid (strOfNums [48 + (j : Int) % 10] = dig j) := by
          show _ = _
          unfold dig
          congr 2
        go_wp2
        go_roundw
        case rel => exact ⟨j / 10, dig j ++ o, by simp, by rw [HD.out], by rw [decTo_step hj]; exact HE.out, by rw [ByteArray.size_append, dig_size]; omega, HB.out.alloc hsz _⟩
        case measure => simp [intOf]; omega
      · obtain rfl : j = 0 := by omega
        have he := HE.out
        rw [show decTo 0 o = o by unfold decTo; rfl] at he
        subst he
        have hsz2 : (decTo n ⟨#[]⟩).size ≤ 2305843009213693952 := by omega
        have h1 : (⟨#[109]⟩ : ByteArray).size = 1 := rfl
        go_wp2
        go_ret
        exact ⟨by rw [HM.out]; rfl, HB.out⟩
end Go.Proofs.YtdchfologicbeaaGreat

namespace Go.Proofs.YtdchfologicbeaaGreat
set_option linter.unusedVariables false
open Go.ChangeShapes Go.WideShapes Go.ChangeAt Go.RowKit

/-- the marks of tags from k on -/
def marksT (k : Int) (n : Nat) : List Tg := (List.range n).map fun (i : Nat) => (markT (k + 2 * (i : Int)), markT (k + 2 * (i : Int) + 1))
theorem marksT_len (k : Int) (n : Nat) : (marksT k n).length = n := by simp [marksT]
theorem marksT_k (k : Int) {n i : Nat} (h : i < n) : tk (marksT k n) i = markT (k + 2 * (i : Int)) := by simp [tk, marksT, h]
theorem marksT_v (k : Int) {n i : Nat} (h : i < n) : tv (marksT k n) i = markT (k + 2 * (i : Int) + 1) := by simp [tv, marksT, h]

/-- a row of texts that may be written, all else as it was -/
structure MarkW (w : World) (b off m : Nat) (c : Nat → ByteArray) (wr : World) : Prop where
  cell : ∀ x, x < m → wr.cell? ⟨b, off + x, none⟩ = some (.string (c x))
  soft : ∀ x, x < m → wr.frozen? ⟨b, off + x, none⟩ = false
  grown : w.grownBy wr (some b)
  lt : b < wr.heap.size

theorem MarkW.below {w wr w1 : World} {b off m : Nat} {c : Nat → ByteArray} (h : MarkW w b off m c wr) (hb : Below wr.heap.size wr w1) : MarkW w b off m c w1 :=
  ⟨fun x hx => cell_later hb (h.cell x hx), fun x hx => (hb.frozen (p := ⟨b, _, none⟩) h.lt).trans (h.soft x hx), h.grown.trans ⟨hb.os, hb.tape, hb.output, hb.size, fun k hk _ => hb.block k hk⟩, Nat.lt_of_lt_of_le h.lt hb.size⟩

theorem MarkW.set {w wr : World} {b off m : Nat} {c : Nat → ByteArray} (h : MarkW w b off m c wr) {y : Nat} (s : ByteArray) (hy : y < m) : MarkW w b off m (fun x => if x = y then s else c x) (wr.setCell ⟨b, off + y, none⟩ (.string s)) := by
  refine ⟨fun x hx => ?_, fun x hx => by rw [World.frozen?_setCell]; exact h.soft x hx, grown_set h.grown _ _, by simpa [World.setCell] using h.lt⟩
  by_cases e : x = y
  · subst e
    rw [if_pos rfl]
    exact World.cell?_setCell_same _ _ _ (h.cell x hx)
  · rw [if_neg e, World.cell?_setCell_other _ _ _ _ (by simp <;> omega)]
    exact h.cell x hx

theorem MarkW.congr {w wr : World} {b off m : Nat} {c d : Nat → ByteArray} (h : MarkW w b off m c wr) (e : ∀ x, x < m → c x = d x) : MarkW w b off m d wr :=
  ⟨fun x hx => by rw [h.cell x hx, e x hx], h.soft, h.grown, h.lt⟩

/-- the text at a cell -/
def txt (ts : List Tg) (x : Nat) : ByteArray := if x % 2 = 0 then tk ts (x / 2) else tv ts (x / 2)
/-- how far the marks are written -/
def mkTo (ts : List Tg) (k : Int) (j x : Nat) : ByteArray := if x < j * 2 then markT (k + (x : Int)) else txt ts x

theorem mkTo_step (ts : List Tg) (k : Int) (j x : Nat) : (if x = j * 2 + 1 then markT (k + 2 * (j : Int) + 1) else if x = j * 2 then markT (k + 2 * (j : Int)) else mkTo ts k j x) = mkTo ts k (j + 1) x := by
  unfold mkTo
  by_cases h1 : x = j * 2 + 1
  · subst h1
    rw [if_pos rfl, if_pos (by omega)]
    congr 1
    omega
  · rw [if_neg h1]
    by_cases h2 : x = j * 2
    · subst h2
      rw [if_pos rfl, if_pos (by omega)]
      congr 1
      omega
    · rw [if_neg h2]
      by_cases h3 : x < j * 2
      · rw [if_pos h3, if_pos (by omega)]
      · rw [if_neg h3, if_neg (by omega)]

theorem MarkW.start {w : World} {b off : Nat} {ts : List Tg} (k : Int) (hp : TagsAt w (some ⟨b, off, none⟩) ts) (hs : Soft w (some ⟨b, off, none⟩) ts.length) (h0 : 0 < ts.length) : MarkW w b off (ts.length * 2) (mkTo ts k 0) w := by
  have hlt : b < w.heap.size := by
    obtain ⟨b', off', e, hlt, _⟩ := hp 0 h0
    obtain ⟨rfl, rfl⟩ : b = b' ∧ off = off' := by simpa using e
    exact hlt
  refine ⟨fun x hx => ?_, fun x hx => ?_, World.grownBy.refl _ _, hlt⟩
  · obtain ⟨b', off', e, _, h1, h2⟩ := hp (x / 2) (by omega)
    obtain ⟨rfl, rfl⟩ : b = b' ∧ off = off' := by simpa using e
    unfold mkTo txt
    rw [if_neg (by omega)]
    by_cases hx2 : x % 2 = 0
    · rw [if_pos hx2, show off + x = off + x / 2 * 2 by omega]
      exact h1
    · rw [if_neg hx2, show off + x = off + x / 2 * 2 + 1 by omega]
      exact h2
  · obtain ⟨h1, h2⟩ := hs (x / 2) (by omega) b off rfl
    by_cases hx2 : x % 2 = 0
    · rw [show off + x = off + x / 2 * 2 by omega]
      exact h1
    · rw [show off + x = off + x / 2 * 2 + 1 by omega]
      exact h2

set_option maxHeartbeats 2000000 in
theorem markTagS_some (b off cap : Nat) (ts : List Tg) (k : Int) (w : World) (hp : TagsAt w (some ⟨b, off, none⟩) ts) (hs : Soft w (some ⟨b, off, none⟩) ts.length) (hl : ts.length ≤ 1048576) (hn : 0 < ts.length) (h0 : 0 ≤ k) (h4 : k ≤ 1152921504606846976) :
    Calls Tryz.prog 74 #[.slice (some ⟨b, off, none⟩) ts.length cap, .int .i64 k] w fun e w' => e = .returned (.int .i64 (k + 2 * (ts.length : Int))) ∧ MarkW w b off (ts.length * 2) (mkTo ts k ts.length) w' := by
  have H0 := Lib.hid (MarkW.start k hp hs hn)
  clear hp hs
  go_enter Tryz.func74, Tryz.ntmps74
  go_wp2
  go_loopw [1, 5] (fun q i wr => ∃ j : Nat, j ≤ ts.length ∧ i = .int .i64 j ∧ q = .int .i64 (k + 2 * (j : Int)) ∧ MarkW w b off (ts.length * 2) (mkTo ts k j) wr) (fun _ i _ => ts.length - (intOf i).toNat)
  case atStart => exact ⟨0, Nat.zero_le _, rfl, by simp, H0.out⟩
  case round =>
    clear H0
    obtain ⟨j, hj, rfl, rfl, hm⟩ := hrel
    have HM := Lib.hid hm
    clear hm
    by_cases hlt : j < ts.length
    · go_wp2_with fail
      refine (markText_any _ _ (by omega)).mono ?_
      rintro e w1 ⟨rfl, hb1⟩
      have M1 := Lib.hid (HM.out.below hb1)
      have d1 := M1.out.cell (j * 2) (by omega)
      have f1 := M1.out.soft (j * 2) (by omega)
      clear hb1
      go_wp2_with fail
      clear d1 f1
      refine (markText_any _ _ (by omega)).mono ?_
      rintro e w2 ⟨rfl, hb2⟩
      have M2 := Lib.hid ((M1.out.set (y := j * 2) (markT (k + 2 * (j : Int))) (by omega)).below hb2)
      have d2 := M2.out.cell (j * 2 + 1) (by omega)
      have f2 := M2.out.soft (j * 2 + 1) (by omega)
      rw [← Nat.add_assoc] at d2 f2
      have M3 : Hid (MarkW w b off (ts.length * 2) (mkTo ts k (j + 1)) (w2.setCell ⟨b, off + j * 2 + 1, none⟩ (.string (markT (k + 2 * (j : Int) + 1))))) :=
        (M2.out.set (y := j * 2 + 1) (markT (k + 2 * (j : Int) + 1)) (by omega)).congr fun x _ => mkTo_step ts k j x
      clear hb2
      go_wp2
      go_roundw
      case rel => exact ⟨j + 1, by omega, by go_num, by simp; omega, M3.out⟩
      case measure => simp [intOf]; omega
    · obtain rfl : j = ts.length := by omega
      go_wp2
      go_ret
      exact ⟨rfl, HM.out⟩

set_option maxHeartbeats 1000000 in
theorem markTagS_nil (a : Option Addr) (cap : Nat) (k : Int) (w : World) :
    Calls Tryz.prog 74 #[.slice a 0 cap, .int .i64 k] w fun e w' => e = .returned (.int .i64 k) ∧ w = w' := by
  go_enter Tryz.func74, Tryz.ntmps74
  go_wp2
  refine wp_loop_rounds 1 ?_
  rw [rounds_succ]
  go_wp2
  go_ret
  exact ⟨rfl, rfl⟩

/-- what marking tags leaves: the marks, and all else as it was -/
def MarkedT (w : World) (a : Option Addr) (n : Nat) (k : Int) (w' : World) : Prop := TagsAt w' a (marksT k n) ∧ Soft w' a n ∧ w.grownBy w' (blk a)

theorem markTagS_any (a : Option Addr) (cap : Nat) (ts : List Tg) (k : Int) (w : World) (hp : TagsAt w a ts) (hs : Soft w a ts.length) (hl : ts.length ≤ 1048576) (h0 : 0 ≤ k) (h4 : k ≤ 1152921504606846976) :
    Calls Tryz.prog 74 #[.slice a ts.length cap, .int .i64 k] w fun e w' => e = .returned (.int .i64 (k + 2 * (ts.length : Int))) ∧ MarkedT w a ts.length k w' := by
  by_cases h : 0 < ts.length
  · obtain ⟨b, off, rfl, hb, _, _⟩ := hp 0 h
    refine (markTagS_some b off cap ts k w hp hs hl h h0 h4).mono fun e w' ⟨he, hm⟩ => ⟨he, ?_, ?_, hm.grown⟩
    · intro i hi
      rw [marksT_len] at hi
      have h1 := hm.cell (i * 2) (by omega)
      have h2 := hm.cell (i * 2 + 1) (by omega)
      unfold mkTo at h1 h2
      rw [if_pos (by omega)] at h1 h2
      rw [marksT_k k hi, marksT_v k hi]
      refine ⟨b, off, rfl, hm.lt, ?_, ?_⟩
      · rw [h1]
        congr 3
        omega
      · rw [Nat.add_assoc, h2]
        congr 3
        omega
    · intro i hi b' off' e
      obtain ⟨rfl, rfl⟩ : b = b' ∧ off = off' := by simpa using e
      exact ⟨hm.soft _ (by omega), by rw [Nat.add_assoc]; exact hm.soft _ (by omega)⟩
  · have h' : ts.length = 0 := by omega
    rw [h']
    refine (markTagS_nil a cap k w).mono fun e w' ⟨he, hw⟩ => ⟨by rw [he]; simp, ?_⟩
    subst hw
    exact ⟨TagsAt.nil w a, fun i hi => absurd hi (Nat.not_lt_zero _), World.grownBy.refl _ _⟩

set_option maxRecDepth 100000 in
set_option maxHeartbeats 4000000 in
theorem heldTagS_any (a : Option Addr) (cap n : Nat) (k : Int) (w : World) (hp : TagsAt w a (marksT k n)) (hl : n ≤ 1048576) (h0 : 0 ≤ k) (h4 : k ≤ 1152921504606846976) :
    Calls Tryz.prog 76 #[.slice a n cap, .int .i64 k] w fun e w' => e = .returned (.int .i64 (k + 2 * (n : Int))) ∧ Below w.heap.size w w' := by
  have HP := Lib.hid hp
  clear hp
  go_enter Tryz.func76, Tryz.ntmps76
  go_wp2
  go_loopw [1, 5] (fun q i wr => ∃ j : Nat, j ≤ n ∧ i = .int .i64 j ∧ q = .int .i64 (k + 2 * (j : Int)) ∧ Below w.heap.size w wr) (fun _ i _ => n - (intOf i).toNat)
  case atStart => exact ⟨0, Nat.zero_le _, rfl, by simp, Below.refl _ _⟩
  case round =>
    obtain ⟨j, hj, rfl, rfl, hbel⟩ := hrel
    have HB := Lib.hid hbel
    by_cases hlt : j < n
    · obtain ⟨b, off, rfl, hb, d1, d2⟩ := HP.out j (by rw [marksT_len]; exact hlt)
      rw [marksT_k k hlt] at d1
      rw [marksT_v k hlt] at d2
      rw [← hbel.cell (p := ⟨b, _, none⟩) hb] at d1 d2
      clear hbel
      have e1 : ((markT (k + 2 * (j : Int))).toList == (markT (k + 2 * (j : Int))).toList) = true := by simp
      have e2 : ((markT (k + 2 * (j : Int) + 1)).toList == (markT (k + 2 * (j : Int) + 1)).toList) = true := by simp
      go_upto_region 4 with (fail)
      go_cut [19] (fun s19 wx => s19 = .bool false ∧ Below wr.heap.size wr wx)
      case first =>
        go_region_held3 (fun w' => w'.cell? ⟨b, off + j * 2, none⟩ = some (.string (markT (k + 2 * (j : Int)))) ∧ Below wr.heap.size wr w')
          (first
            | exact ⟨d1, (Below.refl _ _).drew⟩
            | (go_split_ands
               rename_i hS0 hS1
               exact ⟨cell_later hbn hS0, hS1.trans (hbn.mono hS1.size)⟩))
          (first
            | (go_at_call 72
               refine (markText_any _ _ (by omega)).mono ?_
               rintro e wn ⟨rfl, hbn⟩))
        all_goals (go_wp2_with fail; go_meet; go_split_ands; exact ⟨by simp, by assumption⟩)
      case rest =>
        obtain ⟨rfl, hB⟩ := hcut
        replace d2 := cell_later hB d2
        have B1 := Lib.hid (HB.out.trans (hB.mono HB.out.size))
        clear hB d1 e1
        go_upto_region 7 with (fail)
        go_cut [29] (fun s29 wx => s29 = .bool false ∧ Below w.heap.size w wx)
        case first =>
          go_region_held3 (fun w' => w'.cell? ⟨b, off + j * 2 + 1, none⟩ = some (.string (markT (k + 2 * (j : Int) + 1))) ∧ Below w.heap.size w w')
            (first
              | exact ⟨d2, B1.out.drew⟩
              | (go_split_ands
                 rename_i hS0 hS1
                 exact ⟨cell_later hbn hS0, hS1.trans (hbn.mono hS1.size)⟩))
            (first
              | (go_at_call 72
                 refine (markText_any _ _ (by omega)).mono ?_
                 rintro e wn ⟨rfl, hbn⟩))
          all_goals (go_wp2_with fail; go_meet; go_split_ands; exact ⟨by simp, by assumption⟩)
        case rest =>
          obtain ⟨rfl, hB⟩ := hcut
          have B2 := Lib.hid hB
          clear hB d2 e2
          go_wp2
          go_roundw
          case rel => exact ⟨j + 1, by omega, by go_num, by simp; omega, B2.out⟩
          case measure => simp [intOf]; omega
    · obtain rfl : j = n := by omega
      clear hbel
      go_wp2
      go_ret
      exact ⟨rfl, HB.out⟩
end Go.Proofs.YtdchfologicbeaaGreat

namespace Go.Proofs.YtdchfologicbeaaGreat
set_option linter.unusedVariables false
open Go.ChangeShapes Go.WideShapes Go.ChangeAt Go.RowKit

/-- two slices that do not lie in one block -/
def Apart (a c : Option Addr) : Prop := ∀ x, blk a = some x → blk c ≠ some x

/-- only two blocks have turned -/
def Grown2 (w w' : World) (a c : Option Addr) : Prop := ∃ u, w.grownBy u (blk a) ∧ u.grownBy w' (blk c)

theorem Grown2.cell {w w' : World} {a c : Option Addr} (h : Grown2 w w' a c) {b o : Nat} {v : Value} (h1 : blk a ≠ some b) (h2 : blk c ≠ some b) (hv : w.cell? ⟨b, o, none⟩ = some v) : w'.cell? ⟨b, o, none⟩ = some v := by
  obtain ⟨u, g1, g2⟩ := h
  have hlt := World.block_lt_of_cell? _ _ hv
  rw [g2.cell_far _ (Nat.lt_of_lt_of_le hlt g1.size) (Ne.symm h2), g1.cell_far _ hlt (Ne.symm h1)]
  exact hv

theorem Grown2.below {w w' : World} {a c : Option Addr} {B : Nat} {w0 : World} (h : Grown2 w w' a c) (hb : Below B w0 w) (hB : B ≤ w.heap.size) (h1 : ∀ x, blk a = some x → B ≤ x) (h2 : ∀ x, blk c = some x → B ≤ x) : Below B w0 w' := by
  obtain ⟨u, g1, g2⟩ := h
  have hu := hb.grown g1 hB h1
  exact hu.grown g2 (Nat.le_trans hB g1.size) h2

theorem TagsAt.grown {w w' : World} {a : Option Addr} {ts : List Tg} {r : Option Nat} (h : TagsAt w a ts) (hg : w.grownBy w' r) (hne : ts.length = 0 ∨ blk a ≠ r) : TagsAt w' a ts := by
  intro i hi
  obtain ⟨b, off, rfl, hlt, h1, h2⟩ := h i hi
  have hb : some b ≠ r := by
    rcases hne with h | h
    · omega
    · exact h
  exact ⟨b, off, rfl, Nat.lt_of_lt_of_le hlt hg.size, by rw [hg.cell_far _ hlt hb]; exact h1, by rw [hg.cell_far _ hlt hb]; exact h2⟩

theorem Soft.grown {w w' : World} {a : Option Addr} {n : Nat} {r : Option Nat} (h : Soft w a n) (hg : w.grownBy w' r) (hlt : ∀ x, blk a = some x → x < w.heap.size) (hne : n = 0 ∨ blk a ≠ r) : Soft w' a n := by
  intro i hi b off e
  have hb : some b ≠ r := by
    rcases hne with h | h
    · omega
    · rw [e] at h; exact h
  have hl : b < w.heap.size := hlt b (by rw [e]; rfl)
  obtain ⟨h1, h2⟩ := h i hi b off e
  exact ⟨(hg.frozen_far ⟨b, _, none⟩ hl hb).trans h1, (hg.frozen_far ⟨b, _, none⟩ hl hb).trans h2⟩

theorem TagsAt.lt {w : World} {a : Option Addr} {ts : List Tg} (h : TagsAt w a ts) (h0 : 0 < ts.length) : ∀ x, blk a = some x → x < w.heap.size := by
  intro x e
  obtain ⟨b, off, rfl, hlt, _⟩ := h 0 h0
  obtain rfl : b = x := by simpa [blk] using e
  exact hlt

theorem Soft.belowT {w w' : World} {a : Option Addr} {ts : List Tg} (h : Soft w a ts.length) (hp : TagsAt w a ts) (hb : Below w.heap.size w w') : Soft w' a ts.length := by
  intro i hi b off e
  obtain ⟨b', off', e', hlt, _, _⟩ := hp i hi
  obtain ⟨rfl, rfl⟩ : b = b' ∧ off = off' := by rw [e] at e'; simpa using e'
  obtain ⟨h1, h2⟩ := h i hi b off e
  exact ⟨by rw [hb.frozen (p := ⟨b, _, none⟩) hlt]; exact h1, by rw [hb.frozen (p := ⟨b, _, none⟩) hlt]; exact h2⟩

/-- what lies in neither block is kept -/
theorem PtsAt.grown2 {w w' : World} {x y a : Option Addr} {ps : List (Int × Int)} (h : PtsAt w a ps) (hg : Grown2 w w' x y) (hne : ∀ z, blk a = some z → blk x ≠ some z ∧ blk y ≠ some z) : PtsAt w' a ps := by
  intro i hi
  obtain ⟨b, off, rfl, hlt, h1, h2⟩ := h i hi
  obtain ⟨n1, n2⟩ := hne b rfl
  obtain ⟨u, g1, g2⟩ := hg
  exact ⟨b, off, rfl, Nat.lt_of_lt_of_le hlt (Nat.le_trans g1.size g2.size), Grown2.cell ⟨u, g1, g2⟩ n1 n2 h1, Grown2.cell ⟨u, g1, g2⟩ n1 n2 h2⟩
theorem TagsAt.grown2 {w w' : World} {x y a : Option Addr} {ts : List Tg} (h : TagsAt w a ts) (hg : Grown2 w w' x y) (hne : ∀ z, blk a = some z → blk x ≠ some z ∧ blk y ≠ some z) : TagsAt w' a ts := by
  intro i hi
  obtain ⟨b, off, rfl, hlt, h1, h2⟩ := h i hi
  obtain ⟨n1, n2⟩ := hne b rfl
  obtain ⟨u, g1, g2⟩ := hg
  exact ⟨b, off, rfl, Nat.lt_of_lt_of_le hlt (Nat.le_trans g1.size g2.size), Grown2.cell ⟨u, g1, g2⟩ n1 n2 h1, Grown2.cell ⟨u, g1, g2⟩ n1 n2 h2⟩
theorem Soft.grown2 {w w' : World} {x y a : Option Addr} {n : Nat} (h : Soft w a n) (hg : Grown2 w w' x y) (hlt : ∀ z, blk a = some z → z < w.heap.size) (hne : ∀ z, blk a = some z → blk x ≠ some z ∧ blk y ≠ some z) : Soft w' a n := by
  intro i hi b off e
  have hb : blk a = some b := by rw [e]; rfl
  obtain ⟨n1, n2⟩ := hne b hb
  have hl := hlt b hb
  obtain ⟨u, g1, g2⟩ := hg
  obtain ⟨h1, h2⟩ := h i hi b off e
  have hl2 : b < u.heap.size := Nat.lt_of_lt_of_le hl g1.size
  exact ⟨(g2.frozen_far ⟨b, _, none⟩ hl2 (Ne.symm n2)).trans ((g1.frozen_far ⟨b, _, none⟩ hl (Ne.symm n1)).trans h1), (g2.frozen_far ⟨b, _, none⟩ hl2 (Ne.symm n2)).trans ((g1.frozen_far ⟨b, _, none⟩ hl (Ne.symm n1)).trans h2)⟩
theorem Box4.grown2 {w w' : World} {x y : Option Addr} {b : Nat} {v0 v1 v2 v3 : Value} (h : Box4 w b v0 v1 v2 v3) (hg : Grown2 w w' x y) (hne : blk x ≠ some b ∧ blk y ≠ some b) : Box4 w' b v0 v1 v2 v3 :=
  ⟨hg.cell hne.1 hne.2 h.1, hg.cell hne.1 hne.2 h.2.1, hg.cell hne.1 hne.2 h.2.2.1, hg.cell hne.1 hne.2 h.2.2.2⟩

/-- what marking a thing leaves -/
def MarkedF (w : World) (a c : Option Addr) (n m : Nat) (k : Int) (w' : World) : Prop :=
  PtsAt w' a (marks k n) ∧ TagsAt w' c (marksT (k + 2 * (n : Int)) m) ∧ Grown2 w w' a c

set_option maxRecDepth 100000 in
set_option maxHeartbeats 2000000 in
theorem markFeat_any (id : ByteArray) (kind : Int) (a : Option Addr) (cap : Nat) (ps : List (Int × Int)) (c : Option Addr) (ca : Nat) (ts : List Tg) (w : World) (hp : PtsAt w a ps) (hs : Soft w a ps.length) (ht : TagsAt w c ts) (hs' : Soft w c ts.length) (hap : Apart a c) (hal : ∀ x, blk a = some x → x < w.heap.size) (hl : ps.length ≤ 1048576) (hm : ts.length ≤ 1048576) :
    Calls Tryz.prog 26 #[.agg #[.string id, .int .i64 kind, .slice a ps.length cap, .slice c ts.length ca], .int .i64 1] w fun e w' => e = .returned (.int .i64 (1 + 2 * (ps.length : Int) + 2 * (ts.length : Int))) ∧ MarkedF w a c ps.length ts.length 1 w' := by
  have HP := Lib.hid hp
  have HS := Lib.hid hs
  have HT := Lib.hid ht
  have HS' := Lib.hid hs'
  have HA := Lib.hid hap
  have AL := Lib.hid hal
  clear hp hs ht hs' hap hal
  have A0 : Hid (∀ o, Below w.heap.size w (w.alloc o)) := fun o => (Below.refl _ _).alloc (Nat.le_refl _) _
  go_enter Tryz.func26, Tryz.ntmps26
  go_wp2_with fail
  refine (markShape_any _ _ _ _ _ _ (HP.out.below (A0.out _)) (HS.out.below HP.out (A0.out _)) hl (by omega) (by omega)).mono ?_
  rintro e w1 ⟨rfl, g1, g2, g3⟩
  have G : Hid (w.grownBy w1 (blk a)) := (World.grownBy_alloc w _ (blk a)).trans g3
  have c3 : w1.cell? ⟨w.heap.size, 3, none⟩ = some (.slice c ts.length ca) := by
    rw [g3.cell_far _ (by simp) (fun e => by have := AL.out _ e.symm; simp at this)]
    simp [go_sem]
  have P1 := Lib.hid g1
  have hne : ts.length = 0 ∨ blk c ≠ blk a := by
    by_cases h : ts.length = 0
    · exact .inl h
    · refine .inr fun e => ?_
      obtain ⟨b, off, rfl, _⟩ := HT.out 0 (by omega)
      exact HA.out b e.symm rfl
  have T1 := Lib.hid (HT.out.grown G.out hne)
  have S1 : Hid (Soft w1 c ts.length) := by
    by_cases h : ts.length = 0
    · rw [h]; exact fun i hi => absurd hi (Nat.not_lt_zero _)
    · exact HS'.out.grown G.out (HT.out.lt (by omega)) hne
  clear g1 g2 g3 hne
  go_wp2_with fail
  refine (markTagS_any _ _ _ _ _ T1.out S1.out hm (by omega) (by omega)).mono ?_
  rintro e w2 ⟨rfl, q1, q2, q3⟩
  have Q1 := Lib.hid q1
  have GG : Hid (Grown2 w w2 a c) := ⟨w1, G.out, q3⟩
  have P2 : Hid (PtsAt w2 a (marks 1 ps.length)) := by
    refine P1.out.grown q3 ?_
    by_cases h : ps.length = 0
    · exact .inl (by rw [marks_len]; exact h)
    · refine .inr fun e => ?_
      obtain ⟨b, off, rfl, _⟩ := HP.out 0 (by omega)
      exact HA.out b rfl e.symm
  clear q1 q2 q3 c3
  go_wp2
  go_ret
  exact ⟨rfl, P2.out, Q1.out, GG.out⟩

set_option maxRecDepth 100000 in
set_option maxHeartbeats 2000000 in
theorem heldFeat_any (id : ByteArray) (kind : Int) (a : Option Addr) (cap n : Nat) (c : Option Addr) (ca m : Nat) (w : World) (hp : PtsAt w a (marks 1 n)) (ht : TagsAt w c (marksT (1 + 2 * (n : Int)) m)) (hl : n ≤ 1048576) (hm : m ≤ 1048576) :
    Calls Tryz.prog 28 #[.agg #[.string id, .int .i64 kind, .slice a n cap, .slice c m ca], .int .i64 1] w fun e w' => e = .returned (.int .i64 (1 + 2 * (n : Int) + 2 * (m : Int))) ∧ Below w.heap.size w w' := by
  have HP := Lib.hid hp
  have HT := Lib.hid ht
  clear hp ht
  have A0 : Hid (∀ o, Below w.heap.size w (w.alloc o)) := fun o => (Below.refl _ _).alloc (Nat.le_refl _) _
  go_enter Tryz.func28, Tryz.ntmps28
  go_wp2_with fail
  refine (heldShape_any _ _ _ _ _ _ (HP.out.below (A0.out _)) hl (by omega) (by omega)).mono ?_
  rintro e w1 ⟨rfl, hb1⟩
  have c3 := cell_later hb1 (a := ⟨w.heap.size, 3, none⟩) (v := .slice c m ca) (by simp [go_sem])
  have B1 : Hid (Below w.heap.size w w1) := (A0.out _).trans (hb1.mono (by simp))
  clear hb1
  go_wp2_with fail
  refine (heldTagS_any _ _ _ _ _ (HT.out.below B1.out) hm (by omega) (by omega)).mono ?_
  rintro e w2 ⟨rfl, hb2⟩
  have B2 : Hid (Below w.heap.size w w2) := B1.out.trans (hb2.mono B1.out.size)
  clear hb2 c3
  go_wp2
  go_ret
  exact ⟨rfl, B2.out⟩
end Go.Proofs.YtdchfologicbeaaGreat

namespace Go.Proofs.YtdchfologicbeaaGreat
set_option linter.unusedVariables false
open Go.ChangeShapes Go.WideShapes Go.ChangeAt Go.RowKit Go.Deep

/-- what a function that makes points answers -/
def PtsAns (w : World) (ps : List (Int × Int)) (e : Ending) (w' : World) : Prop :=
  ∃ g cap, e = .returned (.slice (some ⟨g, 0, none⟩) ps.length cap) ∧ PtsAt w' (some ⟨g, 0, none⟩) ps ∧ Soft w' (some ⟨g, 0, none⟩) ps.length ∧ w.heap.size ≤ g ∧ g < w'.heap.size ∧ Below w.heap.size w w'

theorem news_pts {w : World} {b off : Nat} {ps : List (Int × Int)} (h : PtsAt w (some ⟨b, off, none⟩) ps) : ∀ j u, (flat ps)[j]? = some u → w.cell? ((⟨b, off, none⟩ : Addr).add j) = some u := by
  intro j u hu
  have hj : j < ps.length * 2 := by
    have := (List.getElem?_eq_some_iff.1 hu).1
    rw [flat_len] at this
    exact this
  obtain ⟨b', off', e, _, h1, h2⟩ := h (j / 2) (by omega)
  obtain ⟨rfl, rfl⟩ : b = b' ∧ off = off' := by simpa using e
  obtain ⟨f1, f2⟩ := flat_at ps (j / 2) (by omega)
  rw [add_plain]
  rcases (show j = j / 2 * 2 ∨ j = j / 2 * 2 + 1 by omega) with e | e
  · rw [← e] at f1 h1
    rw [hu] at f1
    rw [h1, f1]
  · rw [← e] at f2
    rw [Nat.add_assoc, ← e] at h2
    rw [hu] at f2
    rw [h2, f2]

theorem flat_one (ps : List (Int × Int)) : ∀ u ∈ flat ps, u.oneCell' = true := by
  intro u hu
  simp only [flat, List.mem_flatMap] at hu
  obtain ⟨p, _, h⟩ := hu
  simp at h
  rcases h with rfl | rfl <;> rfl

set_option maxHeartbeats 1000000 in
theorem clone_any (b off cap : Nat) (ps : List (Int × Int)) (w : World) (hp : PtsAt w (some ⟨b, off, none⟩) ps) (hl : ps.length ≤ 1048576) (h0 : 0 < ps.length) :
    Calls Tryz.prog 158 #[.slice (some ⟨b, off, none⟩) ps.length cap] w (PtsAns w ps) := by
  have HP := Lib.hid hp
  clear hp
  obtain ⟨i0, hi, hz0, hz1, hz2⟩ := info_parts infoPt
  have HI := Lib.hid hi
  have HZ0 := Lib.hid hz0
  have HZ1 := Lib.hid hz1
  have HZ2 := Lib.hid hz2
  clear hi hz0 hz1 hz2
  have heq := fun w => Lib.run_eql_slice_nil (P := Tryz.prog) w 38 174 (some ⟨b, off, none⟩) ps.length cap 0 0 Tryz.underlying38
  go_enter Tryz.func158, Tryz.ntmps158
  go_wp2_with (at_builtin; refine wpList_append_lies _ (by rfl) _ _ _ (by rfl) w.heap.size 174 i0 _ 2 16 Tryz.underlying38 HI.out HZ0.out HZ1.out HZ2.out rfl (by omega) (.slice (some ⟨w.heap.size, 0, none⟩) 0 0) 0 [] (by rfl) (World.ownsRow_made w #[] 0 (Nat.le_refl _) (by unfold maxLen; omega) rfl) ⟨b, off, none⟩ ps.length cap (flat ps) (by rfl) (flat_len ps) (news_pts (HP.out.below ((Below.refl _ _).alloc (Nat.le_refl _) _))) (flat_one ps) h0 (by unfold maxLen; omega) (by omega) (by simp) (w.heap.size + 1) (by simp) ?_; intro gg cap' wa hown1 hgrow hat hlt')
  go_ret
  rw [Nat.zero_add, List.nil_append] at hown1
  obtain ⟨a2, cap2, e2, hpt, hso, hnew⟩ := owned_pts hown1 rfl
  obtain ⟨rfl, rfl⟩ : some ⟨gg, 0, none⟩ = a2 ∧ cap' = cap2 := by simpa using e2
  refine ⟨gg, cap', rfl, hpt, hso, ?_, hlt', ((Below.refl _ _).alloc (Nat.le_refl _) _).grown hgrow (by simp) (fun j e => by simp [Value.ownBlock] at e; omega)⟩
  exact (hnew gg rfl).1

theorem made_far {W wa : World} {O : Obj} {v : Value} (hg : ((W.alloc O).drew).grownBy wa v.ownBlock) (hv : v.ownBlock = some W.heap.size) : Below W.heap.size W wa := by
  rw [hv] at hg
  have h1 : (W.alloc O).grownBy wa (some W.heap.size) := ⟨hg.os, hg.tape, hg.output, hg.size, hg.block⟩
  exact ((Below.refl _ _).alloc (Nat.le_refl _) _).grown h1 (by simp) (fun j e => by simp at e; omega)

set_option maxHeartbeats 2000000 in
theorem l1Copy_any (k : Int) (b off cap : Nat) (ps : List (Int × Int)) (w : World) (hp : PtsAt w (some ⟨b, off, none⟩) ps) (hl : ps.length ≤ 1048576) (h0 : 0 < ps.length) :
    Calls Tryz.prog 130 #[.agg #[.int .i64 k, .slice (some ⟨b, off, none⟩) ps.length cap]] w fun e w' => ∃ g cap2, e = .returned (.agg #[.int .i64 k, .slice (some ⟨g, 0, none⟩) ps.length cap2]) ∧ PtsAt w' (some ⟨g, 0, none⟩) ps ∧ Soft w' (some ⟨g, 0, none⟩) ps.length ∧ w.heap.size ≤ g ∧ g < w'.heap.size ∧ Below w.heap.size w w' := by
  have HP := Lib.hid hp
  clear hp
  obtain ⟨i0, hi, hz0, hz1, hz2⟩ := info_parts infoPt
  have HI := Lib.hid hi
  have HZ0 := Lib.hid hz0
  have HZ1 := Lib.hid hz1
  have HZ2 := Lib.hid hz2
  clear hi hz0 hz1 hz2
  go_enter Tryz.func130, Tryz.ntmps130
  go_wp2
  have q0 : ((w.alloc (.cells #[.int .i64 k, .slice (some ⟨b, off, none⟩) ps.length cap] 40)).alloc (.cells #[.int .i64 0, .slice none 0 0] 40)).cell? ⟨w.heap.size, 0, none⟩ = some (.int .i64 k) := by simp [go_sem]
  have q1 : ((w.alloc (.cells #[.int .i64 k, .slice (some ⟨b, off, none⟩) ps.length cap] 40)).alloc (.cells #[.int .i64 0, .slice none 0 0] 40)).cell? ⟨w.heap.size, 1, none⟩ = some (.slice (some ⟨b, off, none⟩) ps.length cap) := by simp [go_sem]
  have q2 : ((w.alloc (.cells #[.int .i64 k, .slice (some ⟨b, off, none⟩) ps.length cap] 40)).alloc (.cells #[.int .i64 0, .slice none 0 0] 40)).cell? ⟨w.heap.size + 1, 0, none⟩ = some (.int .i64 0) := by simp [go_sem]
  have q3 : ((w.alloc (.cells #[.int .i64 k, .slice (some ⟨b, off, none⟩) ps.length cap] 40)).alloc (.cells #[.int .i64 0, .slice none 0 0] 40)).cell? ⟨w.heap.size + 1, 1, none⟩ = some (.slice none 0 0) := by simp [go_sem]
  have q4 : ((w.alloc (.cells #[.int .i64 k, .slice (some ⟨b, off, none⟩) ps.length cap] 40)).alloc (.cells #[.int .i64 0, .slice none 0 0] 40)).frozen? ⟨w.heap.size + 1, 0, none⟩ = false := by simp [go_sem]
  have q5 : ((w.alloc (.cells #[.int .i64 k, .slice (some ⟨b, off, none⟩) ps.length cap] 40)).alloc (.cells #[.int .i64 0, .slice none 0 0] 40)).frozen? ⟨w.heap.size + 1, 1, none⟩ = false := by simp [go_sem]
  have B0 : Hid (Below w.heap.size w ((w.alloc (.cells #[.int .i64 k, .slice (some ⟨b, off, none⟩) ps.length cap] 40)).alloc (.cells #[.int .i64 0, .slice none 0 0] 40))) := ((Below.refl _ _).alloc (Nat.le_refl _) _).alloc (by simp) _
  generalize ((w.alloc (.cells #[.int .i64 k, .slice (some ⟨b, off, none⟩) ps.length cap] 40)).alloc (.cells #[.int .i64 0, .slice none 0 0] 40)) = W at *
  have z1 : w.heap.size + 1 < W.heap.size := World.block_lt_of_cell? _ _ q2
  have z0 : w.heap.size < W.heap.size := by omega
  have m1 : ¬ w.heap.size = W.heap.size := by omega
  have m2 : ¬ w.heap.size + 1 = W.heap.size := by omega
  go_region_law (refine step_append_lies _ (by rfl) _ _ _ (by rfl) W.heap.size 174 i0 _ 2 16 Tryz.underlying38 HI.out HZ0.out HZ1.out HZ2.out rfl (by omega) (.slice (some ⟨W.heap.size, 0, none⟩) 0 0) 0 [] (by rfl) ((World.ownsRow_made W #[] 0 (Nat.le_refl _) (by unfold maxLen; omega) rfl).drew) ⟨b, off, none⟩ ps.length cap (flat ps) (by rfl) (flat_len ps) (news_pts (HP.out.below (((B0.out.alloc (by omega) _)).drew))) (flat_one ps) h0 (by unfold maxLen; omega) (by omega) (by simp) (W.heap.size + 1) (by simp) ?_; intro gg cap' wa hown1 hgrow hat hlt'; have hbw := made_far hgrow rfl; have x4 := cell_later hbw q0; have x0 := cell_later hbw q2; have x1 := cell_later hbw q3; have x2 := (hbw.frozen (p := ⟨w.heap.size + 1, 0, none⟩) z1).trans q4; have x3 := (hbw.frozen (p := ⟨w.heap.size + 1, 1, none⟩) z1).trans q5; have HBW := Lib.hid hbw; have HOW := Lib.hid hown1; clear hbw hgrow hat hown1)
  all_goals go_wp2
  all_goals refine bodyPost_ret (v := .agg #[.int .i64 k, .slice (some ⟨gg, 0, none⟩) ps.length cap']) (by simp [results, Tryz.results130, go_sem, x0, x1]) rfl ?_
  all_goals
    have hown1 := HOW.out
    rw [Nat.zero_add, List.nil_append] at hown1
    obtain ⟨a2, cap2, e2, hpt, hso, hnew⟩ := owned_pts hown1 rfl
    obtain ⟨rfl, rfl⟩ : some ⟨gg, 0, none⟩ = a2 ∧ cap' = cap2 := by simpa using e2
    have hge := (hnew gg rfl).1
    have hne : blk (some ⟨gg, 0, none⟩) ≠ some (w.heap.size + 1) := by simp [blk]; omega
    exact ⟨gg, cap', rfl, (hpt.set hne).set hne, (hso.set _ _).set _ _, by omega, by simpa [World.setCell] using hlt', ((B0.out.trans (HBW.out.mono (by omega))).setCell (by simp) _).setCell (by simp) _⟩
end Go.Proofs.YtdchfologicbeaaGreat

namespace Go.Proofs.YtdchfologicbeaaGreat
set_option linter.unusedVariables false
open Go.ChangeShapes Go.WideShapes Go.ChangeAt Go.RowKit Go.Deep

theorem news_tags {w : World} {b off : Nat} {ts : List Tg} (h : TagsAt w (some ⟨b, off, none⟩) ts) : ∀ j u, (flatT ts)[j]? = some u → w.cell? ((⟨b, off, none⟩ : Addr).add j) = some u := by
  intro j u hu
  have hj : j < ts.length * 2 := by
    have := (List.getElem?_eq_some_iff.1 hu).1
    rw [flatT_len] at this
    exact this
  obtain ⟨b', off', e, _, h1, h2⟩ := h (j / 2) (by omega)
  obtain ⟨rfl, rfl⟩ : b = b' ∧ off = off' := by simpa using e
  obtain ⟨f1, f2⟩ := flatT_at ts (j / 2) (by omega)
  rw [add_plain]
  rcases (show j = j / 2 * 2 ∨ j = j / 2 * 2 + 1 by omega) with e | e
  · rw [← e] at f1 h1
    rw [hu] at f1
    rw [h1, f1]
  · rw [← e] at f2
    rw [Nat.add_assoc, ← e] at h2
    rw [hu] at f2
    rw [h2, f2]

theorem flatT_one (ts : List Tg) : ∀ u ∈ flatT ts, u.oneCell' = true := by
  intro u hu
  simp only [flatT, List.mem_flatMap] at hu
  obtain ⟨p, _, h⟩ := hu
  simp at h
  rcases h with rfl | rfl <;> rfl

theorem ownsRow_below {w w' : World} {base : Nat} {e : TypeId} {sz : Nat} {v : Value} {n : Nat} {xs : List Value} (h : w.ownsRow base e sz v n xs) (hb : Below w.heap.size w w') : w'.ownsRow base e sz v n xs := by
  obtain ⟨h1, h2 | ⟨g, cap, cur, h3, h4, hg, h5⟩⟩ := h
  · exact ⟨h1, .inl h2⟩
  · exact ⟨h1, .inr ⟨g, cap, cur, h3, h4, (hb.block g (Array.getElem?_eq_some_iff.1 hg).1).trans hg, h5⟩⟩

/-- what stands in a cell -/
def cellOf (w : World) (b o : Nat) : Value := (w.cell? ⟨b, o, none⟩).getD undef
theorem cellOf_some {w : World} {b o : Nat} (h : (w.cell? ⟨b, o, none⟩).isSome = true) : w.cell? ⟨b, o, none⟩ = some (cellOf w b o) := by
  unfold cellOf
  cases h1 : w.cell? ⟨b, o, none⟩
  · rw [h1] at h; cases h
  · rfl

/-- nothing that lay ahead has turned but one block's cells -/
structure Kept1 (W : World) (r : Nat) (wy : World) : Prop where
  grown : W.grownBy wy (some r)
  soft : ∀ p : Addr, p.block < W.heap.size → wy.frozen? p = W.frozen? p
  some : ∀ o, (W.cell? ⟨r, o, none⟩).isSome = true → (wy.cell? ⟨r, o, none⟩).isSome = true
  lt : r < W.heap.size

theorem Kept1.refl {W : World} {r : Nat} (h : r < W.heap.size) : Kept1 W r W := ⟨World.grownBy.refl _ _, fun _ _ => rfl, fun _ h => h, h⟩
theorem Kept1.drew {W wy : World} {r : Nat} (h : Kept1 W r wy) : Kept1 W r wy.drew := ⟨⟨h.grown.os, h.grown.tape, h.grown.output, h.grown.size, h.grown.block⟩, h.soft, h.some, h.lt⟩
theorem Kept1.below {W wy wn : World} {r : Nat} (h : Kept1 W r wy) (hb : Below wy.heap.size wy wn) : Kept1 W r wn :=
  ⟨h.grown.trans ⟨hb.os, hb.tape, hb.output, hb.size, fun k hk _ => hb.block k hk⟩, fun p hp => (hb.frozen (Nat.lt_of_lt_of_le hp h.grown.size)).trans (h.soft p hp), fun o ho => by rw [hb.cell (p := ⟨r, o, none⟩) (Nat.lt_of_lt_of_le h.lt h.grown.size)]; exact h.some o ho, h.lt⟩
theorem Kept1.alloc {W wy : World} {r : Nat} (h : Kept1 W r wy) (o : Obj) : Kept1 W r (wy.alloc o) := h.below ((Below.refl _ _).alloc (Nat.le_refl _) _)
theorem Kept1.set {W wy : World} {r : Nat} (h : Kept1 W r wy) (o : Nat) (v : Value) : Kept1 W r (wy.setCell ⟨r, o, none⟩ v) :=
  ⟨grown_set h.grown _ _, fun p hp => by rw [World.frozen?_setCell]; exact h.soft p hp, fun o' ho => by
    obtain ⟨u, hu⟩ := Option.isSome_iff_exists.1 (h.some o' ho)
    obtain ⟨v', hv'⟩ := cell?_setCell_some (p := ⟨r, o, none⟩) (x := v) hu
    rw [hv']; rfl, h.lt⟩
theorem Kept1.grow {W wy wa : World} {r : Nat} {x : Option Nat} (h : Kept1 W r wy) (hg : wy.grownBy wa x) (hx : ∀ j, x = Option.some j → W.heap.size ≤ j) : Kept1 W r wa :=
  ⟨h.grown.andThen hg (fun j e => .inl (hx j e)), fun p hp => (hg.frozen_far p (Nat.lt_of_lt_of_le hp h.grown.size) (fun e => by have := hx _ e.symm; omega)).trans (h.soft p hp), fun o ho => by
    rw [hg.cell_far ⟨r, o, none⟩ (Nat.lt_of_lt_of_le h.lt h.grown.size) (fun e => by have h1 := hx r e.symm; have h2 := h.lt; omega)]; exact h.some o ho, h.lt⟩
theorem Kept1.under {W wy : World} {B : Nat} {w : World} (h : Kept1 W (B + 1) wy) (hb : Below B w W) : Below B w wy := hb.grown h.grown (by have := h.lt; omega) (fun j e => by obtain rfl : B + 1 = j := (by simpa using e); omega)

/-- a copy of points and a copy of tags lie in two rows made since -/
def Copied (W : World) (ps : List (Int × Int)) (ts : List Tg) (g gg cap' : Nat) (wx : World) : Prop :=
  PtsAt wx (some ⟨g, 0, none⟩) ps ∧ Soft wx (some ⟨g, 0, none⟩) ps.length ∧ W.heap.size ≤ g ∧ g < wx.heap.size ∧ wx.ownsRow W.heap.size 122 2 (.slice (some ⟨gg, 0, none⟩) ts.length cap') ts.length (flatT ts) ∧ g ≠ gg

theorem Copied.grow {W wn wa : World} {ps : List (Int × Int)} {ts : List Tg} {g gg cap' x : Nat} (hgrow : wn.grownBy wa (some x)) (hpt : PtsAt wn (some ⟨g, 0, none⟩) ps) (hso : Soft wn (some ⟨g, 0, none⟩) ps.length) (hg : W.heap.size ≤ g) (hglt : g < wn.heap.size) (hx : g ≠ x) (hgg : g ≠ gg)
    (hO : wa.ownsRow W.heap.size 122 2 (.slice (some ⟨gg, 0, none⟩) ts.length cap') ts.length (flatT ts)) : Copied W ps ts g gg cap' wa :=
  ⟨hpt.grown hgrow (.inr (by simpa [blk] using hx)), hso.grown hgrow (fun y e => by obtain rfl : g = y := (by simpa [blk] using e); exact hglt) (.inr (by simpa [blk] using hx)), hg, Nat.lt_of_lt_of_le hglt hgrow.size, hO, hgg⟩

theorem ordA {W wn wa : World} {O : Obj} {ps : List (Int × Int)} {ts : List Tg} {g gg cap' : Nat} (hgrow : (wn.alloc O).grownBy wa (some wn.heap.size)) (hat : some wn.heap.size = some gg ∨ gg = (wn.alloc O).heap.size) (hO : wa.ownsRow W.heap.size 122 2 (.slice (some ⟨gg, 0, none⟩) ts.length cap') ts.length (flatT ts))
    (hpt : PtsAt wn (some ⟨g, 0, none⟩) ps) (hso : Soft wn (some ⟨g, 0, none⟩) ps.length) (hg : W.heap.size ≤ g) (hglt : g < wn.heap.size) : Copied W ps ts g gg cap' wa := by
  have ba : Below wn.heap.size wn (wn.alloc O) := (Below.refl _ _).alloc (Nat.le_refl _) _
  refine Copied.grow hgrow (hpt.below ba) (hso.below hpt ba) hg (by simp; omega) (by omega) ?_ hO
  rcases hat with h | h
  · have := Option.some.inj h
    omega
  · simp at h
    omega

theorem ordC {W wn wa : World} {O : Obj} {ps : List (Int × Int)} {ts : List Tg} {g gg cap' : Nat} (hgrow : wn.grownBy wa (some W.heap.size)) (hat : some W.heap.size = some gg ∨ gg = wn.heap.size) (hO : wa.ownsRow W.heap.size 122 2 (.slice (some ⟨gg, 0, none⟩) ts.length cap') ts.length (flatT ts))
    (hpt : PtsAt wn (some ⟨g, 0, none⟩) ps) (hso : Soft wn (some ⟨g, 0, none⟩) ps.length) (hg : (W.alloc O).heap.size ≤ g) (hglt : g < wn.heap.size) : Copied W ps ts g gg cap' wa := by
  rw [World.size_alloc] at hg
  refine Copied.grow hgrow hpt hso (by omega) hglt (by omega) ?_ hO
  rcases hat with h | h
  · have := Option.some.inj h
    omega
  · omega

theorem ordB {W wa wn : World} {ps : List (Int × Int)} {ts : List Tg} {g gg cap' : Nat} (hlt : gg < wa.heap.size) (hO : wa.ownsRow W.heap.size 122 2 (.slice (some ⟨gg, 0, none⟩) ts.length cap') ts.length (flatT ts)) (hbn : Below wa.heap.size wa wn)
    (hpt : PtsAt wn (some ⟨g, 0, none⟩) ps) (hso : Soft wn (some ⟨g, 0, none⟩) ps.length) (hg : wa.heap.size ≤ g) (hglt : g < wn.heap.size) (hW : W.heap.size ≤ wa.heap.size) : Copied W ps ts g gg cap' wn :=
  ⟨hpt, hso, Nat.le_trans hW hg, hglt, ownsRow_below hO hbn, by omega⟩

theorem Copied.store {W wy : World} {ps : List (Int × Int)} {ts : List Tg} {g gg cap' r : Nat} {v0 v1 v2 v3 : Value} (h : Copied W ps ts g gg cap' wy) (hk : Kept1 W r wy) (h4 : ∀ i, i < 4 → (W.cell? ⟨r, i, none⟩).isSome = true) :
    Box4 ((((wy.setCell ⟨r, 0, none⟩ v0).setCell ⟨r, 1, none⟩ v1).setCell ⟨r, 2, none⟩ v2).setCell ⟨r, 3, none⟩ v3) r v0 v1 v2 v3 ∧ Copied W ps ts g gg cap' ((((wy.setCell ⟨r, 0, none⟩ v0).setCell ⟨r, 1, none⟩ v1).setCell ⟨r, 2, none⟩ v2).setCell ⟨r, 3, none⟩ v3) := by
  have hr := hk.lt
  obtain ⟨k1, k2, k3, k4, k5, k6⟩ := h
  have hgg : W.heap.size ≤ gg := (k5.lt gg rfl).1
  have hne : blk (some ⟨g, 0, none⟩) ≠ some r := by simp [blk]; omega
  have own : ∀ {w : World} {o : Nat} {v : Value}, w.ownsRow W.heap.size 122 2 (.slice (some ⟨gg, 0, none⟩) ts.length cap') ts.length (flatT ts) → (w.setCell ⟨r, o, none⟩ v).ownsRow W.heap.size 122 2 (.slice (some ⟨gg, 0, none⟩) ts.length cap') ts.length (flatT ts) := fun h => World.ownsRow.kept h ⟨rfl, rfl, rfl, by simp [World.setCell], fun k _ hne => Below.heap_setCell _ _ _ _ (fun e => hne (by rw [e]))⟩ (row := some r) (.inr (by show some gg ≠ some r; simp; omega))
  have s0 := Option.isSome_iff_exists.1 (hk.some 0 (h4 0 (by omega)))
  have s1 := Option.isSome_iff_exists.1 (hk.some 1 (h4 1 (by omega)))
  have s2 := Option.isSome_iff_exists.1 (hk.some 2 (h4 2 (by omega)))
  have s3 := Option.isSome_iff_exists.1 (hk.some 3 (h4 3 (by omega)))
  obtain ⟨u0, s0⟩ := s0
  obtain ⟨u1, s1⟩ := s1
  obtain ⟨u2, s2⟩ := s2
  obtain ⟨u3, s3⟩ := s3
  have far : ∀ (w : World) (o o' : Nat) (v : Value), o ≠ o' → (w.setCell ⟨r, o, none⟩ v).cell? ⟨r, o', none⟩ = w.cell? ⟨r, o', none⟩ := fun w o o' v hne => World.cell?_setCell_other w ⟨r, o, none⟩ ⟨r, o', none⟩ v (fun h => hne (congrArg Addr.off h))
  refine ⟨⟨?_, ?_, ?_, ?_⟩, (((k1.set hne).set hne).set hne).set hne, (((k2.set _ _).set _ _).set _ _).set _ _, k3, by simpa [World.setCell] using k4, own (own (own (own k5))), k6⟩
  · rw [far _ _ _ _ (by omega), far _ _ _ _ (by omega), far _ _ _ _ (by omega)]
    exact World.cell?_setCell_same _ _ _ s0
  · rw [far _ _ _ _ (by omega), far _ _ _ _ (by omega)]
    exact World.cell?_setCell_same _ _ _ ((far _ _ _ _ (by omega)).trans s1)
  · rw [far _ _ _ _ (by omega)]
    exact World.cell?_setCell_same _ _ _ ((far _ _ _ _ (by omega)).trans ((far _ _ _ _ (by omega)).trans s2))
  · exact World.cell?_setCell_same _ _ _ ((far _ _ _ _ (by omega)).trans ((far _ _ _ _ (by omega)).trans ((far _ _ _ _ (by omega)).trans s3)))

/-- what a function that makes a thing answers -/
def FeatAns (w : World) (id : ByteArray) (k : Int) (ps : List (Int × Int)) (ts : List Tg) (v : Value) (w' : World) : Prop :=
  ∃ a cap c ca, v = .agg #[.string id, .int .i64 k, .slice a ps.length cap, .slice c ts.length ca] ∧ PtsAt w' a ps ∧ Soft w' a ps.length ∧ Fresh w w' a ∧ TagsAt w' c ts ∧ Soft w' c ts.length ∧ Fresh w w' c ∧ Apart a c ∧ Below w.heap.size w w'

set_option maxRecDepth 100000 in
set_option maxHeartbeats 6400000 in
theorem l2Copy_any (id : ByteArray) (k : Int) (b off cap : Nat) (ps : List (Int × Int)) (b2 off2 ca : Nat) (ts : List Tg) (w : World) (hp : PtsAt w (some ⟨b, off, none⟩) ps) (ht : TagsAt w (some ⟨b2, off2, none⟩) ts) (hl : ps.length ≤ 1048576) (h0 : 0 < ps.length) (hm : ts.length ≤ 1048576) (h1 : 0 < ts.length) :
    Calls Tryz.prog 63 #[.agg #[.string id, .int .i64 k, .slice (some ⟨b, off, none⟩) ps.length cap, .slice (some ⟨b2, off2, none⟩) ts.length ca]] w fun e w' => ∃ v, e = .returned v ∧ FeatAns w id k ps ts v w' := by
  have HP := Lib.hid hp
  have HT := Lib.hid ht
  clear hp ht
  obtain ⟨i0, hi, hz0, hz1, hz2⟩ := info_parts infoT
  have HI := Lib.hid hi
  have HZ0 := Lib.hid hz0
  have HZ1 := Lib.hid hz1
  have HZ2 := Lib.hid hz2
  clear hi hz0 hz1 hz2
  go_enter Tryz.func63, Tryz.ntmps63
  go_upto_region 1 with (fail)
  obtain ⟨W, hW⟩ : ∃ W, W = ((w.alloc (.cells #[.string id, .int .i64 k, .slice (some ⟨b, off, none⟩) ps.length cap, .slice (some ⟨b2, off2, none⟩) ts.length ca] 43)).alloc (.cells #[.string ⟨#[]⟩, .int .i64 0, .slice none 0 0, .slice none 0 0] 43)) := ⟨_, rfl⟩
  have B0 : Hid (Below w.heap.size w W) := by rw [hW]; exact ((Below.refl _ _).alloc (Nat.le_refl _) _).alloc (by simp) _
  have hz : Hid (W.heap.size = w.heap.size + 1 + 1) := by show _ = _; rw [hW]; simp
  have SOF : Hid (∀ wy, Kept1 W (w.heap.size + 1) wy → wy.cell? ⟨w.heap.size, 0, none⟩ = some (.string id) ∧ wy.cell? ⟨w.heap.size, 1, none⟩ = some (.int .i64 k) ∧ wy.cell? ⟨w.heap.size, 2, none⟩ = some (.slice (some ⟨b, off, none⟩) ps.length cap) ∧ wy.cell? ⟨w.heap.size, 3, none⟩ = some (.slice (some ⟨b2, off2, none⟩) ts.length ca) ∧ wy.cell? ⟨(w.heap.size + 1), 0, none⟩ = some (cellOf wy (w.heap.size + 1) 0) ∧ wy.cell? ⟨(w.heap.size + 1), 1, none⟩ = some (cellOf wy (w.heap.size + 1) 1) ∧ wy.cell? ⟨(w.heap.size + 1), 2, none⟩ = some (cellOf wy (w.heap.size + 1) 2) ∧ wy.cell? ⟨(w.heap.size + 1), 3, none⟩ = some (cellOf wy (w.heap.size + 1) 3) ∧ wy.frozen? ⟨(w.heap.size + 1), 0, none⟩ = false ∧ wy.frozen? ⟨(w.heap.size + 1), 1, none⟩ = false ∧ wy.frozen? ⟨(w.heap.size + 1), 2, none⟩ = false ∧ wy.frozen? ⟨(w.heap.size + 1), 3, none⟩ = false ∧ Kept1 W (w.heap.size + 1) wy) := by
    intro wy hb
    have hz := hz.out
    have hc : ∀ o, wy.cell? ⟨w.heap.size, o, none⟩ = W.cell? ⟨w.heap.size, o, none⟩ := fun o => hb.grown.cell_far ⟨w.heap.size, o, none⟩ (by show w.heap.size < _; omega) (by simp)
    have hf : ∀ o, wy.frozen? ⟨w.heap.size + 1, o, none⟩ = W.frozen? ⟨w.heap.size + 1, o, none⟩ := fun o => hb.soft _ (by show w.heap.size + 1 < _; omega)
    refine ⟨?_, ?_, ?_, ?_, cellOf_some (hb.some _ ?_), cellOf_some (hb.some _ ?_), cellOf_some (hb.some _ ?_), cellOf_some (hb.some _ ?_), ?_, ?_, ?_, ?_, hb⟩
    all_goals first | rw [hc, hW] | rw [hf, hW] | rw [hW]
    all_goals simp [go_sem]
  have H4 : Hid (∀ i, i < 4 → (W.cell? ⟨w.heap.size + 1, i, none⟩).isSome = true) := by
    intro i hi
    rw [hW]
    rcases (show i = 0 ∨ i = 1 ∨ i = 2 ∨ i = 3 by omega) with rfl | rfl | rfl | rfl <;> simp [go_sem]
  rw [← hW]
  have m1 : ¬ w.heap.size = W.heap.size := by have := hz.out; omega
  have m2 : ¬ w.heap.size + 1 = W.heap.size := by have := hz.out; omega
  clear hW
  go_cut [12] (fun s12 wx => ∃ g cap2 gg cap', Box4 wx (w.heap.size + 1) (.string id) (.int .i64 k) (.slice (some ⟨g, 0, none⟩) ps.length cap2) (.slice (some ⟨gg, 0, none⟩) ts.length cap') ∧ Copied W ps ts g gg cap' wx ∧ Below w.heap.size w wx)
  case first =>
    go_region_held3 (fun wy => wy.cell? ⟨w.heap.size, 0, none⟩ = some (.string id) ∧ wy.cell? ⟨w.heap.size, 1, none⟩ = some (.int .i64 k) ∧ wy.cell? ⟨w.heap.size, 2, none⟩ = some (.slice (some ⟨b, off, none⟩) ps.length cap) ∧ wy.cell? ⟨w.heap.size, 3, none⟩ = some (.slice (some ⟨b2, off2, none⟩) ts.length ca) ∧ wy.cell? ⟨(w.heap.size + 1), 0, none⟩ = some (cellOf wy (w.heap.size + 1) 0) ∧ wy.cell? ⟨(w.heap.size + 1), 1, none⟩ = some (cellOf wy (w.heap.size + 1) 1) ∧ wy.cell? ⟨(w.heap.size + 1), 2, none⟩ = some (cellOf wy (w.heap.size + 1) 2) ∧ wy.cell? ⟨(w.heap.size + 1), 3, none⟩ = some (cellOf wy (w.heap.size + 1) 3) ∧ wy.frozen? ⟨(w.heap.size + 1), 0, none⟩ = false ∧ wy.frozen? ⟨(w.heap.size + 1), 1, none⟩ = false ∧ wy.frozen? ⟨(w.heap.size + 1), 2, none⟩ = false ∧ wy.frozen? ⟨(w.heap.size + 1), 3, none⟩ = false ∧ Kept1 W (w.heap.size + 1) wy)
      (first
        | exact SOF.out _ (Kept1.refl (by have := hz.out; omega)).drew
        | exact SOF.out _ hbx
        | (go_split_ands
           rename_i hS
           exact SOF.out _ (hS.below hbn))
        | (go_split_ands
           rename_i hS
           exact SOF.out _ (hS.alloc _))
        | (go_split_ands
           rename_i hS
           exact SOF.out _ ((((hS.set _ _).set _ _).set _ _).set _ _)))
      (first
        | (go_at_call 130
           refine (l1Copy_any k b off cap ps _ ?_ hl h0).mono ?_
           · (go_split_ands; rename_i hS; exact HP.out.below (hS.under B0.out))
           rintro e wn ⟨g, cap2, rfl, hpt, hso, hg, hglt, hbn⟩
           try (have hF := ordB (W := W) hlt' hO2 hbn hpt hso hg hglt hbx.grown.size))
        | (refine step_append_lies _ (by rfl) _ _ _ (by rfl) W.heap.size 122 i0 _ 2 32 Tryz.underlying41 HI.out HZ0.out HZ1.out HZ2.out rfl (by omega) _ 0 [] (by rfl) ?_ ⟨b2, off2, none⟩ ts.length ca (flatT ts) (by rfl) (flatT_len ts) ?_ (flatT_one ts) h1 (by unfold maxLen; omega) (by omega) ?_ _ rfl ?_
           · (first
               | exact ownsRow_base (World.ownsRow_made wn #[] 0 (Nat.le_refl _) (by unfold maxLen; omega) rfl) hbn.size
               | exact (World.ownsRow_made W #[] 0 (Nat.le_refl _) (by unfold maxLen; omega) rfl).drew
               | exact ownsRow_below ((World.ownsRow_made W #[] 0 (Nat.le_refl _) (by unfold maxLen; omega) rfl).drew) hbn)
           · (go_split_ands; rename_i hS; exact news_tags (HT.out.below (hS.under B0.out)))
           · (go_split_ands; rename_i hS; exact hS.grown.size)
           intro gg cap' wa hown1 hgrow hat hlt'
           go_split_ands
           rename_i hS
           rw [Nat.zero_add, List.nil_append] at hown1
           have hO2 := hown1
           try (first | have hF := ordA (W := W) hgrow hat hO2 hpt hso hg hglt | have hF := ordC (W := W) hgrow hat hO2 hpt hso hg hglt)
           have hbx := hS.grow hgrow (fun j e => by first | (have h := hbn.size; obtain rfl : wn.heap.size = j := (Option.some.inj e); exact h) | (obtain rfl : W.heap.size = j := (Option.some.inj e); exact Nat.le_refl _))))
    all_goals (go_wp2_with fail; go_meet; first | exact ⟨g, cap2, gg, cap', (hF.store hbx H4.out).1, (hF.store hbx H4.out).2, ((((hbx.set _ _).set _ _).set _ _).set _ _).under B0.out⟩ | exact ⟨g, cap2, gg, cap', (hF.store (hbx.below hbn) H4.out).1, (hF.store (hbx.below hbn) H4.out).2, (((((hbx.below hbn).set _ _).set _ _).set _ _).set _ _).under B0.out⟩)
  case rest =>
    obtain ⟨g, cap2, gg, cap', hbox, hcp, hB⟩ := hcut
    obtain ⟨r0, r1, r2, r3⟩ := hbox
    have CP := Lib.hid hcp
    have B := Lib.hid hB
    clear hcp hB
    go_wp2
    refine bodyPost_ret (v := .agg #[.string id, .int .i64 k, .slice (some ⟨g, 0, none⟩) ps.length cap2, .slice (some ⟨gg, 0, none⟩) ts.length cap']) (by simp [results, Tryz.results63, go_sem, r0, r1, r2, r3]) rfl ?_
    obtain ⟨k1, k2, k3, k4, k5, k6⟩ := CP.out
    obtain ⟨a2, ca2, e2, t1, t2, t3⟩ := owned_tags k5 rfl
    obtain ⟨rfl, rfl⟩ : some ⟨gg, 0, none⟩ = a2 ∧ cap' = ca2 := by simpa using e2
    have hz' := hz.out
    exact ⟨_, rfl, _, _, _, _, rfl, k1, k2, fun x e => by obtain rfl : g = x := (by simpa [blk] using e); exact ⟨by omega, k4⟩, t1, t2, fun x e => ⟨by have := (t3 x e).1; omega, (t3 x e).2⟩, fun x e e' => k6 (by obtain rfl : g = x := (by simpa [blk] using e); obtain rfl : gg = g := (by simpa [blk] using e'); rfl), B.out⟩
end Go.Proofs.YtdchfologicbeaaGreat

namespace Go.Proofs.YtdchfologicbeaaGreat
set_option linter.unusedVariables false
open Go.ChangeShapes Go.WideShapes Go.ChangeAt Go.RowKit Go.Deep

/-- a world that has grown, turned in these blocks alone -/
structure Turned (w w' : World) (S : Nat → Prop) : Prop where
  os : w'.os = w.os
  tape : w'.tape = w.tape
  output : w'.output = w.output
  size : w.heap.size ≤ w'.heap.size
  block : ∀ k, k < w.heap.size → ¬ S k → w'.heap[k]? = w.heap[k]?

theorem Turned.refl (w : World) (S : Nat → Prop) : Turned w w S := ⟨rfl, rfl, rfl, Nat.le_refl _, fun _ _ _ => rfl⟩

theorem Turned.trans {a b c : World} {S : Nat → Prop} (h : Turned a b S) (k : Turned b c S) : Turned a c S :=
  ⟨k.os.trans h.os, k.tape.trans h.tape, k.output.trans h.output, Nat.le_trans h.size k.size, fun i hi hn => (k.block i (Nat.lt_of_lt_of_le hi h.size) hn).trans (h.block i hi hn)⟩

theorem Turned.of_below {w w' : World} {S : Nat → Prop} (h : Below w.heap.size w w') : Turned w w' S := ⟨h.os, h.tape, h.output, h.size, fun k hk _ => h.block k hk⟩

theorem Turned.of_grown {w w' : World} {row : Option Nat} {S : Nat → Prop} (h : w.grownBy w' row) (hS : ∀ x, row = some x → S x) : Turned w w' S :=
  ⟨h.os, h.tape, h.output, h.size, fun k hk hn => h.block k hk (fun e => hn (hS k e.symm))⟩

theorem Turned.of_set (w : World) {b : Nat} (o : Nat) (v : Value) {S : Nat → Prop} (hS : S b) : Turned w (w.setCell ⟨b, o, none⟩ v) S :=
  ⟨rfl, rfl, rfl, by simp [World.setCell], fun k _ hn => Below.heap_setCell _ _ _ _ (fun e => hn (by rw [e]; exact hS))⟩

theorem Turned.cell {w w' : World} {S : Nat → Prop} (h : Turned w w' S) {a : Addr} {v : Value} (hc : w.cell? a = some v) (hn : ¬ S a.block) : w'.cell? a = some v := by
  rw [World.cell?_of_block (h.block _ (World.block_lt_of_cell? _ _ hc) hn)]
  exact hc

theorem Turned.frozen {w w' : World} {S : Nat → Prop} (h : Turned w w' S) {a : Addr} (hlt : a.block < w.heap.size) (hn : ¬ S a.block) : w'.frozen? a = w.frozen? a := World.frozen?_of_block (h.block _ hlt hn)

theorem Turned.below {w w' : World} {S : Nat → Prop} {B : Nat} (h : Turned w w' S) (hB : B ≤ w.heap.size) (hS : ∀ x, S x → B ≤ x) : Below B w w' :=
  ⟨h.os, h.tape, h.output, h.size, fun k hk => h.block k (Nat.lt_of_lt_of_le hk hB) (fun hs => by have := hS k hs; omega)⟩

theorem PtsAt.turned {w w' : World} {a : Option Addr} {ps : List (Int × Int)} {S : Nat → Prop} (h : PtsAt w a ps) (ht : Turned w w' S) (hn : ∀ x, blk a = some x → ¬ S x) : PtsAt w' a ps := by
  intro i hi
  obtain ⟨b, off, rfl, hlt, h1, h2⟩ := h i hi
  exact ⟨b, off, rfl, Nat.lt_of_lt_of_le hlt ht.size, ht.cell h1 (hn b rfl), ht.cell h2 (hn b rfl)⟩

theorem TagsAt.turned {w w' : World} {a : Option Addr} {ts : List Tg} {S : Nat → Prop} (h : TagsAt w a ts) (ht : Turned w w' S) (hn : ∀ x, blk a = some x → ¬ S x) : TagsAt w' a ts := by
  intro i hi
  obtain ⟨b, off, rfl, hlt, h1, h2⟩ := h i hi
  exact ⟨b, off, rfl, Nat.lt_of_lt_of_le hlt ht.size, ht.cell h1 (hn b rfl), ht.cell h2 (hn b rfl)⟩

/-- where the points and tags of a thing lie, and how much room is there -/
abbrev Pl := (Option Addr × Nat) × (Option Addr × Nat)

/-- a thing's cells -/
def cellsF (f : Ft) (p : Pl) : List Value := [.string f.1, .int .i64 f.2.1, .slice p.1.1 f.2.2.1.length p.1.2, .slice p.2.1 f.2.2.2.length p.2.2]

/-- the cells of the first things -/
def flatF (fs : List Ft) (ad : Nat → Pl) (k : Nat) : List Value := (List.range k).flatMap fun i => cellsF (fg fs i) (ad i)

/-- one more place -/
def plSet (ad : Nat → Pl) (k : Nat) (p : Pl) : Nat → Pl := fun i => if i = k then p else ad i

theorem plSet_at (ad : Nat → Pl) (k : Nat) (p : Pl) : plSet ad k p k = p := if_pos rfl

theorem plSet_lt {ad : Nat → Pl} {k i : Nat} {p : Pl} (h : i < k) : plSet ad k p i = ad i := if_neg (by omega)

theorem flatF_succ (fs : List Ft) (ad : Nat → Pl) (k : Nat) : flatF fs ad (k + 1) = flatF fs ad k ++ cellsF (fg fs k) (ad k) := by simp [flatF, List.range_succ, List.flatMap_append]

theorem flatF_len (fs : List Ft) (ad : Nat → Pl) : ∀ k, (flatF fs ad k).length = k * 4
  | 0 => rfl
  | k + 1 => by
    rw [flatF_succ, List.length_append, flatF_len fs ad k]
    simp [cellsF]
    omega

theorem flatF_at (fs : List Ft) (ad : Nat → Pl) : ∀ k i o, i < k → o < 4 → (flatF fs ad k)[i * 4 + o]? = (cellsF (fg fs i) (ad i))[o]?
  | 0, i, o, hi, _ => absurd hi (Nat.not_lt_zero _)
  | k + 1, i, o, hi, ho => by
    rw [flatF_succ]
    have hl := flatF_len fs ad k
    by_cases e : i = k
    · subst e
      rw [List.getElem?_append_right (by omega), hl, show i * 4 + o - i * 4 = o by omega]
    · rw [List.getElem?_append_left (by omega)]
      exact flatF_at fs ad k i o (by omega) ho

theorem flatF_set (fs : List Ft) (ad : Nat → Pl) (p : Pl) (n : Nat) : ∀ k, k ≤ n → flatF fs (plSet ad n p) k = flatF fs ad k
  | 0, _ => rfl
  | k + 1, h => by rw [flatF_succ, flatF_succ, flatF_set fs ad p n k (by omega), plSet_lt (by omega)]

theorem infoF : (Tryz.prog.info? 43).map (fun i => (i.zero, i.size, i.bytes)) = some (some (.agg #[.string .empty, .int .i64 0, .slice none 0 0, .slice none 0 0]), 4, 72) := infoFeat

/-- a list in a row of its own, its parts in blocks of a kind -/
structure Row (w : World) (R : Nat → Prop) (lo : Nat) (v : Value) (k : Nat) (fs : List Ft) (ad : Nat → Pl) : Prop where
  row : w.ownsRow lo 43 4 v k (flatF fs ad k)
  pts : ∀ i, i < k → PtsAt w (ad i).1.1 (fps fs i)
  tags : ∀ i, i < k → TagsAt w (ad i).2.1 (fts fs i)
  prng : ∀ i, i < k → (fps fs i).length = 0 ∨ ∀ x, blk (ad i).1.1 = some x → R x ∧ x < w.heap.size ∧ v.ownBlock ≠ some x
  trng : ∀ i, i < k → (fts fs i).length = 0 ∨ ∀ x, blk (ad i).2.1 = some x → R x ∧ x < w.heap.size ∧ v.ownBlock ≠ some x

theorem PtsAt.turned0 {w w' : World} {a : Option Addr} {ps : List (Int × Int)} {S : Nat → Prop} (h : PtsAt w a ps) (ht : Turned w w' S) (hn : ps.length = 0 ∨ ∀ x, blk a = some x → ¬ S x) : PtsAt w' a ps := by
  rcases hn with h0 | hn
  · exact fun i hi => absurd hi (by omega)
  · exact h.turned ht hn

theorem TagsAt.turned0 {w w' : World} {a : Option Addr} {ts : List Tg} {S : Nat → Prop} (h : TagsAt w a ts) (ht : Turned w w' S) (hn : ts.length = 0 ∨ ∀ x, blk a = some x → ¬ S x) : TagsAt w' a ts := by
  rcases hn with h0 | hn
  · exact fun i hi => absurd hi (by omega)
  · exact h.turned ht hn

theorem Row.below {w w' : World} {R : Nat → Prop} {lo : Nat} {v : Value} {k : Nat} {fs : List Ft} {ad : Nat → Pl} (h : Row w R lo v k fs ad) (hb : Below w.heap.size w w') : Row w' R lo v k fs ad :=
  ⟨ownsRow_below h.row hb, fun i hi => (h.pts i hi).below hb, fun i hi => (h.tags i hi).below hb, fun i hi => (h.prng i hi).imp (fun h => h) fun q x hx => ⟨(q x hx).1, Nat.lt_of_lt_of_le (q x hx).2.1 hb.size, (q x hx).2.2⟩, fun i hi => (h.trng i hi).imp (fun h => h) fun q x hx => ⟨(q x hx).1, Nat.lt_of_lt_of_le (q x hx).2.1 hb.size, (q x hx).2.2⟩⟩

theorem Row.step {wr w3 wb wa : World} {R : Nat → Prop} {lo : Nat} {v : Value} {k : Nat} {fs : List Ft} {ad : Nat → Pl} {p : Pl} {gg cap' : Nat} (h : Row wr R lo v k fs ad) (hb : Below wr.heap.size wr w3) (h3 : Below w3.heap.size w3 wb) (hz : wb.heap.size = w3.heap.size + 1)
    (hp : PtsAt w3 p.1.1 (fps fs k)) (hpf : (fps fs k).length = 0 ∨ ∀ x, blk p.1.1 = some x → R x ∧ x < w3.heap.size ∧ v.ownBlock ≠ some x) (ht : TagsAt w3 p.2.1 (fts fs k)) (htf : (fts fs k).length = 0 ∨ ∀ x, blk p.2.1 = some x → R x ∧ x < w3.heap.size ∧ v.ownBlock ≠ some x)
    (hrow : wa.ownsRow lo 43 4 (.slice (some ⟨gg, 0, none⟩) (k + 1) cap') (k + 1) (flatF fs ad k ++ cellsF (fg fs k) p)) (hg : wb.grownBy wa v.ownBlock) (hat : v.ownBlock = some gg ∨ gg = w3.heap.size + 1) :
    Row wa R lo (.slice (some ⟨gg, 0, none⟩) (k + 1) cap') (k + 1) fs (plSet ad k p) := by
  have hbb : Below wr.heap.size wr wb := hb.trans (h3.mono hb.size)
  have hB := h.below hbb
  have ht' : Turned wb wa (fun x => v.ownBlock = some x) := Turned.of_grown hg fun x hx => hx
  have hwz := hg.size
  have hs3 := hb.size
  have gne : ∀ x, x < w3.heap.size → v.ownBlock ≠ some x → (Value.slice (some ⟨gg, 0, none⟩) (k + 1) cap').ownBlock ≠ some x := fun x hx hn e => by
    obtain rfl : gg = x := by simpa [Value.ownBlock] using e
    rcases hat with h1 | h1
    · exact hn h1
    · omega
  refine ⟨?_, fun i hi => ?_, fun i hi => ?_, fun i hi => ?_, fun i hi => ?_⟩
  · rw [flatF_succ, flatF_set _ _ _ _ _ (Nat.le_refl _), plSet_at]
    exact hrow
  · by_cases e : i = k
    · subst e
      rw [plSet_at]
      exact (hp.below h3).turned0 ht' (hpf.imp (fun h => h) fun q x hx => (q x hx).2.2)
    · rw [plSet_lt (by omega)]
      exact (hB.pts i (by omega)).turned0 ht' ((h.prng i (by omega)).imp (fun h => h) fun q x hx => (q x hx).2.2)
  · by_cases e : i = k
    · subst e
      rw [plSet_at]
      exact (ht.below h3).turned0 ht' (htf.imp (fun h => h) fun q x hx => (q x hx).2.2)
    · rw [plSet_lt (by omega)]
      exact (hB.tags i (by omega)).turned0 ht' ((h.trng i (by omega)).imp (fun h => h) fun q x hx => (q x hx).2.2)
  · by_cases e : i = k
    · subst e
      rw [plSet_at]
      exact hpf.imp (fun h => h) fun q x hx => ⟨(q x hx).1, by have := (q x hx).2.1; omega, gne x (q x hx).2.1 (q x hx).2.2⟩
    · rw [plSet_lt (by omega)]
      exact (h.prng i (by omega)).imp (fun h => h) fun q x hx => ⟨(q x hx).1, by have := (q x hx).2.1; omega, gne x (by have := (q x hx).2.1; omega) (q x hx).2.2⟩
  · by_cases e : i = k
    · subst e
      rw [plSet_at]
      exact htf.imp (fun h => h) fun q x hx => ⟨(q x hx).1, by have := (q x hx).2.1; omega, gne x (q x hx).2.1 (q x hx).2.2⟩
    · rw [plSet_lt (by omega)]
      exact (h.trng i (by omega)).imp (fun h => h) fun q x hx => ⟨(q x hx).1, by have := (q x hx).2.1; omega, gne x (by have := (q x hx).2.1; omega) (q x hx).2.2⟩

/-- a row of its own reads as its things -/
theorem Row.reads {w : World} {R : Nat → Prop} {lo : Nat} {v : Value} {fs : List Ft} {ad : Nat → Pl} (h : Row w R lo v fs.length fs ad) : ∃ a cap, v = .slice a fs.length cap ∧ FeatsAt w a fs ∧ ∀ i, i < fs.length → ∃ b off, a = some ⟨b, off, none⟩ ∧ lo ≤ b ∧ b < w.heap.size ∧
    w.cell? ⟨b, off + i * 4 + 2, none⟩ = some (.slice (ad i).1.1 (fps fs i).length (ad i).1.2) ∧ w.cell? ⟨b, off + i * 4 + 3, none⟩ = some (.slice (ad i).2.1 (fts fs i).length (ad i).2.2) := by
  obtain ⟨h1, ⟨h2, h3⟩ | ⟨b, cap, cur, rfl, hb, hg, hc, hm, hs, hx⟩⟩ := h.row
  · have e : fs = [] := List.eq_nil_of_length_eq_zero (by omega)
    subst e
    exact ⟨none, 0, h2, FeatsAt.nil _ _, fun _ h => absurd h (Nat.not_lt_zero _)⟩
  · have hlt : b < w.heap.size := (Array.getElem?_eq_some_iff.1 hg).1
    have cell : ∀ j v, j < fs.length * 4 → (flatF fs ad fs.length)[j]? = some v → w.cell? ⟨b, 0 + j, none⟩ = some v := by
      intro j v hj hv
      rw [← hx, List.getElem?_take, if_pos hj] at hv
      simp only [World.cell?, hg, Option.isSome_none, Bool.false_eq_true, if_false, Nat.zero_add]
      simpa using hv
    refine ⟨some ⟨b, 0, none⟩, cap, rfl, fun i hi => ?_, fun i hi => ?_⟩
    · have f := fun o ho => flatF_at fs ad fs.length i o hi ho
      exact ⟨b, 0, _, _, _, _, rfl, hlt, cell _ _ (by omega) (f 0 (by omega)), cell _ _ (by omega) (f 1 (by omega)), cell _ _ (by omega) (f 2 (by omega)), cell _ _ (by omega) (f 3 (by omega)), h.pts i hi, h.tags i hi⟩
    · have f := fun o ho => flatF_at fs ad fs.length i o hi ho
      exact ⟨b, 0, rfl, hb, hlt, cell _ _ (by omega) (f 2 (by omega)), cell _ _ (by omega) (f 3 (by omega))⟩

theorem featsLen_iff {fs : List Ft} {m : Int} : FeatsLen fs m ↔ ∀ f ∈ fs, (f.1.size : Int) ≤ m ∧ (f.2.2.1.length : Int) ≤ m ∧ (f.2.2.2.length : Int) ≤ m ∧ TagsLen f.2.2.2 m := by
  constructor
  · intro h f hf
    obtain ⟨i, hi, rfl⟩ := List.getElem_of_mem hf
    have := h i hi
    simpa [fid, fps, fts, fg_get hi] using this
  · intro h i hi
    have := h fs[i] (List.getElem_mem hi)
    simpa [fid, fps, fts, fg_get hi] using this

/-- a name, as bytes -/
def kf (f : Ft) : List UInt8 := f.1.data.toList

/-- a thing put among things, as the model puts it -/
def putL : List Ft → Ft → List Ft
  | [], t => [t]
  | u :: us, t => if kf t ≤ kf u then t :: (u :: us).filter (fun s => decide (kf s ≠ kf t)) else u :: putL us t

/-- what is still to be put -/
def putM : List Ft → Ft → Bool → List Ft
  | [], t, d => if d then [] else [t]
  | u :: us, t, d => (if !d && decide (kf t ≤ kf u) then [t] else []) ++ ((if kf u = kf t then [] else [u]) ++ putM us t (d || decide (kf t ≤ kf u)))

theorem putM_true (t : Ft) : ∀ us : List Ft, putM us t true = us.filter (fun s => decide (kf s ≠ kf t))
  | [] => rfl
  | u :: us => by
    by_cases h : kf u = kf t <;> simp [putM, putM_true t us, h]

theorem putM_false (t : Ft) : ∀ us : List Ft, putM us t false = putL us t
  | [] => rfl
  | u :: us => by
    unfold putM putL
    by_cases h : kf t ≤ kf u
    · rw [if_pos h]
      by_cases h2 : kf u = kf t <;> simp [h, h2, putM_true]
    · rw [if_neg h]
      have h2 : kf u ≠ kf t := fun e => h (by rw [e]; exact List.le_refl _)
      simp [h, h2, putM_false t us]

/-- the rounds that are left make the list whole -/
def PutsL (fs : List Ft) (t : Ft) (j : Nat) (o : List Ft) (d : Bool) : Prop := o ++ putM (fs.drop j) t d = putL fs t

theorem PutsL.start (fs : List Ft) (t : Ft) : PutsL fs t 0 [] false := by simp [PutsL, putM_false]

theorem PutsL.step {fs : List Ft} {t : Ft} {j : Nat} {o : List Ft} {d : Bool} (h : PutsL fs t j o d) (hj : j < fs.length) :
    PutsL fs t (j + 1) (o ++ (if !d && decide (kf t ≤ kf (fg fs j)) then [t] else []) ++ (if kf (fg fs j) = kf t then [] else [fg fs j])) (d || decide (kf t ≤ kf (fg fs j))) := by
  unfold PutsL at *
  rw [List.drop_eq_getElem_cons hj, putM, ← fg_get hj] at h
  rw [← h]
  simp [List.append_assoc]

theorem PutsL.done {fs : List Ft} {t : Ft} {o : List Ft} {d : Bool} (h : PutsL fs t fs.length o d) : o ++ (if d then [] else [t]) = putL fs t := by
  unfold PutsL at h
  rw [List.drop_length] at h
  exact h

theorem putL_len (t : Ft) : ∀ us : List Ft, (putL us t).length ≤ us.length + 1
  | [] => by simp [putL]
  | u :: us => by
    unfold putL
    split
    · have := List.length_filter_le (fun s => decide (kf s ≠ kf t)) (u :: us)
      rw [List.length_cons]
      omega
    · have := putL_len t us
      simp only [List.length_cons]
      omega

theorem putL_mem {s t : Ft} : ∀ {us : List Ft}, s ∈ putL us t → s = t ∨ s ∈ us
  | [], h => by simpa [putL] using h
  | u :: us, h => by
    unfold putL at h
    split at h
    · simp only [List.mem_cons, List.mem_filter] at h
      rcases h with h | h
      · exact .inl h
      · exact .inr (by simpa using h.1)
    · rcases List.mem_cons.1 h with h | h
      · exact .inr (by rw [h]; exact .head _)
      · exact (putL_mem h).imp (fun h => h) fun h => .tail _ h

theorem putL_lens {fs : List Ft} {t : Ft} {m : Int} (h : FeatsLen fs m) (ht : (t.1.size : Int) ≤ m ∧ (t.2.2.1.length : Int) ≤ m ∧ (t.2.2.2.length : Int) ≤ m ∧ TagsLen t.2.2.2 m) : FeatsLen (putL fs t) m := featsLen_iff.2 fun f hf => by
  rcases putL_mem hf with rfl | h'
  · exact ht
  · exact featsLen_iff.1 h f h'

theorem fg_snoc (o : List Ft) (x : Ft) : fg (o ++ [x]) o.length = x := by simp [fg]

theorem fg_snoc_lt {o : List Ft} (x : Ft) {i : Nat} (h : i < o.length) : fg (o ++ [x]) i = fg o i := by simp [fg, List.getD, h, Nat.lt_succ_of_lt h]

theorem flatF_snoc (o : List Ft) (x : Ft) (ad : Nat → Pl) : ∀ k, k ≤ o.length → flatF (o ++ [x]) ad k = flatF o ad k
  | 0, _ => rfl
  | k + 1, h => by rw [flatF_succ, flatF_succ, flatF_snoc o x ad k (by omega), fg_snoc_lt x (by omega)]

/-- a thing appended to a row -/
theorem Row.snoc {wr wa : World} {R : Nat → Prop} {lo : Nat} {v : Value} {o : List Ft} {ad : Nat → Pl} {x : Ft} {pa ta : Option Addr} {pc tc gg cap' : Nat} {O : Obj} (h : Row wr R lo v o.length o ad)
    (hp : PtsAt wr pa x.2.2.1) (hpf : x.2.2.1.length = 0 ∨ ∀ y, blk pa = some y → R y ∧ y < wr.heap.size ∧ v.ownBlock ≠ some y) (ht : TagsAt wr ta x.2.2.2) (htf : x.2.2.2.length = 0 ∨ ∀ y, blk ta = some y → R y ∧ y < wr.heap.size ∧ v.ownBlock ≠ some y)
    (hrow : wa.ownsRow lo 43 4 (.slice (some ⟨gg, 0, none⟩) (o.length + 1) cap') (o.length + 1) (flatF o ad o.length ++ cellsF x ((pa, pc), (ta, tc)))) (hg : (wr.alloc O).grownBy wa v.ownBlock) (hat : v.ownBlock = some gg ∨ gg = wr.heap.size + 1) :
    Row wa R lo (.slice (some ⟨gg, 0, none⟩) (o.length + 1) cap') (o ++ [x]).length (o ++ [x]) (plSet ad o.length ((pa, pc), (ta, tc))) := by
  have e1 := fg_snoc o x
  have h' : Row wr R lo v o.length (o ++ [x]) ad := by
    have ep : ∀ i, i < o.length → fps (o ++ [x]) i = fps o i := fun i hi => by unfold fps; rw [fg_snoc_lt x hi]
    have et : ∀ i, i < o.length → fts (o ++ [x]) i = fts o i := fun i hi => by unfold fts; rw [fg_snoc_lt x hi]
    refine ⟨by rw [flatF_snoc o x ad _ (Nat.le_refl _)]; exact h.row, fun i hi => by rw [ep i hi]; exact h.pts i hi, fun i hi => by rw [et i hi]; exact h.tags i hi, fun i hi => by rw [ep i hi]; exact h.prng i hi, fun i hi => by rw [et i hi]; exact h.trng i hi⟩
  have p1 : fps (o ++ [x]) o.length = x.2.2.1 := by unfold fps; rw [e1]
  have t1 : fts (o ++ [x]) o.length = x.2.2.2 := by unfold fts; rw [e1]
  rw [show (o ++ [x]).length = o.length + 1 by simp]
  exact h'.step (w3 := wr) (wb := wr.alloc O) (p := ((pa, pc), (ta, tc))) (Below.refl _ _) ((Below.refl _ _).alloc (Nat.le_refl _) _) (by simp) (by rw [p1]; exact hp) (by rw [p1]; exact hpf) (by rw [t1]; exact ht) (by rw [t1]; exact htf) (by rw [flatF_snoc o x ad _ (Nat.le_refl _), e1]; exact hrow) hg hat

theorem HGF_cell {wr wa : World} {O : Obj} {x : Option Nat} {b o : Nat} {v : Value} (hg : (wr.alloc O).grownBy wa x) (hlt : b < wr.heap.size) (hc : wr.cell? ⟨b, o, none⟩ = some v) : x ≠ some b → wa.cell? ⟨b, o, none⟩ = some v := fun hne =>
  (hg.cell_far ⟨b, o, none⟩ (by simp; omega) (Ne.symm hne)).trans ((World.cell?_of_block (w := wr) (Below.heap_alloc _ _ _ hlt)).trans hc)

theorem BoxF.grown {wr wa : World} {O : Obj} {x : Option Nat} {b : Nat} {v0 v1 v2 v3 : Value} (h : Box4 wr b v0 v1 v2 v3) (hg : (wr.alloc O).grownBy wa x) (hn : x ≠ some b) : Box4 wa b v0 v1 v2 v3 :=
  ⟨HGF_cell hg h.lt h.1 hn, HGF_cell hg h.lt h.2.1 hn, HGF_cell hg h.lt h.2.2.1 hn, HGF_cell hg h.lt h.2.2.2 hn⟩

theorem PtsKeep {wr wa : World} {O : Obj} {x : Option Nat} {a : Option Addr} {ps : List (Int × Int)} (h : PtsAt wr a ps) (hg : (wr.alloc O).grownBy wa x) (hn : ps.length = 0 ∨ ∀ y, blk a = some y → ¬ x = some y) : PtsAt wa a ps :=
  (h.below ((Below.refl _ _).alloc (Nat.le_refl _) O)).turned0 (S := fun y => x = some y) (Turned.of_grown hg fun y hy => hy) hn

theorem TagsKeep {wr wa : World} {O : Obj} {x : Option Nat} {a : Option Addr} {ts : List Tg} (h : TagsAt wr a ts) (hg : (wr.alloc O).grownBy wa x) (hn : ts.length = 0 ∨ ∀ y, blk a = some y → ¬ x = some y) : TagsAt wa a ts :=
  (h.below ((Below.refl _ _).alloc (Nat.le_refl _) O)).turned0 (S := fun y => x = some y) (Turned.of_grown hg fun y hy => hy) hn

theorem kf_eq {x y : Ft} : kf x = kf y ↔ x.1 = y.1 := by
  constructor
  · intro e
    rw [← toList_inj, ByteArray.toList_eq, ByteArray.toList_eq]
    exact e
  · intro e
    unfold kf
    rw [e]

theorem pts_low {w : World} {a : Option Addr} {ps : List (Int × Int)} (h : PtsAt w a ps) : ps.length = 0 ∨ ∀ x, blk a = some x → x < w.heap.size := by
  by_cases h0 : ps.length = 0
  · exact .inl h0
  · obtain ⟨b', o', rfl, h1, _⟩ := h 0 (by omega)
    exact .inr fun x hx => by obtain rfl : b' = x := (by simpa [blk] using hx); exact h1

theorem tags_low {w : World} {a : Option Addr} {ts : List Tg} (h : TagsAt w a ts) : ts.length = 0 ∨ ∀ x, blk a = some x → x < w.heap.size := by
  by_cases h0 : ts.length = 0
  · exact .inl h0
  · obtain ⟨b', o', rfl, h1, _⟩ := h 0 (by omega)
    exact .inr fun x hx => by obtain rfl : b' = x := (by simpa [blk] using hx); exact h1

theorem low_from {n k lo : Nat} {a : Option Addr} (h : n = 0 ∨ ∀ x, blk a = some x → x < k) (h' : n = 0 ∨ ∀ x, blk a = some x → lo ≤ x) : n = 0 ∨ ∀ x, blk a = some x → lo ≤ x ∧ x < k := by
  rcases h with h | h
  · exact .inl h
  · rcases h' with h' | h'
    · exact .inl h'
    · exact .inr fun x hx => ⟨h' x hx, h x hx⟩

/-- a list of things whose memory lies from this block on -/
def FeatsFrom (lo : Nat) (w : World) (a : Option Addr) (fs : List Ft) : Prop :=
  ∀ i, i < fs.length → ∃ b off pa pc ta tc, a = some ⟨b, off, none⟩ ∧ lo ≤ b ∧ b < w.heap.size ∧ w.cell? ⟨b, off + i * 4, none⟩ = some (.string (fid fs i)) ∧ w.cell? ⟨b, off + i * 4 + 1, none⟩ = some (.int .i64 (fkd fs i)) ∧ w.cell? ⟨b, off + i * 4 + 2, none⟩ = some (.slice pa (fps fs i).length pc) ∧ w.cell? ⟨b, off + i * 4 + 3, none⟩ = some (.slice ta (fts fs i).length tc) ∧ PtsAt w pa (fps fs i) ∧ TagsAt w ta (fts fs i) ∧ ((fps fs i).length = 0 ∨ ∀ x, blk pa = some x → lo ≤ x) ∧ ((fts fs i).length = 0 ∨ ∀ x, blk ta = some x → lo ≤ x)

theorem FeatsFrom.reads {lo : Nat} {w : World} {a : Option Addr} {fs : List Ft} (h : FeatsFrom lo w a fs) : FeatsAt w a fs := fun i hi => by
  obtain ⟨b, off, pa, pc, ta, tc, e, _, hb, h1, h2, h3, h4, h5, h6, _⟩ := h i hi
  exact ⟨b, off, pa, pc, ta, tc, e, hb, h1, h2, h3, h4, h5, h6⟩

theorem FeatsFrom.turned {lo : Nat} {w w' : World} {a : Option Addr} {fs : List Ft} {S : Nat → Prop} (h : FeatsFrom lo w a fs) (ht : Turned w w' S) (hS : ∀ x, lo ≤ x → x < w.heap.size → ¬ S x) : FeatsFrom lo w' a fs := fun i hi => by
  obtain ⟨b, off, pa, pc, ta, tc, e, hl, hb, h1, h2, h3, h4, h5, h6, h7, h8⟩ := h i hi
  have nb := hS b hl hb
  exact ⟨b, off, pa, pc, ta, tc, e, hl, Nat.lt_of_lt_of_le hb ht.size, ht.cell h1 nb, ht.cell h2 nb, ht.cell h3 nb, ht.cell h4 nb, h5.turned0 ht ((low_from (pts_low h5) h7).imp (fun h => h) fun q x hx => hS x (q x hx).1 (q x hx).2), h6.turned0 ht ((low_from (tags_low h6) h8).imp (fun h => h) fun q x hx => hS x (q x hx).1 (q x hx).2), h7, h8⟩

theorem FeatsFrom.nil (lo : Nat) (w : World) (a : Option Addr) : FeatsFrom lo w a [] := fun _ h => absurd h (Nat.not_lt_zero _)

theorem Row.from {w : World} {lo k b0 : Nat} {v : Value} {fs : List Ft} {ad : Nat → Pl} (h : Row w (fun x => lo ≤ x ∧ x < k) b0 v fs.length fs ad) (hb : lo ≤ b0) : ∃ a cap, v = .slice a fs.length cap ∧ FeatsFrom lo w a fs := by
  obtain ⟨a, cap, rfl, hF, hR⟩ := h.reads
  refine ⟨a, cap, rfl, fun i hi => ?_⟩
  obtain ⟨b, off, rfl, g1, g2, g3, g4⟩ := hR i hi
  obtain ⟨b', off', pa, pc, ta, tc, e, hlt, h1, h2, h3, h4, h5, h6⟩ := hF i hi
  obtain ⟨rfl, rfl⟩ : b = b' ∧ off = off' := by simpa using e
  exact ⟨b, off, _, _, _, _, rfl, Nat.le_trans hb g1, g2, h1, h2, g3, g4, h.pts i hi, h.tags i hi, (h.prng i hi).imp (fun h => h) fun q x hx => (q x hx).1.1, (h.trng i hi).imp (fun h => h) fun q x hx => (q x hx).1.1⟩

end Go.Proofs.YtdchfologicbeaaGreat

namespace Go.Proofs.YtdchfologicbeaaGreat
set_option linter.unusedVariables false
open Go.ChangeShapes Go.WideShapes Go.ChangeAt Go.RowKit

theorem Soft.turnedP {w w' : World} {a : Option Addr} {ps : List (Int × Int)} {S : Nat → Prop} (h : Soft w a ps.length) (hp : PtsAt w a ps) (ht : Turned w w' S) (hn : ∀ x, blk a = some x → ¬ S x) : Soft w' a ps.length := by
  intro i hi b off e
  obtain ⟨b', off', e', hlt, _⟩ := hp i hi
  obtain ⟨rfl, rfl⟩ : b = b' ∧ off = off' := by rw [e] at e'; simpa using e'
  have := h i hi b off e
  rw [ht.frozen (a := ⟨b, _, none⟩) hlt (hn b (by rw [e]; rfl)), ht.frozen (a := ⟨b, _, none⟩) hlt (hn b (by rw [e]; rfl))]
  exact this
theorem Soft.turnedT {w w' : World} {a : Option Addr} {ts : List Tg} {S : Nat → Prop} (h : Soft w a ts.length) (hp : TagsAt w a ts) (ht : Turned w w' S) (hn : ∀ x, blk a = some x → ¬ S x) : Soft w' a ts.length := by
  intro i hi b off e
  obtain ⟨b', off', e', hlt, _⟩ := hp i hi
  obtain ⟨rfl, rfl⟩ : b = b' ∧ off = off' := by rw [e] at e'; simpa using e'
  have := h i hi b off e
  rw [ht.frozen (a := ⟨b, _, none⟩) hlt (hn b (by rw [e]; rfl)), ht.frozen (a := ⟨b, _, none⟩) hlt (hn b (by rw [e]; rfl))]
  exact this

/-- things that lie in memory of their own -/
structure Lies (w : World) (b off : Nat) (fs : List Ft) (ad : Nat → Pl) : Prop where
  cell : ∀ i, i < fs.length → w.cell? ⟨b, off + i * 4, none⟩ = some (.string (fid fs i)) ∧ w.cell? ⟨b, off + i * 4 + 1, none⟩ = some (.int .i64 (fkd fs i)) ∧
    w.cell? ⟨b, off + i * 4 + 2, none⟩ = some (.slice (ad i).1.1 (fps fs i).length (ad i).1.2) ∧ w.cell? ⟨b, off + i * 4 + 3, none⟩ = some (.slice (ad i).2.1 (fts fs i).length (ad i).2.2)
  soft : ∀ i, i < fs.length → w.frozen? ⟨b, off + i * 4, none⟩ = false ∧ w.frozen? ⟨b, off + i * 4 + 1, none⟩ = false
  pts : ∀ i, i < fs.length → PtsAt w (ad i).1.1 (fps fs i) ∧ Soft w (ad i).1.1 (fps fs i).length
  tags : ∀ i, i < fs.length → TagsAt w (ad i).2.1 (fts fs i) ∧ Soft w (ad i).2.1 (fts fs i).length
  lt : b < w.heap.size

/-- the parts lie apart -/
structure Sep (b n : Nat) (ad : Nat → Pl) : Prop where
  own : ∀ i, i < n → blk (ad i).1.1 ≠ some b ∧ blk (ad i).2.1 ≠ some b
  two : ∀ i, i < n → Apart (ad i).1.1 (ad i).2.1
  far : ∀ i j, i < n → j < n → i ≠ j → Apart (ad i).1.1 (ad j).1.1 ∧ Apart (ad i).1.1 (ad j).2.1 ∧ Apart (ad i).2.1 (ad j).1.1 ∧ Apart (ad i).2.1 (ad j).2.1

/-- the blocks of a list -/
def blocksOf (b n : Nat) (ad : Nat → Pl) (x : Nat) : Prop := x = b ∨ ∃ i, i < n ∧ (blk (ad i).1.1 = some x ∨ blk (ad i).2.1 = some x)

theorem Lies.reads {w : World} {b off : Nat} {fs : List Ft} {ad : Nat → Pl} (h : Lies w b off fs ad) : FeatsAt w (some ⟨b, off, none⟩) fs := fun i hi =>
  ⟨b, off, _, _, _, _, rfl, h.lt, (h.cell i hi).1, (h.cell i hi).2.1, (h.cell i hi).2.2.1, (h.cell i hi).2.2.2, (h.pts i hi).1, (h.tags i hi).1⟩

theorem Lies.turned {w w' : World} {b off : Nat} {fs : List Ft} {ad : Nat → Pl} {S : Nat → Prop} (h : Lies w b off fs ad) (ht : Turned w w' S) (hn : ∀ x, blocksOf b fs.length ad x → ¬ S x) : Lies w' b off fs ad :=
  ⟨fun i hi => ⟨ht.cell (h.cell i hi).1 (hn _ (.inl rfl)), ht.cell (h.cell i hi).2.1 (hn _ (.inl rfl)), ht.cell (h.cell i hi).2.2.1 (hn _ (.inl rfl)), ht.cell (h.cell i hi).2.2.2 (hn _ (.inl rfl))⟩,
   fun i hi => ⟨(ht.frozen (a := ⟨b, _, none⟩) h.lt (hn _ (.inl rfl))).trans (h.soft i hi).1, (ht.frozen (a := ⟨b, _, none⟩) h.lt (hn _ (.inl rfl))).trans (h.soft i hi).2⟩,
   fun i hi => ⟨(h.pts i hi).1.turned ht fun x hx => hn x (.inr ⟨i, hi, .inl hx⟩), (h.pts i hi).2.turnedP (h.pts i hi).1 ht fun x hx => hn x (.inr ⟨i, hi, .inl hx⟩)⟩,
   fun i hi => ⟨(h.tags i hi).1.turned ht fun x hx => hn x (.inr ⟨i, hi, .inr hx⟩), (h.tags i hi).2.turnedT (h.tags i hi).1 ht fun x hx => hn x (.inr ⟨i, hi, .inr hx⟩)⟩,
   Nat.lt_of_lt_of_le h.lt ht.size⟩

theorem Lies.below {w w' : World} {b off : Nat} {fs : List Ft} {ad : Nat → Pl} (h : Lies w b off fs ad) (hb : Below w.heap.size w w') : Lies w' b off fs ad :=
  h.turned (S := fun _ => False) (Turned.of_below hb) fun _ _ h => h

/-- the number of the first mark of a thing -/
def lmk (fs : List Ft) (k : Int) : Nat → Int
  | 0 => k
  | i + 1 => lmk fs k i + 2 + 2 * ((fps fs i).length : Int) + 2 * ((fts fs i).length : Int)
/-- a thing's marks -/
def lmkF (fs : List Ft) (k : Int) (i : Nat) : Ft := (markT (lmk fs k i), lmk fs k i + 1, marks (lmk fs k i + 2) (fps fs i).length, marksT (lmk fs k i + 2 + 2 * ((fps fs i).length : Int)) (fts fs i).length)
/-- the things, the first ones marked -/
def lmkTo (fs : List Ft) (k : Int) (j : Nat) : List Ft := (List.range fs.length).map fun i => if i < j then lmkF fs k i else fg fs i

theorem lmkTo_len (fs : List Ft) (k : Int) (j : Nat) : (lmkTo fs k j).length = fs.length := by simp [lmkTo]
theorem lmkTo_at {fs : List Ft} (k : Int) (j : Nat) {i : Nat} (h : i < fs.length) : fg (lmkTo fs k j) i = if i < j then lmkF fs k i else fg fs i := by simp [fg, lmkTo, h]
theorem lmkTo_zero (fs : List Ft) (k : Int) : lmkTo fs k 0 = fs := by
  refine List.ext_getElem (lmkTo_len _ _ _) fun i h1 h2 => ?_
  rw [← fg_get h1, ← fg_get h2, lmkTo_at k 0 h2, if_neg (by omega)]
theorem lmkTo_pl {fs : List Ft} (k : Int) (j : Nat) {i : Nat} (h : i < fs.length) : (fps (lmkTo fs k j) i).length = (fps fs i).length ∧ (fts (lmkTo fs k j) i).length = (fts fs i).length := by
  unfold fps fts
  rw [lmkTo_at k j h]
  split
  · exact ⟨marks_len _ _, marksT_len _ _⟩
  · exact ⟨rfl, rfl⟩

theorem lmk_le {fs : List Ft} {k : Int} (h0 : 0 ≤ k) (h4 : k ≤ 1000000000000000) (hL : FeatsLen fs 1048576) : ∀ i, i ≤ fs.length → 0 ≤ lmk fs k i ∧ lmk fs k i ≤ k + i * 4194306
  | 0, _ => ⟨h0, by show k ≤ _; omega⟩
  | i + 1, hi => by
    obtain ⟨h1, h2⟩ := lmk_le h0 h4 hL i (by omega)
    obtain ⟨_, h3, h5, _⟩ := hL i (by omega)
    show 0 ≤ lmk fs k i + 2 + 2 * ((fps fs i).length : Int) + 2 * ((fts fs i).length : Int) ∧ lmk fs k i + 2 + 2 * ((fps fs i).length : Int) + 2 * ((fts fs i).length : Int) ≤ _
    omega

/-- one thing marked -/
theorem Lies.step {w1 w3 w4 w5 : World} {b off : Nat} {fs : List Ft} {ad : Nat → Pl} {k : Int} {j : Nat} (hj : j < fs.length) (h : Lies w1 b off (lmkTo fs k j) ad) (hs : Sep b fs.length ad)
    (h3 : w3 = (w1.setCell ⟨b, off + j * 4, none⟩ (.string (markT (lmk fs k j)))).setCell ⟨b, off + j * 4 + 1, none⟩ (.int .i64 (lmk fs k j + 1)))
    (hp : PtsAt w4 (ad j).1.1 (marks (lmk fs k j + 2) (fps fs j).length)) (hps : Soft w4 (ad j).1.1 (fps fs j).length) (hg : w3.grownBy w4 (blk (ad j).1.1))
    (ht : TagsAt w5 (ad j).2.1 (marksT (lmk fs k j + 2 + 2 * ((fps fs j).length : Int)) (fts fs j).length)) (hts : Soft w5 (ad j).2.1 (fts fs j).length) (hg' : w4.grownBy w5 (blk (ad j).2.1)) :
    Lies w5 b off (lmkTo fs k (j + 1)) ad := by
  have t4 : Turned w3 w4 (fun x => blk (ad j).1.1 = some x) := Turned.of_grown hg fun x hx => hx
  have t5 : Turned w4 w5 (fun x => blk (ad j).2.1 = some x) := Turned.of_grown hg' fun x hx => hx
  have t3 : Turned w1 w3 (fun x => x = b) := by
    rw [h3]
    exact (Turned.of_set (S := fun x => x = b) w1 _ _ rfl).trans (Turned.of_set _ _ _ rfl)
  have nb1 : ¬ (blk (ad j).1.1 = some b) := (hs.own j hj).1
  have nb2 : ¬ (blk (ad j).2.1 = some b) := (hs.own j hj).2
  have hl : (lmkTo fs k j).length = fs.length := lmkTo_len _ _ _
  have lift : ∀ {o : Nat} {v : Value}, w3.cell? ⟨b, o, none⟩ = some v → w5.cell? ⟨b, o, none⟩ = some v := fun hc => t5.cell (t4.cell hc nb1) nb2
  have fz : ∀ o, w5.frozen? ⟨b, o, none⟩ = w1.frozen? ⟨b, o, none⟩ := fun o => by
    have hb3 : b < w3.heap.size := Nat.lt_of_lt_of_le h.lt t3.size
    rw [t5.frozen (a := ⟨b, o, none⟩) (Nat.lt_of_lt_of_le hb3 t4.size) nb2, t4.frozen (a := ⟨b, o, none⟩) hb3 nb1, h3, World.frozen?_setCell, World.frozen?_setCell]
  have at_ : ∀ i, i < fs.length → i ≠ j → fg (lmkTo fs k (j + 1)) i = fg (lmkTo fs k j) i := fun i hi hne => by
    rw [lmkTo_at _ _ hi, lmkTo_at _ _ hi]
    have : (i < j + 1) = (i < j) := by simp; omega
    simp only [this]
  have atj : fg (lmkTo fs k (j + 1)) j = lmkF fs k j := by rw [lmkTo_at _ _ hj, if_pos (by omega)]
  refine ⟨fun i hi => ?_, fun i hi => ?_, fun i hi => ?_, fun i hi => ?_, ?_⟩
  · rw [lmkTo_len] at hi
    obtain ⟨c0, c1, c2, c3⟩ := h.cell i (by rw [hl]; exact hi)
    by_cases e : i = j
    · subst e
      rw [(lmkTo_pl k i hj).1] at c2
      rw [(lmkTo_pl k i hj).2] at c3
      unfold fid fkd fps fts
      rw [atj]
      refine ⟨lift ?_, lift ?_, lift ?_, lift ?_⟩
      · rw [h3, World.cell?_setCell_other _ _ _ _ (by simp)]
        exact World.cell?_setCell_same _ _ _ c0
      · rw [h3]
        exact World.cell?_setCell_same _ _ _ ((World.cell?_setCell_other _ _ _ _ (by simp)).trans c1)
      · rw [h3, World.cell?_setCell_other _ _ _ _ (by simp), World.cell?_setCell_other _ _ _ _ (by simp), c2]
        simp [lmkF, marks_len]
      · rw [h3, World.cell?_setCell_other _ _ _ _ (by simp), World.cell?_setCell_other _ _ _ _ (by simp), c3]
        simp [lmkF, marksT_len]
    · simp only [fid, fkd, fps, fts] at c0 c1 c2 c3 ⊢
      rw [at_ i hi e]
      refine ⟨lift ?_, lift ?_, lift ?_, lift ?_⟩ <;> rw [h3, World.cell?_setCell_other _ _ _ _ (by simp <;> omega), World.cell?_setCell_other _ _ _ _ (by simp <;> omega)] <;> assumption
  · rw [lmkTo_len] at hi
    rw [fz, fz]
    exact h.soft i (by rw [hl]; exact hi)
  · rw [lmkTo_len] at hi
    by_cases e : i = j
    · subst e
      unfold fps
      rw [atj]
      have t : Turned w4 w5 (fun x => blk (ad i).2.1 = some x) := t5
      have n : ∀ x, blk (ad i).1.1 = some x → ¬ (blk (ad i).2.1 = some x) := fun x hx => hs.two i hj x hx
      refine ⟨hp.turned t n, ?_⟩
      show Soft w5 _ (marks _ _).length
      have hps' : Soft w4 (ad i).1.1 (marks (lmk fs k i + 2) (fps fs i).length).length := by rw [marks_len]; exact hps
      exact hps'.turnedP hp t n
    · obtain ⟨q1, q2⟩ := h.pts i (by rw [hl]; exact hi)
      have q3 : ∀ x, blk (ad i).1.1 = some x → ¬ x = b := fun x hx e => (hs.own i hi).1 (e ▸ hx)
      have q4 : ∀ x, blk (ad i).1.1 = some x → ¬ blk (ad j).1.1 = some x := fun x hx => (hs.far i j hi hj e).1 x hx
      have q5 : ∀ x, blk (ad i).1.1 = some x → ¬ blk (ad j).2.1 = some x := fun x hx => (hs.far i j hi hj e).2.1 x hx
      unfold fps at q1 q2 ⊢
      rw [at_ i hi e]
      exact ⟨((q1.turned t3 q3).turned t4 q4).turned t5 q5, ((q2.turnedP q1 t3 q3).turnedP (q1.turned t3 q3) t4 q4).turnedP ((q1.turned t3 q3).turned t4 q4) t5 q5⟩
  · rw [lmkTo_len] at hi
    by_cases e : i = j
    · subst e
      unfold fts
      rw [atj]
      refine ⟨ht, ?_⟩
      show Soft w5 _ (marksT _ _).length
      rw [marksT_len]
      exact hts
    · obtain ⟨q1, q2⟩ := h.tags i (by rw [hl]; exact hi)
      have q3 : ∀ x, blk (ad i).2.1 = some x → ¬ x = b := fun x hx e => (hs.own i hi).2 (e ▸ hx)
      have q4 : ∀ x, blk (ad i).2.1 = some x → ¬ blk (ad j).1.1 = some x := fun x hx => (hs.far i j hi hj e).2.2.1 x hx
      have q5 : ∀ x, blk (ad i).2.1 = some x → ¬ blk (ad j).2.1 = some x := fun x hx => (hs.far i j hi hj e).2.2.2 x hx
      unfold fts at q1 q2 ⊢
      rw [at_ i hi e]
      exact ⟨((q1.turned t3 q3).turned t4 q4).turned t5 q5, ((q2.turnedT q1 t3 q3).turnedT (q1.turned t3 q3) t4 q4).turnedT ((q1.turned t3 q3).turned t4 q4) t5 q5⟩
  · exact Nat.lt_of_lt_of_le h.lt (Nat.le_trans t3.size (Nat.le_trans t4.size t5.size))
end Go.Proofs.YtdchfologicbeaaGreat
