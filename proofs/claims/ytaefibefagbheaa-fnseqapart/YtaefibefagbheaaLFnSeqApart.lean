/- Proved here: the law FnSeqApart answers true at every code, and leaves it as it was; no condition. -/
import Derived.Test.YtaefibefagbheaaWSeqApp
namespace Go.Proofs.Ytaefibefagbheaa
set_option linter.unusedVariables false
open Go.ChangeShapes Go.WideShapes Go.ChangeAt Go.RowKit

theorem s4_below {w w' : World} {b c : Nat} {x y z u : Value} (h : w.cell? ⟨b, 0, none⟩ = some x ∧ w.cell? ⟨b, 1, none⟩ = some y ∧ w.cell? ⟨c, 0, none⟩ = some z ∧ w.cell? ⟨c, 1, none⟩ = some u) (hb : Below w.heap.size w w') :
    w'.cell? ⟨b, 0, none⟩ = some x ∧ w'.cell? ⟨b, 1, none⟩ = some y ∧ w'.cell? ⟨c, 0, none⟩ = some z ∧ w'.cell? ⟨c, 1, none⟩ = some u :=
  ⟨cell_later hb h.1, cell_later hb h.2.1, cell_later hb h.2.2.1, cell_later hb h.2.2.2⟩

set_option maxRecDepth 100000 in
set_option maxHeartbeats 2000000 in
theorem fnSeqApart_walk (a0 : Option Addr) (n0 cap0 : Nat) (w : World) (f0 : CodeAt w a0 n0) (hHC : n0 ≤ 1048576) (kHC : n0 ≤ cap0) :
    Calls Try.prog 8 #[.slice a0 n0 cap0] w fun e w' => e = .returned (.bool true) ∧ Below w.heap.size w w' := by
  have HC := Lib.hid f0
  clear f0
  go_enter Try.func8, Try.ntmps8
  go_wp2_with fail
  refine (drawSeqMerge_any _ _ _ _ HC.out hHC kHC).mono ?_
  rintro e w1 ⟨aO, cO, sO, aA, cA, sA, aB0, cB0, sB0, rfl, hO, hA, hB0, hb1⟩
  have B := Lib.hid hb1
  have PO := Lib.hid hO.pts
  have bO := hO.len
  have kO := hO.cap
  have NO := Lib.hid hO.near
  have lO : sO.length ≤ 1048576 := by omega
  have PA := Lib.hid hA.pts
  have bA := hA.len
  have kA := hA.cap
  have NA := Lib.hid hA.near
  have lA : sA.length ≤ 1048576 := by omega
  have PB0 := Lib.hid hB0.pts
  have bB0 := hB0.len
  have kB0 := hB0.cap
  have NB0 := Lib.hid hB0.near
  have lB0 : sB0.length ≤ 1048576 := by omega
  clear hO hA hB0 hb1
  clear PA
  clear PB0
  have hp : (99, 99) ∉ sO := NO.out.not (by decide)
  have hq : (98, 98) ∉ sO := NO.out.not (by decide)
  have HPN := Lib.hid hp
  have HQN := Lib.hid hq
  clear hp hq
  by_cases h1 : 0 < sO.length
  · have t1 : ¬ (sO.length : Int) < 1 := by omega
    by_cases h2 : sO.length < 12
    · have t2 : ¬ (12 : Int) ≤ (sO.length : Int) := by omega
      go_upto_region 8 with (fail)
      obtain ⟨c0, c1, _, _⟩ := cell_duo w1 (.int .i64 99) (.int .i64 99) 32
      obtain ⟨d0, d1, _, _⟩ := cell_duo (w1.alloc (.cells #[.int .i64 99, .int .i64 99] 32)) (.int .i64 98) (.int .i64 98) 32
      rw [World.size_alloc] at d0 d1
      have z0 := World.block_lt_of_cell? _ _ c0
      have c0 := cell_later ((Below.refl _ _).alloc (Nat.le_refl _) (.cells #[.int .i64 98, .int .i64 98] 32)) c0
      have c1 := cell_later ((Below.refl _ _).alloc (Nat.le_refl _) (.cells #[.int .i64 98, .int .i64 98] 32)) c1
      have hb2 : Below w1.heap.size w1 ((w1.alloc (.cells #[.int .i64 99, .int .i64 99] 32)).alloc (.cells #[.int .i64 98, .int .i64 98] 32)) := ((Below.refl _ _).alloc (Nat.le_refl _) _).alloc (by simp) _
      generalize (w1.alloc (.cells #[.int .i64 99, .int .i64 99] 32)).alloc (.cells #[.int .i64 98, .int .i64 98] 32) = w2 at *
      generalize w1.heap.size + 1 = bq at *
      obtain ⟨bp, hbp⟩ : ∃ b, b = w1.heap.size := ⟨_, rfl⟩
      rw [← hbp] at c0 c1 z0 ⊢
      replace B := Lib.hid (B.out.trans (hb2.mono B.out.size))
      replace PO := Lib.hid (PO.out.below hb2)
      clear hb2 hbp z0
      go_upto_region 9 with (at_builtin; refine wpList_growG (by rfl) _ _ (by rfl) (Grow.oneB (Below.refl w2.heap.size w2) 99 99) (PO.out.below ((Below.refl _ _).alloc (Nat.le_refl _) _)) (by rfl) (by rfl) rfl (by show 1 + _ ≤ _; omega) ?_; intro r3 av3 cv3 w3 hr3 H3 G3 N3)
      have EX : Hid (r3 = ((99 : Int), (99 : Int)) :: sO) := by show _ = _; rw [hr3.out]; rfl
      have LX : Hid (r3.length = sO.length + 1) := by show _ = _; rw [EX.out]; rfl
      have hb3 := H3.out.bel
      replace B := Lib.hid (B.out.trans (hb3.mono B.out.size))
      replace PO := Lib.hid (PO.out.below hb3)
      replace c0 := cell_later hb3 c0
      replace c1 := cell_later hb3 c1
      replace d0 := cell_later hb3 d0
      replace d1 := cell_later hb3 d1
      have PX := Lib.hid H3.out.reads.1
      have kX := H3.out.reads.2
      have lX : r3.length ≤ 1048576 := by have := LX.out; omega
      clear H3 G3 N3 hr3 hb3
      go_cut [9] (fun s9 wx => ∃ (a' : Option Addr) (c' : Nat) (r : List (Int × Int)), s9 = .slice a' r.length c' ∧ r = sO ++ [((98 : Int), (98 : Int))] ∧ PtsAt wx a' r ∧ r.length ≤ c' ∧ Below w3.heap.size w3 wx)
      case first =>
        have zq := World.block_lt_of_cell? _ _ d0
        go_region_law (first
          | (have hq := HP4.out; refine step_growG (by rfl) _ _ (by rfl) H4.out hq (by rfl) (by rfl) rfl (by have := L4.out; show _ + 1 ≤ _; omega) ?_; intro r5 av5 cv5 w5 hr5 H5 G5 N5; have E5 : Hid (r5 = ([] : List (Int × Int)) ++ sO ++ [((98 : Int), (98 : Int))]) := (by show _ = _; rw [hr5.out, E4.out]); have L5 : Hid (r5.length = 0 + sO.length + 1) := (by show _ = _; rw [hr5.out, List.length_append, L4.out] <;> rfl); clear hq)
          | (have hq := H4.out; refine step_growG (by rfl) _ _ (by rfl) (hq.alloc _) (pts_one w4 98 98 _) (by rfl) (by rfl) rfl (by have := L4.out; show _ + 1 ≤ _; omega) ?_; intro r5 av5 cv5 w5 hr5 H5 G5 N5; have E5 : Hid (r5 = ([] : List (Int × Int)) ++ sO ++ [((98 : Int), (98 : Int))]) := (by show _ = _; rw [hr5.out, E4.out]); have L5 : Hid (r5.length = 0 + sO.length + 1) := (by show _ = _; rw [hr5.out, List.length_append, L4.out] <;> rfl); clear hq)
          | (refine step_growG (by rfl) _ _ (by rfl) (Grow.litB (Below.refl w3.heap.size w3)).dr1 (PO.out.below (below_drewN ((Below.refl w3.heap.size w3).alloc (Nat.le_refl _) (.cells #[] 32)) 1)) (by rfl) (by rfl) rfl (by show 0 + _ ≤ _; omega) ?_; intro r4 av4 cv4 w4 hr4 H4 G4 N4; have E4 : Hid (r4 = ([] : List (Int × Int)) ++ sO) := (by show _ = _; rw [hr4.out]); have L4 : Hid (r4.length = 0 + sO.length) := (by show _ = _; rw [E4.out, List.length_append] <;> rfl); have xd0 := cell_later H4.out.bel d0; have xd1 := cell_later H4.out.bel d1; skip)
          | (refine step_growG (by rfl) _ _ (by rfl) ((Grow.litB (Below.refl w3.heap.size w3)).alloc (.cells #[.int .i64 98, .int .i64 98] 32)).dr1 (PO.out.below (below_drewN (((Below.refl w3.heap.size w3).alloc (Nat.le_refl _) (.cells #[] 32)).alloc (by simp) (.cells #[.int .i64 98, .int .i64 98] 32)) 1)) (by rfl) (by rfl) rfl (by show 0 + _ ≤ _; omega) ?_; intro r4 av4 cv4 w4 hr4 H4 G4 N4; have E4 : Hid (r4 = ([] : List (Int × Int)) ++ sO) := (by show _ = _; rw [hr4.out]); have L4 : Hid (r4.length = 0 + sO.length) := (by show _ = _; rw [E4.out, List.length_append] <;> rfl); have xd0 := cell_later H4.out.bel d0; have xd1 := cell_later H4.out.bel d1; have HP4 := Lib.hid (((pts_oneN (w3.alloc (.cells #[] 32)) 98 98 32 (w3.heap.size + 1) (World.size_alloc _ _)).dr1).past G4.out (fun j e e2 => by simp [blk, Value.ownBlock] at e e2; omega)))
          | (refine step_growG (by rfl) _ _ (by rfl) (Grow.litN ((Below.refl w3.heap.size w3).alloc (Nat.le_refl _) (.cells #[.int .i64 98, .int .i64 98] 32)) (w3.heap.size + 1) (World.size_alloc _ _)).dr1 (PO.out.below (below_drewN (((Below.refl w3.heap.size w3).alloc (Nat.le_refl _) (.cells #[.int .i64 98, .int .i64 98] 32)).alloc (by simp) (.cells #[] 32)) 1)) (by rfl) (by rfl) rfl (by show 0 + _ ≤ _; omega) ?_; intro r4 av4 cv4 w4 hr4 H4 G4 N4; have E4 : Hid (r4 = ([] : List (Int × Int)) ++ sO) := (by show _ = _; rw [hr4.out]); have L4 : Hid (r4.length = 0 + sO.length) := (by show _ = _; rw [E4.out, List.length_append] <;> rfl); have xd0 := cell_later H4.out.bel d0; have xd1 := cell_later H4.out.bel d1; have HP4 := Lib.hid ((((pts_one w3 98 98 32).below ((Below.refl _ _).alloc (Nat.le_refl _) (.cells #[] 32))).dr1).past G4.out (fun j e e2 => by simp [blk, Value.ownBlock] at e e2; omega))))
        all_goals (go_wp2_with fail; go_meet)
        all_goals exact ⟨_, _, _, rfl, (by rw [E5.out]; rfl), H5.out.reads.1, H5.out.reads.2, H5.out.bel⟩
      case rest =>
        obtain ⟨avY, cvY, rY, rfl, hr6, hp6, hc6, hb6⟩ := hcut
        have EY := Lib.hid hr6
        have LY : Hid (rY.length = sO.length + 1) := by show _ = _; rw [hr6, List.length_append]; rfl
        replace B := Lib.hid (B.out.trans (hb6.mono B.out.size))
        replace PO := Lib.hid (PO.out.below hb6)
        replace PX := Lib.hid (PX.out.below hb6)
        replace c0 := cell_later hb6 c0
        replace c1 := cell_later hb6 c1
        replace d0 := cell_later hb6 d0
        replace d1 := cell_later hb6 d1
        have PY := Lib.hid hp6
        have kY := hc6
        have lY : rY.length ≤ 1048576 := by have := LY.out; omega
        clear hr6 hp6 hc6 hb6
        go_upto_region 11 with (at_builtin; refine wpList_growG (by rfl) _ _ (by rfl) (Grow.oneB (Below.refl wc.heap.size wc) 98 98) (PO.out.below ((Below.refl _ _).alloc (Nat.le_refl _) _)) (by rfl) (by rfl) rfl (by show 1 + _ ≤ _; omega) ?_; intro r7 av7 cv7 w7 hr7 H7 G7 N7)
        have EC : Hid (r7 = ((98 : Int), (98 : Int)) :: sO) := by show _ = _; rw [hr7.out]; rfl
        have LC : Hid (r7.length = sO.length + 1) := by show _ = _; rw [EC.out]; rfl
        have hb7 := H7.out.bel
        replace B := Lib.hid (B.out.trans (hb7.mono B.out.size))
        replace PO := Lib.hid (PO.out.below hb7)
        replace PX := Lib.hid (PX.out.below hb7)
        replace PY := Lib.hid (PY.out.below hb7)
        replace c0 := cell_later hb7 c0
        replace c1 := cell_later hb7 c1
        replace d0 := cell_later hb7 d0
        replace d1 := cell_later hb7 d1
        have PC := Lib.hid H7.out.reads.1
        have kC := H7.out.reads.2
        have lC : r7.length ≤ 1048576 := by have := LC.out; omega
        clear H7 G7 N7 hr7 hb7
        have ME : Hid (mergedOf sO r3 rY = some (((99 : Int), (99 : Int)) :: (sO ++ [((98 : Int), (98 : Int))]))) := by
          show _ = _
          rw [mergedOf_few (few3_mk (by omega) (by have := LX.out; omega) (by have := LY.out; omega)), EX.out, EY.out, merged_ends _ _ _ HPN.out h1]
        have MC : Hid (mergedOf sO r3 r7 = none) := by
          show _ = _
          rw [mergedOf_few (few3_mk (by omega) (by have := LX.out; omega) (by have := LC.out; omega)), EX.out, EC.out, merged_clash _ _ _ HPN.out HQN.out (by decide) h1]
        obtain ⟨ml, hml⟩ : ∃ m, m = (((99 : Int), (99 : Int)) :: (sO ++ [((98 : Int), (98 : Int))])) := ⟨_, rfl⟩
        have HML := Lib.hid hml
        clear hml
        have lml : ml.length ≤ 1048576 := by rw [HML.out, List.length_cons, List.length_append]; simp; omega
        have HM : Hid ((mergedOf sO r3 rY).getD [] = ml) := by show _ = _; rw [ME.out, HML.out]; rfl
        have HK : Hid ((mergedOf sO r3 rY).isSome = true) := by show _ = _; rw [ME.out]; rfl
        have HM2 : Hid ((mergedOf sO r3 r7).getD [] = []) := by show _ = _; rw [MC.out]; rfl
        have HK2 : Hid ((mergedOf sO r3 r7).isSome = false) := by show _ = _; rw [MC.out]; rfl
        go_wp2_with fail
        refine (implMerge ml true _ _ _ _ _ _ (sO) (r3) (rY) _ HM.out HK.out PO.out PX.out PY.out lO lX lY kO kX kY).mono ?_
        rintro e w8 ⟨aP, cP, rfl, h8⟩
        replace B := Lib.hid (B.out.trans (h8.bel.mono B.out.size))
        replace PO := Lib.hid (PO.out.below h8.bel)
        replace PX := Lib.hid (PX.out.below h8.bel)
        replace PY := Lib.hid (PY.out.below h8.bel)
        replace PC := Lib.hid (PC.out.below h8.bel)
        have PP := Lib.hid h8.pts
        have lP : List.length ml ≤ 1048576 := lml
        replace c0 := cell_later h8.bel c0
        replace c1 := cell_later h8.bel c1
        replace d0 := cell_later h8.bel d0
        replace d1 := cell_later h8.bel d1
        clear h8
        go_wp2_with fail
        refine (specMerge ml true _ _ _ _ _ _ (sO) (r3) (rY) _ HM.out HK.out PO.out PX.out PY.out lO lX lY kO kX kY).mono ?_
        rintro e w9 ⟨aQ, cQ, rfl, h9⟩
        replace B := Lib.hid (B.out.trans (h9.bel.mono B.out.size))
        replace PO := Lib.hid (PO.out.below h9.bel)
        replace PX := Lib.hid (PX.out.below h9.bel)
        replace PY := Lib.hid (PY.out.below h9.bel)
        replace PC := Lib.hid (PC.out.below h9.bel)
        replace PP := Lib.hid (PP.out.below h9.bel)
        have PQ := Lib.hid h9.pts
        have lQ : List.length ml ≤ 1048576 := lml
        replace c0 := cell_later h9.bel c0
        replace c1 := cell_later h9.bel c1
        replace d0 := cell_later h9.bel d0
        replace d1 := cell_later h9.bel d1
        clear h9
        go_wp2_with fail
        refine (implMerge ([] : List (Int × Int)) false _ _ _ _ _ _ (sO) (r3) (r7) _ HM2.out HK2.out PO.out PX.out PC.out lO lX lC kO kX kC).mono ?_
        rintro e w10 ⟨aR, cR, rfl, h10⟩
        replace B := Lib.hid (B.out.trans (h10.bel.mono B.out.size))
        replace PO := Lib.hid (PO.out.below h10.bel)
        replace PX := Lib.hid (PX.out.below h10.bel)
        replace PY := Lib.hid (PY.out.below h10.bel)
        replace PC := Lib.hid (PC.out.below h10.bel)
        replace PP := Lib.hid (PP.out.below h10.bel)
        replace PQ := Lib.hid (PQ.out.below h10.bel)
        have PR := Lib.hid h10.pts
        have lR : List.length ([] : List (Int × Int)) ≤ 1048576 := (Nat.zero_le _)
        replace c0 := cell_later h10.bel c0
        replace c1 := cell_later h10.bel c1
        replace d0 := cell_later h10.bel d0
        replace d1 := cell_later h10.bel d1
        clear h10
        go_wp2
        go_region_held3 (fun w' => w'.cell? ⟨bp, 0, none⟩ = some (.int .i64 99) ∧ w'.cell? ⟨bp, 1, none⟩ = some (.int .i64 99) ∧ w'.cell? ⟨bq, 0, none⟩ = some (.int .i64 98) ∧ w'.cell? ⟨bq, 1, none⟩ = some (.int .i64 98))
          (first | with_reducible exact HS4 | with_reducible exact HS3 | with_reducible exact HS2 | with_reducible exact HS1 | exact ⟨c0, c1, d0, d1⟩ | exact s4_below (by assumption) ((Below.refl _ _).alloc (Nat.le_refl _) _))
          (first
            | (have hq := H12.out; go_at_call 23; refine (wsSame_any _ _ _ _ _ _ _ (PP1.out.below hq.bel) hq.reads.1 lP (by have := L12.out; omega)).mono ?_; rintro e w14 ⟨rfl, k3, d3⟩; have he : ptsEq ml r12 = true := (by rw [HML.out, E12.out]; exact ptsEq_one _); rw [he]; have hb3 : Below w12.heap.size w12 w14 := d3 ▸ below_drewN (Below.refl _ _) k3; have HS4 := s4_below HS3 hb3; have HB2 : Hid (Below w10.heap.size w10 w14) := HB1.out.trans ((hq.bel.trans (hb3.mono hq.bel.size)).mono HB1.out.size); clear hq d3 he hb3)
            | (have hq := HP11.out; refine step_growG (by rfl) _ _ (by rfl) H11.out hq (by rfl) (by rfl) rfl (by have := L11.out; show _ + 1 ≤ _; omega) ?_; intro r12 av12 cv12 w12 hr12 H12 G12 N12; have E12 : Hid (r12 = [((99 : Int), (99 : Int))] ++ sO ++ [((98 : Int), (98 : Int))]) := (by show _ = _; rw [hr12.out, E11.out]); have L12 : Hid (r12.length = 1 + sO.length + 1) := (by show _ = _; rw [hr12.out, List.length_append, L11.out] <;> rfl); have HS3 := s4_below HS1 H12.out.bel; clear hq H11 HP11)
            | (have hq := H11.out; refine step_growG (by rfl) _ _ (by rfl) (hq.alloc _) (pts_one w11 98 98 _) (by rfl) (by rfl) rfl (by have := L11.out; show _ + 1 ≤ _; omega) ?_; intro r12 av12 cv12 w12 hr12 H12 G12 N12; have E12 : Hid (r12 = [((99 : Int), (99 : Int))] ++ sO ++ [((98 : Int), (98 : Int))]) := (by show _ = _; rw [hr12.out, E11.out]); have L12 : Hid (r12.length = 1 + sO.length + 1) := (by show _ = _; rw [hr12.out, List.length_append, L11.out] <;> rfl); have HS3 := s4_below HS1 H12.out.bel; clear hq H11)
            | (have hPP := PP.out; go_at_call 23; refine (wsSame_any _ _ _ _ _ _ _ PP.out.dr1 PQ.out.dr1 lP lQ).mono ?_; rintro e w13 ⟨rfl, kk, dd⟩; rw [ptsEq_one]; have hb1 : Below w10.heap.size w10 w13 := dd ▸ below_drewN (below_drewN (Below.refl _ _) 1) kk; have PO1 := Lib.hid (PO.out.below hb1); have PP1 := Lib.hid (PP.out.below hb1); have HS1 := s4_below ⟨c0, c1, d0, d1⟩ hb1; have HB1 := Lib.hid hb1; clear hb1 dd hPP PP)
            | (refine step_growG (by rfl) _ _ (by rfl) (Grow.oneB (Below.refl w13.heap.size w13) 99 99) (PO1.out.below ((Below.refl w13.heap.size w13).alloc (Nat.le_refl _) (.cells #[.int .i64 99, .int .i64 99] 32))) (by rfl) (by rfl) rfl (by show 1 + _ ≤ _; omega) ?_; intro r11 av11 cv11 w11 hr11 H11 G11 N11; have E11 : Hid (r11 = [((99 : Int), (99 : Int))] ++ sO) := (by show _ = _; rw [hr11.out]); have L11 : Hid (r11.length = 1 + sO.length) := (by show _ = _; rw [E11.out, List.length_append] <;> rfl); skip; have HS2 := s4_below HS1 H11.out.bel; clear PO1)
            | (refine step_growG (by rfl) _ _ (by rfl) ((Grow.oneB (Below.refl w13.heap.size w13) 99 99).alloc (.cells #[.int .i64 98, .int .i64 98] 32)) (PO1.out.below (((Below.refl w13.heap.size w13).alloc (Nat.le_refl _) (.cells #[.int .i64 99, .int .i64 99] 32)).alloc (by simp) (.cells #[.int .i64 98, .int .i64 98] 32))) (by rfl) (by rfl) rfl (by show 1 + _ ≤ _; omega) ?_; intro r11 av11 cv11 w11 hr11 H11 G11 N11; have E11 : Hid (r11 = [((99 : Int), (99 : Int))] ++ sO) := (by show _ = _; rw [hr11.out]); have L11 : Hid (r11.length = 1 + sO.length) := (by show _ = _; rw [E11.out, List.length_append] <;> rfl); have HP11 := Lib.hid (((pts_oneN (w13.alloc (.cells #[.int .i64 99, .int .i64 99] 32)) 98 98 32 (w13.heap.size + 1) (World.size_alloc _ _))).past G11.out (fun j e e2 => by simp [blk, Value.ownBlock] at e e2; omega)); have HS2 := s4_below HS1 H11.out.bel; clear PO1)
            | (refine step_growG (by rfl) _ _ (by rfl) (Grow.oneN ((Below.refl w13.heap.size w13).alloc (Nat.le_refl _) (.cells #[.int .i64 98, .int .i64 98] 32)) 99 99 (w13.heap.size + 1) (World.size_alloc _ _)) (PO1.out.below (((Below.refl w13.heap.size w13).alloc (Nat.le_refl _) (.cells #[.int .i64 98, .int .i64 98] 32)).alloc (by simp) (.cells #[.int .i64 99, .int .i64 99] 32))) (by rfl) (by rfl) rfl (by show 1 + _ ≤ _; omega) ?_; intro r11 av11 cv11 w11 hr11 H11 G11 N11; have E11 : Hid (r11 = [((99 : Int), (99 : Int))] ++ sO) := (by show _ = _; rw [hr11.out]); have L11 : Hid (r11.length = 1 + sO.length) := (by show _ = _; rw [E11.out, List.length_append] <;> rfl); have HP11 := Lib.hid ((((pts_one w13 98 98 32).below ((Below.refl _ _).alloc (Nat.le_refl _) (.cells #[.int .i64 99, .int .i64 99] 32)))).past G11.out (fun j e e2 => by simp [blk, Value.ownBlock] at e e2; omega)); have HS2 := s4_below HS1 H11.out.bel; clear PO1)
            | fail)
        all_goals go_wp2
        all_goals go_ret
        all_goals exact ⟨rfl, B.out.trans (HB2.out.mono B.out.size)⟩
    · have t2 : (12 : Int) ≤ (sO.length : Int) := by omega
      go_wp2
      go_ret
      exact ⟨rfl, B.out⟩
  · have t1 : (sO.length : Int) < 1 := by omega
    go_wp2
    go_ret
    exact ⟨rfl, B.out⟩

theorem fnSeqApart_large0 (a0 : Option Addr) (n0 cap0 : Nat) (w : World)  (hn : 1048576 < n0) :
    Calls Try.prog 8 #[.slice a0 n0 cap0] w fun e w' => e = .returned (.bool true) ∧ Below w.heap.size w w' := by
  have hn' : (1048576 : Int) < (n0 : Int) := by omega
  go_enter Try.func8, Try.ntmps8
  go_wp2
  go_ret
  exact ⟨rfl, Below.refl _ _⟩

theorem fnSeqApart_all (a0 : Option Addr) (n0 cap0 : Nat) (w : World) (f0 : CodeAt w a0 n0) (g0 : n0 ≤ cap0 ∧ n0 ≤ maxLen) :
    Calls Try.prog 8 #[.slice a0 n0 cap0] w fun e w' => e = .returned (.bool true) ∧ Below w.heap.size w w' := by
  by_cases h0 : n0 ≤ 1048576
  · exact fnSeqApart_walk a0 n0 cap0 w f0 h0 g0.1
  · exact fnSeqApart_large0 a0 n0 cap0 w (by omega)

set_option maxRecDepth 100000 in
theorem fnSeqApart_lifted (os : Os) (started : os.Started) (H : Type) (enc : TypeId × Value → H) :
    ReturnsInHanded {} Try.checked os 8 .any (Rows.fnSeqApartSpec.pre6 enc Try.prog Try.f8 Rows.fnSeqApartRow.domain false) (Rows.fnSeqApartSpec.post enc Try.prog Try.f8 false true false false) := by
  refine returnsInHanded_of_change (C := Try.checked) own started (by kernel_rfl) Try.func8
    (ChangeSpec.witness6 (enc := enc) (C := Try.checked) false ⟨#[], #[.slice none 0 0], []⟩ 8 (by kernel_rfl) (by kernel_rfl) (by kernel_rfl) (by kernel_rfl)) ?_
  intro W base args ds gs before hval0 hW _ _
  have hval : ∀ (j : Nat) t v, Try.f8.params[j]? = some t → args[j]? = some v → Value.okWide Try.prog W .any base t v := hval0
  have hW' := hW
  obtain ⟨p, q, hA0, hV, rfl, _, _⟩ := hW
  have hA : DataW.TrodAll enc Try.prog W 0 (fun _ => true) true Try.f8.params.toList args.toList ds p := hA0
  rw [Try.params8] at hA hval
  obtain ⟨v0, vs0, d0, ds0, p0, q0, hargs, rfl, rfl, h0, r0⟩ := trodAll_cons hA
  obtain ⟨rfl, rfl, rfl⟩ := trodAll_nil r0
  obtain rfl : args = #[v0] := by cases args; simp_all
  obtain ⟨rfl, rfl⟩ := trodVars_none hV
  have k0 := h0
  have lt0 : ∀ x ∈ p0, x.block < W.heap.size := by obtain ⟨m, hm⟩ := k0; exact DataW.trod_lt m _ _ _ hm
  obtain ⟨a0, c0, s0, rfl, f0, g0⟩ := open_codeC (hval 0 22 v0 rfl rfl) h0
  clear hA0 hval0
  refine (fnSeqApart_all a0 c0 s0 W f0 g0).mono fun e W' ⟨he, bel⟩ => ?_
  subst he
  exact ⟨_, rfl, _, _, _, [], _, [], hW', trodAll_mk1 (shut_bool Try.underlying4 _), (trodAll_cons_mk (Below.trod laidOut (by kernel_rfl) (of_decide_eq_true (by kernel_rfl)) k0 bel lt0) trodAll_mk0), rfl, bel.frame _, fun h => by cases h⟩

theorem fnSeqApart_over : Rows.fnSeqApartRow.holds Try.pinned (OpenSpec.ofChange Rows.fnSeqApartSpec) :=
  OpenClaim.holds_of_wide 8 Try.f8 rfl rfl rfl rfl rfl rfl rfl ⟨rfl, rfl, rfl, rfl, rfl⟩ rfl rfl rfl rfl rfl (by kernel_rfl) Try.func8 (by kernel_rfl)
    (of_decide_eq_true (by kernel_rfl)) (by unfold Func.isWrapper; first | (rw [if_pos (by decide +kernel)]; kernel_rfl) | (rw [if_neg (by decide +kernel)]; exact ⟨rfl, rfl⟩))
    (fun os started H enc _ => fnSeqApart_lifted os started H enc)

/-- the given statement -/
theorem fnSeqApart_holds : Rows.FnSeqApartSaid := fnSeqApart_over

end Go.Proofs.Ytaefibefagbheaa
