/- Proved here: the law FnExactRepoSame answers true at every two rooms of versions, and leaves them as they were; no condition. -/
import Derived.Test.YtdchfologicbeaaWRepoArg
import Derived.Test.YtdchfologicbeaaWRepoSameS
import Derived.Test.YtdchfologicbeaaWProgFactsS
import Derived.Deep.RegionHeld3
import Derived.Deep.DeepCutAuto
namespace Go.Proofs.Ytdchfologicbeaa
set_option linter.unusedVariables false
open Go.ChangeShapes Go.WideShapes Go.ChangeAt Go.RowKit

set_option maxRecDepth 100000 in
set_option maxHeartbeats 12000000 in
theorem fnExactRepoSame_walk (a : Option Addr) (ca : Nat) (cs : List Cm) (b : Option Addr) (cb : Nat) (hs : List Hd) (a' : Option Addr) (ca' : Nat) (ds : List Cm) (b' : Option Addr) (cb' : Nat) (gs : List Hd) (w : World) (hc : CommitsIn w a cs) (hh : HeadsIn w b hs) (hc' : CommitsIn w a' ds) (hh' : HeadsIn w b' gs) :
    Calls Try.prog 3 #[.agg #[.slice a cs.length ca, .slice b hs.length cb], .agg #[.slice a' ds.length ca', .slice b' gs.length cb']] w fun e w' => e = .returned (.bool true) ∧ Below w.heap.size w w' := by
  have HC := Lib.hid hc
  have HH := Lib.hid hh
  have HC' := Lib.hid hc'
  have HH' := Lib.hid hh'
  clear hc hh hc' hh'
  have A0 : Hid (∀ o o', Below w.heap.size w ((w.alloc o).alloc o')) := fun o o' => ((Below.refl _ _).alloc (Nat.le_refl _) _).alloc (by simp) _
  go_enter Try.func3, Try.ntmps3
  go_wp2_with fail
  refine (szRepo_any _ _ _ _ _ _ _ _ (HC.out.below (A0.out _ _)) (HH.out.below (A0.out _ _)) (by omega) (by omega)).mono ?_
  rintro e w1 ⟨⟨r, rfl, hsz⟩, hb1⟩
  have C1 : Hid (Box2 w1 w.heap.size (.slice a cs.length ca) (.slice b hs.length cb)) := ((Box2.new w _ _ _).later ((Below.refl _ _).alloc (Nat.le_refl _) _)).later hb1
  have C2 : Hid (Box2 w1 (w.heap.size + 1) (.slice a' ds.length ca') (.slice b' gs.length cb')) := Box2.later (by
    have := Box2.new (w.alloc (.cells #[.slice a cs.length ca, .slice b hs.length cb] 25)) (.slice a' ds.length ca') (.slice b' gs.length cb') 25
    rwa [World.size_alloc] at this) hb1
  have B1 : Hid (Below w.heap.size w w1) := (A0.out _ _).trans (hb1.mono (by simp; omega))
  clear hb1
  rcases hsz with rfl | ⟨r0, r1, l1⟩
  · go_wp2
    go_ret
    exact ⟨rfl, B1.out⟩
  have L1 : Hid (RpLen cs hs 1048576) := ⟨by have := l1.cl; omega, by have := l1.hl; omega, l1.cms.mono (by omega), l1.hds.mono (by omega)⟩
  clear l1
  obtain ⟨z0, c0, c1⟩ := C2.out
  go_wp2_with fail
  clear c0 c1
  refine (szRepo_any _ _ _ _ _ _ _ _ (HC'.out.below B1.out) (HH'.out.below B1.out) r0 (by omega)).mono ?_
  rintro e w2 ⟨⟨r', rfl, hsz⟩, hb2⟩
  replace C1 := Lib.hid (C1.out.later hb2)
  replace C2 := Lib.hid (C2.out.later hb2)
  have B2 : Hid (Below w.heap.size w w2) := B1.out.trans (hb2.mono B1.out.size)
  clear hb2 B1
  rcases hsz with rfl | ⟨r0', r1', l1⟩
  · go_wp2
    go_ret
    exact ⟨rfl, B2.out⟩
  have M1 : Hid (RpLen ds gs 1048576) := ⟨by have := l1.cl; omega, by have := l1.hl; omega, l1.cms.mono (by omega), l1.hds.mono (by omega)⟩
  clear l1
  have z0 : w.heap.size < w2.heap.size := C1.out.lt
  have z1 : w.heap.size + 1 < w2.heap.size := C2.out.lt
  go_upto_region 8 with (fail)
  go_cut [6] (fun s6 wx => s6 = .bool (rpEq cs ds hs gs) ∧ Box2 wx w.heap.size (.slice a cs.length ca) (.slice b hs.length cb) ∧ Box2 wx (w.heap.size + 1) (.slice a' ds.length ca') (.slice b' gs.length cb') ∧ Below w.heap.size w wx)
  case first =>
    obtain ⟨_, c0, c1⟩ := C1.out
    obtain ⟨_, d0, d1⟩ := C2.out
    go_region_held3 (fun w' => w'.cell? ⟨w.heap.size, 0, none⟩ = some (.slice a cs.length ca) ∧ w'.cell? ⟨w.heap.size, 1, none⟩ = some (.slice b hs.length cb) ∧ w'.cell? ⟨w.heap.size + 1, 0, none⟩ = some (.slice a' ds.length ca') ∧ w'.cell? ⟨w.heap.size + 1, 1, none⟩ = some (.slice b' gs.length cb') ∧ Below w.heap.size w w')
      (first
        | (go_split_ands
           rename_i hS0 hS1 hS2 hS3 hS4
           with_reducible exact ⟨cell_later hbn hS0, cell_later hbn hS1, cell_later hbn hS2, cell_later hbn hS3, hS4.trans (hbn.mono hS4.size)⟩)
        | exact ⟨c0, c1, d0, d1, B2.out.drew⟩)
      (first
        | (go_at_call_of 7 (Value.agg #[Value.slice a cs.length ca, Value.slice b hs.length cb])
           refine (toRepo_any _ _ _ _ cs hs _ ?_ ?_ L1.out).mono ?_
           · (go_split_ands; exact HC.out.reads.below (by assumption))
           · (go_split_ands; exact HH.out.reads.below (by assumption))
           rintro e wn ⟨aA, caA, bA, cbA, rfl, _, _, hRA, hbn⟩)
        | (go_at_call_of 7 (Value.agg #[Value.slice a' ds.length ca', Value.slice b' gs.length cb'])
           refine (toRepo_any _ _ _ _ ds gs _ ?_ ?_ M1.out).mono ?_
           · (go_split_ands; exact HC'.out.reads.below (by assumption))
           · (go_split_ands; exact HH'.out.reads.below (by assumption))
           rintro e wn ⟨aB, caB, bB, cbB, rfl, _, _, hRB, hbn⟩)
        | (go_at_call 6
           refine (specRepoSame_any _ _ _ _ _ _ _ _ cs ds hs gs _ ?_ ?_ L1.out M1.out).mono ?_
           · (first | assumption | exact RepoAt.below (by assumption) (by assumption))
           · (first | assumption | exact RepoAt.below (by assumption) (by assumption))
           rintro e wn ⟨rfl, hbn⟩))
    all_goals (go_wp2_with fail; go_meet; go_split_ands; rename_i hS0 hS1 hS2 hS3 hS4; exact ⟨rfl, ⟨World.block_lt_of_cell? _ _ hS0, hS0, hS1⟩, ⟨World.block_lt_of_cell? _ _ hS2, hS2, hS3⟩, hS4⟩)
  case rest =>
    clear C1 C2 B2
    obtain ⟨rfl, hC1, hC2, hB⟩ := hcut
    have C1 := Lib.hid hC1
    have C2 := Lib.hid hC2
    have B := Lib.hid hB
    clear hC1 hC2 hB
    obtain ⟨_, c0, c1⟩ := C1.out
    go_wp2_with fail
    clear c0 c1
    refine (toRepo_any _ _ _ _ cs hs _ (HC.out.reads.below B.out) (HH.out.reads.below B.out) L1.out).mono ?_
    rintro e w3 ⟨aX, caX, bX, cbX, rfl, _, _, hRX, hb3⟩
    replace C1 := Lib.hid (C1.out.later hb3)
    replace C2 := Lib.hid (C2.out.later hb3)
    have B3 : Hid (Below w.heap.size w w3) := B.out.trans (hb3.mono B.out.size)
    have RX := Lib.hid hRX
    have z0 : w.heap.size < w3.heap.size := C1.out.lt
    have z1 : w.heap.size + 1 < w3.heap.size := C2.out.lt
    clear hb3 hRX B
    obtain ⟨_, c0, c1⟩ := C2.out
    go_wp2_with fail
    clear c0 c1
    refine (toRepo_any _ _ _ _ ds gs _ (HC'.out.reads.below (B3.out.alloc B3.out.size _)) (HH'.out.reads.below (B3.out.alloc B3.out.size _)) M1.out).mono ?_
    rintro e w4 ⟨aY, caY, bY, cbY, rfl, _, _, hRY, hb4⟩
    have hb34 : Below w3.heap.size w3 w4 := ((Below.refl _ _).alloc (Nat.le_refl _) _).trans (hb4.mono (by simp))
    have D1 : Hid (Box2 w4 w3.heap.size (.slice aX cs.length caX) (.slice bX hs.length cbX)) := (Box2.new w3 _ _ _).later hb4
    replace C1 := Lib.hid (C1.out.later hb34)
    replace C2 := Lib.hid (C2.out.later hb34)
    have B4 : Hid (Below w.heap.size w w4) := B3.out.trans (hb34.mono B3.out.size)
    replace RX := Lib.hid (RX.out.below hb34)
    have RY := Lib.hid hRY
    have z2 : w3.heap.size < w4.heap.size := D1.out.lt
    have z3 : w.heap.size < w4.heap.size := C1.out.lt
    have z4 : w.heap.size + 1 < w4.heap.size := C2.out.lt
    clear hb4 hb34 hRY B3
    obtain ⟨_, c0, c1⟩ := D1.out
    go_wp2_with fail
    clear c0 c1
    have A4 : Hid (∀ o, Below w4.heap.size w4 (w4.alloc o)) := fun o => (Below.refl _ _).alloc (Nat.le_refl _) _
    refine (implRepoSame_any _ _ _ _ _ _ _ _ cs ds hs gs _ (RX.out.below (A4.out _)) (RY.out.below (A4.out _)) L1.out M1.out).mono ?_
    rintro e w5 ⟨rfl, hb5⟩
    have hb45 : Below w4.heap.size w4 w5 := (A4.out _).trans (hb5.mono (by simp))
    have D2 : Hid (Box2 w5 w4.heap.size (.slice aY ds.length caY) (.slice bY gs.length cbY)) := (Box2.new w4 _ _ _).later hb5
    replace D1 := Lib.hid (D1.out.later hb45)
    replace C1 := Lib.hid (C1.out.later hb45)
    replace C2 := Lib.hid (C2.out.later hb45)
    have B5 : Hid (Below w.heap.size w w5) := B4.out.trans (hb45.mono B4.out.size)
    replace RX := Lib.hid (RX.out.below hb45)
    replace RY := Lib.hid (RY.out.below hb45)
    clear hb5 hb45 B4 A4
    have hne : (rpEq cs ds hs gs != rpEq cs ds hs gs) = false := by simp
    go_upto_region 14 with (fail)
    clear hne
    go_cut [39] (fun s39 wx => s39 = .bool false ∧ Box2 wx (w.heap.size + 1) (.slice a' ds.length ca') (.slice b' gs.length cb') ∧ Box2 wx w4.heap.size (.slice aY ds.length caY) (.slice bY gs.length cbY) ∧ Below w5.heap.size w5 wx)
    case first =>
      obtain ⟨_, c0, c1⟩ := C1.out
      obtain ⟨_, x0, x1⟩ := C2.out
      obtain ⟨_, d0, d1⟩ := D1.out
      obtain ⟨_, y0, y1⟩ := D2.out
      go_region_held3 (fun w' => w'.cell? ⟨w.heap.size, 0, none⟩ = some (.slice a cs.length ca) ∧ w'.cell? ⟨w.heap.size, 1, none⟩ = some (.slice b hs.length cb) ∧ w'.cell? ⟨w.heap.size + 1, 0, none⟩ = some (.slice a' ds.length ca') ∧ w'.cell? ⟨w.heap.size + 1, 1, none⟩ = some (.slice b' gs.length cb') ∧ w'.cell? ⟨w3.heap.size, 0, none⟩ = some (.slice aX cs.length caX) ∧ w'.cell? ⟨w3.heap.size, 1, none⟩ = some (.slice bX hs.length cbX) ∧ w'.cell? ⟨w4.heap.size, 0, none⟩ = some (.slice aY ds.length caY) ∧ w'.cell? ⟨w4.heap.size, 1, none⟩ = some (.slice bY gs.length cbY) ∧ Below w5.heap.size w5 w')
        (first
          | (go_split_ands
             rename_i hS0 hS1 hS2 hS3 hS4 hS5 hS6 hS7 hS8
             with_reducible exact ⟨cell_later hbn hS0, cell_later hbn hS1, cell_later hbn hS2, cell_later hbn hS3, cell_later hbn hS4, cell_later hbn hS5, cell_later hbn hS6, cell_later hbn hS7, hS8.trans (hbn.mono hS8.size)⟩)
          | exact ⟨c0, c1, x0, x1, d0, d1, y0, y1, (Below.refl _ _).drew⟩)
        (first
          | (go_at_call_of 7 (Value.agg #[Value.slice a cs.length ca, Value.slice b hs.length cb])
             refine (toRepo_any _ _ _ _ cs hs _ ?_ ?_ L1.out).mono ?_
             · (go_split_ands; exact HC.out.reads.below (B5.out.trans (Below.mono (by assumption) B5.out.size)))
             · (go_split_ands; exact HH.out.reads.below (B5.out.trans (Below.mono (by assumption) B5.out.size)))
             rintro e wn ⟨aA, caA, bA, cbA, rfl, _, _, hRA, hbn⟩)
          | (go_at_call 9
             refine (eqRepo_any _ _ _ _ _ _ _ _ cs cs hs hs _ ?_ ?_ L1.out L1.out).mono ?_
             · (go_split_ands; exact RX.out.below (by assumption))
             · (assumption)
             rintro e wn ⟨rfl, hbn⟩))
      all_goals (go_wp2_with fail; go_meet; go_split_ands; rename_i hS0 hS1 hS2 hS3 hS4 hS5 hS6 hS7 hS8; exact ⟨by simp [rpEq_refl], ⟨World.block_lt_of_cell? _ _ hS2, hS2, hS3⟩, ⟨World.block_lt_of_cell? _ _ hS6, hS6, hS7⟩, hS8⟩)
    case rest =>
      clear C1 C2 D1 D2 RX
      obtain ⟨rfl, hC2, hD2, hB⟩ := hcut
      have C2 := Lib.hid hC2
      have D2 := Lib.hid hD2
      have B6 : Hid (Below w.heap.size w wc) := B5.out.trans (hB.mono B5.out.size)
      replace RY := Lib.hid (RY.out.below hB)
      clear hC2 hD2 hB B5
      go_upto_region 16 with (fail)
      go_cut [44] (fun s44 wx => s44 = .bool false ∧ Below w.heap.size w wx)
      case first =>
        obtain ⟨_, x0, x1⟩ := C2.out
        obtain ⟨_, y0, y1⟩ := D2.out
        go_region_held3 (fun w' => w'.cell? ⟨w.heap.size + 1, 0, none⟩ = some (.slice a' ds.length ca') ∧ w'.cell? ⟨w.heap.size + 1, 1, none⟩ = some (.slice b' gs.length cb') ∧ w'.cell? ⟨w4.heap.size, 0, none⟩ = some (.slice aY ds.length caY) ∧ w'.cell? ⟨w4.heap.size, 1, none⟩ = some (.slice bY gs.length cbY) ∧ Below wc.heap.size wc w')
          (first
            | (go_split_ands
               rename_i hS0 hS1 hS2 hS3 hS4
               with_reducible exact ⟨cell_later hbn hS0, cell_later hbn hS1, cell_later hbn hS2, cell_later hbn hS3, hS4.trans (hbn.mono hS4.size)⟩)
            | exact ⟨x0, x1, y0, y1, (Below.refl _ _).drew⟩)
          (first
            | (go_at_call_of 7 (Value.agg #[Value.slice a' ds.length ca', Value.slice b' gs.length cb'])
               refine (toRepo_any _ _ _ _ ds gs _ ?_ ?_ M1.out).mono ?_
               · (go_split_ands; exact HC'.out.reads.below (B6.out.trans (Below.mono (by assumption) B6.out.size)))
               · (go_split_ands; exact HH'.out.reads.below (B6.out.trans (Below.mono (by assumption) B6.out.size)))
               rintro e wn ⟨aB, caB, bB, cbB, rfl, _, _, hRB, hbn⟩)
            | (go_at_call 9
               refine (eqRepo_any _ _ _ _ _ _ _ _ ds ds gs gs _ ?_ ?_ M1.out M1.out).mono ?_
               · (go_split_ands; exact RY.out.below (by assumption))
               · (assumption)
               rintro e wn ⟨rfl, hbn⟩))
        all_goals (go_wp2_with fail; go_meet; go_split_ands; exact ⟨by simp [rpEq_refl], B6.out.trans (Below.mono (by assumption) B6.out.size)⟩)
      case rest =>
        clear C2 D2 RY B6
        obtain ⟨rfl, hB⟩ := hcut
        have B := Lib.hid hB
        clear hB
        go_wp2
        go_ret
        exact ⟨rfl, B.out⟩

set_option maxRecDepth 100000 in
theorem fnExactRepoSame_lifted (os : Os) (started : os.Started) (H : Type) (enc : TypeId × Value → H) :
    ReturnsInHanded {} Try.checked os 3 .any (Rows.fnExactRepoSameSpec.pre6 enc Try.prog Try.f3 Rows.fnExactRepoSameRow.domain false) (Rows.fnExactRepoSameSpec.post enc Try.prog Try.f3 false true false false) := by
  refine returnsInHanded_of_change (C := Try.checked) own started (by kernel_rfl) Try.func3
    (ChangeSpec.witness6 (enc := enc) (C := Try.checked) false ⟨#[], #[.agg #[.slice none 0 0, .slice none 0 0], .agg #[.slice none 0 0, .slice none 0 0]], []⟩ 8 (by kernel_rfl) (by kernel_rfl) (by kernel_rfl) (by kernel_rfl)) ?_
  intro W base args ds gs before hval0 hW _ _
  have hval : ∀ (j : Nat) t v, Try.f3.params[j]? = some t → args[j]? = some v → Value.okWide Try.prog W .any base t v := hval0
  have hW' := hW
  obtain ⟨p, q, hA0, hV, rfl, _, _⟩ := hW
  have hA : DataW.TrodAll enc Try.prog W 0 (fun _ => true) true Try.f3.params.toList args.toList ds p := hA0
  rw [Try.params3] at hA hval
  obtain ⟨v0, vs0, d0, ds0, p0, q0, hargs, rfl, rfl, h0, r0⟩ := trodAll_cons hA
  obtain ⟨v1, vs1, d1, ds1, p1, q1, rfl, rfl, rfl, h1, r1⟩ := trodAll_cons r0
  obtain ⟨rfl, rfl, rfl⟩ := trodAll_nil r1
  obtain rfl : args = #[v0, v1] := by cases args; simp_all
  obtain ⟨rfl, rfl⟩ := trodVars_none hV
  have k0 := h0
  have lt0 : ∀ x ∈ p0, x.block < W.heap.size := by obtain ⟨m, hm⟩ := k0; exact DataW.trod_lt m _ _ _ hm
  obtain ⟨a0, c0, s0, b0, e0, t0, rfl, f0, g0⟩ := open_repo (hval 0 25 v0 rfl rfl) h0
  have k1 := h1
  have lt1 : ∀ x ∈ p1, x.block < W.heap.size := by obtain ⟨m, hm⟩ := k1; exact DataW.trod_lt m _ _ _ hm
  obtain ⟨a1, c1, s1, b1, e1, t1, rfl, f1, g1⟩ := open_repo (hval 1 25 v1 rfl rfl) h1
  clear hA0 hval0
  refine (fnExactRepoSame_walk a0 c0 s0 b0 e0 t0 a1 c1 s1 b1 e1 t1 W f0 g0 f1 g1).mono fun e W' ⟨he, bel⟩ => ?_
  subst he
  exact ⟨_, rfl, _, _, _, [], _, [], hW', trodAll_mk1 (shut_bool Try.underlying4 _), (trodAll_cons_mk (Below.trod laidOut (by kernel_rfl) (of_decide_eq_true (by kernel_rfl)) k0 bel lt0) (trodAll_cons_mk (Below.trod laidOut (by kernel_rfl) (of_decide_eq_true (by kernel_rfl)) k1 bel lt1) trodAll_mk0)), rfl, bel.frame _, fun h => by cases h⟩

theorem fnExactRepoSame_c1 : (Rows.fnExactRepoSameRow.inPlace == Try.prog.inPlace 3) = true := by kernel_rfl
theorem fnExactRepoSame_c2 : (Rows.fnExactRepoSameRow.unfollowed == Try.prog.unfollowed 3) = true := by kernel_rfl
theorem fnExactRepoSame_c3 : (Rows.fnExactRepoSameRow.recurses == Try.prog.recurses 3) = true := by kernel_rfl
theorem fnExactRepoSame_c4 : (Rows.fnExactRepoSameRow.named == Try.prog.varsNamed 3) = true := by kernel_rfl
theorem fnExactRepoSame_c5 : (Rows.fnExactRepoSameRow.plainKeys == Try.prog.plainKeys) = true := pf_plainKeys
theorem fnExactRepoSame_c6 : (Rows.fnExactRepoSameRow.lifted == Try.prog.liftsFinal) = true := pf_lifted
theorem fnExactRepoSame_c7 : (Try.prog.make == some Rows.fnExactRepoSameRow.make) = true := pf_make
theorem fnExactRepoSame_closed : joinedFacts Try.prog 3 Try.f3 Rows.fnExactRepoSameSpec Rows.fnExactRepoSameRow = true := by
  unfold joinedFacts
  simp only [Bool.and_eq_true]
  repeat' apply And.intro
  all_goals first
    | with_reducible exact laidOut
    | with_reducible exact pf_mapsRowed
    | with_reducible exact pf_mayEnter
    | with_reducible exact pf_stopsHeard
    | with_reducible exact fnExactRepoSame_c1
    | with_reducible exact fnExactRepoSame_c2
    | with_reducible exact fnExactRepoSame_c3
    | with_reducible exact fnExactRepoSame_c4
    | with_reducible exact fnExactRepoSame_c5
    | with_reducible exact fnExactRepoSame_c6
    | with_reducible exact fnExactRepoSame_c7
    | kernel_rfl

theorem fnExactRepoSame_over : Rows.fnExactRepoSameRow.holds Try.pinned (OpenSpec.ofChange Rows.fnExactRepoSameSpec) :=
  OpenClaim.holds_of_wide 3 Try.f3 rfl rfl rfl rfl rfl rfl rfl ⟨rfl, rfl, rfl, rfl, rfl⟩ rfl rfl rfl rfl rfl (by kernel_rfl) Try.func3 fnExactRepoSame_closed
    (of_decide_eq_true (by kernel_rfl)) (by unfold Func.isWrapper; first | (rw [if_pos (by decide +kernel)]; kernel_rfl) | (rw [if_neg (by decide +kernel)]; exact ⟨rfl, rfl⟩))
    (fun os started H enc _ => fnExactRepoSame_lifted os started H enc)

/-- the given statement -/
theorem fnExactRepoSame_holds : Rows.FnExactRepoSameSaid := fnExactRepoSame_over

end Go.Proofs.Ytdchfologicbeaa
