/- Proved here: the program's iterator over the points that stay hands over just those, in their order; rows of at most 12 points. -/
import Derived.Test.YtaefibefagbheaaWIter
import Derived.Test.YtaefibefagbheaaWSeqPairsI
import Derived.Test.YtaefibefagbheaaWSeqPlaces
namespace Go.Proofs.Ytaefibefagbheaa
set_option linter.unusedVariables false
open Go.ChangeShapes Go.WideShapes Go.ChangeAt Go.RowKit Go.Deep Go.Shelf Go.Maps

attribute [local go_sem] Oper.semAt_some

/-- what a point that stays is handed over as -/
def stV (t : Nat × Nat × Nat) : Array Value := #[.agg #[.int .i64 (t.1 : Int), .int .i64 (t.2.1 : Int), .int .i64 (t.2.2 : Int)]]

/-- the points that stay, of the first pairs -/
def staysTo (pa pb : List (Nat × Nat)) (k : Nat) : List (Nat × Nat × Nat) := stays (pa.take k) pb

theorem staysTo_zero (pa pb : List (Nat × Nat)) : staysTo pa pb 0 = [] := rfl
theorem staysTo_all (pa pb : List (Nat × Nat)) : staysTo pa pb pa.length = stays pa pb := by unfold staysTo; rw [List.take_length]
theorem staysTo_some {pa pb : List (Nat × Nat)} {k q : Nat} (h : k < pa.length) (hq : pb.lookup pa[k].1 = some q) : staysTo pa pb (k + 1) = staysTo pa pb k ++ [(pa[k].1, pa[k].2, q)] := by
  unfold staysTo stays
  rw [List.take_succ_eq_append_getElem h, List.filterMap_append]
  simp [hq]
theorem staysTo_none {pa pb : List (Nat × Nat)} {k : Nat} (h : k < pa.length) (hq : pb.lookup pa[k].1 = none) : staysTo pa pb (k + 1) = staysTo pa pb k := by
  unfold staysTo stays
  rw [List.take_succ_eq_append_getElem h, List.filterMap_append]
  simp [hq]
theorem staysTo_prefix (pa pb : List (Nat × Nat)) (k : Nat) : staysTo pa pb k <+: stays pa pb := by
  unfold staysTo stays
  conv => rhs; rw [← List.take_append_drop k pa]
  rw [List.filterMap_append]
  exact List.prefix_append _ _

theorem cell_new1 (w : World) (v : Value) (t : TypeId) : (w.alloc (.cells #[v] t)).cell? ⟨w.heap.size, 0, none⟩ = some v := by simp [go_sem]

theorem boxed_second (w : World) (o : Obj) (t : TypeId) (v : Value) (u : Unit) : Boxed ((w.alloc o).alloc (.cells #[v] t)) (w.heap.size + 1) t v := by
  have := Boxed.new (w.alloc o) t v
  rwa [World.size_alloc] at this

/-- what 'staysOf' leaves: its boxes, and the map of places -/
structure StaysBox (w : World) (Bb Ba Bp m : Nat) (vb va : Value) (pb : List (Nat × Nat)) (W : World) : Prop where
  base : Boxed W Bb 23 vb
  a : Boxed W Ba 23 va
  places : Boxed W Bp 80 (.map (some m))
  map : W.ownsMap Try.prog 3 heldElem m pb.length (mapI pb)
  lo : w.heap.size ≤ Bb ∧ w.heap.size ≤ Ba ∧ w.heap.size ≤ Bp ∧ w.heap.size ≤ m

set_option maxRecDepth 100000 in
set_option maxHeartbeats 2000000 in
theorem staysOf_any (qb qa qc : Option Addr) (cb ca cc : Nat) (base a b : List (Int × Int)) (w : World) (hb : PtsAt w qb base) (hc : PtsAt w qc b) (hl : base.length ≤ 12) (hl' : b.length ≤ 12) :
    Calls Try.prog 51 #[.slice qb base.length cb, .slice qa a.length ca, .slice qc b.length cc] w fun e w' => ∃ Bb Ba Bp m, e = .returned (.func (.func 56) #[] #[.pointer (some ⟨Bb, 0, none⟩), .pointer (some ⟨Ba, 0, none⟩), .pointer (some ⟨Bp, 0, none⟩)]) ∧
      StaysBox w Bb Ba Bp m (.slice qb base.length cb) (.slice qa a.length ca) (prs 0 0 base b) w' ∧ Below w.heap.size w w' := by
  have HB := Lib.hid hb
  have HC := Lib.hid hc
  clear hb hc
  have hfew : fewB [base.length, b.length] = true := by simp [fewB]; omega
  have hpo := pairsOf_few hfew
  have HPO := Lib.hid hpo
  clear hfew hpo
  go_enter Try.func51, Try.ntmps51
  have A0 : ∀ o o', Below w.heap.size w ((w.alloc o).alloc o') := fun o o' => ((Below.refl _ _).alloc (Nat.le_refl _) _).alloc (by simp) _
  have H0 := Lib.hid A0
  clear A0
  go_wp2_with fail
  refine (implSeqPairs_own _ _ _ _ _ _ _ (HB.out.below (H0.out _ _)) (HC.out.below (H0.out _ _)) (by omega) (by omega)).mono ?_
  rintro e w1 ⟨ap, cp, rfl, hown, hb1⟩
  rw [HPO.out] at hown ⊢
  obtain ⟨a', cap', hv, hpp, _, _⟩ := owned_pts hown rfl
  cases hv
  have x0 : Boxed w1 w.heap.size 23 (.slice qb base.length cb) := (hb1.block _ (by simp; omega)).trans ((Boxed.new w _ _).alloc _)
  have x1 : Boxed w1 (w.heap.size + 1) 23 (.slice qa a.length ca) := (hb1.block _ (by simp)).trans (boxed_second w _ _ _ ())
  have X0 := Lib.hid x0
  have X1 := Lib.hid x1
  have B1 : Hid (Below w.heap.size w w1) := (H0.out _ _).trans (hb1.mono (by simp; omega))
  have HP := Lib.hid hpp
  have hlen : (prs 0 0 base b).length ≤ 12 := by rw [prs_len]; have := lcs_le base b; omega
  have hbd : ∀ p ∈ prs 0 0 base b, p.1 ≤ 12 := fun p hp => by have := (prs_fit 0 0 base b p hp).2.2.1; omega
  have HBD := Lib.hid hbd
  clear x0 x1 hb1 hpp hbd hown
  go_wp2_with fail
  refine (pairedPlaces_any _ _ _ _ HP.out hlen HBD.out).mono ?_
  rintro e w2 ⟨rfl, hm, hb2⟩
  have B2 : Hid (Below w.heap.size w w2) := B1.out.trans (hb2.mono B1.out.size)
  have Y0 : Hid (Boxed w2 w.heap.size 23 (.slice qb base.length cb)) := (hb2.block _ X0.out.lt).trans X0.out
  have Y1 : Hid (Boxed w2 (w.heap.size + 1) 23 (.slice qa a.length ca)) := (hb2.block _ X1.out.lt).trans X1.out
  have HM := Lib.hid hm
  have hs1 := B1.out.size
  have hs2 := B2.out.size
  clear hm hb2 X0 X1
  go_wp2
  go_ret
  refine ⟨_, _, _, _, rfl, ⟨Y0.out.alloc _, Y1.out.alloc _, Boxed.new w2 _ _, HM.out.alloc _, Nat.le_refl _, by omega, by omega, hs1⟩, B2.out.alloc hs2 _⟩

/-- what the iterator leans on between its rounds -/
structure StaysHold (lo : Nat) (ap : Option Addr) (cp Bp m : Nat) (pa pb : List (Nat × Nat)) (W : World) : Prop where
  row : W.ownsRow lo 30 2 (.slice ap (zp pa).length cp) (zp pa).length (flat (zp pa))
  places : Boxed W Bp 80 (.map (some m))
  map : W.ownsMap Try.prog 3 heldElem m pb.length (mapI pb)

theorem StaysHold.only {lo : Nat} {ap : Option Addr} {cp Bp m : Nat} {pa pb : List (Nat × Nat)} {A C : World} {Q : Nat → Obj → Prop} (h : StaysHold lo ap cp Bp m pa pb A) (ho : Only A C Q) (hq1 : ∀ k c fz, ¬ Q k (.cells c 30 fz)) (hq2 : ∀ k c fz, ¬ Q k (.cells c 80 fz)) (hq3 : ∀ k es c, ¬ Q k (.map es c)) : StaysHold lo ap cp Bp m pa pb C :=
  ⟨ownsRow_only h.row ho (fun g c _ => hq1 g c _), boxed_only h.places ho (hq2 _ _ _), ownsMap_only h.map ho (hq3 _)⟩

set_option maxRecDepth 100000 in
set_option maxHeartbeats 8000000 in
theorem staysOf1_iter (w0 : World) (Bb Ba Bp m : Nat) (qb qa : Option Addr) (cb ca : Nat) (base a : List (Int × Int)) (pb : List (Nat × Nat)) (w : World) (Kp : World → World → Prop) (Qr : Nat → Obj → Prop) (hK : ∀ A C, Kp A C → Only A C Qr)
    (hq1 : ∀ k c fz, ¬ Qr k (.cells c 30 fz)) (hq2 : ∀ k c fz, ¬ Qr k (.cells c 80 fz)) (hq3 : ∀ k es c, ¬ Qr k (.map es c))
    (hS : StaysBox w0 Bb Ba Bp m (.slice qb base.length cb) (.slice qa a.length ca) pb w) (hT : TellsI (mapI pb) pb) (hb : PtsAt w qb base) (ha : PtsAt w qa a) (hl : base.length ≤ 12) (hl' : a.length ≤ 12) :
    Iter Try.prog 56 #[.pointer (some ⟨Bb, 0, none⟩), .pointer (some ⟨Ba, 0, none⟩), .pointer (some ⟨Bp, 0, none⟩)] stV (stays (prs 0 0 base a) pb) Kp (fun _ _ _ => False) w := by
  intro l n J Jx W hW hJ hJx hY h0
  have HJ := Lib.hid hJ
  have HY := Lib.hid hY
  have HT := Lib.hid hT
  have HQ1 := Lib.hid hq1
  have HQ2 := Lib.hid hq2
  have HQ3 := Lib.hid hq3
  have HK := Lib.hid hK
  have HB := Lib.hid (hb.below hW)
  have HA := Lib.hid (ha.below hW)
  have hfew : fewB [base.length, a.length] = true := by simp [fewB]; omega
  have HPO := Lib.hid (pairsOf_few hfew)
  have c1 : W.cell? ⟨Bb, 0, none⟩ = some (.slice qb base.length cb) := cell_later hW hS.base.cell
  have c2 : W.cell? ⟨Ba, 0, none⟩ = some (.slice qa a.length ca) := cell_later hW hS.a.cell
  have P0 : Hid (Boxed W Bp 80 (.map (some m))) := (hW.block _ hS.places.lt).trans hS.places
  have M0 : Hid (W.ownsMap Try.prog 3 heldElem m pb.length (mapI pb)) := ownsMap_only hS.map (Only.of_below hW (Q := fun _ _ => False)) (fun _ _ h => h)
  have HBD : Hid (∀ p ∈ prs 0 0 base a, p.1 ≤ 12) := fun p hp => by have := (prs_fit 0 0 base a p hp).2.2.1; omega
  have hlen : (prs 0 0 base a).length ≤ 12 := by rw [prs_len]; have := lcs_le base a; omega
  have H00 := Lib.hid h0
  clear hJ hJx hY hT hq1 hq2 hq3 hK hb ha hfew hW hS h0
  refine callsIn_wide.2 ((callsIn_wide (n := 6)).1 ?_)
  refine callsIn_of_wp Try.func56 rfl trivial ?_ rfl
  simp only [Try.ntmps56, List.size_toArray, List.length_cons, List.length_nil, Nat.reduceAdd, Nat.reduceSub, Array.replicate_succ, Array.replicate_zero, List.push_toArray, List.append_toArray, List.nil_append, List.cons_append]
  gi_wp2_with (refine ⟨trivial, ?_⟩; gi_at_call 15; refine (callsIn_wide.2 (implSeqPairs_own _ _ _ _ _ _ _ HB.out HA.out (by omega) (by omega))).mono ?_; rintro e w1 ⟨ap, cp, rfl, hown, hb1⟩; rw [HPO.out] at hown ⊢; have HO := Lib.hid hown; have B1 := Lib.hid hb1; clear hown hb1)
  have Z1 : Hid (StaysHold W.heap.size ap cp Bp m (prs 0 0 base a) pb w1) := ⟨HO.out, (B1.out.block _ P0.out.lt).trans P0.out, ownsMap_only M0.out (Only.of_below B1.out (Q := fun _ _ => False)) (fun _ _ h => h)⟩
  have J1 := Lib.hid (HJ.out _ _ _ H00.out (Only.of_below B1.out))
  have hzl := zp_len (prs 0 0 base a)
  rw [hzl] at *
  clear hzl c1 c2 P0 M0 HB HA HO H00 B1
  gi_loopw [13] (fun i wr => ∃ k : Nat, k ≤ (prs 0 0 base a).length ∧ i = .int .i64 k ∧ StaysHold W.heap.size ap cp Bp m (prs 0 0 base a) pb wr ∧ J (staysTo (prs 0 0 base a) pb k) wr) (fun i _ => (prs 0 0 base a).length - (intOf i).toNat)
  case atStart => exact ⟨0, Nat.zero_le _, rfl, Z1.out, J1.out⟩
  case round =>
    clear Z1 J1
    obtain ⟨k, hk, rfl, hZ, hJs⟩ := hrel
    have HZ := Lib.hid hZ
    have HJS := Lib.hid hJs
    clear hZ hJs
    by_cases hlt : k < (prs 0 0 base a).length
    · obtain ⟨a', cap', hv, hpp, _, _⟩ := owned_pts HZ.out.row rfl
      cases hv
      obtain ⟨b, off, rfl, hb, hc1, hc2⟩ := hpp k (by rw [zp_len]; exact hlt)
      clear hpp
      rw [px_zp _ k hlt] at hc1
      rw [py_zp _ k hlt] at hc2
      have h12 : (prs 0 0 base a)[k].1 ≤ 12 := HBD.out _ (List.getElem_mem hlt)
      have hpl := HZ.out.places.cell
      have hbp := HZ.out.places.lt
      have HA1 : Hid (∀ o, Only wr (wr.alloc o) (fun _ _ => False)) := fun o => Only.of_below ((Below.refl _ _).alloc (Nat.le_refl _) _)
      cases hlk : pb.lookup (prs 0 0 base a)[k].1 with
      | none =>
        have HN := Lib.hid (staysTo_none hlt hlk)
        have hl1 : ∀ o, (Instr.lookup 80 (.map (some m)) (.int .i64 (((prs 0 0 base a)[k].1 : Nat) : Int)) true).run Try.prog (wr.alloc o) = .ok (.tuple #[.int .i64 0, .bool false]) (wr.alloc o) := fun o => by
          have := look_place (HZ.out.map.alloc o) HT.out (prs 0 0 base a)[k].1 h12
          rw [hlk] at this
          exact this
        generalize (prs 0 0 base a)[k].1 = p1 at *
        generalize (prs 0 0 base a)[k].2 = p2 at *
        clear hlk
        gi_wp2
        refine ⟨fun _ h => (by cases h), ?_⟩
        gi_wp2
        go_roundw
        case rel => exact ⟨k + 1, by omega, by go_num, HZ.out.only (HA1.out _) (fun _ _ _ h => h) (fun _ _ _ h => h) (fun _ _ _ h => h), by rw [HN.out]; exact HJ.out _ _ _ HJS.out (HA1.out _)⟩
        case measure => simp [intOf]; omega
      | some q =>
        have hst := staysTo_some hlt hlk
        have hpre := staysTo_prefix (prs 0 0 base a) pb (k + 1)
        rw [hst] at hpre
        have HN := Lib.hid hst
        have hl1 : ∀ o, (Instr.lookup 80 (.map (some m)) (.int .i64 (((prs 0 0 base a)[k].1 : Nat) : Int)) true).run Try.prog (wr.alloc o) = .ok (.tuple #[.int .i64 (q : Int), .bool true]) (wr.alloc o) := fun o => by
          have := look_place (HZ.out.map.alloc o) HT.out (prs 0 0 base a)[k].1 h12
          rw [hlk] at this
          exact this
        obtain ⟨fn, tmps, assign, body, hy, hR⟩ := HY.out (staysTo (prs 0 0 base a) pb k) ((prs 0 0 base a)[k].1, (prs 0 0 base a)[k].2, q) (wr.alloc (.cells #[.int .i64 (((prs 0 0 base a)[k].1 : Nat) : Int), .int .i64 (((prs 0 0 base a)[k].2 : Nat) : Int)] 30)) (HJ.out _ _ _ HJS.out (HA1.out _)) hpre 5
        simp only [stV] at hy
        have HRR := Lib.hid hR
        clear hR hst hpre
        generalize (prs 0 0 base a)[k].1 = p1 at *
        generalize (prs 0 0 base a)[k].2 = p2 at *
        clear hlk
        gi_wp2
        refine HRR.out.mono ?_
        rintro e W3 (⟨rfl, hJ3, hk3⟩ | ⟨rfl, hJx3, _⟩)
        · have HZ3 := Lib.hid ((HZ.out.only (HA1.out _) (fun _ _ _ h => h) (fun _ _ _ h => h) (fun _ _ _ h => h)).only (HK.out _ _ hk3) HQ1.out HQ2.out HQ3.out)
          have HJ3 := Lib.hid hJ3
          clear hJ3 hk3 hy hl1
          gi_wp2
          go_roundw
          case rel => exact ⟨k + 1, by omega, by go_num, HZ3.out, by rw [HN.out]; exact HJ3.out⟩
          case measure => simp [intOf]; omega
        · have HX3 := Lib.hid hJx3
          clear hJx3 hy hl1
          gi_wp2
          refine bodyPost_ret (results_none rfl _ _ _) rfl ?_
          exact ⟨⟨_, rfl⟩, .inr HX3.out⟩
    · obtain rfl : k = (prs 0 0 base a).length := by omega
      gi_wp2
      go_end0
      refine ⟨⟨_, rfl⟩, .inl ?_⟩
      have := HJS.out
      rwa [staysTo_all] at this
end Go.Proofs.Ytaefibefagbheaa
