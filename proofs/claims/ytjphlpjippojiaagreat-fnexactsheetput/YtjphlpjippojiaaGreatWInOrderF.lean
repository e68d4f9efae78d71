/- Proved here: the things of a map by names, told in the order of their names, each copied into memory of its own; a map of at most 1,048,577 things. -/
import Derived.Test.YtjphlpjippojiaaGreatWBuild
namespace Go.Proofs.YtjphlpjippojiaaGreat
set_option linter.unusedVariables false
open Go.ChangeShapes Go.WideShapes Go.ChangeAt Go.RowKit Go.Deep Go.Maps

/-- what a look-up of a name that is there gives -/
theorem look_heldF {w : World} {b n : Nat} {D : DataW Value} {us : List En} (hown : w.ownsMap Tryz.prog 9 heldElem b n D) (ht : TellsF D us) {i : Nat} (hi : i < us.length) (hl : (ek us i).size ≤ maxLen) :
    (Instr.lookup 54 (.map (some b)) (.string (ek us i)) false).run Tryz.prog w = .ok (ev us i) w := by
  have hz : (zeroValue 29).run Tryz.prog w = .ok (.agg #[.string .empty, .int .i64 0, .slice none 0 0, .slice none 0 0]) w := by kernel_rfl
  obtain ⟨v, ps, hrun, hv⟩ := hown.lookup keyT Tryz.underlying54 hz (zd := .held (.agg #[.string .empty, .int .i64 0, .slice none 0 0, .slice none 0 0])) (zp := []) rfl (Go.WideMaps.keyOf_string_mk Tryz.underlying9 hl)
  have hm : us[i] ∈ us := List.getElem_mem hi
  have e : (ek us i) = us[i].1 := by simp [ek, hi]
  have e2 : (ev us i) = us[i].2 := by simp [ev, hi]
  have h1 := ht.at_ us[i] hm (.held (.agg #[.string .empty, .int .i64 0, .slice none 0 0, .slice none 0 0]))
  rw [e] at hv
  rw [show (DataW.atKey D (.string us[i].1.data.toList) (.held (.agg #[.string .empty, .int .i64 0, .slice none 0 0, .slice none 0 0]))) = .held (entV us[i]) from h1] at hv
  simp only [heldElem, Option.some.injEq, Prod.mk.injEq] at hv
  have h3 := DataW.held.inj hv.1
  rw [hrun, h3, e2]
  rfl

theorem Built.mono {w : World} {lo lo' : Nat} {v : Value} {k : Nat} {fs : List Ft} {ad : Nat → Pl} (h : Built w lo v k fs ad) (hl : lo' ≤ lo) : Built w lo' v k fs ad :=
  ⟨ownsRow_base h.row hl, h.pts, h.tags, fun i hi x hx => ⟨Nat.le_trans hl (h.rng i hi x hx).1, (h.rng i hi x hx).2⟩, h.two, h.far⟩

theorem infoF : (Tryz.prog.info? 29).map (fun i => (i.zero, i.size, i.bytes)) = some (some (.agg #[.string .empty, .int .i64 0, .slice none 0 0, .slice none 0 0]), 4, 72) := infoFeat

set_option maxRecDepth 100000 in
set_option maxHeartbeats 4000000 in
theorem featsInOrder_any (b n : Nat) (D : DataW Value) (us : List En) (gs : List Ft) (w : World) (hown : w.ownsMap Tryz.prog 9 heldElem b n D) (ht : TellsF D us) (he : Ents w us gs) (hn : n ≤ 1048577) (hL : FeatsLen gs 1048576) :
    Calls Tryz.prog 44 #[.map (some b)] w fun e w' => (∃ v ad, e = .returned v ∧ Built w' w.heap.size v gs.length gs ad) ∧ gs.length ≤ n ∧ Below w.heap.size w w' := by
  obtain ⟨i0, hi, hz0, hz1, hz2⟩ := info_parts infoF
  have HI := Lib.hid hi
  have HZ0 := Lib.hid hz0
  have HZ1 := Lib.hid hz1
  have HZ2 := Lib.hid hz2
  have HO := Lib.hid hown
  have HT := Lib.hid ht
  have HE := Lib.hid he
  have HL := Lib.hid hL
  have hlen := he.1
  clear hi hz0 hz1 hz2 hown ht he hL
  go_enter Tryz.func44, Tryz.ntmps44
  go_wp2_with fail
  refine (namesInOrder_any b n D us _ HO.out HT.out hn).mono ?_
  rintro e w1 ⟨⟨v1, rfl, hr1⟩, hl1, hb1⟩
  generalize hys : us.map (·.1) = ys at hr1
  have hyl : us.length = ys.length := by rw [← hys, List.length_map]
  have HY : Hid (∀ i, i < gs.length → sx ys i = ek us i) := fun i hi => by
    rw [← hys]
    simp [sx, ek, show i < us.length by omega]
  clear hys
  obtain ⟨a1, cap1, rfl, h1, _⟩ := owned_strs hr1 hyl
  have H1 := Lib.hid h1
  have B1 := Lib.hid hb1
  have O1 := Lib.hid (ownsMap_below HO.out hb1)
  have hsz1 := hb1.size
  clear hr1 h1 hb1 HO
  have hyg : ys.length = gs.length := by omega
  rw [hyg]
  go_wp2
  go_loopw [3, 5, 9] (fun s _ i wr => ∃ (k : Nat) (v : Value) (ad : Nat → Pl), k ≤ gs.length ∧ i = .int .i64 k ∧ v = s ∧ Built wr w1.heap.size v k gs ad ∧ Below w1.heap.size w1 wr) (fun _ _ i _ => gs.length - (intOf i).toNat)
  case atStart => exact ⟨0, _, fun _ => ((none, 0), (none, 0)), Nat.zero_le _, rfl, rfl, built_none _ _ _ _, Below.refl _ _⟩
  case round =>
    obtain ⟨k, v, ad, hk, rfl, rfl, hbu, hbel⟩ := hrel
    have hsz := hbel.size
    have HBu := Lib.hid hbu
    have HB := Lib.hid hbel
    have BW : Hid (Below w.heap.size w wr) := B1.out.trans (hbel.mono hsz1)
    by_cases hlt : k < gs.length
    · obtain ⟨g, off, rfl, hg, hc⟩ := H1.out k (by omega)
      rw [← hbel.cell (p := ⟨g, _, none⟩) hg, HY.out k hlt] at hc
      obtain ⟨l1, l2, l3, _⟩ := HL.out k hlt
      have hek := (HE.out.2 k hlt).1
      have hlk := look_heldF (ownsMap_below O1.out hbel) HT.out (i := k) (by omega) (by rw [hek]; unfold maxLen; omega)
      obtain ⟨pa, pc, ta, tc, hev, hpp, htt⟩ := (HE.out.2 k hlt).2
      rw [hev] at hlk
      have D1 := Lib.hid (hpp.below BW.out)
      have D2 := Lib.hid (htt.below BW.out)
      have hvb : ∀ j, v.ownBlock = some j → w1.heap.size ≤ j ∧ j < wr.heap.size := fun j hj => hbu.row.lt j hj
      have HV := Lib.hid hvb
      clear hbu hbel hpp htt hev hek hvb
      go_wp2_with fail
      refine (featCopy_any _ _ _ _ _ _ _ _ _ D1.out D2.out (by show (fps gs k).length ≤ _; omega) (by show (fts gs k).length ≤ _; omega)).mono ?_
      rintro e w3 ⟨v3, rfl, hg3⟩
      have hb3 := hg3.got.2
      obtain ⟨qa, qc, sa, sc, rfl, q1, q2, q3, q4, q5, q6, q7, _⟩ := hg3
      have E1 := Lib.hid q1
      have E2 := Lib.hid q2
      have E3 := Lib.hid q3
      have E4 := Lib.hid q4
      have E5 := Lib.hid q5
      have E6 := Lib.hid q6
      have E7 := Lib.hid q7
      have B3 := Lib.hid hb3
      have R3 : Hid (w3.ownsRow w1.heap.size 29 4 v k (flatF gs ad k)) := ownsRow_below HBu.out.row hb3
      have hz3 := hb3.size
      have A3 : Hid (∀ o, Below w3.heap.size w3 (w3.alloc o)) := fun o => (Below.refl _ _).alloc (Nat.le_refl _) _
      clear hb3 q1 q2 q3 q4 q5 q6 q7 hlk hc
      go_wp2_with (at_builtin; refine wpList_append_lies _ (by rfl) _ _ _ (by rfl) w1.heap.size 29 i0 _ 4 72 Tryz.underlying32 HI.out HZ0.out HZ1.out HZ2.out rfl (by omega) v k (flatF gs ad k) (by rfl) (R3.out.alloc _) ⟨w3.heap.size, 0, none⟩ 1 1 (cellsF (fg gs k) ((qa, qc), (sa, sc))) (by rfl) (by rfl) (World.news_of_block (cs := #[.string (fg gs k).1, .int .i64 (fg gs k).2.1, .slice qa (fg gs k).2.2.1.length qc, .slice sa (fg gs k).2.2.2.length sc]) (t := 29) (fr := (0, 0)) (heap_alloc_new w3 _)) (by simp [Value.oneCell', cellsF]) (by omega) (by unfold maxLen; omega) (by omega) (by simp; omega) (w3.heap.size + 1) (by simp) ?_; intro gg cap' wa hown1 hgrow hat hlt')
      have HS : Hid (Built wa w1.heap.size (.slice (some ⟨gg, 0, none⟩) (k + 1) cap') (k + 1) gs (plSet ad k ((qa, qc), (sa, sc)))) := HBu.out.step hsz B3.out (A3.out _) (by simp) E1.out E2.out E3.out E4.out E5.out E6.out E7.out hown1 hgrow hat
      have HG := Lib.hid hgrow
      clear hown1 hgrow hat
      go_roundw
      case rel => exact ⟨k + 1, _, _, by omega, by go_num, rfl, HS.out, (HB.out.trans ((B3.out.alloc (by omega) _).mono hsz)).grown HG.out (by simp; omega) (fun j hj => (HV.out j hj).1)⟩
      case measure => simp [intOf]; omega
    · obtain rfl : k = gs.length := by omega
      clear hbu hbel
      go_wp2
      go_ret
      exact ⟨⟨v, ad, rfl, HBu.out.mono hsz1⟩, by omega, BW.out⟩
end Go.Proofs.YtjphlpjippojiaaGreat
