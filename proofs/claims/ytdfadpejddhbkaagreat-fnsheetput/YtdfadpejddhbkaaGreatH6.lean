/- Proved here: what DrawSheetPut draws is a list of at most 20 things and a thing, their texts short; code of at most 1,048,576 bytes. Proved here: plain facts on a map with a thing put: what is got of it, what is cut off it, what is put back. -/
import Derived.Test.YtdfadpejddhbkaaGreatH2
import Derived.Test.YtdfadpejddhbkaaGreatH5
namespace Go.Proofs.YtdfadpejddhbkaaGreat
set_option linter.unusedVariables false
open Go.ChangeShapes Go.WideShapes Go.ChangeAt Go.RowKit Go.Deep

/-- what DrawSheetPut answers -/
def PutDrawn (w : World) (e : Ending) (w' : World) : Prop :=
  ∃ (sa : Option Addr) (sc : Nat) (fs : List Ft) (f : Ft) (pa : Option Addr) (pc : Nat) (ta : Option Addr) (tc : Nat), e = .returned (.tuple #[.slice sa fs.length sc, .agg #[.string f.1, .int .i64 f.2.1, .slice pa f.2.2.1.length pc, .slice ta f.2.2.2.length tc]]) ∧
    FeatsAt w' sa fs ∧ fs.length ≤ 20 ∧ FeatsLen fs 8 ∧ PtsAt w' pa f.2.2.1 ∧ TagsAt w' ta f.2.2.2 ∧ f.1.size ≤ 8 ∧ f.2.2.1.length ≤ 7 ∧ f.2.2.2.length ≤ 4 ∧ TagsLen f.2.2.2 8 ∧ Below w.heap.size w w'

set_option maxRecDepth 100000 in
set_option maxHeartbeats 4000000 in
theorem drawSheetPut_any (a : Option Addr) (n cap : Nat) (w : World) (h : CodeAt w a n) (hl : n ≤ 1048576) (hc : n ≤ cap) :
    Calls Tryz.prog 23 #[.slice a n cap] w (PutDrawn w) := by
  have HC := Lib.hid h
  clear h
  have A0 : Hid (∀ o, Below w.heap.size w (w.alloc o)) := fun o => (Below.refl _ _).alloc (Nat.le_refl _) _
  go_enter Tryz.func23, Tryz.ntmps23
  go_wp2_with fail
  refine (l12Open_any _ _ _ _ (HC.out.below (A0.out _)) hl hc).mono ?_
  rintro e w1 ⟨R, m, rfl, hR, hm, hr, hb1⟩
  simp only [World.size_alloc] at hR
  have D1 := Lib.hid hr
  have B1 : Hid (Below w.heap.size w w1) := (A0.out _).trans (hb1.mono (by simp))
  have a0 := cell_later hb1 (a := ⟨w.heap.size, 0, none⟩) (v := .string ⟨#[]⟩) (by simp [go_sem])
  have a1 := cell_later hb1 (a := ⟨w.heap.size, 1, none⟩) (v := .int .i64 0) (by simp [go_sem])
  have a2 := cell_later hb1 (a := ⟨w.heap.size, 2, none⟩) (v := .slice none 0 0) (by simp [go_sem])
  have a3 := cell_later hb1 (a := ⟨w.heap.size, 3, none⟩) (v := .slice none 0 0) (by simp [go_sem])
  have z1 : w.heap.size < w1.heap.size := World.block_lt_of_cell? _ _ a0
  have sa : ∀ i, w1.frozen? ⟨w.heap.size, i, none⟩ = false := fun i => by rw [hb1.frozen (p := ⟨w.heap.size, i, none⟩) (by simp)]; simp [go_sem]
  have nR : w.heap.size ≠ R := by omega
  have RES : Hid (∀ u, Turned w1 u (fun x => x = R) → (u.cell? ⟨w.heap.size, 0, none⟩ = some (.string ⟨#[]⟩) ∧ u.cell? ⟨w.heap.size, 1, none⟩ = some (.int .i64 0) ∧ u.cell? ⟨w.heap.size, 2, none⟩ = some (.slice none 0 0) ∧ u.cell? ⟨w.heap.size, 3, none⟩ = some (.slice none 0 0)) ∧ ∀ i, u.frozen? ⟨w.heap.size, i, none⟩ = false) := fun u ht =>
    ⟨⟨ht.cell a0 nR, ht.cell a1 nR, ht.cell a2 nR, ht.cell a3 nR⟩, fun i => (ht.frozen (a := ⟨w.heap.size, i, none⟩) z1 nR).trans (sa i)⟩
  clear hr hb1 a0 a1 a2 a3 sa
  go_wp2_with fail
  refine (l3Bent_any _ _ _ _ _ _ D1.out (by omega) (by omega)).mono ?_
  rintro e w2 ⟨ss, sc, fs, p2, rfl, hff, hfl, hfs, hr, hp2, hg⟩
  have D2 := Lib.hid hr
  have FF := Lib.hid hff
  have FL := Lib.hid hfs
  have T2 := Lib.hid (Turned.of_rd hg)
  have z2 := hg.size
  have zR := D1.out.lt
  clear hr hff hfs hg D1
  go_wp2_with fail
  refine (l2Bent_any _ _ _ _ _ _ D2.out (by omega) (by omega)).mono ?_
  rintro e w3 ⟨id, k, pa, pc, ps, ta, tc, ts, p', rfl, hid, hpt, hpr, hpl, htr, htl, hts, hr, hp3, hg, hne⟩
  have T3 := Lib.hid (Turned.of_rd hg)
  have F3 := Lib.hid (FF.out.turned T3.out (fun z hz _ e => by omega))
  have P3 := Lib.hid hpt
  obtain ⟨ta', tc', et, htt, _, htf⟩ := owned_tags htr rfl
  obtain ⟨rfl, rfl⟩ : ta = ta' ∧ tc = tc' := by simpa using et
  have Q3 := Lib.hid htt
  have TL := Lib.hid hts
  have NP : Hid (∀ x, blk pa = some x → ¬ x = w.heap.size) := fun x hx e => by have := (hpr x hx).1; omega
  have NT : Hid (∀ x, blk ta = some x → ¬ x = w.heap.size) := fun x hx e => by have := (htf x hx).1; omega
  obtain ⟨⟨a0, a1, a2, a3⟩, sa⟩ := RES.out _ (T2.out.trans T3.out)
  have s0 := sa 0
  have s1 := sa 1
  have s2 := sa 2
  have s3 := sa 3
  have B3 : Hid (Below w.heap.size w w3) := B1.out.trans ((T2.out.trans T3.out).below B1.out.size (fun z hz => by omega))
  have z3 := hg.size
  clear sa hr hg hpt hpr htr hts et htt htf hne D2 FF T2 T3 RES
  go_wp2
  have TF : Hid (Turned w3 ((((w3.setCell ⟨w.heap.size, 0, none⟩ (.string id)).setCell ⟨w.heap.size, 1, none⟩ (.int .i64 k)).setCell ⟨w.heap.size, 2, none⟩ (.slice pa ps.length pc)).setCell ⟨w.heap.size, 3, none⟩ (.slice ta ts.length tc)) (fun z => z = w.heap.size)) := (((Turned.of_set (S := fun z => z = w.heap.size) _ _ _ rfl).trans (Turned.of_set _ _ _ rfl)).trans (Turned.of_set _ _ _ rfl)).trans (Turned.of_set _ _ _ rfl)
  refine bodyPost_ret (v := .tuple #[.slice ss fs.length sc, .agg #[.string id, .int .i64 k, .slice pa ps.length pc, .slice ta ts.length tc]]) (by simp [results, Tryz.results23, go_sem, a0, a1, a2, a3]) rfl ?_
  exact ⟨ss, sc, fs, (id, k, ps, ts), pa, pc, ta, tc, rfl, (F3.out.turned TF.out (fun z hz _ e => by omega)).reads, hfl, FL.out, P3.out.turned TF.out NP.out, Q3.out.turned TF.out NT.out, hid, hpl, htl, TL.out, B3.out.trans (TF.out.below B3.out.size (fun z hz => by omega))⟩
end Go.Proofs.YtdfadpejddhbkaaGreat

namespace Go.Proofs.YtdfadpejddhbkaaGreat
set_option linter.unusedVariables false
open Go.ChangeShapes Go.WideShapes Go.ChangeAt Go.RowKit

theorem get_at {fs : List Ft} {f : Ft} (hok : sheetOk fs = true) (hf : f ∈ fs) : getHas fs f.1 = true ∧ getFt fs f.1 = f := by
  have hh : getHas fs f.1 = true := by
    unfold getHas
    rw [Bool.and_eq_true, decide_eq_true_eq]
    refine ⟨hok, Classical.byContradiction fun hn => ?_⟩
    obtain ⟨i, hi, rfl⟩ := List.getElem_of_mem hf
    exact firstF_none hn i hi (fid_get hi).symm
  obtain ⟨_, h2, h3⟩ := get_mem hh
  exact ⟨hh, ascL_one (ascL_of_ok hok).1 h2 hf (kf_eq.2 h3)⟩

/-- what is got of a map with a thing put -/
theorem put_get {s : List Ft} {f : Ft} (h : putHas s f = true) :
    sheetOk (putRL s f) = true ∧ getHas (putRL s f) f.1 = true ∧ getFt (putRL s f) f.1 = f ∧ ∀ i, i < s.length → fid s i ≠ f.1 → getHas (putRL s f) (fid s i) = true ∧ getFt (putRL s f) (fid s i) = fg s i := by
  rw [putRL_yes h]
  have hok := putL_okS h
  obtain ⟨h1, h2⟩ := get_at hok ((mem_putL f f s).2 (.inl rfl))
  refine ⟨hok, h1, h2, fun i hi hne => ?_⟩
  have hm : s[i] ∈ putL s f := (mem_putL _ f s).2 (.inr ⟨List.getElem_mem hi, fun e => hne (by rw [← fid_get hi]; exact kf_eq.1 e)⟩)
  have := get_at hok hm
  rw [fid_get hi] at this
  rw [fg_get hi]
  exact this

theorem put_old {s : List Ft} {f : Ft} (h : putHas s f = true) (ho : getHas s f.1 = true) : putHas (putRL s f) (getFt s f.1) = true ∧ putRL (putRL s f) (getFt s f.1) = s := by
  rw [putRL_yes h]
  obtain ⟨h1, h2, h3⟩ := get_mem ho
  generalize getFt s f.1 = o at *
  obtain ⟨q1, q2, q3⟩ := ascL_of_ok h1
  have e1 : putL s o = s := by
    refine ascL_ext (asc_putL o q1) q1 fun x => ?_
    rw [mem_putL]
    constructor
    · rintro (rfl | ⟨hx, _⟩)
      · exact h2
      · exact hx
    · intro hx
      by_cases e : kf x = kf o
      · exact .inl (ascL_one q1 hx h2 e)
      · exact .inr ⟨hx, e⟩
  have e2 : putL (putL s f) o = s := (putL_same q1 (kf_eq.2 h3.symm)).trans e1
  have hh : putHas (putL s f) o = true := putHas_iff.2 ⟨putL_okS h, q2 o h2, by rw [e2]; exact q3⟩
  exact ⟨hh, by rw [putRL_yes hh, e2]⟩

theorem put_new {s : List Ft} {f : Ft} (h : putHas s f = true) (ho : getHas s f.1 = false) : cutR (putRL s f) f.1 = s := by
  rw [putRL_yes h]
  obtain ⟨h1, _, _⟩ := putHas_iff.1 h
  obtain ⟨q1, _, _⟩ := ascL_of_ok h1
  obtain ⟨h2, _⟩ := get_at (putL_okS h) ((mem_putL f f s).2 (.inl rfl))
  unfold cutR
  rw [if_pos h2]
  refine ascL_ext (asc_cutL _ (asc_putL f q1)) q1 fun x => ?_
  rw [mem_cutL, mem_putL]
  constructor
  · rintro ⟨rfl | ⟨hx, _⟩, hn⟩
    · exact absurd rfl hn
    · exact hx
  · intro hx
    have hn : x.1 ≠ f.1 := fun e => by
      have := (get_at h1 hx).1
      rw [e, ho] at this
      exact absurd this (by simp)
    exact ⟨.inr ⟨hx, fun e => hn (kf_eq.1 e)⟩, hn⟩

set_option maxHeartbeats 400000 in
theorem featSame_self (f : Ft) (hf : FtLen f 1048576) (a : Option Addr) (c : Nat) (b : Option Addr) (d : Nat) (a' : Option Addr) (c' : Nat) (b' : Option Addr) (d' : Nat) (u : World) (h1 : PtsAt u a f.2.2.1) (h2 : PtsAt u a' f.2.2.1) (h3 : TagsAt u b f.2.2.2) (h4 : TagsAt u b' f.2.2.2) :
    Calls Tryz.prog 20 #[.agg #[.string f.1, .int .i64 f.2.1, .slice a f.2.2.1.length c, .slice b f.2.2.2.length d], .agg #[.string f.1, .int .i64 f.2.1, .slice a' f.2.2.1.length c', .slice b' f.2.2.2.length d']] u fun e w' => e = .returned (.bool true) ∧ Below u.heap.size u w' :=
  (implFeatSame_any f.1 f.1 f.2.1 f.2.1 a a' c c' f.2.2.1 f.2.2.1 b b' d d' f.2.2.2 f.2.2.2 u h1 h2 h3 h4 (by have := hf.2.1; omega) (by have := hf.2.1; omega) (by have := hf.2.2.1; omega) (by have := hf.2.2.1; omega)).mono fun e w' ⟨he, hb⟩ => ⟨by rw [he]; simp [featEq, shEq, ptsEq, tgsEq], hb⟩
end Go.Proofs.YtdfadpejddhbkaaGreat
