/- Proved here: nothing new: a list of things that is built by appending copies stands in the text that this one names; no condition. Proved here: the things of a map by names, told in the order of their names, each copied into memory of its own; a map of at most 1,048,577 things. Proved here: the program's map without a name holds copies of the other things, in memory of its own; lists of at most 1,048,576 things, points and tags, texts of at most 1,048,576 bytes. Proved here: the model's list without a name, and its copy of a list, read as they should; lists of at most 1,048,576 things, points and tags. Proved here: a list that a function made in memory of its own is read, marked, and asked for its marks; lists of at most 1,048,576 things, points and tags. Proved here: what it is that a row of versions and a row of branches lie in memory of their own, their parts apart, and how such rows are grown and turned; no condition. Proved here: appending a row of branches, or nothing, to a row of its own, and the library's copy of a row of branches; rows of at most 1,000,000 together. -/
import Derived.Test.YtdfadpejddhbkaaGreatG5
import Derived.Test.YtdfadpejddhbkaaGreatG1
import Derived.Deep.RegionHeld3
import Derived.Deep.DeepCutAuto
import Derived.Test.YtdfadpejddhbkaaGreatG2
import Derived.Test.YtdfadpejddhbkaaGreatG4
import Derived.Deep.AppendLies
namespace Go.Proofs.YtdfadpejddhbkaaGreat
end Go.Proofs.YtdfadpejddhbkaaGreat

namespace Go.Proofs.YtdfadpejddhbkaaGreat
set_option linter.unusedVariables false
open Go.ChangeShapes Go.WideShapes Go.ChangeAt Go.RowKit Go.Deep Go.Maps

/-- what a look-up of a name that is there gives -/
theorem look_heldF {w : World} {b n : Nat} {D : DataW Value} {us : List En} (hown : w.ownsMap Tryz.prog 9 heldElem b n D) (ht : TellsF D us) {i : Nat} (hi : i < us.length) (hl : (ek us i).size ≤ maxLen) :
    (Instr.lookup 81 (.map (some b)) (.string (ek us i)) false).run Tryz.prog w = .ok (ev us i) w := by
  have hz : (zeroValue 33).run Tryz.prog w = .ok (.agg #[.string .empty, .int .i64 0, .slice none 0 0, .slice none 0 0]) w := by kernel_rfl
  obtain ⟨v, ps, hrun, hv⟩ := hown.lookup keyT Tryz.underlying81 hz (zd := .held (.agg #[.string .empty, .int .i64 0, .slice none 0 0, .slice none 0 0])) (zp := []) rfl (Go.WideMaps.keyOf_string_mk Tryz.underlying9 hl)
  have hm : us[i] ∈ us := List.getElem_mem hi
  have e : (ek us i) = us[i].1 := by simp [ek, hi]
  have e2 : (ev us i) = us[i].2 := by simp [ev, hi]
  have h1 := ht.at_ us[i] hm (.held (.agg #[.string .empty, .int .i64 0, .slice none 0 0, .slice none 0 0]))
  rw [e] at hv
  rw [show (DataW.atKey D (.string us[i].1.data.toList) (.held (.agg #[.string .empty, .int .i64 0, .slice none 0 0, .slice none 0 0]))) = .held (entV us[i]) from h1] at hv
  simp only [heldElem, Option.some.injEq, Prod.mk.injEq] at hv
  have h3 := DataW.held.inj hv.1
  rw [hrun, h3, e2]
  rfl

theorem Built.mono {w : World} {lo lo' : Nat} {v : Value} {k : Nat} {fs : List Ft} {ad : Nat → Pl} (h : Built w lo v k fs ad) (hl : lo' ≤ lo) : Built w lo' v k fs ad :=
  ⟨ownsRow_base h.row hl, h.pts, h.tags, fun i hi x hx => ⟨Nat.le_trans hl (h.rng i hi x hx).1, (h.rng i hi x hx).2⟩, h.two, h.far⟩

set_option maxRecDepth 100000 in
set_option maxHeartbeats 4000000 in
theorem featsInOrder_any (b n : Nat) (D : DataW Value) (us : List En) (gs : List Ft) (w : World) (hown : w.ownsMap Tryz.prog 9 heldElem b n D) (ht : TellsF D us) (he : Ents w us gs) (hn : n ≤ 1048577) (hL : FeatsLen gs 1048576) :
    Calls Tryz.prog 57 #[.map (some b)] w fun e w' => (∃ v ad, e = .returned v ∧ Built w' w.heap.size v gs.length gs ad) ∧ gs.length ≤ n ∧ Below w.heap.size w w' := by
  obtain ⟨i0, hi, hz0, hz1, hz2⟩ := info_parts infoF
  have HI := Lib.hid hi
  have HZ0 := Lib.hid hz0
  have HZ1 := Lib.hid hz1
  have HZ2 := Lib.hid hz2
  have HO := Lib.hid hown
  have HT := Lib.hid ht
  have HE := Lib.hid he
  have HL := Lib.hid hL
  have hlen := he.1
  clear hi hz0 hz1 hz2 hown ht he hL
  go_enter Tryz.func57, Tryz.ntmps57
  go_wp2_with fail
  refine (namesInOrder_any b n D us _ HO.out HT.out hn).mono ?_
  rintro e w1 ⟨⟨v1, rfl, hr1⟩, hl1, hb1⟩
  generalize hys : us.map (·.1) = ys at hr1
  have hyl : us.length = ys.length := by rw [← hys, List.length_map]
  have HY : Hid (∀ i, i < gs.length → sx ys i = ek us i) := fun i hi => by
    rw [← hys]
    simp [sx, ek, show i < us.length by omega]
  clear hys
  obtain ⟨a1, cap1, rfl, h1, _⟩ := owned_strs hr1 hyl
  have H1 := Lib.hid h1
  have B1 := Lib.hid hb1
  have O1 := Lib.hid (ownsMap_below HO.out hb1)
  have hsz1 := hb1.size
  clear hr1 h1 hb1 HO
  have hyg : ys.length = gs.length := by omega
  rw [hyg]
  go_wp2
  go_loopw [3, 5, 9] (fun s _ i wr => ∃ (k : Nat) (v : Value) (ad : Nat → Pl), k ≤ gs.length ∧ i = .int .i64 k ∧ v = s ∧ Built wr w1.heap.size v k gs ad ∧ Below w1.heap.size w1 wr) (fun _ _ i _ => gs.length - (intOf i).toNat)
  case atStart => exact ⟨0, _, fun _ => ((none, 0), (none, 0)), Nat.zero_le _, rfl, rfl, built_none _ _ _ _, Below.refl _ _⟩
  case round =>
    obtain ⟨k, v, ad, hk, rfl, rfl, hbu, hbel⟩ := hrel
    have hsz := hbel.size
    have HBu := Lib.hid hbu
    have HB := Lib.hid hbel
    have BW : Hid (Below w.heap.size w wr) := B1.out.trans (hbel.mono hsz1)
    by_cases hlt : k < gs.length
    · obtain ⟨g, off, rfl, hg, hc⟩ := H1.out k (by omega)
      rw [← hbel.cell (p := ⟨g, _, none⟩) hg, HY.out k hlt] at hc
      obtain ⟨l1, l2, l3, _⟩ := HL.out k hlt
      have hek := (HE.out.2 k hlt).1
      have hlk := look_heldF (ownsMap_below O1.out hbel) HT.out (i := k) (by omega) (by rw [hek]; unfold maxLen; omega)
      obtain ⟨pa, pc, ta, tc, hev, hpp, htt⟩ := (HE.out.2 k hlt).2
      rw [hev] at hlk
      have D1 := Lib.hid (hpp.below BW.out)
      have D2 := Lib.hid (htt.below BW.out)
      have hvb : ∀ j, v.ownBlock = some j → w1.heap.size ≤ j ∧ j < wr.heap.size := fun j hj => hbu.row.lt j hj
      have HV := Lib.hid hvb
      clear hbu hbel hpp htt hev hek hvb
      go_wp2_with fail
      refine (featCopy_any _ _ _ _ _ _ _ _ _ D1.out D2.out (by show (fps gs k).length ≤ _; omega) (by show (fts gs k).length ≤ _; omega)).mono ?_
      rintro e w3 ⟨v3, rfl, hg3⟩
      have hb3 := hg3.got.2
      obtain ⟨qa, qc, sa, sc, rfl, q1, q2, q3, q4, q5, q6, q7, _⟩ := hg3
      have E1 := Lib.hid q1
      have E2 := Lib.hid q2
      have E3 := Lib.hid q3
      have E4 := Lib.hid q4
      have E5 := Lib.hid q5
      have E6 := Lib.hid q6
      have E7 := Lib.hid q7
      have B3 := Lib.hid hb3
      have R3 : Hid (w3.ownsRow w1.heap.size 33 4 v k (flatF gs ad k)) := ownsRow_below HBu.out.row hb3
      have hz3 := hb3.size
      have A3 : Hid (∀ o, Below w3.heap.size w3 (w3.alloc o)) := fun o => (Below.refl _ _).alloc (Nat.le_refl _) _
      clear hb3 q1 q2 q3 q4 q5 q6 q7 hlk hc
      go_wp2_with (at_builtin; refine wpList_append_lies _ (by rfl) _ _ _ (by rfl) w1.heap.size 33 i0 _ 4 72 Tryz.underlying23 HI.out HZ0.out HZ1.out HZ2.out rfl (by omega) v k (flatF gs ad k) (by rfl) (R3.out.alloc _) ⟨w3.heap.size, 0, none⟩ 1 1 (cellsF (fg gs k) ((qa, qc), (sa, sc))) (by rfl) (by rfl) (World.news_of_block (cs := #[.string (fg gs k).1, .int .i64 (fg gs k).2.1, .slice qa (fg gs k).2.2.1.length qc, .slice sa (fg gs k).2.2.2.length sc]) (t := 33) (fr := (0, 0)) (heap_alloc_new w3 _)) (by simp [Value.oneCell', cellsF]) (by omega) (by unfold maxLen; omega) (by omega) (by simp; omega) (w3.heap.size + 1) (by simp) ?_; intro gg cap' wa hown1 hgrow hat hlt')
      have HS : Hid (Built wa w1.heap.size (.slice (some ⟨gg, 0, none⟩) (k + 1) cap') (k + 1) gs (plSet ad k ((qa, qc), (sa, sc)))) := HBu.out.step hsz B3.out (A3.out _) (by simp) E1.out E2.out E3.out E4.out E5.out E6.out E7.out hown1 hgrow hat
      have HG := Lib.hid hgrow
      clear hown1 hgrow hat
      go_roundw
      case rel => exact ⟨k + 1, _, _, by omega, by go_num, rfl, HS.out, (HB.out.trans ((B3.out.alloc (by omega) _).mono hsz)).grown HG.out (by simp; omega) (fun j hj => (HV.out j hj).1)⟩
      case measure => simp [intOf]; omega
    · obtain rfl : k = gs.length := by omega
      clear hbu hbel
      go_wp2
      go_ret
      exact ⟨⟨v, ad, rfl, HBu.out.mono hsz1⟩, by omega, BW.out⟩
end Go.Proofs.YtdfadpejddhbkaaGreat

namespace Go.Proofs.YtdfadpejddhbkaaGreat
set_option linter.unusedVariables false
open Go.ChangeShapes Go.WideShapes Go.ChangeAt Go.RowKit Go.Deep Go.Maps

/-- the things of other names -/
def cutL (fs : List Ft) (id : ByteArray) : List Ft := fs.filter (fun f => decide (f.1 ≠ id))
/-- what a map without a name is -/
def cutR (fs : List Ft) (id : ByteArray) : List Ft := if getHas fs id then cutL fs id else []

theorem ents_cons {w : World} {e : En} {es : List En} {f : Ft} {fs : List Ft} : Ents w (e :: es) (f :: fs) ↔ (e.1 = f.1 ∧ FeatV w e.2 f) ∧ Ents w es fs := by
  constructor
  · rintro ⟨h1, h2⟩
    refine ⟨?_, by simpa using h1, fun i hi => ?_⟩
    · have := h2 0 (by simp)
      simpa [ek, ev, fid, fg] using this
    · have := h2 (i + 1) (by simpa using hi)
      simpa [ek, ev, fid, fg] using this
  · rintro ⟨h0, h1, h2⟩
    refine ⟨by simpa using h1, fun i hi => ?_⟩
    cases i with
    | zero => simpa [ek, ev, fid, fg] using h0
    | succ i =>
      have := h2 i (by simpa using hi)
      simpa [ek, ev, fid, fg] using this

theorem ents_cut {w : World} (id : ByteArray) : ∀ {es : List En} {fs : List Ft}, Ents w es fs → Ents w (cutF es id.data.toList) (cutL fs id)
  | [], [], h => h
  | [], f :: fs, h => absurd h.1 (by simp)
  | e :: es, [], h => absurd h.1 (by simp)
  | e :: es, f :: fs, h => by
    obtain ⟨⟨h1, h2⟩, h3⟩ := ents_cons.1 h
    have ih := ents_cut id h3
    have he : (klF e ≠ id.data.toList) ↔ f.1 ≠ id := by
      unfold klF
      rw [h1]
      constructor
      · intro h e
        exact h (by rw [e])
      · intro h e
        refine h ?_
        rw [← toList_inj, ByteArray.toList_eq, ByteArray.toList_eq]
        exact e
    unfold cutF cutL at ih ⊢
    by_cases hf : f.1 ≠ id
    · rw [List.filter_cons_of_pos (by simpa using he.2 hf), List.filter_cons_of_pos (by simpa using hf)]
      exact ents_cons.2 ⟨⟨h1, h2⟩, ih⟩
    · rw [List.filter_cons_of_neg (by simpa using fun h => hf (he.1 h)), List.filter_cons_of_neg (by simpa using hf)]
      exact ih

theorem cutL_lens {fs : List Ft} {m : Int} (id : ByteArray) (h : FeatsLen fs m) : FeatsLen (cutL fs id) m := featsLen_iff.2 fun f hf => featsLen_iff.1 h f ((List.mem_filter.1 hf).1)
theorem cutL_len (fs : List Ft) (id : ByteArray) : (cutL fs id).length ≤ fs.length := List.length_filter_le _ _

/-- what a function answers that makes a list of things, and says whether -/
def ListAns (w : World) (gs : List Ft) (b : Bool) (e : Ending) (w' : World) : Prop :=
  (∃ v ad, e = .returned (.tuple #[v, .bool b]) ∧ Built w' w.heap.size v gs.length gs ad) ∧ Below w.heap.size w w'

set_option maxRecDepth 100000 in
set_option maxHeartbeats 4000000 in
theorem implSheetCut_any (a : Option Addr) (cap : Nat) (fs : List Ft) (id : ByteArray) (w : World) (hp : FeatsAt w a fs) (hl : fs.length ≤ 1048576) (ht : FeatsLen fs 1048576) (hi : id.size ≤ 1048576) :
    Calls Tryz.prog 15 #[.slice a fs.length cap, .string id] w (ListAns w (cutR fs id) (getHas fs id)) := by
  have HP := Lib.hid hp
  have HL := Lib.hid ht
  clear hp ht
  go_enter Tryz.func15, Tryz.ntmps15
  go_wp2_with fail
  refine (implSheetOk_any _ _ _ _ HP.out hl HL.out).mono ?_
  rintro e w1 ⟨rfl, hb1⟩
  have B1 := Lib.hid hb1
  clear hb1
  by_cases hok : sheetOk fs = true
  · rw [hok]
    go_wp2_with fail
    refine (featsByName_any _ _ _ _ (HP.out.below B1.out) hl HL.out).mono ?_
    rintro e w2 ⟨rfl, ⟨es, he, ho⟩, hb2⟩
    have B2 : Hid (Below w.heap.size w w2) := B1.out.trans (hb2.mono B1.out.size)
    have HE := Lib.hid (he.below hb2)
    have HE1 := Lib.hid he
    have BB2 := Lib.hid hb2
    have hsz2 := hb2.size
    have hsz1 := B1.out.size
    have holt := ho.lt
    clear hb2
    by_cases hlt : firstF fs id < fs.length
    · have hat := firstF_at hlt
      have HH : Hid (getHas fs id = true) := by show _ = _; simp [getHas, hok, hlt]
      have HG : Hid (cutR fs id = cutL fs id) := by show _ = _; unfold cutR; rw [HH.out, if_pos rfl]
      obtain ⟨l1, l2, l3, _⟩ := HL.out (firstF fs id) hlt
      have hlk := look_hit ho he hok hlt (by unfold maxLen; omega)
      rw [hat] at hlk
      obtain ⟨pa, pc, ta, tc, hev, _⟩ := (HE.out.2 _ hlt).2
      rw [hev] at hlk
      have TL := Lib.hid (ok_tells he hok)
      have hkey : keyOf Tryz.prog 9 (.string id) = some (.string id.data.toList) := Go.WideMaps.keyOf_string_mk Tryz.underlying9 (by unfold maxLen; omega)
      clear he hok hev
      go_wp2_with (at_delete; refine wpList_delete_own _ rfl _ _ 81 9 rfl 33 keyT Tryz.underlying81 _ w1.heap.size fs.length (mapF es) rfl (ho.alloc _) _ _ rfl hkey ?_; intro w4 hown4 hturn4)
      have B4 : Hid (Below w1.heap.size w1 w4) := (BB2.out.alloc hsz2 _).grown hturn4.grown (by simp; omega) (fun j e => by obtain rfl : w1.heap.size = j := (by simpa using e); exact Nat.le_refl _)
      have O4 := Lib.hid hown4
      clear hown4 hturn4 ho hlk
      go_wp2_with fail
      refine (featsInOrder_any w1.heap.size _ _ (cutF es id.data.toList) (cutL fs id) _ O4.out (TL.out.cut _) (ents_cut id (HE1.out.below B4.out)) (by omega) (cutL_lens id HL.out)).mono ?_
      rintro e w5 ⟨⟨v, ad, rfl, hbu⟩, hl5, hb5⟩
      have B5 : Hid (Below w.heap.size w w5) := (B1.out.trans (B4.out.mono hsz1)).trans (hb5.mono (Nat.le_trans hsz1 B4.out.size))
      have HBu : Hid (Built w5 w.heap.size v (cutL fs id).length (cutL fs id) ad) := hbu.mono (Nat.le_trans hsz1 B4.out.size)
      clear hbu hb5
      go_wp2
      go_ret2
      rw [HH.out, HG.out]
      exact ⟨⟨v, ad, rfl, HBu.out⟩, B5.out⟩
    · have HH : Hid (getHas fs id = false) := by show _ = _; simp [getHas, hlt]
      have HG : Hid (cutR fs id = []) := by show _ = _; unfold cutR; rw [HH.out]; rfl
      have hlk := look_miss ho he (firstF_none hlt) (by unfold maxLen; omega)
      rw [show (ByteArray.empty) = ⟨#[]⟩ from rfl] at hlk
      clear ho he hok hlt
      go_wp2
      go_ret2
      rw [HH.out, HG.out]
      exact ⟨⟨_, fun _ => ((none, 0), (none, 0)), rfl, built_none _ _ _ _⟩, B2.out.alloc B2.out.size _⟩
  · have hok' : sheetOk fs = false := by simpa using hok
    have HH : Hid (getHas fs id = false) := by show _ = _; simp [getHas, hok']
    have HG : Hid (cutR fs id = []) := by show _ = _; unfold cutR; rw [HH.out]; rfl
    rw [hok']
    clear hok hok'
    go_wp2
    go_ret2
    rw [HH.out, HG.out]
    exact ⟨⟨_, fun _ => ((none, 0), (none, 0)), rfl, built_none _ _ _ _⟩, B1.out⟩
end Go.Proofs.YtdfadpejddhbkaaGreat

namespace Go.Proofs.YtdfadpejddhbkaaGreat
set_option linter.unusedVariables false
open Go.ChangeShapes Go.WideShapes Go.ChangeAt Go.RowKit Go.Deep

/-- a list whose memory lies between these blocks -/
def GotL (lo hi : Nat) (w : World) (v : Value) (fs : List Ft) : Prop :=
  ∃ a cap, v = .slice a fs.length cap ∧ FeatsAt w a fs ∧ ∀ i, i < fs.length → ∃ b off pa pc ta tc, a = some ⟨b, off, none⟩ ∧ lo ≤ b ∧ b < hi ∧
    w.cell? ⟨b, off + i * 4 + 2, none⟩ = some (.slice pa (fps fs i).length pc) ∧ w.cell? ⟨b, off + i * 4 + 3, none⟩ = some (.slice ta (fts fs i).length tc) ∧
    ((fps fs i).length = 0 ∨ ∀ x, blk pa = some x → lo ≤ x ∧ x < hi) ∧ ((fts fs i).length = 0 ∨ ∀ x, blk ta = some x → lo ≤ x ∧ x < hi)

theorem GotL.turned {lo hi : Nat} {w w' : World} {v : Value} {fs : List Ft} {S : Nat → Prop} (h : GotL lo hi w v fs) (ht : Turned w w' S) (hS : ∀ x, lo ≤ x → x < hi → ¬ S x) : GotL lo hi w' v fs := by
  obtain ⟨a, cap, rfl, hF, hR⟩ := h
  refine ⟨a, cap, rfl, fun i hi => ?_, fun i hi => ?_⟩
  · obtain ⟨b, off, pa, pc, ta, tc, rfl, hb1, hb2, h3, h4, h5, h6⟩ := hR i hi
    obtain ⟨b', off', pa', pc', ta', tc', e, hlt, g1, g2, g3, g4, g5, g6⟩ := hF i hi
    obtain ⟨rfl, rfl⟩ : b = b' ∧ off = off' := by simpa using e
    rw [h3] at g3
    rw [h4] at g4
    obtain ⟨rfl, rfl⟩ : pa = pa' ∧ pc = pc' := by simpa using g3
    obtain ⟨rfl, rfl⟩ : ta = ta' ∧ tc = tc' := by simpa using g4
    have nb : ¬ S b := hS b hb1 hb2
    exact ⟨b, off, pa, pc, ta, tc, rfl, Nat.lt_of_lt_of_le hlt ht.size, ht.cell g1 nb, ht.cell g2 nb, ht.cell h3 nb, ht.cell h4 nb, g5.turned0 ht (h5.imp (fun h => h) fun q x hx => hS x (q x hx).1 (q x hx).2), g6.turned0 ht (h6.imp (fun h => h) fun q x hx => hS x (q x hx).1 (q x hx).2)⟩
  · obtain ⟨b, off, pa, pc, ta, tc, rfl, hb1, hb2, h3, h4, h5, h6⟩ := hR i hi
    have nb : ¬ S b := hS b hb1 hb2
    exact ⟨b, off, pa, pc, ta, tc, rfl, hb1, hb2, ht.cell h3 nb, ht.cell h4 nb, h5, h6⟩

theorem GotL.below {lo hi : Nat} {w w' : World} {v : Value} {fs : List Ft} (h : GotL lo hi w v fs) (hb : Below w.heap.size w w') : GotL lo hi w' v fs := h.turned (S := fun _ => False) (Turned.of_below hb) fun _ _ _ h => h
theorem GotL.mono {lo hi lo' hi' : Nat} {w : World} {v : Value} {fs : List Ft} (h : GotL lo hi w v fs) (h1 : lo' ≤ lo) (h2 : hi ≤ hi') : GotL lo' hi' w v fs := by
  obtain ⟨a, cap, rfl, hF, hR⟩ := h
  refine ⟨a, cap, rfl, hF, fun i hi => ?_⟩
  obtain ⟨b, off, pa, pc, ta, tc, rfl, hb1, hb2, h3, h4, h5, h6⟩ := hR i hi
  exact ⟨b, off, pa, pc, ta, tc, rfl, by omega, by omega, h3, h4, h5.imp (fun h => h) fun q x hx => ⟨by have := (q x hx).1; omega, by have := (q x hx).2; omega⟩, h6.imp (fun h => h) fun q x hx => ⟨by have := (q x hx).1; omega, by have := (q x hx).2; omega⟩⟩
theorem gotL_nil (lo hi : Nat) (w : World) (a : Option Addr) (cap : Nat) : GotL lo hi w (.slice a 0 cap) [] := ⟨a, cap, rfl, FeatsAt.nil _ _, fun _ h => absurd h (Nat.not_lt_zero _)⟩

theorem Row.got {w : World} {lo : Nat} {v : Value} {fs : List Ft} {ad : Nat → Pl} (h : Row w (fun x => lo ≤ x) lo v fs.length fs ad) : GotL lo w.heap.size w v fs := by
  obtain ⟨a, cap, rfl, hF, hR⟩ := h.reads
  refine ⟨a, cap, rfl, hF, fun i hi => ?_⟩
  obtain ⟨b, off, rfl, h1, h2, h3, h4⟩ := hR i hi
  exact ⟨b, off, _, _, _, _, rfl, h1, h2, h3, h4, (h.prng i hi).imp (fun h => h) fun q x hx => ⟨(q x hx).1, (q x hx).2.1⟩, (h.trng i hi).imp (fun h => h) fun q x hx => ⟨(q x hx).1, (q x hx).2.1⟩⟩

/-- how many of the first things stay -/
def cutN (fs : List Ft) (id : ByteArray) (j : Nat) : Nat := (cutL (fs.take j) id).length

theorem cutL_append (xs ys : List Ft) (id : ByteArray) : cutL (xs ++ ys) id = cutL xs id ++ cutL ys id := List.filter_append _ _
theorem cut_split {fs : List Ft} {j : Nat} (h : j < fs.length) : fs = fs.take j ++ fg fs j :: fs.drop (j + 1) := by
  rw [fg_get h, ← List.drop_eq_getElem_cons h, List.take_append_drop]
theorem cutN_yes {fs : List Ft} {id : ByteArray} {j : Nat} (h : j < fs.length) (hne : fid fs j ≠ id) : cutN fs id (j + 1) = cutN fs id j + 1 ∧ fg (cutL fs id) (cutN fs id j) = fg fs j ∧ cutN fs id j < (cutL fs id).length := by
  have e1 : cutL [fg fs j] id = [fg fs j] := by
    unfold cutL
    rw [List.filter_cons_of_pos (by simpa [fid] using hne)]
    rfl
  have e2 : cutL fs id = cutL (fs.take j) id ++ fg fs j :: cutL (fs.drop (j + 1)) id := by
    conv => lhs; rw [cut_split h]
    rw [cutL_append, show fg fs j :: fs.drop (j + 1) = [fg fs j] ++ fs.drop (j + 1) from rfl, cutL_append, e1]
    rfl
  refine ⟨?_, ?_, ?_⟩
  · unfold cutN
    rw [List.take_succ_eq_append_getElem h, ← fg_get h, cutL_append, e1]
    simp
  · rw [e2]
    unfold cutN fg
    simp
  · rw [e2]
    unfold cutN
    simp
theorem cutN_no {fs : List Ft} {id : ByteArray} {j : Nat} (h : j < fs.length) (he : fid fs j = id) : cutN fs id (j + 1) = cutN fs id j := by
  have e1 : cutL [fg fs j] id = [] := by
    unfold cutL
    rw [List.filter_cons_of_neg (by simpa [fid] using he)]
    rfl
  unfold cutN
  rw [List.take_succ_eq_append_getElem h, ← fg_get h, cutL_append, e1]
  simp
theorem cutN_all (fs : List Ft) (id : ByteArray) : cutN fs id fs.length = (cutL fs id).length := by unfold cutN; rw [List.take_length]
end Go.Proofs.YtdfadpejddhbkaaGreat

namespace Go.Proofs.YtdfadpejddhbkaaGreat
set_option linter.unusedVariables false
open Go.ChangeShapes Go.WideShapes Go.ChangeAt Go.RowKit

theorem lmkTo_full {fs : List Ft} (k : Int) {i : Nat} (h : i < fs.length) : fid (lmkTo fs k fs.length) i = markT (lmk fs k i) ∧ fkd (lmkTo fs k fs.length) i = lmk fs k i + 1 ∧ fps (lmkTo fs k fs.length) i = marks (lmk fs k i + 2) (fps fs i).length ∧ fts (lmkTo fs k fs.length) i = marksT (lmk fs k i + 2 + 2 * ((fps fs i).length : Int)) (fts fs i).length := by
  unfold fid fkd
  have e : fg (lmkTo fs k fs.length) i = lmkF fs k i := by rw [lmkTo_at k _ h, if_pos h]
  have e3 : fps (lmkTo fs k fs.length) i = (lmkF fs k i).2.2.1 := by rw [← e]; rfl
  have e4 : fts (lmkTo fs k fs.length) i = (lmkF fs k i).2.2.2 := by rw [← e]; rfl
  rw [e, e3, e4]
  exact ⟨rfl, rfl, rfl, rfl⟩

/-- a list that lies in memory of its own between these blocks -/
def ListH (lo hi : Nat) (w : World) (a : Option Addr) (gs : List Ft) : Prop :=
  gs = [] ∨ ∃ b ad, a = some ⟨b, 0, none⟩ ∧ Lies w b 0 gs ad ∧ Sep b gs.length ad ∧ ∀ x, blocksOf b gs.length ad x → lo ≤ x ∧ x < hi

theorem Built.listH {w : World} {lo : Nat} {v : Value} {gs : List Ft} {ad : Nat → Pl} (h : Built w lo v gs.length gs ad) : ∃ a cap, v = .slice a gs.length cap ∧ ListH lo w.heap.size w a gs := by
  obtain ⟨h1, ⟨h2, h3⟩ | ⟨b, cap, cur, rfl, _⟩⟩ := h.row
  · exact ⟨none, 0, by rw [h2, h3], .inl (List.eq_nil_of_length_eq_zero h3)⟩
  · exact ⟨some ⟨b, 0, none⟩, cap, rfl, .inr ⟨b, ad, rfl, h.lies.1, h.lies.2.1, h.lies.2.2⟩⟩

theorem ListH.reads {lo hi : Nat} {w : World} {a : Option Addr} {gs : List Ft} (h : ListH lo hi w a gs) : FeatsAt w a gs := by
  rcases h with rfl | ⟨b, ad, rfl, h, _⟩
  · exact FeatsAt.nil _ _
  · exact h.reads

theorem ListH.turned {lo hi : Nat} {w w' : World} {a : Option Addr} {gs : List Ft} {S : Nat → Prop} (h : ListH lo hi w a gs) (ht : Turned w w' S) (hS : ∀ x, lo ≤ x → x < hi → ¬ S x) : ListH lo hi w' a gs := by
  rcases h with rfl | ⟨b, ad, rfl, h, h2, h3⟩
  · exact .inl rfl
  · exact .inr ⟨b, ad, rfl, h.turned ht (fun x hx => hS x (h3 x hx).1 (h3 x hx).2), h2, h3⟩

theorem ListH.below {lo hi : Nat} {w w' : World} {a : Option Addr} {gs : List Ft} (h : ListH lo hi w a gs) (hb : Below w.heap.size w w') : ListH lo hi w' a gs := h.turned (S := fun _ => False) (Turned.of_below hb) fun _ _ _ h => h

theorem GotL.reads {lo hi : Nat} {w : World} {a : Option Addr} {cap : Nat} {gs : List Ft} (h : GotL lo hi w (.slice a gs.length cap) gs) : FeatsAt w a gs := by
  obtain ⟨a', cap', e, h, _⟩ := h
  obtain ⟨rfl, rfl⟩ : a = a' ∧ cap = cap' := by simpa using e
  exact h

set_option maxRecDepth 100000 in
theorem markFeatS_nil (a : Option Addr) (cap : Nat) (k : Int) (w : World) :
    Calls Tryz.prog 47 #[.slice a 0 cap, .int .i64 k] w fun e w' => e = .returned (.int .i64 k) ∧ w' = w := by
  go_enter Tryz.func47, Tryz.ntmps47
  go_wp2
  go_loop [1, 5] (fun s1 i => s1 = .int .i64 k ∧ i = .int .i64 0) (fun _ _ => 0)
  case atStart => exact ⟨rfl, rfl⟩
  case round =>
    obtain ⟨rfl, rfl⟩ := hrel
    go_wp2
    go_ret
    exact ⟨rfl, rfl⟩

theorem markFeatS_list (lo hi : Nat) (a : Option Addr) (cap : Nat) (gs : List Ft) (k : Int) (w : World) (hl : gs.length ≤ 1048576) (hL : FeatsLen gs 1048576) (h0 : 0 ≤ k) (h4 : k ≤ 1000000000000000) (h : ListH lo hi w a gs) :
    Calls Tryz.prog 47 #[.slice a gs.length cap, .int .i64 k] w fun e w' => e = .returned (.int .i64 (lmk gs k gs.length)) ∧ FeatsAt w' a (lmkTo gs k gs.length) ∧ Turned w w' (fun x => lo ≤ x ∧ x < hi) := by
  rcases h with rfl | ⟨b, ad, rfl, h, h2, h3⟩
  · refine (markFeatS_nil a cap k w).mono fun e w' ⟨he, hw⟩ => ?_
    subst hw
    exact ⟨he, FeatsAt.nil _ _, Turned.refl _ _⟩
  · refine (markFeatS_some b 0 cap gs ad k w hl hL h0 h4 h h2).mono fun e w' ⟨he, hlie, ht⟩ => ⟨he, hlie.reads, ht.os, ht.tape, ht.output, ht.size, fun x hx hn => ht.block x hx fun hb => hn (h3 x hb)⟩

set_option maxRecDepth 100000 in
set_option maxHeartbeats 4000000 in
theorem heldFeatS_any (a : Option Addr) (cap : Nat) (fs : List Ft) (k : Int) (w : World) (hp : FeatsAt w a (lmkTo fs k fs.length)) (hl : fs.length ≤ 1048576) (hL : FeatsLen fs 1048576) (h0 : 0 ≤ k) (h4 : k ≤ 1000000000000000) :
    Calls Tryz.prog 152 #[.slice a fs.length cap, .int .i64 k] w fun e w' => e = .returned (.int .i64 (lmk fs k fs.length)) ∧ Below w.heap.size w w' := by
  have HP := Lib.hid hp
  have HL := Lib.hid hL
  clear hp hL
  go_enter Tryz.func152, Tryz.ntmps152
  go_wp2
  go_loopw [1, 5] (fun q i wr => ∃ j : Nat, j ≤ fs.length ∧ i = .int .i64 j ∧ q = .int .i64 (lmk fs k j) ∧ Below w.heap.size w wr) (fun _ i _ => fs.length - (intOf i).toNat)
  case atStart => exact ⟨0, Nat.zero_le _, rfl, rfl, Below.refl _ _⟩
  case round =>
    obtain ⟨j, hj, rfl, rfl, hbel⟩ := hrel
    have HB := Lib.hid hbel
    by_cases hlt : j < fs.length
    · obtain ⟨b, off, pa, pc, ta, tc, rfl, hb, d1, d2, d3, d4, hpp, htt⟩ := HP.out j (by rw [lmkTo_len]; exact hlt)
      obtain ⟨f1, f2, f3, f4⟩ := lmkTo_full k hlt
      rw [f3, marks_len] at d3
      rw [f4, marksT_len] at d4
      rw [f3] at hpp
      rw [f4] at htt
      rw [f1] at d1
      rw [f2] at d2
      rw [← hbel.cell (p := ⟨b, _, none⟩) hb] at d1 d2 d3 d4
      obtain ⟨k0, k1⟩ := lmk_le h0 h4 HL.out j hj
      obtain ⟨l1, l2, l3, l4⟩ := HL.out j hlt
      have D1 := Lib.hid (hpp.below hbel)
      have D2 := Lib.hid (htt.below hbel)
      have HN : Hid (lmk fs k (j + 1) = lmk fs k j + 2 + 2 * ((fps fs j).length : Int) + 2 * ((fts fs j).length : Int)) := rfl
      clear hbel hpp htt l4 f1 f2 f3 f4
      generalize lmk fs k j = m at *
      have e1 : ((markT m).toList == (markT m).toList) = true := by simp
      have e2 : (m + 1 != m + 1) = false := by simp
      go_upto_region 4 with (fail)
      go_cut [19] (fun s19 wx => s19 = .bool false ∧ Below wr.heap.size wr wx)
      case first =>
        go_region_held3 (fun w' => w'.cell? ⟨b, off + j * 4, none⟩ = some (.string (markT m)) ∧ Below wr.heap.size wr w')
          (first
            | exact ⟨d1, (Below.refl _ _).drew⟩
            | (go_split_ands
               rename_i hS0 hS1
               exact ⟨cell_later hbn hS0, hS1.trans (hbn.mono hS1.size)⟩))
          (first
            | (go_at_call 106
               refine (markText_any _ _ (by omega)).mono ?_
               rintro e wn ⟨rfl, hbn⟩))
        all_goals (go_wp2_with fail; go_meet; go_split_ands; exact ⟨by simp, by assumption⟩)
      case rest =>
        obtain ⟨rfl, hB⟩ := hcut
        replace d2 := cell_later hB d2
        replace d3 := cell_later hB d3
        replace d4 := cell_later hB d4
        replace D1 := Lib.hid (D1.out.below hB)
        replace D2 := Lib.hid (D2.out.below hB)
        have B1 : Hid (Below w.heap.size w _) := HB.out.trans (hB.mono HB.out.size)
        clear hB d1 e1
        go_wp2_with fail
        refine (heldPtS_any _ _ _ _ _ (show PtsAt _ _ (marks (m + 1 + 1) _) by rw [show m + 1 + 1 = m + 2 by omega]; exact D1.out) (by omega) (by omega) (by omega)).mono ?_
        rintro e w2 ⟨rfl, rfl⟩
        go_wp2_with fail
        refine (heldTagS_any _ _ _ _ _ (show TagsAt _ _ (marksT (m + 1 + 1 + 2 * ((fps fs j).length : Int)) _) by rw [show m + 1 + 1 = m + 2 by omega]; exact D2.out) (by omega) (by omega) (by omega)).mono ?_
        rintro e w3 ⟨rfl, hb3⟩
        have B3 : Hid (Below w.heap.size w w3) := B1.out.trans (hb3.mono B1.out.size)
        clear hb3 d2 d3 d4
        go_wp2
        go_roundw
        case rel => exact ⟨j + 1, by omega, by go_num, congrArg (Value.int .i64) (by rw [HN.out]; omega), B3.out⟩
        case measure => simp [intOf]; omega
    · obtain rfl : j = fs.length := by omega
      clear hbel
      go_wp2
      go_ret
      exact ⟨rfl, HB.out⟩
end Go.Proofs.YtdfadpejddhbkaaGreat

namespace Go.Proofs.YtdfadpejddhbkaaGreat
set_option linter.unusedVariables false
open Go.ChangeShapes Go.WideShapes Go.ChangeAt Go.RowKit Go.Deep

theorem ownsRow_turned {w w' : World} {S : Nat → Prop} {lo : Nat} {e : TypeId} {size n : Nat} {v : Value} {xs : List Value} (h : w.ownsRow lo e size v n xs) (ht : Turned w w' S) (hn : ∀ k, v.ownBlock = some k → ¬ S k) : w'.ownsRow lo e size v n xs := by
  obtain ⟨h1, h2 | ⟨g, cap, cur, rfl, hb', hg, rest⟩⟩ := h
  · exact ⟨h1, .inl h2⟩
  · exact ⟨h1, .inr ⟨g, cap, cur, rfl, hb', (ht.block g (Array.getElem?_eq_some_iff.1 hg).1 (hn g rfl)).trans hg, rest⟩⟩

theorem ownsRow_slice {w : World} {lo : Nat} {e : TypeId} {size n : Nat} {v : Value} {xs : List Value} (h : w.ownsRow lo e size v n xs) : ∃ a c, v = .slice a n c ∧ n ≤ c := by
  obtain ⟨_, ⟨rfl, h2⟩ | ⟨g, cap, cur, rfl, _, _, hc, _⟩⟩ := h
  · exact ⟨none, 0, by rw [h2], by omega⟩
  · exact ⟨_, cap, rfl, hc⟩

/-- a row of its own as cells of a block -/
theorem ownsRow_rows {w : World} {lo : Nat} {e : TypeId} {size n : Nat} {v : Value} {xs : List Value} (h : w.ownsRow lo e size v n xs) : (v = .slice none 0 0 ∧ n = 0) ∨
    ∃ g cap f, v = .slice (some ⟨g, 0, none⟩) n cap ∧ n ≤ cap ∧ cap ≤ maxLen ∧ lo ≤ g ∧ w.rowIs g e (cap * size) f ∧ ∀ i, i < n * size → some (f i) = xs[i]? := by
  obtain ⟨h1, ⟨h2, h3⟩ | ⟨g, cap, cur, h2, hb, hg, h4, h5, h6, h7⟩⟩ := h
  · exact .inl ⟨h2, h3⟩
  · refine .inr ⟨g, cap, fun i => (cur[i]?).getD undef, h2, h4, h5, hb, ⟨cur, hg, h6, fun i hi => ?_⟩, fun i hi => ?_⟩
    · have hi' : i < cur.size := by omega
      simp [hi']
    · have hm : n * size ≤ cap * size := Nat.mul_le_mul_right _ h4
      have hi' : i < cur.size := by omega
      rw [← h7, List.getElem?_take, if_pos hi, Array.getElem?_toList]
      simp [hi']

theorem ownsRow_of_rows {w : World} {lo g cap : Nat} {e : TypeId} {size n : Nat} {f : Nat → Value} {xs : List Value} (hr : w.rowIs g e (cap * size) f) (hx : xs.length = n * size) (hf : ∀ i, i < n * size → some (f i) = xs[i]?) (hn : n ≤ cap) (hm : cap ≤ maxLen) (hl : lo ≤ g) : w.ownsRow lo e size (.slice (some ⟨g, 0, none⟩) n cap) n xs := by
  obtain ⟨c, hg, hs, hc⟩ := hr
  refine ⟨hx, .inr ⟨g, cap, c, rfl, hl, hg, hn, hm, hs, ?_⟩⟩
  refine List.ext_getElem? fun i => ?_
  have hmm : n * size ≤ cap * size := Nat.mul_le_mul_right _ hn
  rw [List.getElem?_take]
  by_cases hi : i < n * size
  · rw [if_pos hi, Array.getElem?_toList, hc i (by omega), hf i hi]
  · rw [if_neg hi]
    exact (List.getElem?_eq_none (by omega)).symm

theorem Turned.or {a b c : World} {S T : Nat → Prop} (h : Turned a b S) (k : Turned b c T) : Turned a c (fun x => S x ∨ T x) :=
  Turned.trans (h.wide fun x hx => .inl hx) (k.wide fun x hx => .inr hx)

/-! ### branches -/
def flatH (hs : List Hd) : List Value := hs.flatMap fun h => [.string h.1, .int .i64 h.2]
theorem flatH_len (hs : List Hd) : (flatH hs).length = hs.length * 2 := by
  induction hs with
  | nil => rfl
  | cons x xs ih => simp only [flatH, List.flatMap_cons, List.length_append, List.length_cons, List.length_nil] at ih ⊢; omega
theorem flatH_app (hs gs : List Hd) : flatH (hs ++ gs) = flatH hs ++ flatH gs := by simp [flatH]
theorem flatH_at : ∀ (hs : List Hd) (i : Nat), i < hs.length → (flatH hs)[i * 2]? = some (.string (hdn hs i)) ∧ (flatH hs)[i * 2 + 1]? = some (.int .i64 (hda hs i))
  | [], i, h => absurd h (Nat.not_lt_zero _)
  | x :: xs, 0, _ => by simp [flatH, hdn, hda]
  | x :: xs, i + 1, h => by
    have ih := flatH_at xs i (by simpa using h)
    have e1 : (i + 1) * 2 = i * 2 + 1 + 1 := by omega
    have e2 : hdn (x :: xs) (i + 1) = hdn xs i := by simp [hdn]
    have e3 : hda (x :: xs) (i + 1) = hda xs i := by simp [hda]
    rw [e1, e2, e3]
    simp only [flatH, List.flatMap_cons, List.cons_append, List.nil_append, List.getElem?_cons_succ] at ih ⊢
    exact ih
theorem flatH_headCell (hs : List Hd) (j : Nat) (h : j < hs.length * 2) : (flatH hs)[j]? = some (headCell hs j) := by
  obtain ⟨h1, h2⟩ := flatH_at hs (j / 2) (by omega)
  unfold headCell
  by_cases e : j % 2 = 0
  · rw [if_pos e, ← h1]
    congr 1
    omega
  · rw [if_neg e, ← h2]
    congr 1
    omega
theorem flatH_one (hs : List Hd) : ∀ u ∈ flatH hs, u.oneCell' = true := by
  intro u hu
  simp only [flatH, List.mem_flatMap, List.mem_cons, List.not_mem_nil, or_false] at hu
  obtain ⟨h, _, rfl | rfl⟩ := hu <;> rfl

/-- a row of branches that lies from a block on -/
structure GrowH (lo : Nat) (hs : List Hd) (w : World) (v : Value) : Prop where
  own : w.ownsRow lo 115 2 v hs.length (flatH hs)
  le : lo ≤ w.heap.size

theorem GrowH.form {lo : Nat} {w : World} {hs : List Hd} {v : Value} (h : GrowH lo hs w v) : ∃ a c, v = .slice a hs.length c ∧ hs.length ≤ c ∧ HeadsAt w a hs := by
  rcases ownsRow_rows h.own with ⟨rfl, h2⟩ | ⟨g, cap, f, rfl, h2, h3, h4, hr, hf⟩
  · exact ⟨none, 0, by rw [h2], by omega, fun i hi => by omega⟩
  · refine ⟨some ⟨g, 0, none⟩, cap, rfl, h2, fun i hi => ⟨g, 0, rfl, hr.lt, ?_, ?_⟩⟩
    · have e := hf (i * 2) (by omega)
      rw [(flatH_at hs i hi).1] at e
      rw [Nat.zero_add, hr.cell (i := i * 2) (by omega), e]
    · have e := hf (i * 2 + 1) (by omega)
      rw [(flatH_at hs i hi).2] at e
      rw [Nat.zero_add, hr.cell (i := i * 2 + 1) (by omega), e]
theorem GrowH.nil {lo : Nat} {w : World} (h : lo ≤ w.heap.size) : GrowH lo [] w (.slice none 0 0) := ⟨⟨rfl, .inl ⟨rfl, rfl⟩⟩, h⟩
theorem GrowH.turned {lo : Nat} {w w' : World} {hs : List Hd} {v : Value} {S : Nat → Prop} (h : GrowH lo hs w v) (ht : Turned w w' S) (hn : ∀ k, v.ownBlock = some k → ¬ S k) : GrowH lo hs w' v :=
  ⟨ownsRow_turned h.own ht hn, Nat.le_trans h.le ht.size⟩
theorem GrowH.below {lo : Nat} {w w' : World} {hs : List Hd} {v : Value} (h : GrowH lo hs w v) (hb : Below w.heap.size w w') : GrowH lo hs w' v := ⟨ownsRow_below h.own hb, Nat.le_trans h.le hb.size⟩
theorem GrowH.low {lo lo' : Nat} {w : World} {hs : List Hd} {v : Value} (h : GrowH lo hs w v) (hl : lo' ≤ lo) : GrowH lo' hs w v := ⟨h.own.wide hl, Nat.le_trans hl h.le⟩
theorem GrowH.one (w : World) (x : ByteArray) (y : Int) (lo : Nat) (h : lo ≤ w.heap.size) : GrowH lo [(x, y)] (w.alloc (.cells #[.string x, .int .i64 y] 115)) (.slice (some ⟨w.heap.size, 0, none⟩) 1 1) :=
  ⟨⟨rfl, .inr ⟨w.heap.size, 1, #[.string x, .int .i64 y], rfl, h, heap_alloc_new w _, Nat.le_refl _, by unfold maxLen; omega, rfl, rfl⟩⟩, by simp; omega⟩
theorem GrowH.made (w : World) : GrowH w.heap.size [] (w.alloc (.cells #[] 115)) (.slice (some ⟨w.heap.size, 0, none⟩) 0 0) :=
  ⟨World.ownsRow_made w #[] 0 (base := w.heap.size) (e := 115) (size := 2) (Nat.le_refl _) (by unfold maxLen; omega) rfl, by simp⟩

theorem news_heads {w : World} {b off : Nat} {hs : List Hd} (h : HeadsAt w (some ⟨b, off, none⟩) hs) : ∀ j u, (flatH hs)[j]? = some u → w.cell? ((⟨b, off, none⟩ : Addr).add j) = some u := by
  intro j u hu
  have hj : j < hs.length * 2 := by
    have := (List.getElem?_eq_some_iff.1 hu).1
    rwa [flatH_len] at this
  rw [flatH_headCell hs j hj] at hu
  obtain rfl := Option.some.inj hu
  obtain ⟨b', off', he, _, h1, h2⟩ := h (j / 2) (by omega)
  obtain ⟨rfl, rfl⟩ : b = b' ∧ off = off' := by simpa using he
  rw [add_plain]
  unfold headCell
  by_cases e : j % 2 = 0
  · rw [if_pos e, ← h1]
    congr 2
    omega
  · rw [if_neg e, ← h2]
    congr 2
    omega

/-- one thing's marks on branches -/
def marksH (k : Int) (n : Nat) : List Hd := (List.range n).map fun (i : Nat) => (markT (k + 2 * (i : Int)), k + 2 * (i : Int) + 1)
theorem marksH_len (k : Int) (n : Nat) : (marksH k n).length = n := by simp [marksH]
theorem marksH_at (k : Int) {n i : Nat} (h : i < n) : hdn (marksH k n) i = markT (k + 2 * (i : Int)) ∧ hda (marksH k n) i = k + 2 * (i : Int) + 1 := by
  constructor <;> simp [hdn, hda, marksH, h]

/-! ### versions -/
/-- where the two rows of a version lie, and those of its things -/
abbrev PlO := Value × Value × (Nat → Pl)
/-- a version's cells -/
def cellsM (c : Cm) (p : PlO) : List Value := [p.1, p.2.1, .string c.2.2]
/-- the cells of the first versions -/
def flatM (cs : List Cm) (ad : Nat → PlO) (k : Nat) : List Value := (List.range k).flatMap fun i => cellsM (mg cs i) (ad i)
/-- one more place -/
def poSet {α : Type} (ad : Nat → α) (k : Nat) (p : α) : Nat → α := fun i => if i = k then p else ad i
theorem poSet_at {α : Type} (ad : Nat → α) (k : Nat) (p : α) : poSet ad k p k = p := if_pos rfl
theorem poSet_lt {α : Type} {ad : Nat → α} {k i : Nat} {p : α} (h : i < k) : poSet ad k p i = ad i := if_neg (by omega)

theorem flatM_succ (cs : List Cm) (ad : Nat → PlO) (k : Nat) : flatM cs ad (k + 1) = flatM cs ad k ++ cellsM (mg cs k) (ad k) := by simp [flatM, List.range_succ, List.flatMap_append]
theorem flatM_len (cs : List Cm) (ad : Nat → PlO) : ∀ k, (flatM cs ad k).length = k * 3
  | 0 => rfl
  | k + 1 => by
    rw [flatM_succ, List.length_append, flatM_len cs ad k]
    simp [cellsM]
    omega
theorem flatM_at (cs : List Cm) (ad : Nat → PlO) : ∀ k i o, i < k → o < 3 → (flatM cs ad k)[i * 3 + o]? = (cellsM (mg cs i) (ad i))[o]?
  | 0, i, o, hi, _ => absurd hi (Nat.not_lt_zero _)
  | k + 1, i, o, hi, ho => by
    rw [flatM_succ]
    have hl := flatM_len cs ad k
    by_cases e : i = k
    · subst e
      rw [List.getElem?_append_right (by omega), hl, show i * 3 + o - i * 3 = o by omega]
    · rw [List.getElem?_append_left (by omega)]
      exact flatM_at cs ad k i o (by omega) ho
theorem flatM_congr {cs ds : List Cm} {ad bd : Nat → PlO} : ∀ k, (∀ i, i < k → cellsM (mg cs i) (ad i) = cellsM (mg ds i) (bd i)) → flatM cs ad k = flatM ds bd k
  | 0, _ => rfl
  | k + 1, h => by rw [flatM_succ, flatM_succ, flatM_congr k fun i hi => h i (by omega), h k (by omega)]

/-- what must hold of what is said of a version's parts: it hangs on these blocks alone, and the parts can be read -/
structure KLaw (K : World → Cm → PlO → (Nat → Prop) → Prop) : Prop where
  keep : ∀ {w w' : World} {c : Cm} {p : PlO} {S T : Nat → Prop}, K w c p S → (∀ x, S x → x < w.heap.size) → Turned w w' T → (∀ x, S x → ¬ T x) → K w' c p S
  reads : ∀ {w : World} {c : Cm} {p : PlO} {S : Nat → Prop}, K w c p S → ∃ ua uc sa sc, p.1 = .slice ua c.1.length uc ∧ p.2.1 = .slice sa c.2.1.length sc ∧ IntsAt w ua c.1 ∧ FeatsAt w sa c.2.1

/-- the first versions of a row, its parts in blocks of their own -/
structure Cms (K : World → Cm → PlO → (Nat → Prop) → Prop) (w : World) (lo : Nat) (v : Value) (k : Nat) (cs : List Cm) (ad : Nat → PlO) (S : Nat → Nat → Prop) : Prop where
  row : w.ownsRow lo 54 3 v k (flatM cs ad k)
  part : ∀ i, i < k → K w (mg cs i) (ad i) (S i)
  rng : ∀ i, i < k → ∀ x, S i x → lo ≤ x ∧ x < w.heap.size ∧ v.ownBlock ≠ some x
  far : ∀ i j, i < j → j < k → ∀ x, S i x → ¬ S j x

/-- the blocks of the first versions -/
def inCms (v : Value) (k : Nat) (S : Nat → Nat → Prop) (x : Nat) : Prop := v.ownBlock = some x ∨ ∃ i, i < k ∧ S i x

theorem Cms.start (K : World → Cm → PlO → (Nat → Prop) → Prop) (w : World) (lo : Nat) (cs : List Cm) (ad : Nat → PlO) (S : Nat → Nat → Prop) : Cms K w lo (.slice none 0 0) 0 cs ad S :=
  ⟨World.ownsRow_nil _ _ _ _, fun _ h => absurd h (Nat.not_lt_zero _), fun _ h => absurd h (Nat.not_lt_zero _), fun _ _ _ h => absurd h (Nat.not_lt_zero _)⟩

theorem Cms.blocks {K : World → Cm → PlO → (Nat → Prop) → Prop} {w : World} {lo : Nat} {v : Value} {k : Nat} {cs : List Cm} {ad : Nat → PlO} {S : Nat → Nat → Prop} (h : Cms K w lo v k cs ad S) : ∀ x, inCms v k S x → lo ≤ x ∧ x < w.heap.size := by
  rintro x (hx | ⟨i, hi, hx⟩)
  · exact h.row.lt x hx
  · exact ⟨(h.rng i hi x hx).1, (h.rng i hi x hx).2.1⟩

theorem Cms.turned {K : World → Cm → PlO → (Nat → Prop) → Prop} (L : KLaw K) {w w' : World} {lo : Nat} {v : Value} {k : Nat} {cs : List Cm} {ad : Nat → PlO} {S : Nat → Nat → Prop} {T : Nat → Prop} (h : Cms K w lo v k cs ad S) (ht : Turned w w' T) (hn : ∀ x, inCms v k S x → ¬ T x) : Cms K w' lo v k cs ad S :=
  ⟨ownsRow_turned h.row ht fun x hx => hn x (.inl hx), fun i hi => L.keep (h.part i hi) (fun x hx => (h.rng i hi x hx).2.1) ht fun x hx => hn x (.inr ⟨i, hi, hx⟩),
   fun i hi x hx => ⟨(h.rng i hi x hx).1, Nat.lt_of_lt_of_le (h.rng i hi x hx).2.1 ht.size, (h.rng i hi x hx).2.2⟩, h.far⟩

theorem Cms.below {K : World → Cm → PlO → (Nat → Prop) → Prop} (L : KLaw K) {w w' : World} {lo : Nat} {v : Value} {k : Nat} {cs : List Cm} {ad : Nat → PlO} {S : Nat → Nat → Prop} (h : Cms K w lo v k cs ad S) (hb : Below w.heap.size w w') : Cms K w' lo v k cs ad S :=
  h.turned L (T := fun _ => False) (Turned.of_below hb) fun _ _ h => h

theorem Cms.low {K : World → Cm → PlO → (Nat → Prop) → Prop} {w : World} {lo lo' : Nat} {v : Value} {k : Nat} {cs : List Cm} {ad : Nat → PlO} {S : Nat → Nat → Prop} (h : Cms K w lo v k cs ad S) (hl : lo' ≤ lo) : Cms K w lo' v k cs ad S :=
  ⟨h.row.wide hl, h.part, fun i hi x hx => ⟨Nat.le_trans hl (h.rng i hi x hx).1, (h.rng i hi x hx).2⟩, h.far⟩

/-- one more version, appended -/
theorem Cms.step {K : World → Cm → PlO → (Nat → Prop) → Prop} (L : KLaw K) {wb wa : World} {lo : Nat} {v : Value} {k : Nat} {cs : List Cm} {ad : Nat → PlO} {S : Nat → Nat → Prop} {p : PlO} {P : Nat → Prop} {gg cap' : Nat} (h : Cms K wb lo v k cs ad S) (hp : K wb (mg cs k) p P)
    (hP : ∀ x, P x → lo ≤ x ∧ x < wb.heap.size ∧ v.ownBlock ≠ some x ∧ ∀ i, i < k → ¬ S i x)
    (hrow : wa.ownsRow lo 54 3 (.slice (some ⟨gg, 0, none⟩) (k + 1) cap') (k + 1) (flatM cs ad k ++ cellsM (mg cs k) p)) (hg : wb.grownBy wa v.ownBlock) (hat : v.ownBlock = some gg ∨ wb.heap.size ≤ gg) :
    Cms K wa lo (.slice (some ⟨gg, 0, none⟩) (k + 1) cap') (k + 1) cs (poSet ad k p) (poSet S k P) := by
  have ht : Turned wb wa (fun x => v.ownBlock = some x) := Turned.of_grown hg fun x hx => hx
  have hz := hg.size
  have gne : ∀ x, x < wb.heap.size → v.ownBlock ≠ some x → (Value.slice (some ⟨gg, 0, none⟩) (k + 1) cap').ownBlock ≠ some x := fun x hx hn e => by
    obtain rfl : gg = x := by simpa [Value.ownBlock] using e
    rcases hat with h1 | h1
    · exact hn h1
    · omega
  refine ⟨?_, fun i hi => ?_, fun i hi x hx => ?_, fun i j hij hj x hx hy => ?_⟩
  · rw [flatM_succ, poSet_at, flatM_congr (ds := cs) (bd := ad) k fun i hi => by rw [poSet_lt hi]]
    exact hrow
  · by_cases e : i = k
    · subst e
      rw [poSet_at, poSet_at]
      exact L.keep hp (fun x hx => (hP x hx).2.1) ht fun x hx => (hP x hx).2.2.1
    · rw [poSet_lt (by omega), poSet_lt (by omega)]
      exact L.keep (h.part i (by omega)) (fun x hx => (h.rng i (by omega) x hx).2.1) ht fun x hx => (h.rng i (by omega) x hx).2.2
  · by_cases e : i = k
    · subst e
      rw [poSet_at] at hx
      obtain ⟨q1, q2, q3, _⟩ := hP x hx
      exact ⟨q1, by omega, gne x q2 q3⟩
    · rw [poSet_lt (by omega)] at hx
      obtain ⟨q1, q2, q3⟩ := h.rng i (by omega) x hx
      exact ⟨q1, by omega, gne x q2 q3⟩
  · rw [poSet_lt (by omega)] at hx
    by_cases e : j = k
    · subst e
      rw [poSet_at] at hy
      exact (hP x hy).2.2.2 i (by omega) hx
    · rw [poSet_lt (by omega)] at hy
      exact h.far i j hij (by omega) x hx hy

/-- the versions read -/
theorem Cms.form {K : World → Cm → PlO → (Nat → Prop) → Prop} (L : KLaw K) {w : World} {lo : Nat} {v : Value} {cs : List Cm} {ad : Nat → PlO} {S : Nat → Nat → Prop} (h : Cms K w lo v cs.length cs ad S) : ∃ a c, v = .slice a cs.length c ∧ cs.length ≤ c ∧ CommitsAt w a cs := by
  rcases ownsRow_rows h.row with ⟨rfl, h2⟩ | ⟨g, cap, f, rfl, h2, h3, h4, hr, hf⟩
  · exact ⟨none, 0, by rw [h2], by omega, fun i hi => by omega⟩
  · refine ⟨some ⟨g, 0, none⟩, cap, rfl, h2, fun i hi => ?_⟩
    obtain ⟨ua, uc, sa, sc, e1, e2, hI, hF⟩ := L.reads (h.part i hi)
    have q : ∀ o, o < 3 → w.cell? ⟨g, 0 + i * 3 + o, none⟩ = (cellsM (mg cs i) (ad i))[o]? := fun o ho => by
      rw [← flatM_at cs ad cs.length i o hi ho, ← hf (i * 3 + o) (by omega), Nat.zero_add]
      exact hr.cell (by omega)
    refine ⟨g, 0, ua, uc, sa, sc, rfl, hr.lt, ?_, ?_, q 2 (by omega), hI, hF⟩
    · have := q 0 (by omega)
      rw [← e1]
      exact this
    · have := q 1 (by omega)
      rw [← e2]
      exact this

/-- a room in memory of its own -/
structure Room (K : World → Cm → PlO → (Nat → Prop) → Prop) (w : World) (lo : Nat) (cv hv : Value) (cs : List Cm) (hs : List Hd) (ad : Nat → PlO) (S : Nat → Nat → Prop) : Prop where
  cms : Cms K w lo cv cs.length cs ad S
  hds : GrowH lo hs w hv
  far : ∀ x, hv.ownBlock = some x → ¬ inCms cv cs.length S x

/-- the blocks of a room -/
def inRoom (cv hv : Value) (k : Nat) (S : Nat → Nat → Prop) (x : Nat) : Prop := inCms cv k S x ∨ hv.ownBlock = some x

theorem Room.blocks {K : World → Cm → PlO → (Nat → Prop) → Prop} {w : World} {lo : Nat} {cv hv : Value} {cs : List Cm} {hs : List Hd} {ad : Nat → PlO} {S : Nat → Nat → Prop} (h : Room K w lo cv hv cs hs ad S) : ∀ x, inRoom cv hv cs.length S x → lo ≤ x ∧ x < w.heap.size := by
  rintro x (hx | hx)
  · exact h.cms.blocks x hx
  · exact h.hds.own.lt x hx

theorem Room.turned {K : World → Cm → PlO → (Nat → Prop) → Prop} (L : KLaw K) {w w' : World} {lo : Nat} {cv hv : Value} {cs : List Cm} {hs : List Hd} {ad : Nat → PlO} {S : Nat → Nat → Prop} {T : Nat → Prop} (h : Room K w lo cv hv cs hs ad S) (ht : Turned w w' T) (hn : ∀ x, inRoom cv hv cs.length S x → ¬ T x) : Room K w' lo cv hv cs hs ad S :=
  ⟨h.cms.turned L ht fun x hx => hn x (.inl hx), h.hds.turned ht fun x hx => hn x (.inr hx), h.far⟩

theorem Room.below {K : World → Cm → PlO → (Nat → Prop) → Prop} (L : KLaw K) {w w' : World} {lo : Nat} {cv hv : Value} {cs : List Cm} {hs : List Hd} {ad : Nat → PlO} {S : Nat → Nat → Prop} (h : Room K w lo cv hv cs hs ad S) (hb : Below w.heap.size w w') : Room K w' lo cv hv cs hs ad S :=
  h.turned L (T := fun _ => False) (Turned.of_below hb) fun _ _ h => h

theorem Room.low {K : World → Cm → PlO → (Nat → Prop) → Prop} {w : World} {lo lo' : Nat} {cv hv : Value} {cs : List Cm} {hs : List Hd} {ad : Nat → PlO} {S : Nat → Nat → Prop} (h : Room K w lo cv hv cs hs ad S) (hl : lo' ≤ lo) : Room K w lo' cv hv cs hs ad S := ⟨h.cms.low hl, h.hds.low hl, h.far⟩

theorem Room.form {K : World → Cm → PlO → (Nat → Prop) → Prop} (L : KLaw K) {w : World} {lo : Nat} {cv hv : Value} {cs : List Cm} {hs : List Hd} {ad : Nat → PlO} {S : Nat → Nat → Prop} (h : Room K w lo cv hv cs hs ad S) : ∃ a ca b cb, cv = .slice a cs.length ca ∧ hv = .slice b hs.length cb ∧ cs.length ≤ ca ∧ hs.length ≤ cb ∧ RepoAt w a b cs hs := by
  obtain ⟨a, ca, e1, l1, h1⟩ := h.cms.form L
  obtain ⟨b, cb, e2, l2, h2⟩ := h.hds.form
  exact ⟨a, ca, b, cb, e1, e2, l1, l2, h1, h2⟩

theorem Room.start (K : World → Cm → PlO → (Nat → Prop) → Prop) (w : World) (lo : Nat) (hl : lo ≤ w.heap.size) (ad : Nat → PlO) (S : Nat → Nat → Prop) : Room K w lo (.slice none 0 0) (.slice none 0 0) [] [] ad S :=
  ⟨Cms.start _ _ _ _ _ _, GrowH.nil hl, fun x hx => by cases hx⟩

/-! ### the two kinds of parts -/
/-- a list of things in memory of its own, or no memory at all -/
def ListO (w : World) (v : Value) (fs : List Ft) (ad : Nat → Pl) : Prop :=
  (fs = [] ∧ v = .slice none 0 0) ∨ ∃ b cap, v = .slice (some ⟨b, 0, none⟩) fs.length cap ∧ Lies w b 0 fs ad ∧ Sep b fs.length ad
/-- the blocks of a list -/
def inList (v : Value) (n : Nat) (ad : Nat → Pl) (x : Nat) : Prop := v.ownBlock = some x ∨ ∃ j, j < n ∧ inPart (ad j) x

theorem inList_blocks {b n m cap : Nat} {ad : Nat → Pl} {x : Nat} : inList (.slice (some ⟨b, 0, none⟩) m cap) n ad x ↔ blocksOf b n ad x := by
  unfold inList blocksOf inPart
  simp only [Value.ownBlock, Option.some.injEq]
  exact ⟨fun h => h.imp (fun e => e.symm) fun h => h, fun h => h.imp (fun e => e.symm) fun h => h⟩

theorem Built.listO {w : World} {lo : Nat} {v : Value} {fs : List Ft} {ad : Nat → Pl} (h : Built w lo v fs.length fs ad) : ListO w v fs ad := by
  obtain ⟨h1, ⟨h2, h3⟩ | ⟨b, cap, cur, rfl, _⟩⟩ := h.row
  · exact .inl ⟨List.eq_nil_of_length_eq_zero h3, h2⟩
  · exact .inr ⟨b, cap, rfl, h.lies.1, h.lies.2.1⟩

theorem Built.inList {w : World} {lo : Nat} {v : Value} {fs : List Ft} {ad : Nat → Pl} (h : Built w lo v fs.length fs ad) {x : Nat} (hx : inList v fs.length ad x) : lo ≤ x ∧ x < w.heap.size := by
  rcases hx with hx | ⟨j, hj, hx⟩
  · exact h.row.lt x hx
  · exact ⟨(h.rng j hj x hx).1, (h.rng j hj x hx).2.1⟩

theorem ListO.turned {w w' : World} {v : Value} {fs : List Ft} {ad : Nat → Pl} {T : Nat → Prop} (h : ListO w v fs ad) (ht : Turned w w' T) (hn : ∀ x, inList v fs.length ad x → ¬ T x) : ListO w' v fs ad := by
  rcases h with h | ⟨b, cap, rfl, h1, h2⟩
  · exact .inl h
  · exact .inr ⟨b, cap, rfl, h1.turned ht fun x hx => hn x (inList_blocks.2 hx), h2⟩

theorem ListO.reads {w : World} {v : Value} {fs : List Ft} {ad : Nat → Pl} (h : ListO w v fs ad) : ∃ a c, v = .slice a fs.length c ∧ FeatsAt w a fs := by
  rcases h with ⟨rfl, rfl⟩ | ⟨b, cap, rfl, h1, h2⟩
  · exact ⟨none, 0, rfl, FeatsAt.nil _ _⟩
  · exact ⟨_, cap, rfl, h1.reads⟩

/-- the program's parts: they can be marked -/
structure KI (w : World) (c : Cm) (p : PlO) (S : Nat → Prop) : Prop where
  ups : GrowI 0 c.1 w p.1
  sheet : ListO w p.2.1 c.2.1 p.2.2
  ub : ∀ x, p.1.ownBlock = some x → S x
  sb : ∀ x, inList p.2.1 c.2.1.length p.2.2 x → S x
  two : ∀ x, p.1.ownBlock = some x → ¬ inList p.2.1 c.2.1.length p.2.2 x

theorem KI.law : KLaw KI where
  keep h hS ht hn := ⟨h.ups.turned ht fun x hx => hn x (h.ub x hx), h.sheet.turned ht fun x hx => hn x (h.sb x hx), h.ub, h.sb, h.two⟩
  reads h := by
    obtain ⟨ua, uc, e1, _, h1⟩ := h.ups.form
    obtain ⟨sa, sc, e2, h2⟩ := h.sheet.reads
    exact ⟨ua, uc, sa, sc, e1, e2, h1, h2⟩

/-- the model's parts: they can be read -/
def KS (w : World) (c : Cm) (p : PlO) (S : Nat → Prop) : Prop :=
  ∃ ua uc sa sc, p.1 = .slice ua c.1.length uc ∧ p.2.1 = .slice sa c.2.1.length sc ∧ ∀ w' T, Turned w w' T → (∀ x, S x → ¬ T x) → IntsAt w' ua c.1 ∧ FeatsAt w' sa c.2.1

theorem KS.law : KLaw KS where
  keep := by
    rintro w w' c p S T ⟨ua, uc, sa, sc, e1, e2, h⟩ hS ht hn
    exact ⟨ua, uc, sa, sc, e1, e2, fun w2 T2 ht2 hn2 => h w2 _ (ht.or ht2) fun x hx => not_or.2 ⟨hn x hx, hn2 x hx⟩⟩
  reads := by
    rintro w c p S ⟨ua, uc, sa, sc, e1, e2, h⟩
    have := h w _ (Turned.refl w (fun _ => False)) fun _ _ h => h
    exact ⟨ua, uc, sa, sc, e1, e2, this.1, this.2⟩

/-- a copy of a version has parts of the program's kind -/
theorem CmAns.part {w w' : World} {c : Cm} {uv sv : Value} {ad : Nat → Pl} (h : CmAns w c uv sv ad w') : KI w' c (uv, sv, ad) (fun x => w.heap.size ≤ x ∧ x < w'.heap.size) := by
  obtain ⟨h1, h2, h3, h4⟩ := h
  refine ⟨h1.low2 (Nat.zero_le _), h2.listO, fun x hx => h1.own.lt x hx, fun x hx => h2.inList hx, fun x hx hy => ?_⟩
  obtain ⟨q1, q2⟩ := h3 x hx
  rcases hy with hy | ⟨j, hj, hy⟩
  · exact q1 hy
  · exact q2 j hj hy
end Go.Proofs.YtdfadpejddhbkaaGreat

namespace Go.Proofs.YtdfadpejddhbkaaGreat
set_option linter.unusedVariables false
open Go.ChangeShapes Go.WideShapes Go.ChangeAt Go.RowKit Go.Deep

theorem GrowH.block {lo : Nat} {hs : List Hd} {wr : World} {v : Value} (h : GrowH lo hs wr v) : ∀ k, v.ownBlock = some k → lo ≤ k := fun k hk => (h.own.lt k hk).1

theorem wpList_moreH {ops : Array Oper} {rest : List Oper} {o : Oper} {a : Act} {Q : Exit → Act → World → Prop} {lo : Nat} {W : World} {ml p : List Hd} {v : Value} {pr : Option Addr} {cr : Nat}
    (hg : o.guard = none) (s x : Operand) (hop : o.op = Op.call { callee := Callee.builtin Builtin.append, args := #[s, x], argTypes := #[44, 44] })
    (hG : GrowH lo ml W v) (hp : HeadsAt W pr p) (hs : a.eval s = v) (hx : a.eval x = .slice pr p.length cr) (hb : ml.length + p.length ≤ 1000000)
    (hK : ∀ r a' c' W', Hid (r = ml ++ p) → W.grownBy W' v.ownBlock → GrowH lo r W' (.slice a' r.length c') → Hid (∀ g, (Value.slice a' r.length c').ownBlock = some g → v.ownBlock = some g ∨ g = W.heap.size) → wpList Tryz.prog ops Q rest (a.put o.dst (.slice a' r.length c')) W') :
    wpList Tryz.prog ops Q (o :: rest) a W := by
  obtain ⟨i0, hi, hz0, hz1, hz2⟩ := info_parts infoHead
  by_cases h0 : 0 < p.length
  · obtain ⟨b, off, rfl, hlt, _⟩ := hp 0 h0
    refine wpList_append_lies W hg s x 44 hop lo 115 i0 _ 2 24 Tryz.underlying44 hi hz0 hz1 hz2 rfl (by omega) v ml.length (flatH ml) hs hG.own ⟨b, off, none⟩ p.length cr (flatH p) hx (flatH_len p) (news_heads hp) (flatH_one p) h0 (by unfold maxLen; omega) (by omega) hG.le W.heap.size rfl ?_
    intro g cap w' hown hgrow hat _
    rw [← flatH_app, ← List.length_append] at hown
    rw [← List.length_append]
    exact hK _ _ _ _ rfl hgrow ⟨hown, Nat.le_trans hG.le hgrow.size⟩ fun x hx => by cases hx; exact hat
  · obtain rfl : p = [] := List.eq_nil_of_length_eq_zero (by omega)
    obtain ⟨av, cv, rfl, hcv, _⟩ := hG.form
    refine wpList_append_void W hg s x 44 hop 115 i0 Tryz.underlying44 hi av pr ml.length cv cr hcv hs hx ?_
    exact hK ml av cv W (by show _ = _; rw [List.append_nil]) ⟨rfl, rfl, rfl, Nat.le_refl _, fun _ _ _ => rfl⟩ hG fun x hx => .inl hx

set_option maxRecDepth 100000 in
set_option maxHeartbeats 2000000 in
theorem cloneH_any (a : Option Addr) (cap : Nat) (hs : List Hd) (w : World) (hp : HeadsAt w a hs) (hl : hs.length ≤ 1000000) :
    Calls Tryz.prog 144 #[.slice a hs.length cap] w fun e w' => (∃ v, e = .returned v ∧ GrowH w.heap.size hs w' v) ∧ Below w.heap.size w w' := by
  have HP := Lib.hid hp
  clear hp
  have heq := fun w => Lib.run_eql_slice_nil (P := Tryz.prog) w 44 115 a hs.length cap 0 0 Tryz.underlying44
  have HM := Lib.hid (GrowH.made w)
  have A1 : Hid (∀ o, Below w.heap.size w (w.alloc o)) := fun o => (Below.refl _ _).alloc (Nat.le_refl _) _
  cases a with
  | none =>
    have h0 : hs.length = 0 := by
      by_cases h : 0 < hs.length
      · obtain ⟨b, off, e, _⟩ := HP.out 0 h
        cases e
      · omega
    obtain rfl : hs = [] := List.eq_nil_of_length_eq_zero h0
    clear h0
    rw [show ([] : List Hd).length = 0 from rfl] at *
    go_enter Tryz.func144, Tryz.ntmps144
    go_wp2
    go_ret
    exact ⟨⟨_, rfl, GrowH.nil (Nat.le_refl _)⟩, Below.refl _ _⟩
  | some ad =>
    go_enter Tryz.func144, Tryz.ntmps144
    go_wp2_with (at_builtin; refine wpList_moreH (by rfl) _ _ (by rfl) HM.out (HP.out.below (A1.out _)) (by rfl) (by rfl) (by simp; omega) ?_; intro r a2 c2 W2 hr hgrow hG2 hat2; have R := Lib.hid hr; have HGR := Lib.hid hgrow; have HG2 := Lib.hid hG2; clear hr hgrow hG2 hat2)
    go_ret
    refine ⟨⟨_, rfl, ?_⟩, (A1.out _).grown HGR.out (by simp) fun k hk => HM.out.block k hk⟩
    have h := R.out
    rw [List.nil_append] at h
    rw [← h]
    exact HG2.out
end Go.Proofs.YtdfadpejddhbkaaGreat
