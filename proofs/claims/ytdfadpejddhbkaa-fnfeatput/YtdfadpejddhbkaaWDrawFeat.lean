/- Proved here: the draw of a thing is a thing of at most six points and three tags, in memory of its own, and turns nothing but the reader's place; codes of at most 2,000 bytes. -/
import Derived.Test.YtdfadpejddhbkaaWDrawF
import Derived.Test.YtdfadpejddhbkaaWDrawBent
import Derived.Test.YtdfadpejddhbkaaWL2Put
namespace Go.Proofs.Ytdfadpejddhbkaa
set_option linter.unusedVariables false
open Go.ChangeShapes Go.WideShapes Go.ChangeAt Go.RowKit Go.Deep

theorem putS_len' (t : Tg) (us : List Tg) : (putS us t).length ≤ us.length + 1 := by
  induction us with
  | nil => simp [putS]
  | cons u us ih =>
    unfold putS
    split
    · have := List.length_filter_le (fun s => decide (kl s ≠ kl t)) (u :: us)
      rw [List.length_cons]
      omega
    · simp only [List.length_cons]
      omega

theorem putS_lens {ts : List Tg} {key val : ByteArray} {m : Int} (hl : TagsLen ts m) (hk : (key.size : Int) ≤ m) (hv : (val.size : Int) ≤ m) : TagsLen (putS ts (key, val)) m := by
  intro i hi
  have hm := List.getElem_mem hi
  rcases (mem_putS _ _ _).1 hm with e | ⟨h, _⟩
  · simp [tk, tv, hi, e]
    exact ⟨hk, hv⟩
  · obtain ⟨j, hj, e⟩ := List.getElem_of_mem h
    have := hl j hj
    simp [tk, tv, hi, hj] at this ⊢
    rw [← e]
    exact this

theorem PtsAt.kept {w w' : World} {r : Option Nat} {a : Option Addr} {ps : List (Int × Int)} (h : PtsAt w a ps) (hg : w.grownBy w' r) (hn : ∀ x, blk a = some x → r ≠ some x) : PtsAt w' a ps := by
  intro i hi
  obtain ⟨b, off, rfl, hlt, h1, h2⟩ := h i hi
  have hne : some b ≠ r := fun e => hn b rfl e.symm
  exact ⟨b, off, rfl, Nat.lt_of_lt_of_le hlt hg.size, (hg.cell_far ⟨b, _, none⟩ hlt hne).trans h1, (hg.cell_far ⟨b, _, none⟩ hlt hne).trans h2⟩

theorem grown_low {w w' : World} (r : Option Nat) (h : Below w.heap.size w w') : w.grownBy w' r := ⟨h.os, h.tape, h.output, h.size, fun k hk _ => h.block k hk⟩

theorem tags_of_own {w : World} {base : Nat} {e : TypeId} {ta : Option Addr} {tc : Nat} {ts : List Tg} (h : w.ownsRow base e 2 (.slice ta ts.length tc) ts.length (flatT ts)) : TagsAt w ta ts := by
  obtain ⟨a', c', e', h', _⟩ := owned_tags h rfl
  obtain ⟨rfl, rfl⟩ : ta = a' ∧ tc = c' := by simpa using e'
  exact h'

/-- what drawing a thing leaves -/
def FeatDrawn (w : World) (R : Nat) (a : Option Addr) (len cap : Nat) (p : Int) (m1 m2 : Nat) (q : Int) (e : Ending) (w' : World) : Prop :=
  ∃ (id : ByteArray) (k : Int) (pa : Option Addr) (pc : Nat) (ps : List (Int × Int)) (ta : Option Addr) (tc : Nat) (ts : List Tg) (p' : Int), e = .returned (.agg #[.string id, .int .i64 k, .slice pa ps.length pc, .slice ta ts.length tc]) ∧ id.size ≤ 8 ∧
    PtsAt w' pa ps ∧ (∀ x, blk pa = some x → w.heap.size ≤ x ∧ x < w'.heap.size) ∧ ps.length ≤ m1 ∧ w'.ownsRow w.heap.size 52 2 (.slice ta ts.length tc) ts.length (flatT ts) ∧ ts.length ≤ m2 ∧ TagsLen ts 8 ∧ Rd w' R a len cap p' ∧ p' ≤ p + q ∧ w.grownBy w' (some R) ∧ (∀ x, blk pa = some x → (Value.slice ta ts.length tc).ownBlock ≠ some x)

/-- a thing that is being drawn: its box, what it answers into, its points and tags, the reader -/
structure FeatLay (w : World) (R : Nat) (a : Option Addr) (len cap : Nat) (d : Nat) (id : ByteArray) (k : Int) (g c2 : Nat) (ps : List (Int × Int)) (v : Value) (ts : List Tg) (q : Int) (wr : World) : Prop where
  c0 : wr.cell? ⟨d, 0, none⟩ = some (.string id)
  c1 : wr.cell? ⟨d, 1, none⟩ = some (.int .i64 k)
  c2 : wr.cell? ⟨d, 2, none⟩ = some (.slice (some ⟨g, 0, none⟩) ps.length c2)
  c3 : wr.cell? ⟨d, 3, none⟩ = some v
  soft : ∀ i, wr.frozen? ⟨d, i, none⟩ = false
  r0 : wr.cell? ⟨w.heap.size, 0, none⟩ = some (.string ⟨#[]⟩)
  r1 : wr.cell? ⟨w.heap.size, 1, none⟩ = some (.int .i64 0)
  r2 : wr.cell? ⟨w.heap.size, 2, none⟩ = some (.slice none 0 0)
  r3 : wr.cell? ⟨w.heap.size, 3, none⟩ = some (.slice none 0 0)
  rs : ∀ i, wr.frozen? ⟨w.heap.size, i, none⟩ = false
  own : wr.ownsRow (d + 1) 52 2 v ts.length (flatT ts)
  pts : PtsAt wr (some ⟨g, 0, none⟩) ps
  rd : Rd wr R a len cap q
  grown : w.grownBy wr (some R)

/-- the reader goes on, or memory is made -/
theorem FeatLay.read {w wr w' : World} {R : Nat} {a : Option Addr} {len cap d : Nat} {id : ByteArray} {k : Int} {g c2 : Nat} {ps : List (Int × Int)} {v : Value} {ts : List Tg} {q q' : Int} (h : FeatLay w R a len cap d id k g c2 ps v ts q wr) (hg : wr.grownBy w' (some R)) (hr : Rd w' R a len cap q') (hRw : R < w.heap.size) (hd : w.heap.size < d) (hgd : R ≠ g) : FeatLay w R a len cap d id k g c2 ps v ts q' w' := by
  have hdl : d < wr.heap.size := World.block_lt_of_cell? _ _ h.c0
  have hwl : w.heap.size < wr.heap.size := World.block_lt_of_cell? _ _ h.r0
  have nd : some d ≠ some R := by simp; omega
  have nw : some w.heap.size ≠ some R := by simp; omega
  refine ⟨(hg.cell_far _ hdl nd).trans h.c0, (hg.cell_far _ hdl nd).trans h.c1, (hg.cell_far _ hdl nd).trans h.c2, (hg.cell_far _ hdl nd).trans h.c3, fun i => (hg.frozen_far _ hdl nd).trans (h.soft i), (hg.cell_far _ hwl nw).trans h.r0, (hg.cell_far _ hwl nw).trans h.r1, (hg.cell_far _ hwl nw).trans h.r2, (hg.cell_far _ hwl nw).trans h.r3, fun i => (hg.frozen_far _ hwl nw).trans (h.rs i), World.ownsRow.kept h.own hg (.inr fun e => by have := (h.own.lt R e).1; omega), h.pts.kept hg (fun x hx e => by simp [blk] at hx e; omega), hr, h.grown.trans hg⟩

theorem FeatLay.lay {w wr w' : World} {R : Nat} {a : Option Addr} {len cap d : Nat} {id : ByteArray} {k : Int} {g c2 : Nat} {ps : List (Int × Int)} {v : Value} {ts : List Tg} {q : Int} (h : FeatLay w R a len cap d id k g c2 ps v ts q wr) (hb : Below wr.heap.size wr w') (hRw : R < w.heap.size) (hd : w.heap.size < d) (hgd : R ≠ g) : FeatLay w R a len cap d id k g c2 ps v ts q w' :=
  h.read (grown_low _ hb) (h.rd.kept (r := none) (grown_low _ hb) (by simp) (fun i hi => by obtain ⟨b, off, c, e, _⟩ := h.rd.bytes i hi; rw [e]; simp [blk])) hRw hd hgd

/-- other tags are put into the box -/
theorem FeatLay.put {w wr : World} {R : Nat} {a : Option Addr} {len cap d : Nat} {id : ByteArray} {k : Int} {g c2 : Nat} {ps : List (Int × Int)} {v v' : Value} {ts us : List Tg} {q : Int} (h : FeatLay w R a len cap d id k g c2 ps v ts q wr) (ho : wr.ownsRow (d + 1) 52 2 v' us.length (flatT us)) (hRw : R < w.heap.size) (hd : w.heap.size < d) (hgd : g ≠ d) (hcd : ∀ i, i < len → blk a ≠ some d) : FeatLay w R a len cap d id k g c2 ps v' us q (wr.setCell ⟨d, 3, none⟩ v') := by
  have hg : wr.grownBy (wr.setCell ⟨d, 3, none⟩ v') (some d) := grown_set (World.grownBy.refl _ _) _ _
  refine ⟨(World.cell?_setCell_other _ _ _ _ (by simp)).trans h.c0, (World.cell?_setCell_other _ _ _ _ (by simp)).trans h.c1, (World.cell?_setCell_other _ _ _ _ (by simp)).trans h.c2, World.cell?_setCell_same _ _ _ h.c3, fun i => by rw [World.frozen?_setCell]; exact h.soft i, (World.cell?_setCell_other _ _ _ _ (by simp <;> omega)).trans h.r0, (World.cell?_setCell_other _ _ _ _ (by simp <;> omega)).trans h.r1, (World.cell?_setCell_other _ _ _ _ (by simp <;> omega)).trans h.r2, (World.cell?_setCell_other _ _ _ _ (by simp <;> omega)).trans h.r3, fun i => by rw [World.frozen?_setCell]; exact h.rs i, World.ownsRow.kept ho hg (.inr fun e => by have := (ho.lt d e).1; omega), h.pts.kept hg (fun x hx e => by simp [blk] at hx e; omega), h.rd.kept hg (by simp; omega) hcd, grown_set_new h.grown (by omega)⟩

/-- what is answered -/
theorem FeatLay.fin {w wr : World} {R : Nat} {a : Option Addr} {len cap d : Nat} {id : ByteArray} {k : Int} {g c2 : Nat} {ps : List (Int × Int)} {ta : Option Addr} {tc : Nat} {ts : List Tg} {p q : Int} {x0 x1 x2 x3 : Value} (h : FeatLay w R a len cap d id k g c2 ps (.slice ta ts.length tc) ts q wr) (hid : id.size ≤ 8) (hps : ps.length ≤ 6) (hts : ts.length ≤ 3) (htl : TagsLen ts 8) (hq : q ≤ p + 60) (hRw : R < w.heap.size) (hd : w.heap.size < d) (hgw : w.heap.size < g ∧ g < d) (hcd : ∀ i, i < len → blk a ≠ some w.heap.size) :
    FeatDrawn w R a len cap p 6 3 60 (.returned (.agg #[.string id, .int .i64 k, .slice (some ⟨g, 0, none⟩) ps.length c2, .slice ta ts.length tc])) ((((wr.setCell ⟨w.heap.size, 0, none⟩ x0).setCell ⟨w.heap.size, 1, none⟩ x1).setCell ⟨w.heap.size, 2, none⟩ x2).setCell ⟨w.heap.size, 3, none⟩ x3) := by
  have hg : wr.grownBy ((((wr.setCell ⟨w.heap.size, 0, none⟩ x0).setCell ⟨w.heap.size, 1, none⟩ x1).setCell ⟨w.heap.size, 2, none⟩ x2).setCell ⟨w.heap.size, 3, none⟩ x3) (some w.heap.size) := grown_set (grown_set (grown_set (grown_set (World.grownBy.refl _ _) _ _) _ _) _ _) _ _
  have hdl : d < wr.heap.size := World.block_lt_of_cell? _ _ h.c0
  refine ⟨id, k, _, _, ps, ta, tc, ts, q, rfl, hid, h.pts.kept hg (fun x hx e => by simp [blk] at hx e; omega), fun x hx => ?_, hps, owns_base (World.ownsRow.kept h.own hg (.inr fun e => by have := (h.own.lt _ e).1; omega)) (by omega), hts, htl, h.rd.kept hg (by simp; omega) hcd, hq, grown_set_new (grown_set_new (grown_set_new (grown_set_new h.grown (Nat.le_refl _)) (Nat.le_refl _)) (Nat.le_refl _)) (Nat.le_refl _), fun x hx e => by have := (h.own.lt x e).1; simp [blk] at hx; omega⟩
  have := hg.size
  simp [blk] at hx
  omega

set_option maxRecDepth 100000 in
set_option maxHeartbeats 8000000 in
theorem l2Feat_any (R : Nat) (a : Option Addr) (len cap : Nat) (p : Int) (id : ByteArray) (w : World) (h : Rd w R a len cap p) (hp : p ≤ 70000) (hl : len ≤ 2000) (hid : id.size ≤ 8) :
    Calls Try.prog 68 #[.pointer (some ⟨R, 0, none⟩), .string id] w (FeatDrawn w R a len cap p 6 3 60) := by
  have HR := Lib.hid h
  have hRlt := h.lt
  have hcode : Hid (∀ c, w.heap.size ≤ c → ∀ i, i < len → blk a ≠ some c) := fun c hc => h.codeLt hc
  clear h
  go_enter Try.func68, Try.ntmps68
  go_wp2_with fail
  refine (l1Shape_any _ _ _ _ _ _ (HR.out.alloc _) (by omega) hl).mono ?_
  rintro e w1 ⟨k, g, c2, ps, p1, rfl, hown, ⟨hp0, hp6⟩, ⟨hc1, hc2⟩, hr, hp1, hg⟩
  have nw : some w.heap.size ≠ some R := by simp; omega
  obtain ⟨g0, g1, g2, g3⟩ := Box4.new w (.string ⟨#[]⟩) (.int .i64 0) (.slice none 0 0) (.slice none 0 0) 43
  obtain ⟨a3, c3, e3, hpt, _, hrg⟩ := owned_pts hown rfl
  obtain ⟨rfl, rfl⟩ : some ⟨g, 0, none⟩ = a3 ∧ c2 = c3 := by simpa using e3
  have hgl := hrg g (by simp [blk])
  have z1 : w.heap.size < w1.heap.size := by have := hg.size; simp at this; omega
  simp only [World.size_alloc] at hgl
  have L0 : Hid (FeatLay w R a len cap w1.heap.size id k g c2 ps (.slice none 0 0) [] p1 (w1.alloc (.cells #[.string id, .int .i64 k, .slice (some ⟨g, 0, none⟩) ps.length c2, .slice none 0 0] 43))) := by
    have hb : Below w1.heap.size w1 (w1.alloc (.cells #[.string id, .int .i64 k, .slice (some ⟨g, 0, none⟩) ps.length c2, .slice none 0 0] 43)) := (Below.refl _ _).alloc (Nat.le_refl _) _
    obtain ⟨q0, q1, q2, q3⟩ := Box4.new w1 (.string id) (.int .i64 k) (.slice (some ⟨g, 0, none⟩) ps.length c2) (.slice none 0 0) 43
    refine ⟨q0, q1, q2, q3, fun i => by simp [go_sem], cell_later hb ((hg.cell_far _ (by simp) nw).trans g0), cell_later hb ((hg.cell_far _ (by simp) nw).trans g1), cell_later hb ((hg.cell_far _ (by simp) nw).trans g2), cell_later hb ((hg.cell_far _ (by simp) nw).trans g3), fun i => ?_, World.ownsRow_nil _ _ _ _, hpt.below hb, hr.alloc _, ((World.grownBy_alloc w _ _).trans hg).trans (grown_low _ hb)⟩
    rw [hb.frozen (p := ⟨w.heap.size, i, none⟩) z1, hg.frozen_far ⟨w.heap.size, i, none⟩ (by simp) nw]
    simp [go_sem]
  clear hown hr hg g0 g1 g2 g3 e3 hpt hrg
  go_upto_region 2 with (fail)
  generalize (w1.alloc (.cells #[.string id, .int .i64 k, .slice (some ⟨g, 0, none⟩) ps.length c2, .slice none 0 0] 43)) = W at *
  generalize hd : w1.heap.size = d at *
  have gR : R ≠ g := by omega
  have gd : g ≠ d := by omega
  have CD := Lib.hid (hcode.out d (by omega))
  go_wp2_with fail
  refine (pick_any _ _ _ _ _ _ _ L0.out.rd (by omega) hl (by omega) (by omega)).mono ?_
  rintro e w2 ⟨x, rfl, hx0, hx1, hr, hg, hs⟩
  have L1 := Lib.hid (L0.out.read hg hr hRlt z1 gR)
  obtain ⟨X, rfl⟩ : ∃ X : Nat, x = (X : Int) := ⟨x.toNat, by omega⟩
  clear hr hg hs L0
  go_wp2
  go_loopw [6] (fun i wr => ∃ (m : Nat) (v : Value) (ts : List Tg) (q : Int), m ≤ 3 ∧ i = .int .i64 m ∧ ts.length + m ≤ 3 ∧ TagsLen ts 8 ∧ q ≤ p + 50 - 2 * (m : Int) ∧ FeatLay w R a len cap d id k g c2 ps v ts q wr) (fun i _ => (intOf i).toNat)
  case atStart => exact ⟨X, _, [], _, by omega, rfl, by simp; omega, fun i hi => absurd hi (Nat.not_lt_zero _), by omega, L1.out⟩
  case round =>
    clear L1
    obtain ⟨m, v, ts, q, hm, rfl, hts, htl, hq, hlay⟩ := hrel
    have L := Lib.hid (hlay.lay (Below.refl _ _).drew hRlt z1 gR)
    have L' := Lib.hid hlay
    have TL := Lib.hid htl
    clear hlay htl
    by_cases h0 : 0 < m
    · obtain ⟨ta, tc, rfl, htag, _, _⟩ := owned_tags L'.out.own rfl
      clear htag
      have c3 := L.out.c3
      have f3 := L.out.soft 3
      have hdl : d < wr.heap.size := World.block_lt_of_cell? _ _ L'.out.c0
      go_upto_region 5 with (fail)
      go_region_with (first
        | (go_at_call 64; refine (l2Key_any R a len cap _ _ L.out.rd (by omega) hl).mono ?_; rintro e wk ⟨key, rfl, hks, hrk, hgk⟩; have LK := Lib.hid (L.out.read hgk hrk hRlt z1 gR); have c3k := LK.out.c3; have f3k := LK.out.soft 3; clear hrk hgk)
        | (go_at_call 75; refine (l2Val_any R a len cap _ _ LK.out.rd (by omega) hl).mono ?_; rintro e wv ⟨val, rfl, hvs, hrv, hgv⟩; have LV := Lib.hid (LK.out.read hgv hrv hRlt z1 gR); have c3v := LV.out.c3; have f3v := LV.out.soft 3; have TV : Hid (TagsAt wv ta ts) := (tags_of_own LV.out.own); clear hrv hgv)
        | (go_at_call 57; refine (l2Put_any ta tc ts key val _ TV.out (by omega)).mono ?_; rintro e wp ⟨v2, rfl, hown2, hbp⟩; have LP := Lib.hid (LV.out.lay hbp hRlt z1 gR); have c3p := LP.out.c3; have f3p := LP.out.soft 3; have zv : d < wv.heap.size := World.block_lt_of_cell? _ _ c3v; have OP : Hid (wp.ownsRow (d + 1) 52 2 v2 (putS ts (key, val)).length (flatT (putS ts (key, val)))) := owns_base hown2 (by omega); have LF := Lib.hid (LP.out.put OP.out hRlt z1 gd CD.out); obtain ⟨t2, tc2, rfl, _, _, _⟩ := owned_tags hown2 rfl; clear hown2 hbp))
      all_goals
        have hpl := putS_len' (key, val) ts
        have TP := Lib.hid (putS_lens TL.out (key := key) (val := val) (by omega) (by omega))
        obtain ⟨n, rfl⟩ : ∃ n, m = n + 1 := ⟨m - 1, by omega⟩
        clear c3 f3 c3k f3k c3v f3v c3p f3p
        go_wp2
        go_roundw
        case rel => exact ⟨n, _, putS ts (key, val), q + 1 + 1, by omega, congrArg (Value.int .i64) (by omega), by omega, TP.out, by omega, LF.out⟩
        case measure => simp [intOf]
    · obtain rfl : m = 0 := by omega
      obtain ⟨ta, tc, rfl, _, _, _⟩ := owned_tags L'.out.own rfl
      have c0 := L'.out.c0
      have c1 := L'.out.c1
      have c2' := L'.out.c2
      have c3 := L'.out.c3
      have r0 := L'.out.r0
      have r1 := L'.out.r1
      have r2 := L'.out.r2
      have r3 := L'.out.r3
      have s0 := L'.out.rs 0
      have s1 := L'.out.rs 1
      have s2 := L'.out.rs 2
      have s3 := L'.out.rs 3
      go_wp2
      refine bodyPost_ret (v := .agg #[.string id, .int .i64 k, .slice (some ⟨g, 0, none⟩) ps.length c2, .slice ta ts.length tc]) (by simp [results, Try.results68, go_sem, r0, r1, r2, r3]) rfl ?_
      exact L'.out.fin hid hp6 (by omega) TL.out (by omega) hRlt z1 (by omega) (hcode.out _ (Nat.le_refl _))
end Go.Proofs.Ytdfadpejddhbkaa
