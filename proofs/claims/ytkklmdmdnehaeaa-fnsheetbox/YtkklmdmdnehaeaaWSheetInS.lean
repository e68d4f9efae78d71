/- Proved here: the model tells the names of the things that touch a box; lists of at most 1,048,576 things, points and tags, texts of at most 1,048,576 bytes. -/
import Derived.Test.YtkklmdmdnehaeaaWTouch
namespace Go.Proofs.Ytkklmdmdnehaeaa
set_option linter.unusedVariables false
open Go.ChangeShapes Go.WideShapes Go.ChangeAt Go.RowKit Go.Deep

theorem ownsRow_low {w w' : World} {base : Nat} {e : TypeId} {size : Nat} {v : Value} {k : Nat} {xs : List Value} (h : w.ownsRow base e size v k xs) (hb : Below w.heap.size w w') : w'.ownsRow base e size v k xs := by
  refine h.kept (row := none) ⟨hb.os, hb.tape, hb.output, hb.size, fun k hk _ => hb.block k hk⟩ ?_
  by_cases e : v.ownBlock = none
  · exact .inl e
  · exact .inr e

theorem ownsRow_lo {w : World} {base base' : Nat} {e : TypeId} {size : Nat} {v : Value} {k : Nat} {xs : List Value} (h : w.ownsRow base e size v k xs) (hb : base' ≤ base) : w.ownsRow base' e size v k xs := by
  obtain ⟨h1, h2 | ⟨g, cap, cur, h3, h4, h5⟩⟩ := h
  · exact ⟨h1, .inl h2⟩
  · exact ⟨h1, .inr ⟨g, cap, cur, h3, Nat.le_trans hb h4, h5⟩⟩

/-- names in a row of their own -/
def Names (w : World) (lo : Nat) (v : Value) (xs : List ByteArray) : Prop := w.ownsRow lo 9 1 v xs.length (xs.map Value.string)

set_option maxRecDepth 100000 in
set_option maxHeartbeats 4000000 in
theorem specSheetIn_any (a : Option Addr) (cap : Nat) (fs : List Ft) (ax ay bx bY : Int) (w : World) (hp : FeatsAt w a fs) (hl : fs.length ≤ 1048576) (ht : FeatsLen fs 1048576) :
    Calls Try.prog 9 #[.slice a fs.length cap, .agg #[.int .i64 ax, .int .i64 ay], .agg #[.int .i64 bx, .int .i64 bY]] w fun e w' => (∃ v, e = .returned v ∧ Names w' w.heap.size v (inAll ax ay bx bY fs)) ∧ Below w.heap.size w w' := by
  have HP := Lib.hid hp
  have HL := Lib.hid ht
  obtain ⟨i0, hi, hz0, hz1, hz2⟩ := info_parts infoStr
  have HI := Lib.hid hi
  have HZ0 := Lib.hid hz0
  have HZ1 := Lib.hid hz1
  have HZ2 := Lib.hid hz2
  clear hi hz0 hz1 hz2 hp ht
  go_enter Try.func9, Try.ntmps9
  go_wp2
  go_loopw [7, 8] (fun s i wr => ∃ (j : Nat) (v : Value), j ≤ fs.length ∧ i = .int .i64 j ∧ v = s ∧ (0 < j → sheetOk fs = true) ∧ Names wr (w.heap.size + 2) v (inN ax ay bx bY fs j) ∧ (wr.cell? ⟨w.heap.size, 0, none⟩ = some (.int .i64 ax) ∧ wr.cell? ⟨w.heap.size, 1, none⟩ = some (.int .i64 ay) ∧ wr.cell? ⟨w.heap.size + 1, 0, none⟩ = some (.int .i64 bx) ∧ wr.cell? ⟨w.heap.size + 1, 1, none⟩ = some (.int .i64 bY)) ∧ Below w.heap.size w wr) (fun _ i _ => fs.length - (intOf i).toNat)
  case atStart =>
    refine ⟨0, _, Nat.zero_le _, rfl, rfl, fun h => absurd h (Nat.not_lt_zero _), ?_, ⟨by simp [go_sem], by simp [go_sem], by simp [go_sem], by simp [go_sem]⟩, (((Below.refl _ _).alloc (Nat.le_refl _) _).alloc (by simp) _).alloc (by simp; omega) _⟩
    have hro := World.ownsRow_made ((w.alloc (.cells #[.int .i64 ax, .int .i64 ay] 25)).alloc (.cells #[.int .i64 bx, .int .i64 bY] 25)) #[] 0 (base := w.heap.size + 2) (by simp) (by unfold maxLen; omega) (e := 9) (size := 1) (by simp)
    simpa [Names, inN] using hro
  case round =>
    obtain ⟨j, v, hj, rfl, rfl, hjo, hN, ⟨c0, c1, d0, d1⟩, hbel⟩ := hrel
    have HN := Lib.hid hN
    have HB := Lib.hid hbel
    have hsz := hbel.size
    have HV : Hid (∀ x, v.ownBlock = some x → w.heap.size + 2 ≤ x) := fun x hx => (hN.lt x hx).1
    have z0 : w.heap.size + 1 < wr.heap.size := World.block_lt_of_cell? _ _ d0
    clear hN hbel
    by_cases hlt : j < fs.length
    · have CC : Hid (∀ u, Below wr.heap.size wr u → (u.cell? ⟨w.heap.size, 0, none⟩ = some (.int .i64 ax) ∧ u.cell? ⟨w.heap.size, 1, none⟩ = some (.int .i64 ay) ∧ u.cell? ⟨w.heap.size + 1, 0, none⟩ = some (.int .i64 bx) ∧ u.cell? ⟨w.heap.size + 1, 1, none⟩ = some (.int .i64 bY))) := fun u hu => ⟨cell_later hu c0, cell_later hu c1, cell_later hu d0, cell_later hu d1⟩
      clear c0 c1 d0 d1
      go_wp2_with fail
      refine (specSheetOk_any _ _ _ _ (HP.out.below HB.out) hl HL.out).mono ?_
      rintro e w1 ⟨rfl, hb1⟩
      have B1 := Lib.hid hb1
      by_cases hok : sheetOk fs = true
      · obtain ⟨b, off, pa, pc, ta, tc, rfl, hb, hc1, hc2, hc3, hc4, hpp, htt⟩ := HP.out j hlt
        have B01 : Hid (Below w.heap.size w w1) := HB.out.trans (hb1.mono hsz)
        rw [← B01.out.cell (p := ⟨b, _, none⟩) hb] at hc1 hc2 hc3 hc4
        obtain ⟨l1, l2, l3, _⟩ := HL.out j hlt
        have D1 := Lib.hid (hpp.below B01.out)
        clear hb1 hpp htt
        rw [hok]
        go_wp2_with fail
        refine (specShapeBox_any _ _ _ _ _ D1.out (by omega)).mono ?_
        rintro e w2 ⟨rfl, hb2⟩
        have B2 : Hid (Below wr.heap.size wr w2) := B1.out.trans (hb2.mono B1.out.size)
        have HN2 : Hid (Names w2 (w.heap.size + 2) v (inN ax ay bx bY fs j)) := ownsRow_low HN.out B2.out
        have B02 : Hid (Below w.heap.size w w2) := HB.out.trans (B2.out.mono hsz)
        obtain ⟨c0, c1, d0, d1⟩ := CC.out w2 B2.out
        replace hc1 := cell_later hb2 hc1
        replace hc2 := cell_later hb2 hc2
        replace hc3 := cell_later hb2 hc3
        replace hc4 := cell_later hb2 hc4
        have z2 : w.heap.size + 1 < w2.heap.size := World.block_lt_of_cell? _ _ d0
        have zb : b < w2.heap.size := World.block_lt_of_cell? _ _ hc1
        clear hb2
        have AA : ∀ o o', Below w2.heap.size w2 ((w2.alloc o).alloc o') := fun o o' => ((Below.refl _ _).alloc (Nat.le_refl _) _).alloc (by simp) _
        have e0 : ∀ o o', ((w2.alloc o).alloc o').cell? ⟨w.heap.size, 0, none⟩ = some (.int .i64 ax) := fun o o' => cell_later (AA o o') c0
        have e1 : ∀ o o', ((w2.alloc o).alloc o').cell? ⟨w.heap.size, 1, none⟩ = some (.int .i64 ay) := fun o o' => cell_later (AA o o') c1
        have f0 : ∀ o o', ((w2.alloc o).alloc o').cell? ⟨w.heap.size + 1, 0, none⟩ = some (.int .i64 bx) := fun o o' => cell_later (AA o o') d0
        have f1 : ∀ o o', ((w2.alloc o).alloc o').cell? ⟨w.heap.size + 1, 1, none⟩ = some (.int .i64 bY) := fun o o' => cell_later (AA o o') d1
        have g0 : ∀ o o', ((w2.alloc o).alloc o').cell? ⟨b, off + j * 4, none⟩ = some (.string (fid fs j)) := fun o o' => cell_later (AA o o') hc1
        have HT : Hid (touches ax ay bx bY (fkd fs j) (fps fs j) = (decide (boxLX (fkd fs j) (fps fs j) ≤ bx) && (decide (boxLY (fkd fs j) (fps fs j) ≤ bY) && (decide (ax ≤ boxHX (fkd fs j) (fps fs j)) && decide (ay ≤ boxHY (fkd fs j) (fps fs j)))))) := rfl
        have NO : Hid (touches ax ay bx bY (fkd fs j) (fps fs j) = false → inN ax ay bx bY fs (j + 1) = inN ax ay bx bY fs j) := fun h => by simp [inN, h]
        have YES : Hid (touches ax ay bx bY (fkd fs j) (fps fs j) = true → inN ax ay bx bY fs (j + 1) = inN ax ay bx bY fs j ++ [fid fs j]) := fun h => by simp [inN, h]
        have hln := inN_len ax ay bx bY fs j
        have HA := Lib.hid AA
        have HOK := Lib.hid hok
        clear AA c0 c1 d0 d1 hc1 hc2 hc3 hc4 hok
        generalize boxLX (fkd fs j) (fps fs j) = lx at *
        generalize boxLY (fkd fs j) (fps fs j) = ly at *
        generalize boxHX (fkd fs j) (fps fs j) = hx at *
        generalize boxHY (fkd fs j) (fps fs j) = hy at *
        by_cases h1 : lx ≤ bx
        · by_cases h2 : ax ≤ hx
          · by_cases h3 : ly ≤ bY
            · by_cases h4 : ay ≤ hy
              · have HY := Lib.hid (YES.out (by rw [HT.out]; simp [h1, h2, h3, h4]))
                go_wp2_with (at_builtin; refine wpList_append_lies _ (by rfl) _ _ _ (by rfl) (w.heap.size + 2) 9 i0 _ 1 16 Try.underlying28 HI.out HZ0.out HZ1.out HZ2.out rfl (by omega) v (inN ax ay bx bY fs j).length ((inN ax ay bx bY fs j).map Value.string) (by rfl) ((ownsRow_low HN2.out (HA.out _ _)).alloc _) ⟨w2.heap.size + 1 + 1, 0, none⟩ 1 1 [.string (fid fs j)] (by rfl) (by rfl) (by have := World.news_of_block (cs := #[.string (fid fs j)]) (t := 9) (fr := (0, 0)) (heap_alloc_new ((w2.alloc (.cells #[.int .i64 lx, .int .i64 ly] 25)).alloc (.cells #[.int .i64 hx, .int .i64 hy] 25)) _); simpa using this) (by simp [Value.oneCell']) (by omega) (by unfold maxLen; omega) (by omega) (by simp; omega) (w2.heap.size + 1 + 1 + 1) (by simp) ?_; intro gg cap' wa hown1 hgrow hat hlt')
                have HC : Hid (∀ (p o : Nat) (u : Value), p < w2.heap.size → p < w.heap.size + 2 → (∀ o1 o2, ((w2.alloc o1).alloc o2).cell? ⟨p, o, none⟩ = some u) → wa.cell? ⟨p, o, none⟩ = some u) := fun p o u h1 h2 h3 => hgrow.cell (cell_later ((Below.refl _ _).alloc (Nat.le_refl _) _) (h3 _ _)) (fun e => by have := HV.out p e.symm; omega)
                have BW : Hid (Below w.heap.size w wa) := ((B02.out.trans ((HA.out _ _).mono B02.out.size)).alloc (by have := B02.out.size; simp; omega) _).grown hgrow (by have := B02.out.size; simp; omega) (fun x hx => by have := HV.out x hx; omega)
                have HO : Hid (Names wa (w.heap.size + 2) (.slice (some ⟨gg, 0, none⟩) ((inN ax ay bx bY fs j).length + 1) cap') (inN ax ay bx bY fs (j + 1))) := by
                  show Names _ _ _ _
                  rw [HY.out]
                  simpa [Names] using hown1
                clear hown1 hgrow hat
                go_roundw
                case rel => exact ⟨j + 1, _, by omega, by go_num, rfl, fun _ => HOK.out, HO.out, ⟨HC.out _ _ _ (by omega) (by omega) e0, HC.out _ _ _ (by omega) (by omega) e1, HC.out _ _ _ (by omega) (by omega) f0, HC.out _ _ _ (by omega) (by omega) f1⟩, BW.out⟩
                case measure => simp [intOf]; omega
              · have HNO := Lib.hid (NO.out (by rw [HT.out]; simp [h1, h2, h3, h4]))
                go_wp2
                go_roundw
                case rel => exact ⟨j + 1, v, by omega, by go_num, rfl, fun _ => HOK.out, by rw [HNO.out]; exact ownsRow_low HN2.out (HA.out _ _), ⟨e0 _ _, e1 _ _, f0 _ _, f1 _ _⟩, B02.out.trans ((HA.out _ _).mono B02.out.size)⟩
                case measure => simp [intOf]; omega
            · have HNO := Lib.hid (NO.out (by rw [HT.out]; simp [h1, h2, h3]))
              go_wp2
              go_roundw
              case rel => exact ⟨j + 1, v, by omega, by go_num, rfl, fun _ => HOK.out, by rw [HNO.out]; exact ownsRow_low HN2.out (HA.out _ _), ⟨e0 _ _, e1 _ _, f0 _ _, f1 _ _⟩, B02.out.trans ((HA.out _ _).mono B02.out.size)⟩
              case measure => simp [intOf]; omega
          · have HNO := Lib.hid (NO.out (by rw [HT.out]; simp [h1, h2]))
            go_wp2
            go_roundw
            case rel => exact ⟨j + 1, v, by omega, by go_num, rfl, fun _ => HOK.out, by rw [HNO.out]; exact ownsRow_low HN2.out (HA.out _ _), ⟨e0 _ _, e1 _ _, f0 _ _, f1 _ _⟩, B02.out.trans ((HA.out _ _).mono B02.out.size)⟩
            case measure => simp [intOf]; omega
        · have HNO := Lib.hid (NO.out (by rw [HT.out]; simp [h1]))
          go_wp2
          go_roundw
          case rel => exact ⟨j + 1, v, by omega, by go_num, rfl, fun _ => HOK.out, by rw [HNO.out]; exact ownsRow_low HN2.out (HA.out _ _), ⟨e0 _ _, e1 _ _, f0 _ _, f1 _ _⟩, B02.out.trans ((HA.out _ _).mono B02.out.size)⟩
          case measure => simp [intOf]; omega
      · have hok' : sheetOk fs = false := by simpa using hok
        have hj0 : j = 0 := by
          by_cases h : 0 < j
          · exact absurd (hjo h) hok
          · omega
        have HE : Hid (inAll ax ay bx bY fs = []) := by show _ = _; simp [inAll, hok']
        have HN2 : Hid (Names w1 (w.heap.size + 2) v []) := by
          have := ownsRow_low HN.out hb1
          rw [hj0] at this
          exact this
        have B02 : Hid (Below w.heap.size w w1) := HB.out.trans (hb1.mono hsz)
        rw [hok']
        clear hok hok' hjo hb1
        go_wp2
        go_ret
        rw [HE.out]
        exact ⟨⟨_, rfl, ownsRow_lo HN2.out (by omega)⟩, B02.out⟩
    · obtain rfl : j = fs.length := by omega
      have hok : sheetOk fs = true := by
        by_cases h : 0 < fs.length
        · exact hjo h
        · have : fs = [] := List.eq_nil_of_length_eq_zero (by omega)
          subst this
          rfl
      have HE : Hid (inAll ax ay bx bY fs = inN ax ay bx bY fs fs.length) := by show _ = _; simp [inAll, hok]
      clear hok hjo
      go_wp2
      go_ret
      rw [HE.out]
      exact ⟨⟨_, rfl, ownsRow_lo HN.out (by omega)⟩, HB.out⟩
end Go.Proofs.Ytkklmdmdnehaeaa
