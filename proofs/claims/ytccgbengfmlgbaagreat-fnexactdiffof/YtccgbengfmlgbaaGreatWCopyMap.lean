/- Proved here: maps.Copy lays each of the one map's things into the other, and turns nothing else; maps of at most 281,474,976,710,656 things together, whose values are things. -/
import Derived.Test.YtccgbengfmlgbaaGreatWByName
import Derived.Test.YtccgbengfmlgbaaGreatWMarkList
import Derived.Lib.SlMapMerge
import Derived.Maps.Ext
import Derived.Maps.RangeWalk
import Derived.Laws.IdiomRangeMap
namespace Go.Proofs.YtccgbengfmlgbaaGreat
set_option linter.unusedVariables false
open Go.ChangeShapes Go.WideShapes Go.ChangeAt Go.RowKit Go.Maps

/-- a value that is a thing's -/
def Agg4 (v : Value) : Prop := ∃ (i : ByteArray) (k : Int) (p : Option Addr) (n c : Nat) (q : Option Addr) (m d : Nat), v = .agg #[.string i, .int .i64 k, .slice p n c, .slice q m d]

theorem key_str {key : Value} {kl : Lit} (h : keyOf Tryz.prog 9 key = some kl) : ∃ x, kl = .string x := by
  obtain ⟨s, _, e, _⟩ := Go.WideMaps.string_of_keyOf Tryz.underlying9 h
  exact ⟨_, e⟩

set_option maxHeartbeats 4000000 in
set_option maxRecDepth 100000 in
theorem mapsCopy_any (bd bs nd ns : Nat) (Dd Ds : DataW Value) (w : World) (hd : w.ownsMap Tryz.prog 9 heldElem bd nd Dd) (hs : w.ownsMap Tryz.prog 9 heldElem bs ns Ds) (hne : bd ≠ bs) (hroom : nd + Maps.size Ds ≤ maxLen)
    (hv : ∀ kl c, (∃ x, kl = Lit.string x) → (∀ zd, Ds.atKey kl zd = .held c) → Agg4 c) :
    Calls Tryz.prog 117 #[.map (some bd), .map (some bs)] w fun e w' => e = .returned (.tuple #[]) ∧ (∃ Dout, w'.ownsMap Tryz.prog 9 heldElem bd (nd + Maps.size Ds) Dout ∧ Merged Dout Dd Ds (fun _ => false)) ∧ w'.ownsMap Tryz.prog 9 heldElem bs ns Ds ∧ w.grownBy w' (some bd) := by
  have hbd := hd.lt
  have hbs := hs.lt
  go_enter Tryz.func117, Tryz.ntmps117
  go_wp2_with (at_range; refine wpList_range_own _ rfl _ 92 rfl 9 34 keyT Tryz.underlying92 heldElem bs ns _ rfl hs ?_; intro w0 hrg0 hg0 hs0)
  go_frame
  go_loopw [8] (fun _ wr => ∃ (left : Lit → Bool) (cnt : Nat) (Dout : DataW Value), wr.ranges Tryz.prog 9 heldElem bs w.heap.size ns Ds left cnt ∧ cnt ≤ Maps.size Ds ∧
      wr.ownsMap Tryz.prog 9 heldElem bd (nd + (Maps.size Ds - cnt)) Dout ∧ Merged Dout Dd Ds left ∧ w.grownBy wr (some bd))
    (fun _ wr => wr.rangeLeft bs w.heap.size)
  case atStart =>
    exact ⟨_, _, Dd, hrg0, Nat.le_refl _, (hd.kept hg0 (by simp)).mono (by omega), merged_start Dd Ds, hg0.but _⟩
  case round =>
    obtain ⟨left, cnt, Dout, hrg, hcs, hout, hM, hgw⟩ := hrel
    go_wp2_with (at_next; refine wpList_next_ranges _ rfl _ rfl 9 keyT heldElem id id (fun key _ _ => ⟨key, rfl⟩) (fun v _ _ => ⟨v, rfl⟩) bs w.heap.size ns _ _ _ rfl hrg ?_ ?_)
    · intro hc0 hl0
      go_wp2
      go_end0
      subst hc0
      have e : left = fun _ => false := funext hl0
      subst e
      exact ⟨rfl, ⟨Dout, by simpa using hout, hM⟩, hrg.owns, hgw⟩
    · intro x c kl yd yp w1 cnt1 hkey hlx hvv hat hrg1 hlt hg1 hs1 hen
      obtain ⟨rfl, rfl⟩ : yd = DataW.held c ∧ yp = [] := by
        unfold heldElem at hvv
        have := Option.some.inj hvv
        exact ⟨(congrArg Prod.fst this).symm, (congrArg Prod.snd this).symm⟩
      obtain ⟨i, k, p, n, cc, q, m, d, rfl⟩ := hv kl c (key_str hkey) hat
      have hout1 := hout.kept hg1 (fun e => by have := Option.some.inj e; have := hgw.size; omega)
      have hz1 := hgw.size
      have ho1 := hout1.lt
      have hout2 := hout1.alloc (.cells #[.string i, .int .i64 k, .slice p n cc, .slice q m d] 34)
      go_wp2_with (at_mapUpdate; refine wpList_mapUpdate_own _ rfl _ _ _ 92 rfl 9 34 keyT Tryz.underlying92 heldElem bd _ _ rfl hout2 (by omega) _ _ _ rfl rfl hkey (.held (.agg #[.string i, .int .i64 k, .slice p n cc, .slice q m d])) [] rfl ?_; intro w2 hout3 hg2; go_frame)
      have hrgA := hrg1.alloc (.cells #[.string i, .int .i64 k, .slice p n cc, .slice q m d] 34)
      have hrg2 := hrgA.kept hg2 (fun e => hne (Option.some.inj e).symm) (fun e => by have := Option.some.inj e; omega)
      go_roundw
      case rel =>
        exact ⟨_, cnt1, _, hrg2, by omega, hout3.mono (by omega), merged_step hM hout.isMap (keyT.key hkey) hat, ((hgw.andThen hg1 (fun j hj => .inl (by cases hj; exact Nat.le_refl _))).andThen (World.grownBy_alloc _ _ none) (fun j hj => by cases hj)).andThen hg2 (fun j hj => .inr hj)⟩
      case measure => rw [hrg2.left_eq, hrg.left_eq]; exact hlt
end Go.Proofs.YtccgbengfmlgbaaGreat
