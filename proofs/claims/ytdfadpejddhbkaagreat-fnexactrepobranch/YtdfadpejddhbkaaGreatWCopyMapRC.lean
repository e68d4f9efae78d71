/- Proved here: how a copy of a room lies in a box that is made ahead of the copy, behind it, or behind what is asked after it, and a map of branches beside it; no condition. -/
import Derived.Test.YtdfadpejddhbkaaGreatG8
import Derived.Test.YtdfadpejddhbkaaGreatG7
import Derived.Deep.RegionHeld3
import Derived.Deep.DeepCutAuto
namespace Go.Proofs.YtdfadpejddhbkaaGreat
set_option linter.unusedVariables false
open Go.ChangeShapes Go.WideShapes Go.ChangeAt Go.RowKit Go.Deep

/-- a copy in a box, and a map beside it -/
structure CopyMap (W wx : World) (nb mb : Nat) (pa pb : Option Addr) (pc pd : Nat) (cs : List Cm) (hs : List Hd) (ad : Nat → PlO) (S : Nat → Nat → Prop) : Prop where
  box : BK wx nb #[.slice pa cs.length pc, .slice pb hs.length pd] 46
  room : Room KI wx W.heap.size (.slice pa cs.length pc) (.slice pb hs.length pd) cs hs ad S
  out : ∀ x, inRoom (.slice pa cs.length pc) (.slice pb hs.length pd) cs.length S x → x ≠ nb
  lo : W.heap.size ≤ nb
  map : wx.ownsMap Tryz.prog 9 heldElem mb hs.length (mapH hs hs.length)
  mlo : W.heap.size ≤ mb
  mne : mb ≠ nb
  bel : Below W.heap.size W wx

theorem z2_drew (W : World) (t : TypeId) : BK ((W.alloc (.cells #[.slice none 0 0, .slice none 0 0] t)).drew) W.heap.size #[.slice none 0 0, .slice none 0 0] t := BK.new _ _ _
theorem z2_new (W : World) (t : TypeId) : BK (W.alloc (.cells #[.slice none 0 0, .slice none 0 0] t)) W.heap.size #[.slice none 0 0, .slice none 0 0] t := BK.new _ _ _

theorem ownsMap_turned {w w' : World} {S : Nat → Prop} {b n : Nat} {hs : List Hd} {k : Nat} (h : w.ownsMap Tryz.prog 9 heldElem b n (mapH hs k)) (ht : Turned w w' S) (hn : ¬ S b) : w'.ownsMap Tryz.prog 9 heldElem b n (mapH hs k) := by
  obtain ⟨es, clock, h1, h2⟩ := h
  exact ⟨es, clock, (ht.block b (Array.getElem?_eq_some_iff.1 h1).1 hn).trans h1, h2⟩

theorem copyMap_fin {W wA wC wD F : World} {nb mb : Nat} {pa pb : Option Addr} {pc pd : Nat} {cs : List Cm} {hs : List Hd} {ad : Nat → PlO} {S : Nat → Nat → Prop} (hA : Below W.heap.size W wA) (hRm : Room KI wC wA.heap.size (.slice pa cs.length pc) (.slice pb hs.length pd) cs hs ad S) (hbC : Below wA.heap.size wA wC)
    (hnb : W.heap.size ≤ nb) (hout : nb < wA.heap.size ∨ wC.heap.size ≤ nb) (tC : Turned wC F (fun z => z = nb)) (hown : wD.ownsMap Tryz.prog 9 heldElem mb hs.length (mapH hs hs.length)) (hmb : W.heap.size ≤ mb) (hne : mb ≠ nb) (tD : Turned wD F (fun z => z = nb))
    (hbk : BK F nb #[.slice pa cs.length pc, .slice pb hs.length pd] 46) : CopyMap W F nb mb pa pb pc pd cs hs ad S := by
  have ho : ∀ x, inRoom (.slice pa cs.length pc) (.slice pb hs.length pd) cs.length S x → x ≠ nb := fun x hx e => by have := hRm.blocks x hx; omega
  have hz := hA.size
  have hzC := hbC.size
  exact ⟨hbk, (hRm.low hz).turned KI.law tC fun x hx e => ho x hx e, ho, hnb, ownsMap_turned hown tD fun e => hne e, hmb, hne, (hA.trans (hbC.mono hz)).trans (tC.below (by omega) fun x hx => by omega)⟩
theorem BK.box2 {w : World} {b : Nat} {u0 u1 v0 v1 : Value} {t : TypeId} (h : BK w b #[u0, u1] t) : BK ((w.setCell ⟨b, 0, none⟩ v0).setCell ⟨b, 1, none⟩ v1) b #[v0, v1] t := (h.set 0 v0).set 1 v1
theorem turned_box (w : World) (nb : Nat) (x y : Value) : Turned w ((w.setCell ⟨nb, 0, none⟩ x).setCell ⟨nb, 1, none⟩ y) (fun z => z = nb) := (Turned.of_set (S := fun z => z = nb) _ _ _ rfl).trans (Turned.of_set _ _ _ rfl)
theorem turned_new (w : World) (nb : Nat) (o : Obj) : Turned w (w.alloc o) (fun z => z = nb) := Turned.of_below ((Below.refl _ _).alloc (Nat.le_refl _) _)
end Go.Proofs.YtdfadpejddhbkaaGreat
