/-
  The contracts of the laws' own helpers on facts: toFact copies, eqFact finds a fact the same as itself.
-/
import Derived.Test.YtaflokfgbmlmaacDoorBox2
import Derived.Test.YtaflokfgbmlmaacDoorLawFact
namespace Go.Proofs.YtaflokfgbmlmaacDoor
open Go.RowKit
set_option linter.unusedVariables false

set_option maxRecDepth 100000 in
set_option maxHeartbeats 1600000 in
theorem toFact_any (kd : ByteArray) (a : Option Addr) (cap : Nat) (L : List V3) (w : World) (hr : RdV w a L) (hn : L.length ≤ 1048576) :
    Calls Tryd.prog 35 #[.agg #[.string kd, .slice a L.length cap]] w fun e w' =>
      ∃ g, e = .returned (.agg #[.string kd, .slice (some ⟨g, 0, none⟩) L.length L.length]) ∧ w.heap.size ≤ g ∧ OwnV w' g L.length L ∧ Below w.heap.size w w' := by
  go_enter Tryd.func35, Tryd.ntmps35
  go_wp2_with fail
  have b0 := below_al w (.cells #[.string kd, .slice a L.length cap] 66)
  have b1 := b0.alloc b0.size (.cells #[.string ⟨#[]⟩, .slice none 0 0] 71)
  have b2 := b1.alloc b1.size (.cells #[.string kd, .slice none 0 0] 71)
  have hR := box_old (box2_new (w.alloc (.cells #[.string kd, .slice a L.length cap] 66)) (.string ⟨#[]⟩) (.slice none 0 0) 71) (by simp) (.cells #[.string kd, .slice none 0 0] 71)
  have hX := box2_new ((w.alloc (.cells #[.string kd, .slice a L.length cap] 66)).alloc (.cells #[.string ⟨#[]⟩, .slice none 0 0] 71)) (.string kd) (.slice none 0 0) 71
  simp only [World.size_alloc] at hR hX
  refine (toValS_at a cap L _ (hr.below b2) hn).mono ?_
  rintro e w1 ⟨rfl, ho, hb⟩
  have HR := hide (box_below hR hb (by simp))
  have HX := hide (box_below hX hb (by simp))
  have hB : Below w.heap.size w w1 := b2.trans (hb.mono b2.size)
  have hO := OwnV.of ho
  clear ho hb hR hX b0 b1 b2
  simp only [World.size_alloc] at hO ⊢
  obtain ⟨x0, x1, xf0, xf1⟩ := box2_cell HX.out
  obtain ⟨r0, r1, rf0, rf1⟩ := box2_cell HR.out
  have HX2 := hide (box2_set1 HX.out (.slice (some ⟨w.heap.size + 1 + 1 + 1, 0, none⟩) L.length L.length))
  have HR2 := hide (box_gr HR.out HX2.out.2 (by omega))
  go_wp2
  refine box2_post HR2.out (fun w4 h4 gr => ?_)
  clear x0 x1 xf0 xf1 r0 r1 rf0 rf1
  obtain ⟨c0, c1, -, -⟩ := box2_cell h4
  have hz := hO.lt
  exact bodyPost_ret (v := .agg #[.string kd, .slice (some ⟨w.heap.size + 1 + 1 + 1, 0, none⟩) L.length L.length]) (by simp [results, Tryd.results35, go_sem, c0, c1]) rfl
    ⟨_, rfl, by omega, (hO.grown HX2.out.2 (by omega)).grown gr (by omega), below_set (hB.grown HX2.out.2 hB.size (fun k hk => by cases hk; omega)) gr (by omega)⟩

set_option maxRecDepth 100000 in
set_option maxHeartbeats 1600000 in
theorem eqFact_same (kd : ByteArray) (a b : Option Addr) (ca cb : Nat) (L : List V3) (w : World) (hr : RdV w a L) (hq : RdV w b L) (hn : L.length ≤ 1048580) :
    Calls Tryd.prog 37 #[.agg #[.string kd, .slice a L.length ca], .agg #[.string kd, .slice b L.length cb]] w fun e w' =>
      e = .returned (.bool true) ∧ Below w.heap.size w w' := by
  have k1 : (kd.toList == kd.toList) = true := by simp
  go_enter Tryd.func37, Tryd.ntmps37
  go_wp2_with fail
  have b0 := below_al w (.cells #[.string kd, .slice a L.length ca] 71)
  have b1 := b0.alloc b0.size (.cells #[.string kd, .slice b L.length cb] 71)
  refine (eqValS_same a b ca cb L _ (hr.below b1) (hq.below b1) hn).mono ?_
  rintro e w1 ⟨rfl, hb⟩
  have hB : Below w.heap.size w w1 := b1.trans (hb.mono b1.size)
  go_wp2
  go_ret
  exact ⟨rfl, hB⟩
end Go.Proofs.YtaflokfgbmlmaacDoor
