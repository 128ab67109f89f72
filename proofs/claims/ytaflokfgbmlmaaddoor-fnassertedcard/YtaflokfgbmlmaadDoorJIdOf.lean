/-
  What IdOf answers, the tested one and the model's alike: the Id of the first item with this fact, 0 where there is none.
-/
import Derived.Test.YtaflokfgbmlmaadDoorJoined1
import Derived.Test.YtaflokfgbmlmaadDoorJFactSameI
namespace Go.Proofs.YtaflokfgbmlmaadDoor
open Go.RowKit
set_option linter.unusedVariables false

set_option maxRecDepth 100000 in
set_option maxHeartbeats 3200000 in
theorem implIdOf_any (a b : Option Addr) (n cap cb : Nat) (nx : Int) (kd : ByteArray) (J : List It) (M : List V3) (w : World) (hr : RdI w a J) (hq : RdV w b M) (hJ : J.length = n) (hn : n ≤ 1048580) (hl : ∀ i, i < J.length → (iAt J i).L.length ≤ 1048580) (hm : M.length ≤ 1048580)
    (hli : ∀ i, i < J.length → LiesV (iAt J i).a (iAt J i).L.length (iAt J i).cap) (hlb : LiesV b M.length cb) :
    Calls Tryd.prog 25 #[.agg #[.slice a n cap, .int .i64 nx], .agg #[.string kd, .slice b M.length cb]] w fun e w' =>
      e = .returned (.int .i64 (idP (J.map It.pl) kd M)) ∧ Below w.heap.size w w' := by
  have HJ := hide hJ
  have HL := hide hl
  have HLi := hide hli
  have HLb := hide hlb
  clear hJ hl hli hlb
  have b0 := below_al w (.cells #[.slice a n cap, .int .i64 nx] 29)
  have b1 := b0.alloc b0.size (.cells #[.string kd, .slice b M.length cb] 41)
  have hC := box2_new (w.alloc (.cells #[.slice a n cap, .int .i64 nx] 29)) (.string kd) (.slice b M.length cb) 41
  simp only [World.size_alloc] at hC
  obtain ⟨y0, y1, -, -⟩ := box2_cell hC
  replace hr := hr.below b1
  replace hq := hq.below b1
  have hz2 := (Array.getElem?_eq_some_iff.1 hC).1
  go_enter Tryd.func25, Tryd.ntmps25
  go_wp2
  generalize (w.alloc (.cells #[.slice a n cap, .int .i64 nx] 29)).alloc (.cells #[.string kd, .slice b M.length cb] 41) = w1 at b1 hr hq y0 y1 hz2 ⊢
  clear b0 hC
  go_loopw [10] (fun i wr => ∃ (k : Nat), k ≤ n ∧ i = .int .i64 k ∧ (∀ j, j < k → (iAt J j).same kd M = false) ∧ Below w1.heap.size w1 wr) (fun i _ => n - (intOf i).toNat)
  case atStart => exact ⟨0, Nat.zero_le _, rfl, fun j hj => absurd hj (Nat.not_lt_zero _), Below.refl _ _⟩
  case round =>
    obtain ⟨k, hk, rfl, hno, hbel⟩ := hrel
    have HNo := hide hno
    clear hno
    have hB : Below w.heap.size w wr := b1.trans (hbel.mono b1.size)
    rw [← hbel.cell (p := ⟨w.heap.size + 1, 0, none⟩) hz2] at y0
    rw [← hbel.cell (p := ⟨w.heap.size + 1, 1, none⟩) hz2] at y1
    by_cases hlt : k < n
    · obtain ⟨b2, o2, e2, hbw2, hc2⟩ := hr.open (by rw [HJ.out]; omega)
      obtain ⟨c0, c1, c2, hv⟩ := hc2 k (by rw [HJ.out]; exact hlt)
      have HLk := hide (HL.out k (by rw [HJ.out]; exact hlt))
      have HLik := hide (HLi.out k (by rw [HJ.out]; exact hlt))
      replace hv := hv.below hbel
      have hq2 := hq.below hbel
      clear hc2
      subst e2
      rw [← hbel.cell (p := ⟨b2, o2 + k * 3, none⟩) hbw2] at c0
      rw [← hbel.cell (p := ⟨b2, o2 + k * 3 + 1, none⟩) hbw2] at c1
      rw [← hbel.cell (p := ⟨b2, o2 + k * 3 + 2, none⟩) hbw2] at c2
      obtain ⟨x, hx⟩ : ∃ x, x = iAt J k := ⟨_, rfl⟩
      rw [← hx] at c0 c1 c2 hv HLk HLik
      have HX := hide hx
      clear hx
      obtain ⟨id, kd', va, vc, L⟩ := x
      simp only at c0 c1 c2 hv HLk HLik
      have ba := below_al wr (.cells #[.int .i64 id, .string kd', .slice va L.length vc] 54)
      have HBox := hide (box_new wr (.int .i64 id) (.string kd') (.slice va L.length vc) 54)
      have rv := hv.below ba
      have rq := hq2.below ba
      have y0a : (wr.alloc (.cells #[.int .i64 id, .string kd', .slice va L.length vc] 54)).cell? ⟨w.heap.size + 1, 0, none⟩ = some (.string kd) := by rw [ba.cell (p := ⟨w.heap.size + 1, 0, none⟩) (Nat.lt_of_lt_of_le hz2 hbel.size)]; exact y0
      have y1a : (wr.alloc (.cells #[.int .i64 id, .string kd', .slice va L.length vc] 54)).cell? ⟨w.heap.size + 1, 1, none⟩ = some (.slice b M.length cb) := by rw [ba.cell (p := ⟨w.heap.size + 1, 1, none⟩) (Nat.lt_of_lt_of_le hz2 hbel.size)]; exact y1
      have HSm : Hid ((iAt J k).same kd M = sameF kd' L kd M) := by unfold Hid; rw [← HX.out]; rfl
      have HId : Hid ((iAt J k).id = id) := by unfold Hid; rw [← HX.out]
      go_wp2_with fail
      refine (implSameFact_any kd' kd va b vc cb L M _ rv rq HLk.out hm HLik.out HLb.out).mono ?_
      rintro e w2 ⟨rfl, hb⟩
      have hb2 : Below wr.heap.size wr w2 := ba.trans (hb.mono ba.size)
      have hb3 : Below w1.heap.size w1 w2 := hbel.trans (hb2.mono hbel.size)
      have hB2 : Below w.heap.size w w2 := hB.trans (hb2.mono hB.size)
      obtain ⟨z0, -, -, -, -, -⟩ := box_cell (box_below HBox.out hb (by simp))
      clear hb hb2 ba rv rq hv hq2 c0 c1 c2 y0a y1a y0 y1
      cases hs : sameF kd' L kd M
      · have HS := hide hs
        clear hs
        go_wp2
        go_roundw
        case rel => exact ⟨k + 1, by omega, by go_num, fun j hj => by
          by_cases hjk : j = k
          · rw [hjk, HSm.out]; exact HS.out
          · exact HNo.out j (by omega), hb3⟩
        case measure => simp [intOf]; omega
      · have HS := hide hs
        clear hs
        have HI : Hid (idP (J.map It.pl) kd M = id) := by
          unfold Hid
          rw [idP_hit (k := k) (by rw [HJ.out]; exact hlt) HNo.out (by rw [HSm.out]; exact HS.out), HId.out]
        go_wp2
        go_ret
        exact ⟨ret_int HI.out.symm, hB2⟩
    · have HI : Hid (idP (J.map It.pl) kd M = 0) := idP_none (fun j hj => HNo.out j (by rw [HJ.out] at hj; omega))
      go_wp2
      go_ret
      exact ⟨ret_int HI.out.symm, hB⟩
end Go.Proofs.YtaflokfgbmlmaadDoor
