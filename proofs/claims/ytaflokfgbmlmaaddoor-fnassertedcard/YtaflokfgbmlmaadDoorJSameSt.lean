/-
  The law's own sameStore, at two stores whose items are the same.
-/
import Derived.Test.YtaflokfgbmlmaadDoorJFactSameI
import Derived.Test.YtaflokfgbmlmaadDoorJoined1
import Derived.Test.YtaflokfgbmlmaadDoorJKeep6
import Derived.Test.YtaflokfgbmlmaadDoorJBoxK
import Derived.Deep.RegionHeld3
namespace Go.Proofs.YtaflokfgbmlmaadDoor
open Go.RowKit
set_option linter.unusedVariables false

theorem rdI_at {W : World} {b off : Nat} {J : List It} (h : RdI W (some ⟨b, off, none⟩) J) {k : Nat} (hk : k < J.length) :
    W.cell? ⟨b, off + k * 3, none⟩ = some (.int .i64 (iAt J k).id) ∧ W.cell? ⟨b, off + k * 3 + 1, none⟩ = some (.string (iAt J k).kd) ∧ W.cell? ⟨b, off + k * 3 + 2, none⟩ = some (.slice (iAt J k).a (iAt J k).L.length (iAt J k).cap) ∧ RdV W (iAt J k).a (iAt J k).L := by
  obtain ⟨b2, off2, e, h1⟩ := h k hk
  simp only [Option.some.injEq, Addr.mk.injEq] at e
  rw [e.1, e.2.1]; exact h1
/-- two stores in their blocks, and their items -/
structure TwoSt (w0 : World) (P Q : Nat) (n ca cb : Nat) (nx : Int) (b1 o1 b2 o2 : Nat) (J K : List It) (W : World) : Prop where
  p : W.heap[P]? = some (.cells #[.slice (some ⟨b1, o1, none⟩) n ca, .int .i64 nx] 29 (0, 0))
  q : W.heap[Q]? = some (.cells #[.slice (some ⟨b2, o2, none⟩) n cb, .int .i64 nx] 29 (0, 0))
  rj : RdI W (some ⟨b1, o1, none⟩) J
  rk : RdI W (some ⟨b2, o2, none⟩) K
  bel : Below w0.heap.size w0 W
theorem TwoSt.step {w0 W W' : World} {P Q n ca cb : Nat} {nx : Int} {b1 o1 b2 o2 : Nat} {J K : List It} (h : TwoSt w0 P Q n ca cb nx b1 o1 b2 o2 J K W) (b : Below W.heap.size W W') : TwoSt w0 P Q n ca cb nx b1 o1 b2 o2 J K W' :=
  ⟨box_step h.p b, box_step h.q b, h.rj.below b, h.rk.below b, h.bel.trans (b.mono h.bel.size)⟩
/-- the cells that a round reads -/
def CellsSt (P Q n ca cb : Nat) (b1 o1 b2 o2 k : Nat) (x y : It) (W : World) : Prop :=
  W.cell? ⟨P, 0, none⟩ = some (.slice (some ⟨b1, o1, none⟩) n ca) ∧ W.cell? ⟨Q, 0, none⟩ = some (.slice (some ⟨b2, o2, none⟩) n cb) ∧
  W.cell? ⟨b1, o1 + k * 3, none⟩ = some (.int .i64 x.id) ∧ W.cell? ⟨b1, o1 + k * 3 + 1, none⟩ = some (.string x.kd) ∧ W.cell? ⟨b1, o1 + k * 3 + 2, none⟩ = some (.slice x.a x.L.length x.cap) ∧
  W.cell? ⟨b2, o2 + k * 3, none⟩ = some (.int .i64 y.id) ∧ W.cell? ⟨b2, o2 + k * 3 + 1, none⟩ = some (.string y.kd) ∧ W.cell? ⟨b2, o2 + k * 3 + 2, none⟩ = some (.slice y.a y.L.length y.cap)
theorem TwoSt.cells {w0 W : World} {P Q n ca cb : Nat} {nx : Int} {b1 o1 b2 o2 : Nat} {J K : List It} (h : TwoSt w0 P Q n ca cb nx b1 o1 b2 o2 J K W) {k : Nat} (h1 : k < J.length) (h2 : k < K.length) : CellsSt P Q n ca cb b1 o1 b2 o2 k (iAt J k) (iAt K k) W := by
  obtain ⟨a0, a1, a2, -⟩ := rdI_at h.rj h1
  obtain ⟨c0, c1, c2, -⟩ := rdI_at h.rk h2
  exact ⟨boxk_cell h.p 0 _ rfl, boxk_cell h.q 0 _ rfl, a0, a1, a2, c0, c1, c2⟩

set_option maxRecDepth 100000 in
set_option maxHeartbeats 3200000 in
theorem sameStore_same (a b : Option Addr) (n ca cb : Nat) (nx : Int) (J K : List It) (w : World) (hj : RdI w a J) (hk : RdI w b K) (hJ : J.length = n) (hn : n ≤ 1048576) (hpl : K.map It.pl = J.map It.pl) (hl : ∀ i, i < J.length → (iAt J i).L.length ≤ 1048580)
    (h1 : ∀ i, i < J.length → LiesV (iAt J i).a (iAt J i).L.length (iAt J i).cap) (h2 : ∀ i, i < K.length → LiesV (iAt K i).a (iAt K i).L.length (iAt K i).cap) :
    Calls Tryd.prog 22 #[.agg #[.slice a n ca, .int .i64 nx], .agg #[.slice b n cb, .int .i64 nx]] w fun e w' => e = .returned (.bool true) ∧ Below w.heap.size w w' := by
  have hKn : K.length = n := by have := congrArg List.length hpl; simp only [List.length_map] at this; omega
  have hat : ∀ i, i < n → (iAt K i).pl = (iAt J i).pl := fun i hi => by
    have e1 : (K.map It.pl)[i]? = some (iAt K i).pl := by rw [List.getElem?_map, List.getElem?_eq_getElem (by omega), iAt_in (by omega)]; rfl
    have e2 : (J.map It.pl)[i]? = some (iAt J i).pl := by rw [List.getElem?_map, List.getElem?_eq_getElem (by omega), iAt_in (by omega)]; rfl
    rw [hpl, e2] at e1
    exact (Option.some.inj e1).symm
  have HAt := hide hat
  have HJ := hide hJ
  have HKn := hide hKn
  have HL := hide hl
  have H1 := hide h1
  have H2 := hide h2
  have b0 := below_al w (.cells #[.slice a n ca, .int .i64 nx] 29)
  have b1 := b0.alloc b0.size (.cells #[.slice b n cb, .int .i64 nx] 29)
  have hP := box_old (boxk_new w #[.slice a n ca, .int .i64 nx] 29) (by simp) (.cells #[.slice b n cb, .int .i64 nx] 29)
  have hQ := boxk_new (w.alloc (.cells #[.slice a n ca, .int .i64 nx] 29)) #[.slice b n cb, .int .i64 nx] 29
  simp only [World.size_alloc] at hQ
  have rj := hj.below b1
  have rk := hk.below b1
  have kx : (nx != nx) = false := by simp
  have kn : ((n : Int) != (n : Int)) = false := by simp
  clear hj hk hJ hKn hpl hl h1 h2 hat b0
  go_enter Tryd.func22, Tryd.ntmps22
  go_wp2
  generalize (w.alloc (.cells #[.slice a n ca, .int .i64 nx] 29)).alloc (.cells #[.slice b n cb, .int .i64 nx] 29) = w1 at b1 hP hQ rj rk
  go_loopw [5] (fun i wr => ∃ (k : Nat), k ≤ n ∧ i = .int .i64 k ∧ Below w1.heap.size w1 wr) (fun i _ => n - (intOf i).toNat)
  case atStart => exact ⟨0, Nat.zero_le _, rfl, Below.refl _ _⟩
  case round =>
    obtain ⟨k, hk, rfl, hbel⟩ := hrel
    have HB := hide (b1.trans (hbel.mono b1.size))
    by_cases hlt : k < n
    · obtain ⟨p1, o1, ha, -, -⟩ := RdI.open rj (by rw [HJ.out]; omega)
      obtain ⟨p2, o2, hb2, -, -⟩ := RdI.open rk (by rw [HKn.out]; omega)
      subst ha hb2
      have T0 : TwoSt w w.heap.size (w.heap.size + 1) n ca cb nx p1 o1 p2 o2 J K wr.drew := (TwoSt.step ⟨hP, hQ, rj, rk, b1⟩ hbel).step ((Below.refl _ _).drew)
      have HT := hide T0
      have hkJ : k < J.length := by rw [HJ.out]; exact hlt
      have hkK : k < K.length := by rw [HKn.out]; exact hlt
      have HKJ := hide hkJ
      have HKK := hide hkK
      have eP := HAt.out k hlt
      have HSm := hide (fun W (h1 : RdV W (iAt J k).a (iAt J k).L) (h2 : RdV W (iAt K k).a (iAt K k).L) => implSameFact_any (iAt J k).kd (iAt K k).kd _ _ (iAt J k).cap (iAt K k).cap (iAt J k).L (iAt K k).L W h1 h2 (HL.out k hkJ) (by rw [show (iAt K k).L = (iAt J k).L from congrArg P4.L eP]; exact HL.out k hkJ) (H1.out k hkJ) (H2.out k hkK))
      have hsame : sameF (iAt J k).kd (iAt J k).L (iAt K k).kd (iAt K k).L = true := by
        rw [show (iAt K k).L = (iAt J k).L from congrArg P4.L eP, show (iAt K k).kd = (iAt J k).kd from congrArg P4.kd eP]
        simp [sameF]
      rw [hsame] at HSm
      have kid : ((iAt J k).id != (iAt K k).id) = false := by rw [show (iAt K k).id = (iAt J k).id from congrArg P4.id eP]; simp
      have hl1 : (k : Int) < (n : Int) := by omega
      have hl2 : (0 : Int) ≤ (k : Int) := by omega
      have hq0 := boxk_cell (box_below hP hbel (Array.getElem?_eq_some_iff.1 hP).1) 0 _ rfl
      clear T0 hkJ hkK eP hsame
      go_wp2_with fail
      clear hq0
      go_region_held3 (fun W => W.cell? ⟨w.heap.size, 0, none⟩ = some (.slice (some ⟨p1, o1, none⟩) n ca) ∧ W.cell? ⟨w.heap.size + 1, 0, none⟩ = some (.slice (some ⟨p2, o2, none⟩) n cb) ∧ W.cell? ⟨p1, o1 + k * 3, none⟩ = some (.int .i64 (iAt J k).id) ∧ W.cell? ⟨p1, o1 + k * 3 + 1, none⟩ = some (.string (iAt J k).kd) ∧ W.cell? ⟨p1, o1 + k * 3 + 2, none⟩ = some (.slice (iAt J k).a (iAt J k).L.length (iAt J k).cap) ∧ W.cell? ⟨p2, o2 + k * 3, none⟩ = some (.int .i64 (iAt K k).id) ∧ W.cell? ⟨p2, o2 + k * 3 + 1, none⟩ = some (.string (iAt K k).kd) ∧ W.cell? ⟨p2, o2 + k * 3 + 2, none⟩ = some (.slice (iAt K k).a (iAt K k).L.length (iAt K k).cap)) (first | exact HT.out.cells HKJ.out HKK.out | exact (HT.out.step u1b).cells HKJ.out HKK.out)
        (first | (go_at_call 24; refine (HSm.out _ ?_ ?_).mono ?_; (with_reducible exact (rdI_at HT.out.rj HKJ.out).2.2.2); (with_reducible exact (rdI_at HT.out.rk HKK.out).2.2.2); rintro e u1 ⟨rfl, u1b⟩))
      all_goals
        have HB2 := hide ((show Below w1.heap.size w1 wr.drew from hbel.drew).trans (u1b.mono hbel.size))
        clear u1b HT HSm hbel
        go_wp2
        go_roundw
        case rel => exact ⟨k + 1, by omega, by go_num, HB2.out⟩
        case measure => simp [intOf]; omega
    · have hq0 := boxk_cell (box_below hP hbel (Array.getElem?_eq_some_iff.1 hP).1) 0 _ rfl
      go_wp2
      go_ret
      exact ⟨rfl, HB.out⟩
end Go.Proofs.YtaflokfgbmlmaadDoor
