/-
  What the model answers for an act's text: actT.
-/
import Derived.Test.YtcfhpcbkdpgboaaGreatDoorJoined4
import Derived.Test.YtcfhpcbkdpgboaaGreatDoorJArgsTS
import Derived.Test.YtcfhpcbkdpgboaaGreatDoorJActOkS
import Derived.Deep.RegionHeld3
namespace Go.Proofs.YtcfhpcbkdpgboaaGreatDoor
open Go.RowKit
set_option linter.unusedVariables false

theorem l2NumB_any (n : Int) (w : World) (h : 0 ≤ n ∧ n ≤ 100000) : Calls Tryz.prog 22 #[.int .i64 n] w fun e w' => e = .returned (.string (itoaB n)) ∧ Below w.heap.size w w' := by
  refine (l2Num_any n w (by omega) (by omega)).mono ?_
  rintro e w1 ⟨s, rfl, _, hs, hb⟩
  exact ⟨by rw [hs.out]; rfl, hb⟩
def KeptT (w0 : World) (B : Nat) (a : Option Addr) (L : List X11) (W : World) : Prop := RdExpr W a L ∧ Below B w0 W ∧ B ≤ W.heap.size
theorem KeptT.keep {w0 W w' : World} {B : Nat} {a : Option Addr} {L : List X11} (h : KeptT w0 B a L W) (hb : Below W.heap.size W w') : KeptT w0 B a L w' :=
  ⟨h.1.below hb, h.2.1.trans (hb.mono h.2.2), Nat.le_trans h.2.2 hb.size⟩
theorem KeptT.drew {w0 W : World} {B : Nat} {a : Option Addr} {L : List X11} (h : KeptT w0 B a L W) : KeptT w0 B a L W.drew := ⟨h.1.heap rfl, h.2.1.drew, h.2.2⟩
theorem keepT5 {w0 W w' : World} {B : Nat} {p0 p1 p2 p3 p4 : Addr} {v0 v1 v2 v3 v4 : Value} {a : Option Addr} {L : List X11} (hb : Below W.heap.size W w')
    (h : W.cell? p0 = some v0 ∧ W.cell? p1 = some v1 ∧ W.cell? p2 = some v2 ∧ W.cell? p3 = some v3 ∧ W.cell? p4 = some v4 ∧ KeptT w0 B a L W) :
    w'.cell? p0 = some v0 ∧ w'.cell? p1 = some v1 ∧ w'.cell? p2 = some v2 ∧ w'.cell? p3 = some v3 ∧ w'.cell? p4 = some v4 ∧ KeptT w0 B a L w' := by
  obtain ⟨h0, h1, h2, h3, h4, h5⟩ := h
  have k : ∀ {a : Addr} {v : Value}, W.cell? a = some v → w'.cell? a = some v := fun {a v} h => by rw [hb.cell (World.block_lt_of_cell? W _ h)]; exact h
  exact ⟨k h0, k h1, k h2, k h3, k h4, h5.keep hb⟩
theorem rdT5 {w0 W : World} {B : Nat} {p0 p1 p2 p3 p4 : Addr} {v0 v1 v2 v3 v4 : Value} {a : Option Addr} {L : List X11}
    (h : W.cell? p0 = some v0 ∧ W.cell? p1 = some v1 ∧ W.cell? p2 = some v2 ∧ W.cell? p3 = some v3 ∧ W.cell? p4 = some v4 ∧ KeptT w0 B a L W) : RdExpr W a L := h.2.2.2.2.2.1

set_option maxRecDepth 100000 in
set_option maxHeartbeats 3200000 in
theorem specActText_1 (nm : ByteArray) (a : Option Addr) (cap : Nat) (L : List X11) (N : Int) (un : ByteArray) (w : World) (hkd : nm.size ≤ maxLen) (hr : RdExpr w a L) (hs : ∀ x ∈ L, x.fits) (hm : L.length ≤ 1048580) (hun : un.size ≤ maxLen) (hv : actB 1 nm L N un = true) :
    Calls Tryz.prog 25 #[.agg #[.int .i64 1, .string nm, .slice a L.length cap, .int .i64 N, .string un]] w fun e w' => e = .returned (.string (actW 1 nm L N un)) ∧ Below w.heap.size w w' := by
  obtain ⟨hx, rfl, rfl⟩ := act_open1 hv
  have HCo := hide (fun W (h : RdExpr W a L) => specActOk_any 1 nm a cap L 0 ⟨#[]⟩ W hkd h hs hm hun)
  rw [hv] at HCo
  have b0 := below_al w (.cells #[.int .i64 1, .string nm, .slice a L.length cap, .int .i64 0, .string ⟨#[]⟩] 69)
  have hX := boxk_new w #[.int .i64 1, .string nm, .slice a L.length cap, .int .i64 0, .string ⟨#[]⟩] 69
  have HNm := hide (fun W (h : RdExpr W a L) => l8ArgsText_any 1 nm a cap L 0 ⟨#[]⟩ W h hs hx)
  have hts := namedT_size hx
  have HT := hide (show namedT nm L = namedT nm L from rfl)
  obtain ⟨out, hout⟩ : ∃ out, out = actW 1 nm L 0 ⟨#[]⟩ := ⟨_, rfl⟩
  rw [← hout]
  change out = ⟨#[97, 115, 115, 101, 114, 116, 32]⟩ ++ namedT nm L at hout
  clear HT
  generalize namedT nm L = t at HNm hts hout
  have HOut := hide hout
  clear hout hv hx
  go_enter Tryz.func25, Tryz.ntmps25
  go_wp2_with fail
  refine (HCo.out _ (hr.below b0)).mono ?_
  rintro e w1 ⟨rfl, hb⟩
  have HX := hide (box_step hX hb)
  have hB : Below w.heap.size w w1 := b0.trans (hb.mono b0.size)
  have HR1 := hide (hr.below hB)
  clear hb b0 hX HCo hkd hs hun
  have x0 := boxk_cell HX.out 0 _ rfl
  have x1 := boxk_cell HX.out 1 _ rfl
  have x2 := boxk_cell HX.out 2 _ rfl
  have x3 := boxk_cell HX.out 3 _ rfl
  have x4 := boxk_cell HX.out 4 _ rfl
  have n0 : ¬ 9223372036854775807 < 7 + t.size := by omega
  have m0 : 7 + t.size ≤ 9223372036854775807 := by omega
  go_wp2_with fail
  refine (HNm.out _ HR1.out).mono ?_
  rintro e w2 ⟨rfl, hb2⟩
  have hB2 : Below w.heap.size w w2 := hB.trans (hb2.mono hB.size)
  clear hb2 hB HX
  go_wp2
  go_ret
  exact ⟨ret_strW (HOut.out.trans (by apply ByteArray.ext; simp [ByteArray.data_append])).symm, hB2⟩

set_option maxRecDepth 100000 in
set_option maxHeartbeats 3200000 in
theorem specActText_2 (nm : ByteArray) (a : Option Addr) (cap : Nat) (L : List X11) (N : Int) (un : ByteArray) (w : World) (hkd : nm.size ≤ maxLen) (hr : RdExpr w a L) (hs : ∀ x ∈ L, x.fits) (hm : L.length ≤ 1048580) (hun : un.size ≤ maxLen) (hv : actB 2 nm L N un = true) :
    Calls Tryz.prog 25 #[.agg #[.int .i64 2, .string nm, .slice a L.length cap, .int .i64 N, .string un]] w fun e w' => e = .returned (.string (actW 2 nm L N un)) ∧ Below w.heap.size w w' := by
  obtain ⟨hN, rfl⟩ := act_open2 hv
  have HCo := hide (fun W (h : RdExpr W a L) => specActOk_any 2 nm a cap L N ⟨#[]⟩ W hkd h hs hm hun)
  rw [hv] at HCo
  have b0 := below_al w (.cells #[.int .i64 2, .string nm, .slice a L.length cap, .int .i64 N, .string ⟨#[]⟩] 69)
  have hX := boxk_new w #[.int .i64 2, .string nm, .slice a L.length cap, .int .i64 N, .string ⟨#[]⟩] 69
  have HNu := hide (fun W => l2NumB_any N W (by omega))
  have hss := itoaB_size (n := N) (by omega)
  obtain ⟨out, hout⟩ : ∃ out, out = actW 2 nm L N ⟨#[]⟩ := ⟨_, rfl⟩
  rw [← hout]
  change out = ⟨#[100, 114, 111, 112, 32]⟩ ++ itoaB N at hout
  generalize itoaB N = s at HNu hss hout
  have HOut := hide hout
  clear hout hv hN
  go_enter Tryz.func25, Tryz.ntmps25
  go_wp2_with fail
  refine (HCo.out _ (hr.below b0)).mono ?_
  rintro e w1 ⟨rfl, hb⟩
  have HX := hide (box_step hX hb)
  have hB : Below w.heap.size w w1 := b0.trans (hb.mono b0.size)
  have HR1 := hide (hr.below hB)
  clear hb b0 hX HCo hkd hs hun
  have x0 := boxk_cell HX.out 0 _ rfl
  have x1 := boxk_cell HX.out 1 _ rfl
  have x2 := boxk_cell HX.out 2 _ rfl
  have x3 := boxk_cell HX.out 3 _ rfl
  have x4 := boxk_cell HX.out 4 _ rfl
  have n0 : ¬ 9223372036854775807 < 5 + s.size := by omega
  have m0 : 5 + s.size ≤ 9223372036854775807 := by omega
  go_wp2_with fail
  refine (HNu.out _).mono ?_
  rintro e w2 ⟨rfl, hb2⟩
  have hB2 : Below w.heap.size w w2 := hB.trans (hb2.mono hB.size)
  clear hb2 hB HX
  go_wp2
  go_ret
  exact ⟨ret_strW (HOut.out.trans (by apply ByteArray.ext; simp [ByteArray.data_append])).symm, hB2⟩

set_option maxRecDepth 100000 in
set_option maxHeartbeats 3200000 in
theorem specActText_3 (nm : ByteArray) (a : Option Addr) (cap : Nat) (L : List X11) (N : Int) (un : ByteArray) (w : World) (hkd : nm.size ≤ maxLen) (hr : RdExpr w a L) (hs : ∀ x ∈ L, x.fits) (hm : L.length ≤ 1048580) (hun : un.size ≤ maxLen) (hv : actB 3 nm L N un = true) :
    Calls Tryz.prog 25 #[.agg #[.int .i64 3, .string nm, .slice a L.length cap, .int .i64 N, .string un]] w fun e w' => e = .returned (.string (actW 3 nm L N un)) ∧ Below w.heap.size w w' := by
  obtain ⟨hx, hu⟩ := act_open3 hv
  have HCo := hide (fun W (h : RdExpr W a L) => specActOk_any 3 nm a cap L N un W hkd h hs hm hun)
  rw [hv] at HCo
  have b0 := below_al w (.cells #[.int .i64 3, .string nm, .slice a L.length cap, .int .i64 N, .string un] 69)
  have hX := boxk_new w #[.int .i64 3, .string nm, .slice a L.length cap, .int .i64 N, .string un] 69
  have HNm := hide (fun W (h : RdExpr W a L) => l8ArgsText_any 3 nm a cap L N un W h hs hx)
  have hts := namedT_size hx
  have HT := hide (show namedT nm L = namedT nm L from rfl)
  obtain ⟨out, hout⟩ : ∃ out, out = actW 3 nm L N un := ⟨_, rfl⟩
  rw [← hout]
  unfold actW at hout
  rw [if_neg (by decide), if_neg (by decide), if_pos rfl] at hout
  clear HT
  generalize namedT nm L = t at HNm hts hout
  have HOut := hide hout
  clear hout hv hx
  go_enter Tryz.func25, Tryz.ntmps25
  go_wp2_with fail
  refine (HCo.out _ (hr.below b0)).mono ?_
  rintro e w1 ⟨rfl, hb⟩
  have HX := hide (box_step hX hb)
  have hB : Below w.heap.size w w1 := b0.trans (hb.mono b0.size)
  have HR1 := hide (hr.below hB)
  clear hb b0 hX HCo hkd hs hun
  have x0 := boxk_cell HX.out 0 _ rfl
  have x1 := boxk_cell HX.out 1 _ rfl
  have x2 := boxk_cell HX.out 2 _ rfl
  have x3 := boxk_cell HX.out 3 _ rfl
  have x4 := boxk_cell HX.out 4 _ rfl
  rcases hu with rfl | ⟨hu0, hu1⟩
  · rw [if_pos (by rfl)] at HOut
    have n0 : ¬ 9223372036854775807 < 5 + t.size := by omega
    have m0 : 5 + t.size ≤ 9223372036854775807 := by omega
    go_wp2_with fail
    refine (HNm.out _ HR1.out).mono ?_
    rintro e w2 ⟨rfl, hb2⟩
    have hB2 : Below w.heap.size w w2 := hB.trans (hb2.mono hB.size)
    clear hb2 hB HX
    go_wp2
    go_ret
    exact ⟨ret_strW (HOut.out.trans (by apply ByteArray.ext; simp [ByteArray.data_append])).symm, hB2⟩
  · rw [if_neg hu0] at HOut
    have k0 := isEmpty_false hu0
    clear hu0
    have n0 : ¬ 9223372036854775807 < 5 + t.size := by omega
    have m0 : 5 + t.size ≤ 9223372036854775807 := by omega
    have n1 : ¬ 9223372036854775807 < 5 + t.size + 6 := by omega
    have m1 : 5 + t.size + 6 ≤ 9223372036854775807 := by omega
    have n2 : ¬ 9223372036854775807 < 5 + t.size + 6 + un.size := by omega
    have m2 : 5 + t.size + 6 + un.size ≤ 9223372036854775807 := by omega
    have T1 : KeptT w w.heap.size a L w1 := ⟨HR1.out, hB, hB.size⟩
    clear HX HR1 hB
    go_wp2_with fail
    go_region_held3 (fun W => W.cell? ⟨w.heap.size, 0, none⟩ = some (.int .i64 3) ∧ W.cell? ⟨w.heap.size, 1, none⟩ = some (.string nm) ∧ W.cell? ⟨w.heap.size, 2, none⟩ = some (.slice a L.length cap) ∧ W.cell? ⟨w.heap.size, 3, none⟩ = some (.int .i64 N) ∧ W.cell? ⟨w.heap.size, 4, none⟩ = some (.string un) ∧ KeptT w w.heap.size a L W) (first | exact ⟨x0, x1, x2, x3, x4, T1.drew⟩ | exact keepT5 (by assumption) (by assumption))
      (first | (go_at_call 53; refine (HNm.out _ (rdT5 (by assumption))).mono ?_; rintro e u2 ⟨rfl, b2⟩))
    all_goals
      obtain ⟨-, -, -, -, -, TE⟩ : u2.cell? ⟨w.heap.size, 0, none⟩ = some (.int .i64 3) ∧ u2.cell? ⟨w.heap.size, 1, none⟩ = some (.string nm) ∧ u2.cell? ⟨w.heap.size, 2, none⟩ = some (.slice a L.length cap) ∧ u2.cell? ⟨w.heap.size, 3, none⟩ = some (.int .i64 N) ∧ u2.cell? ⟨w.heap.size, 4, none⟩ = some (.string un) ∧ KeptT w w.heap.size a L u2 := by assumption
      go_wp2
      go_ret
      exact ⟨ret_strW (HOut.out.trans (by apply ByteArray.ext; simp [ByteArray.data_append])).symm, TE.2.1⟩

set_option maxRecDepth 100000 in
set_option maxHeartbeats 3200000 in
theorem specActText_4 (nm : ByteArray) (a : Option Addr) (cap : Nat) (L : List X11) (N : Int) (un : ByteArray) (w : World) (hkd : nm.size ≤ maxLen) (hr : RdExpr w a L) (hs : ∀ x ∈ L, x.fits) (hm : L.length ≤ 1048580) (hun : un.size ≤ maxLen) (hv : actB 4 nm L N un = true) :
    Calls Tryz.prog 25 #[.agg #[.int .i64 4, .string nm, .slice a L.length cap, .int .i64 N, .string un]] w fun e w' => e = .returned (.string (actW 4 nm L N un)) ∧ Below w.heap.size w w' := by
  obtain ⟨hx, hN, rfl⟩ := act_open4 hv
  have HCo := hide (fun W (h : RdExpr W a L) => specActOk_any 4 nm a cap L N ⟨#[]⟩ W hkd h hs hm hun)
  rw [hv] at HCo
  have b0 := below_al w (.cells #[.int .i64 4, .string nm, .slice a L.length cap, .int .i64 N, .string ⟨#[]⟩] 69)
  have hX := boxk_new w #[.int .i64 4, .string nm, .slice a L.length cap, .int .i64 N, .string ⟨#[]⟩] 69
  have HNm := hide (fun W (h : RdExpr W a L) => l8ArgsText_any 4 nm a cap L N ⟨#[]⟩ W h hs hx)
  have hts := namedT_size hx
  have HT := hide (show namedT nm L = namedT nm L from rfl)
  have HNu := hide (fun W => l2NumB_any N W (by omega))
  have hss := itoaB_size (n := N) (by omega)
  obtain ⟨out, hout⟩ : ∃ out, out = actW 4 nm L N ⟨#[]⟩ := ⟨_, rfl⟩
  rw [← hout]
  change out = ⟨#[116, 105, 109, 101, 114, 32]⟩ ++ itoaB N ++ ⟨#[32]⟩ ++ namedT nm L at hout
  clear HT
  generalize namedT nm L = t at HNm hts hout
  generalize itoaB N = s at HNu hss hout
  have HOut := hide hout
  clear hout hv hx hN
  go_enter Tryz.func25, Tryz.ntmps25
  go_wp2_with fail
  refine (HCo.out _ (hr.below b0)).mono ?_
  rintro e w1 ⟨rfl, hb⟩
  have HX := hide (box_step hX hb)
  have hB : Below w.heap.size w w1 := b0.trans (hb.mono b0.size)
  have HR1 := hide (hr.below hB)
  clear hb b0 hX HCo hkd hs hun
  have x0 := boxk_cell HX.out 0 _ rfl
  have x1 := boxk_cell HX.out 1 _ rfl
  have x2 := boxk_cell HX.out 2 _ rfl
  have x3 := boxk_cell HX.out 3 _ rfl
  have x4 := boxk_cell HX.out 4 _ rfl
  have n0 : ¬ 9223372036854775807 < 6 + s.size := by omega
  have m0 : 6 + s.size ≤ 9223372036854775807 := by omega
  have n1 : ¬ 9223372036854775807 < 6 + s.size + 1 := by omega
  have m1 : 6 + s.size + 1 ≤ 9223372036854775807 := by omega
  have n2 : ¬ 9223372036854775807 < 6 + s.size + 1 + t.size := by omega
  have m2 : 6 + s.size + 1 + t.size ≤ 9223372036854775807 := by omega
  have T1 : KeptT w w.heap.size a L w1 := ⟨HR1.out, hB, hB.size⟩
  clear HX HR1 hB
  go_wp2_with fail
  go_region_held3 (fun W => W.cell? ⟨w.heap.size, 0, none⟩ = some (.int .i64 4) ∧ W.cell? ⟨w.heap.size, 1, none⟩ = some (.string nm) ∧ W.cell? ⟨w.heap.size, 2, none⟩ = some (.slice a L.length cap) ∧ W.cell? ⟨w.heap.size, 3, none⟩ = some (.int .i64 N) ∧ W.cell? ⟨w.heap.size, 4, none⟩ = some (.string ⟨#[]⟩) ∧ KeptT w w.heap.size a L W) (first | exact ⟨x0, x1, x2, x3, x4, T1.drew⟩ | exact keepT5 (by assumption) (by assumption))
    (first | (go_at_call 22; refine (HNu.out _).mono ?_; rintro e u1 ⟨rfl, b1⟩) | (go_at_call 53; refine (HNm.out _ (rdT5 (by assumption))).mono ?_; rintro e u2 ⟨rfl, b2⟩))
  all_goals
    obtain ⟨-, -, -, -, -, TE⟩ : u2.cell? ⟨w.heap.size, 0, none⟩ = some (.int .i64 4) ∧ u2.cell? ⟨w.heap.size, 1, none⟩ = some (.string nm) ∧ u2.cell? ⟨w.heap.size, 2, none⟩ = some (.slice a L.length cap) ∧ u2.cell? ⟨w.heap.size, 3, none⟩ = some (.int .i64 N) ∧ u2.cell? ⟨w.heap.size, 4, none⟩ = some (.string ⟨#[]⟩) ∧ KeptT w w.heap.size a L u2 := by assumption
    go_wp2
    go_ret
    exact ⟨ret_strW (HOut.out.trans (by apply ByteArray.ext; simp [ByteArray.data_append])).symm, TE.2.1⟩

set_option maxRecDepth 100000 in
set_option maxHeartbeats 3200000 in
theorem specActText_5 (nm : ByteArray) (a : Option Addr) (cap : Nat) (L : List X11) (N : Int) (un : ByteArray) (w : World) (hkd : nm.size ≤ maxLen) (hr : RdExpr w a L) (hs : ∀ x ∈ L, x.fits) (hm : L.length ≤ 1048580) (hun : un.size ≤ maxLen) (hv : actB 5 nm L N un = true) :
    Calls Tryz.prog 25 #[.agg #[.int .i64 5, .string nm, .slice a L.length cap, .int .i64 N, .string un]] w fun e w' => e = .returned (.string (actW 5 nm L N un)) ∧ Below w.heap.size w w' := by
  obtain rfl := act_open5 hv
  have HCo := hide (fun W (h : RdExpr W a L) => specActOk_any 5 nm a cap L N ⟨#[]⟩ W hkd h hs hm hun)
  rw [hv] at HCo
  have b0 := below_al w (.cells #[.int .i64 5, .string nm, .slice a L.length cap, .int .i64 N, .string ⟨#[]⟩] 69)
  have hX := boxk_new w #[.int .i64 5, .string nm, .slice a L.length cap, .int .i64 N, .string ⟨#[]⟩] 69
  obtain ⟨out, hout⟩ : ∃ out, out = actW 5 nm L N ⟨#[]⟩ := ⟨_, rfl⟩
  rw [← hout]
  change out = ⟨#[100, 111, 110, 101]⟩ at hout
  have HOut := hide hout
  clear hout hv
  go_enter Tryz.func25, Tryz.ntmps25
  go_wp2_with fail
  refine (HCo.out _ (hr.below b0)).mono ?_
  rintro e w1 ⟨rfl, hb⟩
  have HX := hide (box_step hX hb)
  have hB : Below w.heap.size w w1 := b0.trans (hb.mono b0.size)
  have HR1 := hide (hr.below hB)
  clear hb b0 hX HCo hkd hs hun
  have x0 := boxk_cell HX.out 0 _ rfl
  have x1 := boxk_cell HX.out 1 _ rfl
  have x2 := boxk_cell HX.out 2 _ rfl
  have x3 := boxk_cell HX.out 3 _ rfl
  have x4 := boxk_cell HX.out 4 _ rfl
  go_wp2
  go_ret
  exact ⟨ret_strW HOut.out.symm, hB⟩

set_option maxRecDepth 100000 in
set_option maxHeartbeats 3200000 in
theorem specActText_6 (nm : ByteArray) (a : Option Addr) (cap : Nat) (L : List X11) (N : Int) (un : ByteArray) (w : World) (hkd : nm.size ≤ maxLen) (hr : RdExpr w a L) (hs : ∀ x ∈ L, x.fits) (hm : L.length ≤ 1048580) (hun : un.size ≤ maxLen) (hv : actB 6 nm L N un = true) :
    Calls Tryz.prog 25 #[.agg #[.int .i64 6, .string nm, .slice a L.length cap, .int .i64 N, .string un]] w fun e w' => e = .returned (.string (actW 6 nm L N un)) ∧ Below w.heap.size w w' := by
  obtain rfl := act_open6 hv
  have HCo := hide (fun W (h : RdExpr W a L) => specActOk_any 6 nm a cap L N ⟨#[]⟩ W hkd h hs hm hun)
  rw [hv] at HCo
  have b0 := below_al w (.cells #[.int .i64 6, .string nm, .slice a L.length cap, .int .i64 N, .string ⟨#[]⟩] 69)
  have hX := boxk_new w #[.int .i64 6, .string nm, .slice a L.length cap, .int .i64 N, .string ⟨#[]⟩] 69
  obtain ⟨out, hout⟩ : ∃ out, out = actW 6 nm L N ⟨#[]⟩ := ⟨_, rfl⟩
  rw [← hout]
  change out = ⟨#[102, 97, 105, 108]⟩ at hout
  have HOut := hide hout
  clear hout hv
  go_enter Tryz.func25, Tryz.ntmps25
  go_wp2_with fail
  refine (HCo.out _ (hr.below b0)).mono ?_
  rintro e w1 ⟨rfl, hb⟩
  have HX := hide (box_step hX hb)
  have hB : Below w.heap.size w w1 := b0.trans (hb.mono b0.size)
  have HR1 := hide (hr.below hB)
  clear hb b0 hX HCo hkd hs hun
  have x0 := boxk_cell HX.out 0 _ rfl
  have x1 := boxk_cell HX.out 1 _ rfl
  have x2 := boxk_cell HX.out 2 _ rfl
  have x3 := boxk_cell HX.out 3 _ rfl
  have x4 := boxk_cell HX.out 4 _ rfl
  go_wp2
  go_ret
  exact ⟨ret_strW HOut.out.symm, hB⟩

set_option maxRecDepth 100000 in
set_option maxHeartbeats 3200000 in
theorem specActText_any (K : Int) (nm : ByteArray) (a : Option Addr) (cap : Nat) (L : List X11) (N : Int) (un : ByteArray) (w : World) (hkd : nm.size ≤ maxLen) (hr : RdExpr w a L) (hs : ∀ x ∈ L, x.fits) (hm : L.length ≤ 1048580) (hun : un.size ≤ maxLen) :
    Calls Tryz.prog 25 #[.agg #[.int .i64 K, .string nm, .slice a L.length cap, .int .i64 N, .string un]] w fun e w' => e = .returned (.string (actT K nm L N un)) ∧ Below w.heap.size w w' := by
  cases hv : actB K nm L N un
  · rw [actT_no hv]
    have HCo := hide (fun W (h : RdExpr W a L) => specActOk_any K nm a cap L N un W hkd h hs hm hun)
    rw [hv] at HCo
    have b0 := below_al w (.cells #[.int .i64 K, .string nm, .slice a L.length cap, .int .i64 N, .string un] 69)
    go_enter Tryz.func25, Tryz.ntmps25
    go_wp2_with fail
    refine (HCo.out _ (hr.below b0)).mono ?_
    rintro e w1 ⟨rfl, hb⟩
    have hB : Below w.heap.size w w1 := b0.trans (hb.mono b0.size)
    go_wp2
    go_ret
    exact ⟨rfl, hB⟩
  · rw [actT_yes hv]
    rcases actB_kind hv with rfl | rfl | rfl | rfl | rfl | rfl
    · exact specActText_1 nm a cap L N un w hkd hr hs hm hun hv
    · exact specActText_2 nm a cap L N un w hkd hr hs hm hun hv
    · exact specActText_3 nm a cap L N un w hkd hr hs hm hun hv
    · exact specActText_4 nm a cap L N un w hkd hr hs hm hun hv
    · exact specActText_5 nm a cap L N un w hkd hr hs hm hun hv
    · exact specActText_6 nm a cap L N un w hkd hr hs hm hun hv
end Go.Proofs.YtcfhpcbkdpgboaaGreatDoor
