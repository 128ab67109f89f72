/-
  An act's text: actT, and what the tested function answers.
-/
import Derived.Test.YtaflokfgbmlmaacGreatDoorJoined3
namespace Go.Proofs.YtaflokfgbmlmaacGreatDoor
open Go.RowKit
set_option linter.unusedVariables false

def itoaB (n : Int) : ByteArray := ⟨(Lib.itoa n).toArray⟩
theorem itoaB_size {n : Int} (h : -1000000000 ≤ n ∧ n ≤ 1000000000) : (itoaB n).size ≤ 22 := by
  have hv : valB 1 n ⟨#[]⟩ = true := by rw [valB_inB]; exact inB_t h
  have := tx_size (v := ⟨1, n, ⟨#[]⟩⟩) hv
  rwa [show (V3.tx ⟨1, n, ⟨#[]⟩⟩) = textV 1 n ⟨#[]⟩ from rfl, textV_num hv] at this
/-- what an act's text is, where it is right -/
def actW (K : Int) (nm : ByteArray) (L : List X11) (N : Int) (un : ByteArray) : ByteArray :=
  if K = 1 then ⟨#[97, 115, 115, 101, 114, 116, 32]⟩ ++ namedT nm L
  else if K = 2 then ⟨#[100, 114, 111, 112, 32]⟩ ++ itoaB N
  else if K = 3 then (if un.size = 0 then ⟨#[116, 97, 115, 107, 32]⟩ ++ namedT nm L else ⟨#[116, 97, 115, 107, 32]⟩ ++ namedT nm L ++ ⟨#[32, 117, 110, 100, 111, 32]⟩ ++ un)
  else if K = 4 then ⟨#[116, 105, 109, 101, 114, 32]⟩ ++ itoaB N ++ ⟨#[32]⟩ ++ namedT nm L
  else if K = 5 then ⟨#[100, 111, 110, 101]⟩ else ⟨#[102, 97, 105, 108]⟩
def actT (K : Int) (nm : ByteArray) (L : List X11) (N : Int) (un : ByteArray) : ByteArray := if actB K nm L N un then actW K nm L N un else ⟨#[]⟩
theorem actT_no {K : Int} {nm : ByteArray} {L : List X11} {N : Int} {un : ByteArray} (h : actB K nm L N un = false) : actT K nm L N un = ⟨#[]⟩ := by unfold actT; rw [if_neg (by rw [h]; simp)]
theorem actT_yes {K : Int} {nm : ByteArray} {L : List X11} {N : Int} {un : ByteArray} (h : actB K nm L N un = true) : actT K nm L N un = actW K nm L N un := by unfold actT; rw [if_pos h]

theorem act_open1 {nm : ByteArray} {L : List X11} {N : Int} {un : ByteArray} (h : actB 1 nm L N un = true) : namedX nm L = true ∧ N = 0 ∧ un = ⟨#[]⟩ := by
  rw [actB1] at h; simp only [Bool.and_eq_true, decide_eq_true_eq] at h; exact ⟨h.1.1, h.1.2, empty_of_size h.2⟩
theorem act_open2 {nm : ByteArray} {L : List X11} {N : Int} {un : ByteArray} (h : actB 2 nm L N un = true) : (0 ≤ N ∧ N ≤ 7) ∧ un = ⟨#[]⟩ := by
  rw [actB2] at h; simp only [inB, Bool.and_eq_true, decide_eq_true_eq] at h; exact ⟨⟨h.1.2.1, h.1.2.2⟩, empty_of_size h.2⟩
theorem act_open3 {nm : ByteArray} {L : List X11} {N : Int} {un : ByteArray} (h : actB 3 nm L N un = true) : namedX nm L = true ∧ (un = ⟨#[]⟩ ∨ un.size ≠ 0 ∧ un.size ≤ 12) := by
  rw [actB3] at h; simp only [Bool.and_eq_true, Bool.or_eq_true, decide_eq_true_eq] at h
  refine ⟨h.1.1, ?_⟩
  by_cases h0 : un.size = 0
  · exact .inl (empty_of_size h0)
  · exact .inr ⟨h0, h.2.elim (fun e => absurd e h0) nameP_size⟩
theorem act_open4 {nm : ByteArray} {L : List X11} {N : Int} {un : ByteArray} (h : actB 4 nm L N un = true) : namedX nm L = true ∧ (0 ≤ N ∧ N ≤ 100000) ∧ un = ⟨#[]⟩ := by
  rw [actB4] at h; simp only [inB, Bool.and_eq_true, decide_eq_true_eq] at h; exact ⟨h.1.1, ⟨h.1.2.1, h.1.2.2⟩, empty_of_size h.2⟩
theorem act_open5 {nm : ByteArray} {L : List X11} {N : Int} {un : ByteArray} (h : actB 5 nm L N un = true) : un = ⟨#[]⟩ := by
  rw [actB5] at h; simp only [Bool.and_eq_true, decide_eq_true_eq] at h; exact empty_of_size h.2
theorem act_open6 {nm : ByteArray} {L : List X11} {N : Int} {un : ByteArray} (h : actB 6 nm L N un = true) : un = ⟨#[]⟩ := by
  rw [actB6] at h; simp only [Bool.and_eq_true, decide_eq_true_eq] at h; exact empty_of_size h.2
theorem actB_kind {K : Int} {nm : ByteArray} {L : List X11} {N : Int} {un : ByteArray} (h : actB K nm L N un = true) : K = 1 ∨ K = 2 ∨ K = 3 ∨ K = 4 ∨ K = 5 ∨ K = 6 := by
  rcases k_cases K with e | e | e | e | e | e | ⟨_, _, _, _, _, _, h1, h2, h3, h4, h5, h6⟩
  · exact .inl e
  · exact .inr (.inl e)
  · exact .inr (.inr (.inl e))
  · exact .inr (.inr (.inr (.inl e)))
  · exact .inr (.inr (.inr (.inr (.inl e))))
  · exact .inr (.inr (.inr (.inr (.inr e))))
  · rw [actB_no nm L N un h1 h2 h3 h4 h5 h6] at h; cases h
theorem ret_strW {a b : ByteArray} (h : a = b) : Ending.returned (.string a) = .returned (.string b) := by rw [h]
theorem itoaI_any (n : Int) (w : World) (h : 0 ≤ n ∧ n ≤ 100000) (ht : Tab w) : Calls Tryz.prog 18 #[.int .i64 n] w fun e w' => e = .returned (.string (itoaB n)) ∧ Below w.heap.size w w' := by
  refine (Tryz.strconv_Itoa n (by omega) (by omega) w ht).mono ?_
  rintro e w1 ⟨rfl, k, os, rfl⟩
  exact ⟨rfl, Lib.below_grow w.heap.size w (Nat.le_refl _) k os⟩
theorem namedI_any (nm : ByteArray) (a : Option Addr) (cap : Nat) (L : List X11) (w : World) (hr : RdExpr w a L) (hs : ∀ x ∈ L, x.fits) (h : namedX nm L = true) (ht : Tab w) :
    Calls Tryz.prog 60 #[.string nm, .slice a L.length cap, .func (.func 61) #[] #[], .string ⟨#[44, 32]⟩] w fun e w' => e = .returned (.string (namedT nm L)) ∧ Below w.heap.size w w' := by
  obtain ⟨h1, h2, h3⟩ := namedX_open h
  exact namedTextX_any nm a cap L ⟨#[44, 32]⟩ ⟨(joinX L).toArray⟩ w (nameP_size h1) hr hs h2 ht (by rw [txsX_join]) (by have := joinX_size h2 h3; omega)

set_option maxRecDepth 100000 in
set_option maxHeartbeats 3200000 in
theorem implActText_1 (nm : ByteArray) (a : Option Addr) (cap : Nat) (L : List X11) (N : Int) (un : ByteArray) (w : World) (hkd : nm.size ≤ maxLen) (hr : RdExpr w a L) (hs : ∀ x ∈ L, x.fits) (hm : L.length ≤ 1048580) (hun : un.size ≤ maxLen) (ht : Tab w) (hw : Wrd w) (hv : actB 1 nm L N un = true) :
    Calls Tryz.prog 24 #[.agg #[.int .i64 1, .string nm, .slice a L.length cap, .int .i64 N, .string un]] w fun e w' => e = .returned (.string (actW 1 nm L N un)) ∧ Below w.heap.size w w' := by
  obtain ⟨hx, rfl, rfl⟩ := act_open1 hv
  have HCo := hide (fun W (h : RdExpr W a L) => implActOk_any 1 nm a cap L 0 ⟨#[]⟩ W hkd h hs hm hun)
  rw [hv] at HCo
  have b0 := below_al w (.cells #[.int .i64 1, .string nm, .slice a L.length cap, .int .i64 0, .string ⟨#[]⟩] 61)
  have hX := boxk_new w #[.int .i64 1, .string nm, .slice a L.length cap, .int .i64 0, .string ⟨#[]⟩] 61
  have HNm := hide (fun W (h : RdExpr W a L) (h2 : Tab W) => namedI_any nm a cap L W h hs hx h2)
  have hts := namedT_size hx
  have HT := hide (show namedT nm L = namedT nm L from rfl)
  have HTab := hide ht
  have HW := hide hw
  obtain ⟨out, hout⟩ : ∃ out, out = actW 1 nm L 0 ⟨#[]⟩ := ⟨_, rfl⟩
  rw [← hout]
  change out = ⟨#[97, 115, 115, 101, 114, 116, 32]⟩ ++ namedT nm L at hout
  clear HT
  generalize namedT nm L = t at HNm hts hout
  have HOut := hide hout
  clear hout hv ht hw hx
  go_enter Tryz.func24, Tryz.ntmps24
  go_wp2_with fail
  refine (HCo.out _ (hr.below b0)).mono ?_
  rintro e w1 ⟨rfl, hb⟩
  have HX := hide (box_step hX hb)
  have hB : Below w.heap.size w w1 := b0.trans (hb.mono b0.size)
  have HT1 := hide (HTab.out.later hB (Nat.le_refl _))
  have hwd := (HW.out.later hB)
  have HR1 := hide (hr.below hB)
  have wk := hwd.1
  clear hwd HW HTab
  clear hb b0 hX HCo hkd hs hun
  have x0 := boxk_cell HX.out 0 _ rfl
  have x1 := boxk_cell HX.out 1 _ rfl
  have x2 := boxk_cell HX.out 2 _ rfl
  have x3 := boxk_cell HX.out 3 _ rfl
  have x4 := boxk_cell HX.out 4 _ rfl
  have n0 : ¬ 9223372036854775807 < 1 + t.size := by omega
  have m0 : 1 + t.size ≤ 9223372036854775807 := by omega
  have n1 : ¬ 9223372036854775807 < 6 + (1 + t.size) := by omega
  have m1 : 6 + (1 + t.size) ≤ 9223372036854775807 := by omega
  go_wp2_with fail
  refine (HNm.out _ HR1.out HT1.out).mono ?_
  rintro e w2 ⟨rfl, hb2⟩
  have HX2 := hide (box_step HX.out hb2)
  have hB2 : Below w.heap.size w w2 := hB.trans (hb2.mono hB.size)
  clear hb2 x0 x1 x2 x3 x4 wk HX hB HNm
  have x4 := boxk_cell HX2.out 4 _ rfl
  go_wp2
  go_ret
  exact ⟨ret_strW (HOut.out.trans (by apply ByteArray.ext; simp [ByteArray.data_append])).symm, hB2⟩

set_option maxRecDepth 100000 in
set_option maxHeartbeats 3200000 in
theorem implActText_2 (nm : ByteArray) (a : Option Addr) (cap : Nat) (L : List X11) (N : Int) (un : ByteArray) (w : World) (hkd : nm.size ≤ maxLen) (hr : RdExpr w a L) (hs : ∀ x ∈ L, x.fits) (hm : L.length ≤ 1048580) (hun : un.size ≤ maxLen) (ht : Tab w) (hw : Wrd w) (hv : actB 2 nm L N un = true) :
    Calls Tryz.prog 24 #[.agg #[.int .i64 2, .string nm, .slice a L.length cap, .int .i64 N, .string un]] w fun e w' => e = .returned (.string (actW 2 nm L N un)) ∧ Below w.heap.size w w' := by
  obtain ⟨hN, rfl⟩ := act_open2 hv
  have HCo := hide (fun W (h : RdExpr W a L) => implActOk_any 2 nm a cap L N ⟨#[]⟩ W hkd h hs hm hun)
  rw [hv] at HCo
  have b0 := below_al w (.cells #[.int .i64 2, .string nm, .slice a L.length cap, .int .i64 N, .string ⟨#[]⟩] 61)
  have hX := boxk_new w #[.int .i64 2, .string nm, .slice a L.length cap, .int .i64 N, .string ⟨#[]⟩] 61
  have HNu := hide (fun W (h2 : Tab W) => itoaI_any N W (by omega) h2)
  have hss := itoaB_size (n := N) (by omega)
  have HTab := hide ht
  have HW := hide hw
  obtain ⟨out, hout⟩ : ∃ out, out = actW 2 nm L N ⟨#[]⟩ := ⟨_, rfl⟩
  rw [← hout]
  change out = ⟨#[100, 114, 111, 112, 32]⟩ ++ itoaB N at hout
  generalize itoaB N = s at HNu hss hout
  have HOut := hide hout
  clear hout hv ht hw hN
  go_enter Tryz.func24, Tryz.ntmps24
  go_wp2_with fail
  refine (HCo.out _ (hr.below b0)).mono ?_
  rintro e w1 ⟨rfl, hb⟩
  have HX := hide (box_step hX hb)
  have hB : Below w.heap.size w w1 := b0.trans (hb.mono b0.size)
  have HT1 := hide (HTab.out.later hB (Nat.le_refl _))
  have hwd := (HW.out.later hB)
  have HR1 := hide (hr.below hB)
  have wk := hwd.2.1
  clear hwd HW HTab
  clear hb b0 hX HCo hkd hs hun
  have x0 := boxk_cell HX.out 0 _ rfl
  have x1 := boxk_cell HX.out 1 _ rfl
  have x2 := boxk_cell HX.out 2 _ rfl
  have x3 := boxk_cell HX.out 3 _ rfl
  have x4 := boxk_cell HX.out 4 _ rfl
  have n0 : ¬ 9223372036854775807 < 1 + s.size := by omega
  have m0 : 1 + s.size ≤ 9223372036854775807 := by omega
  have n1 : ¬ 9223372036854775807 < 4 + (1 + s.size) := by omega
  have m1 : 4 + (1 + s.size) ≤ 9223372036854775807 := by omega
  go_wp2_with fail
  refine (HNu.out _ HT1.out).mono ?_
  rintro e w2 ⟨rfl, hb2⟩
  have HX2 := hide (box_step HX.out hb2)
  have HR2 := hide (HR1.out.below hb2)
  have HT2 := hide (HT1.out.later hb2 (Nat.le_refl _))
  have hB2 : Below w.heap.size w w2 := hB.trans (hb2.mono hB.size)
  clear hb2 x0 x1 x2 x3 x4 wk HX hB HR1 HT1 HNu
  have x1 := boxk_cell HX2.out 1 _ rfl
  have x2 := boxk_cell HX2.out 2 _ rfl
  have x4 := boxk_cell HX2.out 4 _ rfl
  go_wp2
  go_ret
  exact ⟨ret_strW (HOut.out.trans (by apply ByteArray.ext; simp [ByteArray.data_append])).symm, hB2⟩

set_option maxRecDepth 100000 in
set_option maxHeartbeats 3200000 in
theorem implActText_3 (nm : ByteArray) (a : Option Addr) (cap : Nat) (L : List X11) (N : Int) (un : ByteArray) (w : World) (hkd : nm.size ≤ maxLen) (hr : RdExpr w a L) (hs : ∀ x ∈ L, x.fits) (hm : L.length ≤ 1048580) (hun : un.size ≤ maxLen) (ht : Tab w) (hw : Wrd w) (hv : actB 3 nm L N un = true) :
    Calls Tryz.prog 24 #[.agg #[.int .i64 3, .string nm, .slice a L.length cap, .int .i64 N, .string un]] w fun e w' => e = .returned (.string (actW 3 nm L N un)) ∧ Below w.heap.size w w' := by
  obtain ⟨hx, hu⟩ := act_open3 hv
  have HCo := hide (fun W (h : RdExpr W a L) => implActOk_any 3 nm a cap L N un W hkd h hs hm hun)
  rw [hv] at HCo
  have b0 := below_al w (.cells #[.int .i64 3, .string nm, .slice a L.length cap, .int .i64 N, .string un] 61)
  have hX := boxk_new w #[.int .i64 3, .string nm, .slice a L.length cap, .int .i64 N, .string un] 61
  have HNm := hide (fun W (h : RdExpr W a L) (h2 : Tab W) => namedI_any nm a cap L W h hs hx h2)
  have hts := namedT_size hx
  have HT := hide (show namedT nm L = namedT nm L from rfl)
  have HTab := hide ht
  have HW := hide hw
  obtain ⟨out, hout⟩ : ∃ out, out = actW 3 nm L N un := ⟨_, rfl⟩
  rw [← hout]
  unfold actW at hout
  rw [if_neg (by decide), if_neg (by decide), if_pos rfl] at hout
  clear HT
  generalize namedT nm L = t at HNm hts hout
  have HOut := hide hout
  clear hout hv ht hw hx
  go_enter Tryz.func24, Tryz.ntmps24
  go_wp2_with fail
  refine (HCo.out _ (hr.below b0)).mono ?_
  rintro e w1 ⟨rfl, hb⟩
  have HX := hide (box_step hX hb)
  have hB : Below w.heap.size w w1 := b0.trans (hb.mono b0.size)
  have HT1 := hide (HTab.out.later hB (Nat.le_refl _))
  have hwd := (HW.out.later hB)
  have HR1 := hide (hr.below hB)
  have wk := hwd.2.2.1
  clear hwd HW HTab
  clear hb b0 hX HCo hkd hs hun
  have x0 := boxk_cell HX.out 0 _ rfl
  have x1 := boxk_cell HX.out 1 _ rfl
  have x2 := boxk_cell HX.out 2 _ rfl
  have x3 := boxk_cell HX.out 3 _ rfl
  have x4 := boxk_cell HX.out 4 _ rfl
  have n0 : ¬ 9223372036854775807 < 1 + t.size := by omega
  have m0 : 1 + t.size ≤ 9223372036854775807 := by omega
  have n1 : ¬ 9223372036854775807 < 4 + (1 + t.size) := by omega
  have m1 : 4 + (1 + t.size) ≤ 9223372036854775807 := by omega
  go_wp2_with fail
  refine (HNm.out _ HR1.out HT1.out).mono ?_
  rintro e w2 ⟨rfl, hb2⟩
  have HX2 := hide (box_step HX.out hb2)
  have hB2 : Below w.heap.size w w2 := hB.trans (hb2.mono hB.size)
  clear hb2 x0 x1 x2 x3 x4 wk HX hB HNm
  have x4 := boxk_cell HX2.out 4 _ rfl
  rcases hu with rfl | ⟨hu0, hu1⟩
  · rw [if_pos (by rfl)] at HOut
    go_wp2
    go_ret
    exact ⟨ret_strW (HOut.out.trans (by apply ByteArray.ext; simp [ByteArray.data_append])).symm, hB2⟩
  · rw [if_neg hu0] at HOut
    have k0 := isEmpty_false hu0
    clear hu0
    have n0 : ¬ 9223372036854775807 < 1 + t.size := by omega
    have m0 : 1 + t.size ≤ 9223372036854775807 := by omega
    have n1 : ¬ 9223372036854775807 < 4 + (1 + t.size) := by omega
    have m1 : 4 + (1 + t.size) ≤ 9223372036854775807 := by omega
    have n2 : ¬ 9223372036854775807 < 6 + un.size := by omega
    have m2 : 6 + un.size ≤ 9223372036854775807 := by omega
    have n3 : ¬ 9223372036854775807 < 4 + (1 + t.size) + (6 + un.size) := by omega
    have m3 : 4 + (1 + t.size) + (6 + un.size) ≤ 9223372036854775807 := by omega
    go_wp2
    go_ret
    exact ⟨ret_strW (HOut.out.trans (by apply ByteArray.ext; simp [ByteArray.data_append])).symm, hB2⟩

set_option maxRecDepth 100000 in
set_option maxHeartbeats 3200000 in
theorem implActText_4 (nm : ByteArray) (a : Option Addr) (cap : Nat) (L : List X11) (N : Int) (un : ByteArray) (w : World) (hkd : nm.size ≤ maxLen) (hr : RdExpr w a L) (hs : ∀ x ∈ L, x.fits) (hm : L.length ≤ 1048580) (hun : un.size ≤ maxLen) (ht : Tab w) (hw : Wrd w) (hv : actB 4 nm L N un = true) :
    Calls Tryz.prog 24 #[.agg #[.int .i64 4, .string nm, .slice a L.length cap, .int .i64 N, .string un]] w fun e w' => e = .returned (.string (actW 4 nm L N un)) ∧ Below w.heap.size w w' := by
  obtain ⟨hx, hN, rfl⟩ := act_open4 hv
  have HCo := hide (fun W (h : RdExpr W a L) => implActOk_any 4 nm a cap L N ⟨#[]⟩ W hkd h hs hm hun)
  rw [hv] at HCo
  have b0 := below_al w (.cells #[.int .i64 4, .string nm, .slice a L.length cap, .int .i64 N, .string ⟨#[]⟩] 61)
  have hX := boxk_new w #[.int .i64 4, .string nm, .slice a L.length cap, .int .i64 N, .string ⟨#[]⟩] 61
  have HNm := hide (fun W (h : RdExpr W a L) (h2 : Tab W) => namedI_any nm a cap L W h hs hx h2)
  have hts := namedT_size hx
  have HT := hide (show namedT nm L = namedT nm L from rfl)
  have HNu := hide (fun W (h2 : Tab W) => itoaI_any N W (by omega) h2)
  have hss := itoaB_size (n := N) (by omega)
  have HTab := hide ht
  have HW := hide hw
  obtain ⟨out, hout⟩ : ∃ out, out = actW 4 nm L N ⟨#[]⟩ := ⟨_, rfl⟩
  rw [← hout]
  change out = ⟨#[116, 105, 109, 101, 114, 32]⟩ ++ itoaB N ++ ⟨#[32]⟩ ++ namedT nm L at hout
  clear HT
  generalize namedT nm L = t at HNm hts hout
  generalize itoaB N = s at HNu hss hout
  have HOut := hide hout
  clear hout hv ht hw hx hN
  go_enter Tryz.func24, Tryz.ntmps24
  go_wp2_with fail
  refine (HCo.out _ (hr.below b0)).mono ?_
  rintro e w1 ⟨rfl, hb⟩
  have HX := hide (box_step hX hb)
  have hB : Below w.heap.size w w1 := b0.trans (hb.mono b0.size)
  have HT1 := hide (HTab.out.later hB (Nat.le_refl _))
  have hwd := (HW.out.later hB)
  have HR1 := hide (hr.below hB)
  have wk := hwd.2.2.2.1
  clear hwd HW HTab
  clear hb b0 hX HCo hkd hs hun
  have x0 := boxk_cell HX.out 0 _ rfl
  have x1 := boxk_cell HX.out 1 _ rfl
  have x2 := boxk_cell HX.out 2 _ rfl
  have x3 := boxk_cell HX.out 3 _ rfl
  have x4 := boxk_cell HX.out 4 _ rfl
  have n0 : ¬ 9223372036854775807 < 1 + s.size := by omega
  have m0 : 1 + s.size ≤ 9223372036854775807 := by omega
  have n1 : ¬ 9223372036854775807 < 5 + (1 + s.size) := by omega
  have m1 : 5 + (1 + s.size) ≤ 9223372036854775807 := by omega
  go_wp2_with fail
  refine (HNu.out _ HT1.out).mono ?_
  rintro e w2 ⟨rfl, hb2⟩
  have HX2 := hide (box_step HX.out hb2)
  have HR2 := hide (HR1.out.below hb2)
  have HT2 := hide (HT1.out.later hb2 (Nat.le_refl _))
  have hB2 : Below w.heap.size w w2 := hB.trans (hb2.mono hB.size)
  clear hb2 x0 x1 x2 x3 x4 wk HX hB HR1 HT1 HNu
  have x1 := boxk_cell HX2.out 1 _ rfl
  have x2 := boxk_cell HX2.out 2 _ rfl
  have x4 := boxk_cell HX2.out 4 _ rfl
  go_wp2_with fail
  refine (HNm.out _ HR2.out HT2.out).mono ?_
  rintro e w3 ⟨rfl, hb3⟩
  have x4 := boxk_cell (box_step HX2.out hb3) 4 _ rfl
  have hB3 : Below w.heap.size w w3 := hB2.trans (hb3.mono hB2.size)
  clear hb3 HX2 hB2 HNm n0 n1 m0 m1
  have n0 : ¬ 9223372036854775807 < 1 + s.size := by omega
  have m0 : 1 + s.size ≤ 9223372036854775807 := by omega
  have n1 : ¬ 9223372036854775807 < 5 + (1 + s.size) := by omega
  have m1 : 5 + (1 + s.size) ≤ 9223372036854775807 := by omega
  have n2 : ¬ 9223372036854775807 < 1 + t.size := by omega
  have m2 : 1 + t.size ≤ 9223372036854775807 := by omega
  have n3 : ¬ 9223372036854775807 < 5 + (1 + s.size) + (1 + t.size) := by omega
  have m3 : 5 + (1 + s.size) + (1 + t.size) ≤ 9223372036854775807 := by omega
  go_wp2
  go_ret
  exact ⟨ret_strW (HOut.out.trans (by apply ByteArray.ext; simp [ByteArray.data_append])).symm, hB3⟩

set_option maxRecDepth 100000 in
set_option maxHeartbeats 3200000 in
theorem implActText_5 (nm : ByteArray) (a : Option Addr) (cap : Nat) (L : List X11) (N : Int) (un : ByteArray) (w : World) (hkd : nm.size ≤ maxLen) (hr : RdExpr w a L) (hs : ∀ x ∈ L, x.fits) (hm : L.length ≤ 1048580) (hun : un.size ≤ maxLen) (ht : Tab w) (hw : Wrd w) (hv : actB 5 nm L N un = true) :
    Calls Tryz.prog 24 #[.agg #[.int .i64 5, .string nm, .slice a L.length cap, .int .i64 N, .string un]] w fun e w' => e = .returned (.string (actW 5 nm L N un)) ∧ Below w.heap.size w w' := by
  obtain rfl := act_open5 hv
  have HCo := hide (fun W (h : RdExpr W a L) => implActOk_any 5 nm a cap L N ⟨#[]⟩ W hkd h hs hm hun)
  rw [hv] at HCo
  have b0 := below_al w (.cells #[.int .i64 5, .string nm, .slice a L.length cap, .int .i64 N, .string ⟨#[]⟩] 61)
  have hX := boxk_new w #[.int .i64 5, .string nm, .slice a L.length cap, .int .i64 N, .string ⟨#[]⟩] 61
  have HTab := hide ht
  have HW := hide hw
  obtain ⟨out, hout⟩ : ∃ out, out = actW 5 nm L N ⟨#[]⟩ := ⟨_, rfl⟩
  rw [← hout]
  change out = ⟨#[100, 111, 110, 101]⟩ at hout
  have HOut := hide hout
  clear hout hv ht hw
  go_enter Tryz.func24, Tryz.ntmps24
  go_wp2_with fail
  refine (HCo.out _ (hr.below b0)).mono ?_
  rintro e w1 ⟨rfl, hb⟩
  have HX := hide (box_step hX hb)
  have hB : Below w.heap.size w w1 := b0.trans (hb.mono b0.size)
  have HT1 := hide (HTab.out.later hB (Nat.le_refl _))
  have hwd := (HW.out.later hB)
  have HR1 := hide (hr.below hB)
  have wk := hwd.2.2.2.2.1
  clear hwd HW HTab
  clear hb b0 hX HCo hkd hs hun
  have x0 := boxk_cell HX.out 0 _ rfl
  have x1 := boxk_cell HX.out 1 _ rfl
  have x2 := boxk_cell HX.out 2 _ rfl
  have x3 := boxk_cell HX.out 3 _ rfl
  have x4 := boxk_cell HX.out 4 _ rfl
  go_wp2
  go_ret
  exact ⟨ret_strW HOut.out.symm, hB⟩

set_option maxRecDepth 100000 in
set_option maxHeartbeats 3200000 in
theorem implActText_6 (nm : ByteArray) (a : Option Addr) (cap : Nat) (L : List X11) (N : Int) (un : ByteArray) (w : World) (hkd : nm.size ≤ maxLen) (hr : RdExpr w a L) (hs : ∀ x ∈ L, x.fits) (hm : L.length ≤ 1048580) (hun : un.size ≤ maxLen) (ht : Tab w) (hw : Wrd w) (hv : actB 6 nm L N un = true) :
    Calls Tryz.prog 24 #[.agg #[.int .i64 6, .string nm, .slice a L.length cap, .int .i64 N, .string un]] w fun e w' => e = .returned (.string (actW 6 nm L N un)) ∧ Below w.heap.size w w' := by
  obtain rfl := act_open6 hv
  have HCo := hide (fun W (h : RdExpr W a L) => implActOk_any 6 nm a cap L N ⟨#[]⟩ W hkd h hs hm hun)
  rw [hv] at HCo
  have b0 := below_al w (.cells #[.int .i64 6, .string nm, .slice a L.length cap, .int .i64 N, .string ⟨#[]⟩] 61)
  have hX := boxk_new w #[.int .i64 6, .string nm, .slice a L.length cap, .int .i64 N, .string ⟨#[]⟩] 61
  have HTab := hide ht
  have HW := hide hw
  obtain ⟨out, hout⟩ : ∃ out, out = actW 6 nm L N ⟨#[]⟩ := ⟨_, rfl⟩
  rw [← hout]
  change out = ⟨#[102, 97, 105, 108]⟩ at hout
  have HOut := hide hout
  clear hout hv ht hw
  go_enter Tryz.func24, Tryz.ntmps24
  go_wp2_with fail
  refine (HCo.out _ (hr.below b0)).mono ?_
  rintro e w1 ⟨rfl, hb⟩
  have HX := hide (box_step hX hb)
  have hB : Below w.heap.size w w1 := b0.trans (hb.mono b0.size)
  have HT1 := hide (HTab.out.later hB (Nat.le_refl _))
  have hwd := (HW.out.later hB)
  have HR1 := hide (hr.below hB)
  have wk := hwd.2.2.2.2.2
  clear hwd HW HTab
  clear hb b0 hX HCo hkd hs hun
  have x0 := boxk_cell HX.out 0 _ rfl
  have x1 := boxk_cell HX.out 1 _ rfl
  have x2 := boxk_cell HX.out 2 _ rfl
  have x3 := boxk_cell HX.out 3 _ rfl
  have x4 := boxk_cell HX.out 4 _ rfl
  go_wp2
  go_ret
  exact ⟨ret_strW HOut.out.symm, hB⟩

set_option maxRecDepth 100000 in
set_option maxHeartbeats 3200000 in
theorem implActText_any (K : Int) (nm : ByteArray) (a : Option Addr) (cap : Nat) (L : List X11) (N : Int) (un : ByteArray) (w : World) (hkd : nm.size ≤ maxLen) (hr : RdExpr w a L) (hs : ∀ x ∈ L, x.fits) (hm : L.length ≤ 1048580) (hun : un.size ≤ maxLen) (ht : Tab w) (hw : Wrd w) :
    Calls Tryz.prog 24 #[.agg #[.int .i64 K, .string nm, .slice a L.length cap, .int .i64 N, .string un]] w fun e w' => e = .returned (.string (actT K nm L N un)) ∧ Below w.heap.size w w' := by
  cases hv : actB K nm L N un
  · rw [actT_no hv]
    have HCo := hide (fun W (h : RdExpr W a L) => implActOk_any K nm a cap L N un W hkd h hs hm hun)
    rw [hv] at HCo
    have b0 := below_al w (.cells #[.int .i64 K, .string nm, .slice a L.length cap, .int .i64 N, .string un] 61)
    go_enter Tryz.func24, Tryz.ntmps24
    go_wp2_with fail
    refine (HCo.out _ (hr.below b0)).mono ?_
    rintro e w1 ⟨rfl, hb⟩
    have hB : Below w.heap.size w w1 := b0.trans (hb.mono b0.size)
    go_wp2
    go_ret
    exact ⟨rfl, hB⟩
  · rw [actT_yes hv]
    rcases actB_kind hv with rfl | rfl | rfl | rfl | rfl | rfl
    · exact implActText_1 nm a cap L N un w hkd hr hs hm hun ht hw hv
    · exact implActText_2 nm a cap L N un w hkd hr hs hm hun ht hw hv
    · exact implActText_3 nm a cap L N un w hkd hr hs hm hun ht hw hv
    · exact implActText_4 nm a cap L N un w hkd hr hs hm hun ht hw hv
    · exact implActText_5 nm a cap L N un w hkd hr hs hm hun ht hw hv
    · exact implActText_6 nm a cap L N un w hkd hr hs hm hun ht hw hv
end Go.Proofs.YtaflokfgbmlmaacGreatDoor
