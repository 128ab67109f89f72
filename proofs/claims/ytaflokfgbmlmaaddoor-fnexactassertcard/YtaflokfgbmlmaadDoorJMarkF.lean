/-
  The contracts of the laws' own markers on facts: markFact writes numbers and texts into a row of values of the calls' own and touches no other block that was there.
-/
import Derived.Test.YtaflokfgbmlmaadDoorJoined1
import Derived.Laws.IdiomStrings
namespace Go.Proofs.YtaflokfgbmlmaadDoor
open Go.RowKit
set_option linter.unusedVariables false

/-- the bytes of a mark's digits -/
def markL (fuel n : Nat) (r : List UInt8) : List UInt8 := match fuel with
  | 0 => r
  | f + 1 => if n = 0 then r else markL f (n / 10) (UInt8.ofNat (48 + n % 10) :: r)
def markT (k : Nat) : ByteArray := if k = 0 then ⟨#[109, 48]⟩ else ⟨#[109]⟩ ++ ⟨(markL 20 k []).toArray⟩
theorem markL_stop (n : Nat) (r : List UInt8) : ∀ f, n = 0 → markL f n r = r
  | 0, _ => rfl
  | f + 1, h => by unfold markL; rw [if_pos h]
theorem markL_step {f n : Nat} {r : List UInt8} (h : n ≠ 0) : markL (f + 1) n r = markL f (n / 10) (UInt8.ofNat (48 + n % 10) :: r) := by
  show (if n = 0 then _ else _) = _; rw [if_neg h]

theorem conv_1 (q : Nat) (c : UInt8) (d : Int) (hd : d = (c.toNat : Int)) (W : World) (h : W.cell? ⟨q, 0, none⟩ = some (.int .u8 d)) :
    (convert 47 9 (.slice (some ⟨q, 0, none⟩) 1 1)).run Tryd.prog W = .ok (.string ⟨#[c]⟩) W := by
  subst hd
  have := run_convert_bytes_back (P := Tryd.prog) W 47 9 5 ⟨q, 0, none⟩ 1 [c] Tryd.underlying47 Tryd.underlying5 Tryd.underlying9 (fun j hj => by
    obtain rfl : j = 0 := by simpa using hj
    rw [Addr.add_lit, Nat.add_zero, h]
    simp)
  simpa using this
theorem cell_1 (w : World) (c : Value) (T : TypeId) : (w.alloc (.cells #[c] T)).cell? ⟨w.heap.size, 0, none⟩ = some c := by
  rw [cell_of_row _ w.heap.size 0 _ T (0, 0) (heap_alloc_new w _)]; rfl
theorem app_1 (c : UInt8) (s : ByteArray) : ((⟨#[c]⟩ : ByteArray) ++ s).data.toList = c :: s.data.toList ∧ ((⟨#[c]⟩ : ByteArray) ++ s).size = s.size + 1 := by
  constructor
  · simp
  · rw [ByteArray.size_append]; show 1 + s.size = _; omega

set_option maxRecDepth 100000 in
set_option maxHeartbeats 1600000 in
theorem markText_any (k : Nat) (w : World) (hk : k ≤ 1000000000) :
    Calls Tryd.prog 72 #[.int .i64 (k : Int)] w fun e w' => e = .returned (.string (markT k)) ∧ Below w.heap.size w w' := by
  by_cases h0 : k = 0
  · subst h0
    go_enter Tryd.func72, Tryd.ntmps72
    go_wp2
    go_ret
    exact ⟨rfl, Below.refl _ _⟩
  · have h1 : ¬ ((k : Int) ≤ 0) := by omega
    have HT : Hid (markT k = ⟨#[109]⟩ ++ ⟨(markL 20 k []).toArray⟩) := by unfold Hid markT; rw [if_neg h0]
    go_enter Tryd.func72, Tryd.ntmps72
    go_wp2
    go_loopw [0, 3] (fun i s wr => ∃ (m f : Nat) (t : ByteArray), i = .int .i64 (m : Int) ∧ s = .string t ∧ m ≤ 1000000000 ∧ m < 10 ^ f ∧ f ≤ 20 ∧ t.size ≤ 40 - f ∧ markL f m t.data.toList = markL 20 k [] ∧ Below w.heap.size w wr) (fun i _ _ => (intOf i).toNat)
    case atStart => exact ⟨k, 20, ⟨#[]⟩, rfl, rfl, hk, by omega, Nat.le_refl _, by show (0 : Nat) ≤ 20; omega, rfl, Below.refl _ _⟩
    case round =>
      obtain ⟨m, f, t, rfl, rfl, hm, hf, hf2, hr, hl, hbel⟩ := hrel
      by_cases hlt : m = 0
      · have HL : Hid (t = ⟨(markL 20 k []).toArray⟩) := by
          have := (markL_stop m t.data.toList f hlt).symm.trans hl
          apply ByteArray.ext
          rw [← this]
        have h2 : ¬ ((0 : Int) < (m : Int)) := by omega
        clear hl
        go_wp2
        go_ret
        exact ⟨by rw [HT.out, ← HL.out]; rfl, hbel⟩
      · obtain ⟨f', rfl⟩ : ∃ f', f = f' + 1 := ⟨f - 1, by cases f with | zero => simp at hf; omega | succ f => rfl⟩
        have HL := hide ((markL_step hlt).symm.trans hl)
        have h2 : (0 : Int) < (m : Int) := by omega
        have hq : m / 10 < 10 ^ f' := by rw [Nat.pow_succ] at hf; exact Nat.div_lt_of_lt_mul (by omega)
        have HQ := hide hq
        clear hl hf hq
        obtain ⟨c, hc1, hc2⟩ : ∃ c : UInt8, 48 + (m : Int) % 10 = (c.toNat : Int) ∧ UInt8.ofNat (48 + m % 10) = c := ⟨_, by simp; omega, rfl⟩
        rw [hc2] at HL
        have hcv := conv_1 wr.heap.size c (48 + (m : Int) % 10) hc1 _ (cell_1 wr (.int .u8 (48 + (m : Int) % 10)) 5)
        obtain ⟨a1, a2⟩ := app_1 c t
        have HA := hide a1
        have HB := hide (hbel.alloc hbel.size (.cells #[.int .u8 (48 + (m : Int) % 10)] 5))
        have hts : t.size ≤ 40 := by omega
        clear hc1 hc2 a1
        go_wp2
        go_roundw
        case rel => exact ⟨m / 10, f', _, by go_num, rfl, by omega, HQ.out, by omega, by rw [a2]; omega, by rw [HA.out]; exact HL.out, HB.out⟩
        case measure => simp [intOf]; omega

theorem markText_i (x : Int) (k : Nat) (w : World) (hx : x = (k : Int)) (hk : k ≤ 1000000000) :
    Calls Tryd.prog 72 #[.int .i64 x] w fun e w' => e = .returned (.string (markT k)) ∧ Below w.heap.size w w' := by subst hx; exact markText_any k w hk
/-- the row's k-th value is marked -/
def markV (k : Nat) : V3 := ⟨(k : Int), ((k + 1 : Nat) : Int), markT (k + 2)⟩
def marksV (k n : Nat) : List V3 := (List.range n).map fun i => markV (k + 3 * i)
theorem marksV_length (k n : Nat) : (marksV k n).length = n := by simp [marksV]
theorem marksV_succ (k n : Nat) : marksV k (n + 1) = marksV k n ++ [markV (k + 3 * n)] := by simp [marksV, List.range_succ]
def partM (L : List V3) (k j : Nat) : List V3 := marksV k j ++ L.drop j
theorem partM_end {L : List V3} {k j : Nat} (h : L.length ≤ j) : partM L k j = marksV k j := by unfold partM; rw [List.drop_eq_nil_of_le h, List.append_nil]
theorem partM_length {L : List V3} {k j : Nat} (h : j ≤ L.length) : (partM L k j).length = L.length := by unfold partM; rw [List.length_append, marksV_length, List.length_drop]; omega
theorem partM_set {L : List V3} {k j : Nat} (h : j < L.length) :
    (((cells3 (partM L k j)).set (j * 3) (.int .i64 (markV (k + 3 * j)).K)).set (j * 3 + 1) (.int .i64 (markV (k + 3 * j)).N)).set (j * 3 + 2) (.string (markV (k + 3 * j)).S) = cells3 (partM L k (j + 1)) := by
  have h1 : partM L k j = marksV k j ++ L[j] :: L.drop (j + 1) := by unfold partM; rw [List.drop_eq_getElem_cons h]
  have h2 : partM L k (j + 1) = marksV k j ++ markV (k + 3 * j) :: L.drop (j + 1) := by unfold partM; rw [marksV_succ, List.append_assoc]; rfl
  have := cells3_set (marksV k j) (L.drop (j + 1)) (markV (k + 3 * j)) L[j]
  rw [marksV_length] at this
  rw [h1, h2]; exact this

set_option maxRecDepth 100000 in
set_option maxHeartbeats 1600000 in
theorem markValS_any (g cap k0 : Nat) (L : List V3) (w : World) (hown : OwnV w g cap L) (hn : L.length ≤ 1048580) (hk : k0 ≤ 33554500) :
    Calls Tryd.prog 47 #[.slice (some ⟨g, 0, none⟩) L.length cap, .int .i64 (k0 : Int)] w fun e w' =>
      e = .returned (.int .i64 ((k0 + 3 * L.length : Nat) : Int)) ∧ OwnV w' g cap (marksV k0 L.length) ∧ (∀ q, q < w.heap.size → q ≠ g → w'.heap[q]? = w.heap[q]?) ∧ Below g w w' := by
  have hg := hown.lt
  obtain ⟨n, hN⟩ : ∃ n, n = L.length := ⟨_, rfl⟩
  have hown0 : w.ownsRow 0 85 3 (.slice (some ⟨g, 0, none⟩) n cap) n (cells3 L) := by rw [hN]; exact hown
  rw [← hN] at hn ⊢
  have HN := hide hN
  have HO := hide hown0
  clear hN hown hown0
  have hfin : ∀ {W : World}, W.ownsRow 0 85 3 (.slice (some ⟨g, 0, none⟩) n cap) n (cells3 (marksV k0 n)) → OwnV W g cap (marksV k0 n) := fun h => OwnV.of h
  have HFin := hide (fun W => @hfin W)
  clear hfin
  go_enter Tryd.func47, Tryd.ntmps47
  go_wp2
  go_loopw [1, 5] (fun kk i wr => ∃ j : Nat, j ≤ n ∧ i = .int .i64 j ∧ (∃ m : Nat, m = k0 + 3 * j ∧ kk = .int .i64 (m : Int)) ∧ wr.ownsRow 0 85 3 (.slice (some ⟨g, 0, none⟩) n cap) n (cells3 (partM L k0 j)) ∧ (∀ q, q < w.heap.size → q ≠ g → wr.heap[q]? = w.heap[q]?) ∧ Below g w wr) (fun _ i _ => n - (intOf i).toNat)
  case atStart => exact ⟨0, Nat.zero_le _, rfl, ⟨k0, rfl, rfl⟩, HO.out, fun q _ _ => rfl, Below.refl _ _⟩
  case round =>
    obtain ⟨j, hj, rfl, ⟨m, hm, rfl⟩, hown, hoth, hbel⟩ := hrel
    have HM := hide hm
    have hm2 : m ≤ 40000000 := by omega
    clear hm
    have HOth := hide hoth
    clear hoth
    by_cases hlt : j < n
    · have hlen : (cells3 (partM L k0 j)).length = n * 3 := by rw [cells3_length, partM_length (by rw [← HN.out]; omega), ← HN.out]
      have hmem : ∀ i, i < 3 → ∃ u, wr.cell? ⟨g, j * 3 + i, none⟩ = some u := fun i hi => by
        rw [hown.cellAt (j * 3 + i) (by omega), List.getElem?_eq_getElem (by omega)]
        exact ⟨_, rfl⟩
      obtain ⟨u0, m0⟩ := hmem 0 (by omega)
      obtain ⟨u1, m1⟩ := hmem 1 (by omega)
      rw [Nat.add_zero] at m0
      have f0 := hown.frozenAt (j * 3)
      have f1 := hown.frozenAt (j * 3 + 1)
      clear hmem hlen
      have hs1 := hown.stored (j * 3) (.int .i64 (m : Int))
      have hs2 := hs1.1.stored (j * 3 + 1) (.int .i64 ((m : Int) + 1))
      have HS2 := hide hs2.1
      have HB2 : Hid (Below g w ((wr.setCell ⟨g, j * 3, none⟩ (.int .i64 (m : Int))).setCell ⟨g, j * 3 + 1, none⟩ (.int .i64 ((m : Int) + 1)))) := (hbel.setCell (Nat.le_refl _) _).setCell (Nat.le_refl _) _
      have HO2 : Hid (∀ q, q < w.heap.size → q ≠ g → ((wr.setCell ⟨g, j * 3, none⟩ (.int .i64 (m : Int))).setCell ⟨g, j * 3 + 1, none⟩ (.int .i64 ((m : Int) + 1))).heap[q]? = w.heap[q]?) := fun q hq hne => by
        have hq2 : q < wr.heap.size := Nat.lt_of_lt_of_le hq hbel.size
        rw [hs2.2.block q (Nat.lt_of_lt_of_le hq2 hs1.2.size) (by simp; omega), hs1.2.block q hq2 (by simp; omega)]
        exact HOth.out q hq hne
      clear hs1 hs2 hbel hown HOth
      go_wp2_with fail
      refine (markText_i ((m : Int) + 1 + 1) (m + 2) _ (by omega) (by omega)).mono ?_
      generalize (wr.setCell ⟨g, j * 3, none⟩ (.int .i64 (m : Int))).setCell ⟨g, j * 3 + 1, none⟩ (.int .i64 ((m : Int) + 1)) = w2 at HS2 HB2 HO2
      rintro e w3 ⟨rfl, hb3⟩
      have ho3 := ownsRow_below HS2.out hb3
      have B3 : Below g w w3 := HB2.out.trans (hb3.mono (Nat.le_trans (Nat.le_of_lt hg) HB2.out.size))
      have HO3 : Hid (∀ q, q < w.heap.size → q ≠ g → w3.heap[q]? = w.heap[q]?) := fun q hq hne => by
        rw [hb3.block q (Nat.lt_of_lt_of_le hq HB2.out.size)]; exact HO2.out q hq hne
      have hlen : (((cells3 (partM L k0 j)).set (j * 3) (.int .i64 (m : Int))).set (j * 3 + 1) (.int .i64 ((m : Int) + 1))).length = n * 3 := by
        rw [List.length_set, List.length_set, cells3_length, partM_length (by rw [← HN.out]; omega), ← HN.out]
      obtain ⟨u2, m2⟩ : ∃ u, w3.cell? ⟨g, j * 3 + 2, none⟩ = some u := by
        rw [ho3.cellAt (j * 3 + 2) (by omega), List.getElem?_eq_getElem (by omega)]
        exact ⟨_, rfl⟩
      have f2 := ho3.frozenAt (j * 3 + 2)
      have hs3 := ho3.stored (j * 3 + 2) (.string (markT (m + 2)))
      have hset := partM_set (L := L) (k := k0) (j := j) (by rw [← HN.out]; exact hlt)
      have e1 : (markV (k0 + 3 * j)).K = (m : Int) := by rw [← HM.out]; rfl
      have e2 : (markV (k0 + 3 * j)).N = (m : Int) + 1 := by rw [← HM.out]; show ((m + 1 : Nat) : Int) = _; omega
      have e3 : (markV (k0 + 3 * j)).S = markT (m + 2) := by rw [← HM.out]; rfl
      rw [e1, e2, e3] at hset
      have HS3 : Hid ((w3.setCell ⟨g, j * 3 + 2, none⟩ (.string (markT (m + 2)))).ownsRow 0 85 3 (.slice (some ⟨g, 0, none⟩) n cap) n (cells3 (partM L k0 (j + 1)))) := by
        have := hs3.1
        rw [hset] at this
        exact this
      have HB3 : Hid (Below g w (w3.setCell ⟨g, j * 3 + 2, none⟩ (.string (markT (m + 2))))) := B3.setCell (Nat.le_refl _) _
      have HO4 : Hid (∀ q, q < w.heap.size → q ≠ g → (w3.setCell ⟨g, j * 3 + 2, none⟩ (.string (markT (m + 2)))).heap[q]? = w.heap[q]?) := fun q hq hne => by
        rw [hs3.2.block q (Nat.lt_of_lt_of_le hq B3.size) (by simp; omega)]; exact HO3.out q hq hne
      clear hs3 hset e1 e2 e3 hlen ho3 B3 hb3 m0 m1 f0 f1
      generalize markT (m + 2) = tx at HS3 HB3 HO4 ⊢
      go_wp2
      go_roundw
      case rel => exact ⟨j + 1, by omega, by go_num, ⟨m + 3, by rw [HM.out]; omega, by go_num⟩, HS3.out, HO4.out, HB3.out⟩
      case measure => simp [intOf]; omega
    · obtain rfl : j = n := by omega
      rw [partM_end (by rw [← HN.out]; exact Nat.le_refl _)] at hown
      have HF := hide (HFin.out wr hown)
      clear hown
      go_wp2
      go_ret
      exact ⟨by rw [HM.out]; rfl, HF.out, HOth.out, hbel⟩

set_option maxRecDepth 100000 in
set_option maxHeartbeats 1600000 in
theorem markFact_any (kd : ByteArray) (g cap k0 : Nat) (L : List V3) (w : World) (hown : OwnV w g cap L) (hn : L.length ≤ 1048580) (hk : k0 ≤ 33554500) :
    Calls Tryd.prog 18 #[.agg #[.string kd, .slice (some ⟨g, 0, none⟩) L.length cap], .int .i64 (k0 : Int)] w fun e w' =>
      (∃ r : Nat, e = .returned (.int .i64 (r : Int)) ∧ r = k0 + 3 * L.length) ∧ OwnV w' g cap (marksV k0 L.length) ∧ (∀ q, q < w.heap.size → q ≠ g → w'.heap[q]? = w.heap[q]?) ∧ Below g w w' := by
  have hg := hown.lt
  have b0 := below_al w (.cells #[.string kd, .slice (some ⟨g, 0, none⟩) L.length cap] 41)
  go_enter Tryd.func18, Tryd.ntmps18
  go_wp2_with fail
  refine (markValS_any g cap k0 L _ (hown.later b0) hn hk).mono ?_
  rintro e w1 ⟨rfl, o1, h1, b1⟩
  have HO : Hid (∀ q, q < w.heap.size → q ≠ g → w1.heap[q]? = w.heap[q]?) := fun q hq hne => by
    rw [h1 q (Nat.lt_of_lt_of_le hq b0.size) hne, b0.block q hq]
  have B1 : Below g w w1 := (b0.mono (Nat.le_of_lt hg)).trans b1
  obtain ⟨r, hr⟩ : ∃ r, r = k0 + 3 * L.length := ⟨_, rfl⟩
  rw [← hr]
  have H1 := hide o1
  have HR := hide hr
  clear o1 h1 b1 b0 hr
  go_wp2
  go_ret
  exact ⟨⟨r, rfl, HR.out⟩, H1.out, HO.out, B1⟩
theorem markFact_i (kd : ByteArray) (g cap : Nat) (x : Int) (k0 : Nat) (L : List V3) (w : World) (hown : OwnV w g cap L) (hn : L.length ≤ 1048580) (hk : k0 ≤ 33554500) (hx : x = (k0 : Int)) :
    Calls Tryd.prog 18 #[.agg #[.string kd, .slice (some ⟨g, 0, none⟩) L.length cap], .int .i64 x] w fun e w' =>
      (∃ r : Nat, e = .returned (.int .i64 (r : Int)) ∧ r = k0 + 3 * L.length) ∧ OwnV w' g cap (marksV k0 L.length) ∧ (∀ q, q < w.heap.size → q ≠ g → w'.heap[q]? = w.heap[q]?) ∧ Below g w w' := by
  subst hx; exact markFact_any kd g cap k0 L w hown hn hk
end Go.Proofs.YtaflokfgbmlmaadDoor
