/-
  The contracts of the draws of values: some value, whatever it is, with a text of at most 21 bytes.
-/
import Derived.Test.YtaflokfgbmlmaadDoorJDrawB
import Derived.Test.YtaflokfgbmlmaadDoorJBox
import Derived.Handy
namespace Go.Proofs.YtaflokfgbmlmaadDoor
open Go.RowKit
set_option linter.unusedVariables false

theorem box_grown {w w' : World} {R q : Nat} {o : Obj} (h : w.heap[R]? = some o) (hg : w.grownBy w' (some q)) (hne : R ≠ q) : w'.heap[R]? = some o := by
  rw [hg.block R (Array.getElem?_eq_some_iff.1 h).1 (by simp; omega)]; exact h
theorem box_alloc {w : World} {R : Nat} {o : Obj} (h : w.heap[R]? = some o) (x : Obj) : (w.alloc x).heap[R]? = some o := box_old h (Array.getElem?_eq_some_iff.1 h).1 x
theorem grown_alloc (w : World) (o : Obj) (q : Nat) : w.grownBy (w.alloc o) (some q) := World.grownBy_alloc w o _

set_option maxHeartbeats 400000 in
theorem l1Once_any (B q : Nat) (n : Int) (w : World) (hc : Cur B w q) (hn : 0 < n) (hn2 : n ≤ 1000000) :
    Calls Tryd.prog 88 #[.pointer (some ⟨q, 0, none⟩), .int .i64 n] w fun e w' => ∃ b : Bool, e = .returned (.bool b) ∧ Cur B w' q ∧ w.grownBy w' (some q) := by
  go_enter Tryd.func88, Tryd.ntmps88
  go_wp2_with fail
  refine (l1Below_any B q n w hc hn hn2).mono ?_
  rintro e w1 ⟨x, rfl, x0, x1, c1, g1⟩
  go_wp2
  go_ret
  exact ⟨_, rfl, c1, g1⟩

set_option maxHeartbeats 1600000 in
theorem l1Str_any (B q l : Nat) (zs : List ByteArray) (cap : Nat) (w : World) (hc : Cur B w q) (hn : 0 < zs.length) (hn2 : zs.length ≤ 1000) (hq : l ≠ q)
    (hz : ∀ k, k < zs.length → w.cell? ⟨l, k, none⟩ = some (.string (zs.getD k ⟨#[]⟩))) :
    Calls Tryd.prog 55 #[.pointer (some ⟨q, 0, none⟩), .slice (some ⟨l, 0, none⟩) zs.length cap] w fun e w' => ∃ x : ByteArray, e = .returned (.string x) ∧ x ∈ zs ∧ Cur B w' q ∧ w.grownBy w' (some q) := by
  obtain ⟨n, hN⟩ : ∃ n, n = zs.length := ⟨_, rfl⟩
  rw [← hN] at hn hn2 hz ⊢
  have HZ := hide hz
  have HN := hide hN
  clear hz hN
  go_enter Tryd.func55, Tryd.ntmps55
  go_wp2_with fail
  refine (l1Below_any B q n w hc (by omega) (by omega)).mono ?_
  rintro e w1 ⟨x, rfl, x0, x1, c1, g1⟩
  obtain ⟨k, rfl⟩ := Int.eq_ofNat_of_zero_le x0
  have hk : k < n := by omega
  have h1 : w1.cell? ⟨l, k, none⟩ = some (.string (zs.getD k ⟨#[]⟩)) := g1.cell (HZ.out k hk) (by simp; exact hq)
  have HM : Hid (zs.getD k ⟨#[]⟩ ∈ zs) := by
    have hk2 : k < zs.length := by rw [← HN.out]; exact hk
    unfold Hid
    simp [List.getD, hk2]
  generalize zs.getD k ⟨#[]⟩ = z at h1 HM
  go_wp2
  go_ret
  exact ⟨_, rfl, HM.out, c1, g1⟩

theorem cells_strs (w : World) (T : TypeId) (zs : List ByteArray) : ∀ k, k < zs.length → (w.alloc (.cells (zs.map Value.string).toArray T)).cell? ⟨w.heap.size, k, none⟩ = some (.string (zs.getD k ⟨#[]⟩)) := by
  intro k hk
  rw [cell_of_row _ w.heap.size k _ T (0, 0) (heap_alloc_new w _)]
  simp [List.getD, hk]

set_option maxRecDepth 100000 in
set_option maxHeartbeats 1600000 in
theorem l2Draw_any (B q : Nat) (w : World) (hc : Cur B w q) :
    Calls Tryd.prog 79 #[.pointer (some ⟨q, 0, none⟩)] w fun e w' => ∃ (K N : Int) (S : ByteArray), e = .returned (.agg #[.int .i64 K, .int .i64 N, .string S]) ∧ S.size ≤ 21 ∧ Cur B w' q ∧ w.grownBy w' (some q) := by
  have hq := hc.lt
  have hB := hc.1
  go_enter Tryd.func79, Tryd.ntmps79
  go_wp2_with fail
  refine (l1Once_any B q 2 _ (hc.keep (World.grownBy_alloc w _ none) (by simp) (by simp)) (by omega) (by omega)).mono ?_
  rintro e w1 ⟨b, rfl, c1, g1⟩
  have HR := hide (box_grown (box_new w (.int .i64 0) (.int .i64 0) (.string ⟨#[]⟩) 85) g1 (by omega))
  have G1 : w.grownBy w1 (some q) := grown_trans (grown_alloc w _ q) g1
  have z1 := G1.size
  have l1 := (Array.getElem?_eq_some_iff.1 HR.out).1
  clear g1
  cases b
  · go_wp2_with fail
    refine (l1Str_any B q w1.heap.size [⟨#[]⟩, ⟨#[97]⟩, ⟨#[98]⟩, ⟨#[112, 97, 105, 100]⟩, ⟨#[120, 95, 49]⟩] 5 _ (c1.keep (World.grownBy_alloc w1 _ none) (by simp) (by simp)) (by decide) (by decide) (by omega) (cells_strs w1 9 _)).mono ?_
    rintro e w2 ⟨s, rfl, hx, c2, g2⟩
    have HS : Hid (s.size ≤ 21) := by
      unfold Hid
      simp only [List.mem_cons, List.not_mem_nil, or_false] at hx
      rcases hx with rfl | rfl | rfl | rfl | rfl <;> decide
    have HR2 := hide (box_grown (box_alloc HR.out _) g2 (by omega))
    have G2 : w.grownBy w2 (some q) := grown_trans (grown_trans G1 (grown_alloc w1 _ q)) g2
    obtain ⟨a0, a1, a2, f0, f1, f2⟩ := box_cell HR2.out
    clear hx g2 HR c1
    go_wp2
    refine box_post HR2.out (fun w3 h3 gr => ?_)
    clear a0 a1 a2 f0 f1 f2
    obtain ⟨a0, a1, a2, -, -, -⟩ := box_cell h3
    refine bodyPost_ret (v := .agg #[.int .i64 2, .int .i64 0, .string s]) (by simp [results, Tryd.results79, go_sem, a0, a1, a2]) rfl ⟨_, _, _, rfl, HS.out, c2.keep gr (by simp; omega) (by intro k hk; cases hk; omega), grown_more G2 gr (by intro k hk; cases hk; omega)⟩
  · go_wp2_with fail
    refine (l1Int_any B q w1.heap.size [0, 1, 2, 3, -1, 1000000000, -1000000000] 7 _ (c1.keep (World.grownBy_alloc w1 _ none) (by simp) (by simp)) (by decide) (by decide) (by omega) (cells_lit w1 3 _)).mono ?_
    rintro e w2 ⟨x, rfl, hx, c2, g2⟩
    have HR2 := hide (box_grown (box_alloc HR.out _) g2 (by omega))
    have G2 : w.grownBy w2 (some q) := grown_trans (grown_trans G1 (grown_alloc w1 _ q)) g2
    obtain ⟨a0, a1, a2, f0, f1, f2⟩ := box_cell HR2.out
    clear hx g2 HR c1
    go_wp2
    refine box_post HR2.out (fun w3 h3 gr => ?_)
    clear a0 a1 a2 f0 f1 f2
    obtain ⟨a0, a1, a2, -, -, -⟩ := box_cell h3
    refine bodyPost_ret (v := .agg #[.int .i64 1, .int .i64 x, .string ⟨#[]⟩]) (by simp [results, Tryd.results79, go_sem, a0, a1, a2]) rfl ⟨_, _, _, rfl, by decide, c2.keep gr (by simp; omega) (by intro k hk; cases hk; omega), grown_more G2 gr (by intro k hk; cases hk; omega)⟩
end Go.Proofs.YtaflokfgbmlmaadDoor
