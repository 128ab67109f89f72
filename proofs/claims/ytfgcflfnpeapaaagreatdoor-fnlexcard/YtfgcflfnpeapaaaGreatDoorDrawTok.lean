/-
  The contracts of the draws of tokens: some tokens, each right.
-/
import Derived.Test.YtfgcflfnpeapaaaGreatDoorDrawV
import Derived.Test.YtfgcflfnpeapaaaGreatDoorLexA
import Derived.Test.YtfgcflfnpeapaaaGreatDoorDrawB
namespace Go.Proofs.YtfgcflfnpeapaaaGreatDoor
open Go.RowKit
set_option linter.unusedVariables false

theorem tok_ints : ∀ x ∈ ([0, 7, 42, 1000000000] : List Int), tokB 1 x ⟨#[]⟩ = true := by
  intro x hx
  simp only [List.mem_cons, List.not_mem_nil, or_false] at hx
  rcases hx with rfl | rfl | rfl | rfl <;> decide +kernel
theorem tok_lit2 : ∀ x ∈ ([⟨#[114, 117, 108, 101]⟩, ⟨#[97, 95, 49]⟩, ⟨#[111, 114, 100, 101, 114]⟩] : List ByteArray), tokB 2 0 x = true := by
  intro x hx
  simp only [List.mem_cons, List.not_mem_nil, or_false] at hx
  rcases hx with rfl | rfl | rfl <;> decide +kernel
theorem tok_lit3 : ∀ x ∈ ([⟨#[88]⟩, ⟨#[73, 100, 49]⟩, ⟨#[65, 95, 98]⟩] : List ByteArray), tokB 3 0 x = true := by
  intro x hx
  simp only [List.mem_cons, List.not_mem_nil, or_false] at hx
  rcases hx with rfl | rfl | rfl <;> decide +kernel
theorem tok_lit4 : ∀ x ∈ ([⟨#[]⟩, ⟨#[112, 97, 105, 100]⟩, ⟨#[95]⟩] : List ByteArray), tokB 4 0 x = true := by
  intro x hx
  simp only [List.mem_cons, List.not_mem_nil, or_false] at hx
  rcases hx with rfl | rfl | rfl <;> decide +kernel
theorem tok_lit5 : ∀ x ∈ ([⟨#[40]⟩, ⟨#[41]⟩, ⟨#[45, 62]⟩, ⟨#[45]⟩, ⟨#[46]⟩, ⟨#[44]⟩, ⟨#[95]⟩, ⟨#[35]⟩, ⟨#[58]⟩] : List ByteArray), tokB 5 0 x = true := by
  intro x hx
  simp only [List.mem_cons, List.not_mem_nil, or_false] at hx
  rcases hx with rfl | rfl | rfl | rfl | rfl | rfl | rfl | rfl | rfl <;> decide +kernel

set_option maxRecDepth 100000 in
set_option maxHeartbeats 3200000 in
theorem l5Token_any (B q : Nat) (w : World) (hc : Cur B w q) :
    Calls Tryz.prog 26 #[.pointer (some ⟨q, 0, none⟩)] w fun e w' => ∃ (v : V3), e = .returned (.agg #[.int .i64 v.K, .int .i64 v.N, .string v.S]) ∧ tokB v.K v.N v.S = true ∧ Cur B w' q ∧ w.grownBy w' (some q) := by
  have hq := hc.lt
  have hB := hc.1
  go_enter Tryz.func26, Tryz.ntmps26
  go_wp2_with fail
  refine (l1Below_any B q 5 _ (hc.keep (World.grownBy_alloc w _ none) (by simp) (by simp)) (by omega) (by omega)).mono ?_
  rintro e w1 ⟨x, rfl, x0, x1, c1, g1⟩
  have HR := hide (box_grown (box_new w (.int .i64 0) (.int .i64 0) (.string ⟨#[]⟩) 31) g1 (by omega))
  have G1 : w.grownBy w1 (some q) := grown_trans (grown_alloc w _ q) g1
  have z1 := G1.size
  have l1 := (Array.getElem?_eq_some_iff.1 HR.out).1
  clear g1
  have hx5 : x = 0 ∨ x = 1 ∨ x = 2 ∨ x = 3 ∨ x = 4 := by omega
  clear x0 x1
  rcases hx5 with rfl | rfl | rfl | rfl | rfl
  · go_wp2_with fail
    refine (l1Int_any B q w1.heap.size [0, 7, 42, 1000000000] 4 _ (c1.keep (World.grownBy_alloc w1 _ none) (by simp) (by simp)) (by decide) (by decide) (by omega) (cells_lit w1 3 _)).mono ?_
    rintro e w2 ⟨s, rfl, hx, c2, g2⟩
    have HT := hide (tok_ints s hx)
    have HR2 := hide (box_grown (box_alloc HR.out _) g2 (by omega))
    have G2 : w.grownBy w2 (some q) := grown_trans (grown_trans G1 (grown_alloc w1 _ q)) g2
    obtain ⟨a0, a1, a2, f0, f1, f2⟩ := box_cell HR2.out
    clear hx g2 HR c1
    go_wp2
    refine box_post HR2.out (fun w3 h3 gr => ?_)
    clear a0 a1 a2 f0 f1 f2
    obtain ⟨a0, a1, a2, -, -, -⟩ := box_cell h3
    refine bodyPost_ret (v := .agg #[.int .i64 1, .int .i64 s, .string ⟨#[]⟩]) (by simp [results, Tryz.results26, go_sem, a0, a1, a2]) rfl ⟨⟨1, s, ⟨#[]⟩⟩, rfl, HT.out, c2.keep gr (by simp; omega) (by intro k hk; cases hk; omega), grown_more G2 gr (by intro k hk; cases hk; omega)⟩
  · go_wp2_with fail
    refine (l1Str_any B q w1.heap.size [⟨#[114, 117, 108, 101]⟩, ⟨#[97, 95, 49]⟩, ⟨#[111, 114, 100, 101, 114]⟩] 3 _ (c1.keep (World.grownBy_alloc w1 _ none) (by simp) (by simp)) (by decide) (by decide) (by omega) (cells_strs w1 9 _)).mono ?_
    rintro e w2 ⟨s, rfl, hx, c2, g2⟩
    have HT := hide (tok_lit2 s hx)
    have HR2 := hide (box_grown (box_alloc HR.out _) g2 (by omega))
    have G2 : w.grownBy w2 (some q) := grown_trans (grown_trans G1 (grown_alloc w1 _ q)) g2
    obtain ⟨a0, a1, a2, f0, f1, f2⟩ := box_cell HR2.out
    clear hx g2 HR c1
    go_wp2
    refine box_post HR2.out (fun w3 h3 gr => ?_)
    clear a0 a1 a2 f0 f1 f2
    obtain ⟨a0, a1, a2, -, -, -⟩ := box_cell h3
    refine bodyPost_ret (v := .agg #[.int .i64 2, .int .i64 0, .string s]) (by simp [results, Tryz.results26, go_sem, a0, a1, a2]) rfl ⟨⟨2, 0, s⟩, rfl, HT.out, c2.keep gr (by simp; omega) (by intro k hk; cases hk; omega), grown_more G2 gr (by intro k hk; cases hk; omega)⟩
  · go_wp2_with fail
    refine (l1Str_any B q w1.heap.size [⟨#[88]⟩, ⟨#[73, 100, 49]⟩, ⟨#[65, 95, 98]⟩] 3 _ (c1.keep (World.grownBy_alloc w1 _ none) (by simp) (by simp)) (by decide) (by decide) (by omega) (cells_strs w1 9 _)).mono ?_
    rintro e w2 ⟨s, rfl, hx, c2, g2⟩
    have HT := hide (tok_lit3 s hx)
    have HR2 := hide (box_grown (box_alloc HR.out _) g2 (by omega))
    have G2 : w.grownBy w2 (some q) := grown_trans (grown_trans G1 (grown_alloc w1 _ q)) g2
    obtain ⟨a0, a1, a2, f0, f1, f2⟩ := box_cell HR2.out
    clear hx g2 HR c1
    go_wp2
    refine box_post HR2.out (fun w3 h3 gr => ?_)
    clear a0 a1 a2 f0 f1 f2
    obtain ⟨a0, a1, a2, -, -, -⟩ := box_cell h3
    refine bodyPost_ret (v := .agg #[.int .i64 3, .int .i64 0, .string s]) (by simp [results, Tryz.results26, go_sem, a0, a1, a2]) rfl ⟨⟨3, 0, s⟩, rfl, HT.out, c2.keep gr (by simp; omega) (by intro k hk; cases hk; omega), grown_more G2 gr (by intro k hk; cases hk; omega)⟩
  · go_wp2_with fail
    refine (l1Str_any B q w1.heap.size [⟨#[]⟩, ⟨#[112, 97, 105, 100]⟩, ⟨#[95]⟩] 3 _ (c1.keep (World.grownBy_alloc w1 _ none) (by simp) (by simp)) (by decide) (by decide) (by omega) (cells_strs w1 9 _)).mono ?_
    rintro e w2 ⟨s, rfl, hx, c2, g2⟩
    have HT := hide (tok_lit4 s hx)
    have HR2 := hide (box_grown (box_alloc HR.out _) g2 (by omega))
    have G2 : w.grownBy w2 (some q) := grown_trans (grown_trans G1 (grown_alloc w1 _ q)) g2
    obtain ⟨a0, a1, a2, f0, f1, f2⟩ := box_cell HR2.out
    clear hx g2 HR c1
    go_wp2
    refine box_post HR2.out (fun w3 h3 gr => ?_)
    clear a0 a1 a2 f0 f1 f2
    obtain ⟨a0, a1, a2, -, -, -⟩ := box_cell h3
    refine bodyPost_ret (v := .agg #[.int .i64 4, .int .i64 0, .string s]) (by simp [results, Tryz.results26, go_sem, a0, a1, a2]) rfl ⟨⟨4, 0, s⟩, rfl, HT.out, c2.keep gr (by simp; omega) (by intro k hk; cases hk; omega), grown_more G2 gr (by intro k hk; cases hk; omega)⟩
  · go_wp2_with fail
    refine (l1Str_any B q w1.heap.size [⟨#[40]⟩, ⟨#[41]⟩, ⟨#[45, 62]⟩, ⟨#[45]⟩, ⟨#[46]⟩, ⟨#[44]⟩, ⟨#[95]⟩, ⟨#[35]⟩, ⟨#[58]⟩] 9 _ (c1.keep (World.grownBy_alloc w1 _ none) (by simp) (by simp)) (by decide) (by decide) (by omega) (cells_strs w1 9 _)).mono ?_
    rintro e w2 ⟨s, rfl, hx, c2, g2⟩
    have HT := hide (tok_lit5 s hx)
    have HR2 := hide (box_grown (box_alloc HR.out _) g2 (by omega))
    have G2 : w.grownBy w2 (some q) := grown_trans (grown_trans G1 (grown_alloc w1 _ q)) g2
    obtain ⟨a0, a1, a2, f0, f1, f2⟩ := box_cell HR2.out
    clear hx g2 HR c1
    go_wp2
    refine box_post HR2.out (fun w3 h3 gr => ?_)
    clear a0 a1 a2 f0 f1 f2
    obtain ⟨a0, a1, a2, -, -, -⟩ := box_cell h3
    refine bodyPost_ret (v := .agg #[.int .i64 5, .int .i64 0, .string s]) (by simp [results, Tryz.results26, go_sem, a0, a1, a2]) rfl ⟨⟨5, 0, s⟩, rfl, HT.out, c2.keep gr (by simp; omega) (by intro k hk; cases hk; omega), grown_more G2 gr (by intro k hk; cases hk; omega)⟩

/-- tokens that were drawn, in a row of their own -/
def DrawnT (B : Nat) (e : Ending) (w' : World) : Prop := ∃ v L, e = .returned v ∧ w'.ownsRow B 31 3 v L.length (cells3 L) ∧ L.length ≤ 10 ∧ ∀ u ∈ L, tokB u.K u.N u.S = true

set_option maxRecDepth 100000 in
set_option maxHeartbeats 3200000 in
theorem l5Tokens_any (B q : Nat) (mx : Int) (w : World) (hc : Cur B w q) (hqs : q < w.heap.size) (hm0 : 0 < mx) (hm1 : mx ≤ 10) :
    Calls Tryz.prog 13 #[.pointer (some ⟨q, 0, none⟩), .int .i64 mx] w fun e w' => DrawnT w.heap.size e w' ∧ Cur B w' q ∧ w.grownBy w' (some q) := by
  obtain ⟨i0, hi, hz0, hz1, hz2⟩ := info_parts Tk.infoT
  have b0 : w.grownBy (w.alloc (.cells #[] 31)) (some q) := grown_alloc w _ q
  have r0 : (w.alloc (.cells #[] 31)).ownsRow w.heap.size 31 3 (.slice (some ⟨w.heap.size, 0, none⟩) 0 0) ([] : List V3).length (cells3 []) := World.ownsRow_lit w #[] 0 (Nat.le_refl _) (Nat.zero_le _) rfl
  have c0 := hc.keep (World.grownBy_alloc w (.cells #[] 31) none) (by simp) (by simp)
  go_enter Tryz.func13, Tryz.ntmps13
  go_wp2_with fail
  generalize w.alloc (.cells #[] 31) = w0 at b0 r0 c0 ⊢
  refine (l1Below_any B q mx _ c0 (by omega) (by omega)).mono ?_
  rintro e w1 ⟨x, rfl, x0, x1, c1, g1⟩
  obtain ⟨m, rfl⟩ := Int.eq_ofNat_of_zero_le x0
  have G1 := grown_trans b0 g1
  have r1 := World.ownsRow.kept r0 g1 (.inr (by simp [Value.ownBlock]; omega))
  clear b0 r0 c0 g1 x0
  go_wp2
  go_loopw [5, 6] (fun v i wr => ∃ (j : Nat) (L : List V3), j + L.length = m ∧ i = .int .i64 (j : Int) ∧ wr.ownsRow w.heap.size 31 3 v L.length (cells3 L) ∧ (∀ u ∈ L, tokB u.K u.N u.S = true) ∧ Cur B wr q ∧ w.grownBy wr (some q)) (fun _ i _ => (intOf i).toNat)
  case atStart => exact ⟨m, [], by simp, rfl, r1, by simp, c1, G1⟩
  case round =>
    clear r1 c1 G1
    obtain ⟨j, L, hj, rfl, hown, htok, hcu, hgr⟩ := hrel
    have HTok := hide htok
    clear htok
    obtain ⟨g, c, e0, -, -, -, -⟩ := rdV_owns hown
    by_cases hlt : 0 < j
    · have hlt' : (0 : Int) < (j : Int) := by omega
      subst e0
      go_wp2_with fail
      refine (l5Token_any B q _ hcu).mono ?_
      rintro e w3 ⟨⟨K1, N1, S1⟩, rfl, hv, c3, g3⟩
      have HV := hide hv
      have hne : (Value.slice g L.length c).ownBlock ≠ some q := fun e => by have := (hown.lt q e).1; omega
      have hown3 := World.ownsRow.kept hown g3 (.inr hne)
      have G3 := grown_trans hgr g3
      have HO4 := hide (hown3.alloc (.cells #[.int .i64 K1, .int .i64 N1, .string S1] 31))
      have HSrc := hide (tnews_src w3 ⟨K1, N1, S1⟩)
      have hsz : w.heap.size ≤ (w3.alloc (.cells #[.int .i64 K1, .int .i64 N1, .string S1] 31)).heap.size := by have := G3.size; simp; omega
      have C4 := c3.keep (World.grownBy_alloc w3 (.cells #[.int .i64 K1, .int .i64 N1, .string S1] 31) none) (by simp) (by simp)
      have G4 := grown_trans G3 (grown_alloc w3 (.cells #[.int .i64 K1, .int .i64 N1, .string S1] 31) q)
      clear hv hown hown3 hcu hgr c3 g3 G3
      go_wp2_with (at_builtin; refine wpList_append_lies _ rfl (.tmp 15) (.tmp 18) 25 rfl w.heap.size 31 i0 (.agg #[.int .i64 0, .int .i64 0, .string ⟨#[]⟩]) 3 32 Tryz.underlying25 hi hz0 hz1 hz2 rfl (by omega) (.slice g L.length c) L.length (cells3 L) rfl HO4.out ⟨w3.heap.size, 0, none⟩ 1 1 [.int .i64 K1, .int .i64 N1, .string S1] rfl rfl HSrc.out (tnews_one ⟨K1, N1, S1⟩) (by omega) (by unfold maxLen; omega) (by omega) hsz _ rfl ?_)
      intro g6 c6 w6 ho6 hg6 hat6 hlt6
      have HO6 : Hid (w6.ownsRow w.heap.size 31 3 (.slice (some ⟨g6, 0, none⟩) (L.length + 1) c6) (L ++ [(⟨K1, N1, S1⟩ : V3)]).length (cells3 (L ++ [⟨K1, N1, S1⟩]))) := by
        unfold Hid
        rw [← tapp3, List.length_append]
        exact ho6
      have hC6 := C4.keep hg6 hne (fun k hk => by have := (HO4.out.lt k hk).1; have := hc.1; omega)
      have hG6 := grown_more G4 hg6 (fun k hk => (HO4.out.lt k hk).1)
      have HT6 : Hid (∀ u ∈ L ++ [(⟨K1, N1, S1⟩ : V3)], tokB u.K u.N u.S = true) := fun u hu => by
        rcases List.mem_append.1 hu with hu | hu
        · exact HTok.out u hu
        · rw [List.mem_singleton.1 hu]; exact HV.out
      clear ho6 hg6 hat6 hlt6 HO4 HSrc C4 G4 hne
      go_wp2
      go_roundw
      case rel => exact ⟨j - 1, L ++ [⟨K1, N1, S1⟩], by simp; omega, by congr 1; omega, HO6.out, HT6.out, hC6, hG6⟩
      case measure => simp [intOf]; omega
    · have hlt' : ¬ (0 : Int) < (j : Int) := by omega
      have HD : Hid (DrawnT w.heap.size (.returned (.slice g L.length c)) wr) := ⟨_, L, rfl, by rw [← e0]; exact hown, by omega, HTok.out⟩
      subst e0
      go_wp2
      go_ret
      exact ⟨HD.out, hcu, hgr⟩

end Go.Proofs.YtfgcflfnpeapaaaGreatDoor
