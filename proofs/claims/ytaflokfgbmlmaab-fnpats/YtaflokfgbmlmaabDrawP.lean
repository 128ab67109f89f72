/-
  The contract of the draw of binds: some, whatever they are, with short texts.
-/
import Derived.Test.YtaflokfgbmlmaabDrawAr
import Derived.Test.YtaflokfgbmlmaabSrc4
namespace Go.Proofs.Ytaflokfgbmlmaab
open Go.RowKit
set_option linter.unusedVariables false

/-- some binds were drawn -/
def DrawnB (w : World) (B q : Nat) (e : Ending) (w' : World) : Prop := ∃ (g c : Nat) (L : List B4), e = .returned (.slice (some ⟨g, 0, none⟩) L.length c) ∧ L.length ≤ 3 ∧ (∀ x ∈ L, x.small) ∧ w'.ownsRow w.heap.size 104 4 (.slice (some ⟨g, 0, none⟩) L.length c) L.length (rowOf B4.cs L) ∧ Cur B w' q ∧ w.grownBy w' (some q)

set_option maxRecDepth 100000 in
set_option maxHeartbeats 3200000 in
theorem l6Binds_any (B q : Nat) (w : World) (hc : Cur B w q) :
    Calls Try.prog 64 #[.pointer (some ⟨q, 0, none⟩)] w (DrawnB w B q) := by
  obtain ⟨i0, hi, hz0, hz1, hz2⟩ := info_parts Try.info104
  have hq := hc.lt
  have hB := hc.1
  go_enter Try.func64, Try.ntmps64
  go_wp2_with fail
  have c0 : Cur B (w.alloc (.cells #[] 104)) q := hc.keep (World.grownBy_alloc w _ none) (by simp) (by simp)
  have ho0 := World.ownsRow_lit (base := w.heap.size) (e := 104) (size := 4) w #[] 0 (Nat.le_refl _) (Nat.zero_le _) rfl
  have G0 := grown_alloc w (.cells #[] 104) q
  have hs0 : w.heap.size < (w.alloc (.cells #[] 104)).heap.size := by simp
  refine (l1Below_any B q 3 _ c0 (by omega) (by omega)).mono ?_
  rintro e w1 ⟨x, rfl, x0, x1, c1, g1⟩
  have ho1 : w1.ownsRow w.heap.size 104 4 (.slice (some ⟨w.heap.size, 0, none⟩) 0 0) 0 [] := ho0.kept g1 (.inr (by simp [Value.ownBlock]; omega))
  have G1 : w.grownBy w1 (some q) := grown_trans G0 g1
  have hs1 := Nat.lt_of_lt_of_le hs0 g1.size
  clear g1 c0 ho0 G0 hs0
  obtain ⟨n, rfl⟩ := Int.eq_ofNat_of_zero_le x0
  have hn3 : n ≤ 3 := by omega
  go_wp2
  go_loopw [3, 4] (fun v i wr => ∃ (k g c : Nat) (L : List B4), k + L.length = n ∧ i = .int .i64 k ∧ v = .slice (some ⟨g, 0, none⟩) L.length c ∧ wr.ownsRow w.heap.size 104 4 (.slice (some ⟨g, 0, none⟩) L.length c) L.length (rowOf B4.cs L) ∧ (∀ x ∈ L, x.small) ∧ Cur B wr q ∧ w.grownBy wr (some q)) (fun _ i _ => (intOf i).toNat)
  case atStart => exact ⟨n, w.heap.size, 0, [], by simp, rfl, rfl, ho1, (fun x hx => by cases hx), c1, G1⟩
  case round =>
    obtain ⟨k, g, c, L, hkn, rfl, rfl, hown, hsm, cr, gr⟩ := hrel
    have HSm := hide hsm
    have HO := hide hown
    have HG := hide gr
    have hzr := gr.size
    have hqr := cr.lt
    clear ho1 c1 G1 hsm hown gr
    by_cases hlt : 0 < k
    · have hk1 : (0 : Int) < (k : Int) := by omega
      go_wp2_with fail
      refine (l1Str_any B q wr.heap.size [⟨#[88]⟩, ⟨#[89]⟩, ⟨#[87]⟩] 3 _ (cr.keep (World.grownBy_alloc wr _ none) (by simp) (by simp)) (by decide) (by decide) (by omega) (cells_strs wr 9 _)).mono ?_
      rintro e w2 ⟨s, rfl, hx, c2, g2⟩
      have HS : Hid (s.size ≤ 1048576) := by
        unfold Hid
        simp only [List.mem_cons, List.not_mem_nil, or_false] at hx
        rcases hx with rfl | rfl | rfl <;> decide
      have HO2 := hide ((HO.out.alloc (.cells (([⟨#[88]⟩, ⟨#[89]⟩, ⟨#[87]⟩] : List ByteArray).map Value.string).toArray 9)).kept g2 (.inr (by have := (HO.out.lt g rfl).1; simp [Value.ownBlock]; omega)))
      have HG2 := hide (grown_trans (grown_trans HG.out (grown_alloc wr _ q)) g2)
      clear hx g2 HO HG cr
      go_wp2_with fail
      refine (l3Small_any B q _ c2).mono ?_
      rintro e w3 ⟨u, rfl, hu, c3, g3⟩
      have HO3 := hide ((HO2.out.kept g3 (.inr (by have := (HO2.out.lt g rfl).1; simp [Value.ownBlock]; omega))).alloc (.cells #[.string s, .int .i64 u.K, .int .i64 u.N, .string u.S] 104))
      have HG3 := hide (grown_trans (grown_trans HG2.out g3) (grown_alloc w3 (.cells #[.string s, .int .i64 u.K, .int .i64 u.N, .string u.S] 104) q))
      have c4 : Cur B (w3.alloc (.cells #[.string s, .int .i64 u.K, .int .i64 u.N, .string u.S] 104)) q := c3.keep (World.grownBy_alloc w3 _ none) (by simp) (by simp)
      have HSrc := hide (src4 w3 ⟨s, u⟩)
      have HApp : Hid (rowOf B4.cs L ++ B4.cs ⟨s, u⟩ = rowOf B4.cs (L ++ [⟨s, u⟩])) := by unfold Hid; rw [rowOf_append]; simp [rowOf]
      have hz4 := HG3.out.size
      clear g3 HO2 HG2 c2 c3
      go_wp2_with (at_builtin; refine wpList_append_lies _ rfl (.tmp 12) (.tmp 19) 56 rfl w.heap.size 104 i0 (.agg #[.string ⟨#[]⟩, .int .i64 0, .int .i64 0, .string ⟨#[]⟩]) 4 48 Try.underlying56 hi hz0 hz1 hz2 rfl (by omega) (.slice (some ⟨g, 0, none⟩) L.length c) L.length (rowOf B4.cs L) rfl HO3.out ⟨w3.heap.size, 0, none⟩ 1 1 (B4.cs ⟨s, u⟩) ?hx rfl HSrc.out (one4 _) (by omega) (by unfold maxLen; omega) (by omega) hz4 _ rfl ?_)
      case hx => simp [Act.eval]
      intro g5 c5 w5 ho5 hg5 hat5 hlt5
      rw [HApp.out] at ho5
      have HO5 := hide ho5
      have hgb := (HO3.out.lt g rfl).1
      have c6 : Cur B w5 q := c4.keep hg5 (by simp [Value.ownBlock]; omega) (fun j hj => by have := (HO3.out.lt j hj).1; omega)
      have HG5 := hide (grown_more HG3.out hg5 (fun j hj => (HO3.out.lt j hj).1))
      clear ho5 hg5 hat5 hlt5 HO3 HG3 HSrc c4
      go_wp2
      go_roundw
      case rel => exact ⟨k - 1, g5, c5, L ++ [⟨s, u⟩], by simp; omega, by go_num, by simp, by rw [show (L ++ [(⟨s, u⟩ : B4)]).length = L.length + 1 by simp]; exact HO5.out, fun x hx => by
          rcases List.mem_append.1 hx with h | h
          · exact HSm.out x h
          · simp only [List.mem_cons, List.not_mem_nil, or_false] at h
            rw [h]; exact ⟨HS.out, by show u.S.size ≤ 1048576; omega⟩, c6, HG5.out⟩
      case measure => simp [intOf]; omega
    · obtain rfl : k = 0 := by omega
      have HD : Hid (DrawnB w B q (.returned (.slice (some ⟨g, 0, none⟩) L.length c)) wr) := ⟨g, c, L, rfl, by omega, HSm.out, HO.out, cr, HG.out⟩
      clear HO HG HSm cr
      go_wp2
      go_returns
      exact HD.out
end Go.Proofs.Ytaflokfgbmlmaab
