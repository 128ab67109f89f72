/-
  Small values, arguments of terms and binds that are drawn: what is drawn is right.
-/
import Derived.Test.YtbellpalomiokabJDrawAr
import Derived.Test.YtbellpalomiokabJDrawP
import Derived.Test.YtbellpalomiokabJoined2
import Derived.Deep.DeepCutAuto
namespace Go.Proofs.Ytbellpalomiokab
open Go.RowKit
set_option linter.unusedVariables false

theorem ok_a : valB 2 0 ⟨#[97]⟩ = true := by decide +kernel
theorem ok_b : valB 2 0 ⟨#[98]⟩ = true := by decide +kernel
theorem ok_n {n : Int} (h : -1000000000 ≤ n ∧ n ≤ 1000000000) : valB 1 n ⟨#[]⟩ = true := by
  have : (ByteArray.mk #[]).size = 0 := rfl
  simp [valB, this]
  unfold inB
  simp [h.1, h.2]

set_option maxRecDepth 100000 in
set_option maxHeartbeats 1600000 in
theorem l3Small_ok (B q : Nat) (w : World) (hc : Cur B w q) :
    Calls Try.prog 39 #[.pointer (some ⟨q, 0, none⟩)] w fun e w' => ∃ (v : V3), e = .returned (.agg #[.int .i64 v.K, .int .i64 v.N, .string v.S]) ∧ v.S.size ≤ 21 ∧ v.ok = true ∧ Cur B w' q ∧ w.grownBy w' (some q) := by
  have hq := hc.lt
  have hB := hc.1
  go_enter Try.func39, Try.ntmps39
  go_wp2_with fail
  refine (l1Once_any B q 2 _ (hc.keep (World.grownBy_alloc w _ none) (by simp) (by simp)) (by omega) (by omega)).mono ?_
  rintro e w1 ⟨b, rfl, c1, g1⟩
  have HR := hide (box_grown (box_new w (.int .i64 0) (.int .i64 0) (.string ⟨#[]⟩) 45) g1 (by omega))
  have G1 : w.grownBy w1 (some q) := grown_trans (grown_alloc w _ q) g1
  have z1 := G1.size
  have l1 := (Array.getElem?_eq_some_iff.1 HR.out).1
  clear g1
  cases b
  · go_wp2_with fail
    refine (l1Str_any B q w1.heap.size [⟨#[97]⟩, ⟨#[98]⟩] 2 _ (c1.keep (World.grownBy_alloc w1 _ none) (by simp) (by simp)) (by decide) (by decide) (by omega) (cells_strs w1 9 _)).mono ?_
    rintro e w2 ⟨s, rfl, hx, c2, g2⟩
    have HS : Hid (s.size ≤ 21) := by
      unfold Hid
      simp only [List.mem_cons, List.not_mem_nil, or_false] at hx
      rcases hx with rfl | rfl <;> decide
    have HV : Hid (valB 2 0 s = true) := by
      unfold Hid
      simp only [List.mem_cons, List.not_mem_nil, or_false] at hx
      rcases hx with rfl | rfl
      · exact ok_a
      · exact ok_b
    have HR2 := hide (box_grown (box_alloc HR.out _) g2 (by omega))
    have G2 : w.grownBy w2 (some q) := grown_trans (grown_trans G1 (grown_alloc w1 _ q)) g2
    obtain ⟨a0, a1, a2, f0, f1, f2⟩ := box_cell HR2.out
    clear hx g2 HR c1
    go_wp2
    refine box_post HR2.out (fun w3 h3 gr => ?_)
    clear a0 a1 a2 f0 f1 f2
    obtain ⟨a0, a1, a2, -, -, -⟩ := box_cell h3
    refine bodyPost_ret (v := .agg #[.int .i64 2, .int .i64 0, .string s]) (by simp [results, Try.results39, go_sem, a0, a1, a2]) rfl ⟨⟨2, 0, s⟩, rfl, HS.out, HV.out, c2.keep gr (by simp; omega) (by intro k hk; cases hk; omega), grown_more G2 gr (by intro k hk; cases hk; omega)⟩
  · go_wp2_with fail
    refine (l1Below_any B q 3 _ c1 (by omega) (by omega)).mono ?_
    rintro e w2 ⟨x, rfl, x0, x1, c2, g2⟩
    have HR2 := hide (box_grown HR.out g2 (by omega))
    have G2 : w.grownBy w2 (some q) := grown_trans G1 g2
    obtain ⟨a0, a1, a2, f0, f1, f2⟩ := box_cell HR2.out
    clear g2 HR c1
    go_wp2
    refine box_post HR2.out (fun w3 h3 gr => ?_)
    clear a0 a1 a2 f0 f1 f2
    obtain ⟨a0, a1, a2, -, -, -⟩ := box_cell h3
    refine bodyPost_ret (v := .agg #[.int .i64 1, .int .i64 (1 + x), .string ⟨#[]⟩]) (by simp [results, Try.results39, go_sem, a0, a1, a2]) rfl ⟨⟨1, 1 + x, ⟨#[]⟩⟩, rfl, (show (⟨#[]⟩ : ByteArray).size ≤ 21 by decide), (ok_n (show -1000000000 ≤ 1 + x ∧ 1 + x ≤ 1000000000 by omega)), c2.keep gr (by simp; omega) (by intro k hk; cases hk; omega), grown_more G2 gr (by intro k hk; cases hk; omega)⟩

/-- an argument that has a value, and if it is one, a right one -/
def DrawnAo (w : World) (B q : Nat) (e : Ending) (w' : World) : Prop := ∃ x : A5, e = .returned (.agg #[.int .i64 x.K, .string x.S, .int .i64 x.V.K, .int .i64 x.V.N, .string x.V.S]) ∧ x.small ∧ (x.K = 2 → x.V.ok = true) ∧ Cur B w' q ∧ w.grownBy w' (some q)

set_option maxRecDepth 100000 in
set_option maxHeartbeats 1600000 in
theorem l7Arg_ok (B q : Nat) (w : World) (hc : Cur B w q) :
    Calls Try.prog 76 #[.pointer (some ⟨q, 0, none⟩)] w (DrawnAo w B q) := by
  have hq := hc.lt
  have hB := hc.1
  go_enter Try.func76, Try.ntmps76
  go_wp2_with fail
  have c0 : Cur B (w.alloc (.cells #[.int .i64 0, .string ⟨#[]⟩, .int .i64 0, .int .i64 0, .string ⟨#[]⟩] 49)) q := hc.keep (World.grownBy_alloc w _ none) (by simp) (by simp)
  have hR := boxk_new w #[.int .i64 0, .string ⟨#[]⟩, .int .i64 0, .int .i64 0, .string ⟨#[]⟩] 49
  have G0 := grown_alloc w (.cells #[.int .i64 0, .string ⟨#[]⟩, .int .i64 0, .int .i64 0, .string ⟨#[]⟩] 49) q
  refine (l1Once_any B q 3 _ c0 (by omega) (by omega)).mono ?_
  rintro e w1 ⟨bb, rfl, c1, g1⟩
  have HR := hide (box_grown hR g1 (by omega))
  have G1 : w.grownBy w1 (some q) := grown_trans G0 g1
  have z1 := G1.size
  have l1 := (Array.getElem?_eq_some_iff.1 HR.out).1
  clear g1 hR G0 c0
  cases bb
  · go_wp2_with fail
    refine (l1Str_any B q w1.heap.size [⟨#[88]⟩, ⟨#[89]⟩] 2 _ (c1.keep (World.grownBy_alloc w1 _ none) (by simp) (by simp)) (by decide) (by decide) (by omega) (cells_strs w1 9 _)).mono ?_
    rintro e w2 ⟨s, rfl, hx, c2, g2⟩
    have HS : Hid (s.size ≤ 1048576) := by
      unfold Hid
      simp only [List.mem_cons, List.not_mem_nil, or_false] at hx
      rcases hx with rfl | rfl <;> decide
    have HR2 := hide (box_grown (box_alloc HR.out _) g2 (by omega))
    have G2 : w.grownBy w2 (some q) := grown_trans (grown_trans G1 (grown_alloc w1 _ q)) g2
    clear hx g2 HR c1 G1
    go_wp2_with fail
    refine (l6Var_any s _).mono ?_
    rintro e w3 ⟨rfl, hb3⟩
    have HR3 := hide (box_step HR2.out hb3)
    have G3 : w.grownBy w3 (some q) := grown_trans G2 (below_grown hb3)
    have c3 : Cur B w3 q := c2.keep (⟨hb3.os, hb3.tape, hb3.output, hb3.size, fun i hi _ => hb3.block i hi⟩ : w2.grownBy w3 none) (by simp) (by simp)
    clear hb3 HR2 c2 G2
    have r0 := boxk_cell HR3.out 0 _ rfl
    have f0 := boxk_frozen HR3.out 0
    have r1 := boxk_cell HR3.out 1 _ rfl
    have f1 := boxk_frozen HR3.out 1
    have r2 := boxk_cell HR3.out 2 _ rfl
    have f2 := boxk_frozen HR3.out 2
    have r3 := boxk_cell HR3.out 3 _ rfl
    have f3 := boxk_frozen HR3.out 3
    have r4 := boxk_cell HR3.out 4 _ rfl
    have f4 := boxk_frozen HR3.out 4
    go_wp2
    refine box5_post HR3.out (fun w4 h4 gr => ?_)
    clear r0 f0 r1 f1 r2 f2 r3 f3 r4 f4
    have a0 := boxk_cell h4 0 _ rfl
    have a1 := boxk_cell h4 1 _ rfl
    have a2 := boxk_cell h4 2 _ rfl
    have a3 := boxk_cell h4 3 _ rfl
    have a4 := boxk_cell h4 4 _ rfl
    refine bodyPost_ret (v := .agg #[.int .i64 1, .string s, .int .i64 0, .int .i64 0, .string ⟨#[]⟩]) (by simp [results, Try.results76, go_sem, a0, a1, a2, a3, a4]) rfl ⟨⟨1, s, ⟨0, 0, ⟨#[]⟩⟩⟩, rfl, ⟨HS.out, emp_small⟩, (fun h => absurd h (by show ¬ ((1 : Int) = 2); decide)), c3.keep gr (by simp; omega) (by intro k hk; cases hk; omega), grown_more G3 gr (by intro k hk; cases hk; omega)⟩
  · go_wp2_with fail
    refine (l3Small_ok B q _ c1).mono ?_
    rintro e w2 ⟨v, rfl, hv, hvo, c2, g2⟩
    have HVo := hide hvo
    clear hvo
    have HR2 := hide (box_grown HR.out g2 (by omega))
    have G2 : w.grownBy w2 (some q) := grown_trans G1 g2
    clear g2 HR c1 G1
    go_wp2_with fail
    refine (l6Val_any v _).mono ?_
    rintro e w3 ⟨rfl, hb3⟩
    have HR3 := hide (box_step HR2.out hb3)
    have G3 : w.grownBy w3 (some q) := grown_trans G2 (below_grown hb3)
    have c3 : Cur B w3 q := c2.keep (⟨hb3.os, hb3.tape, hb3.output, hb3.size, fun i hi _ => hb3.block i hi⟩ : w2.grownBy w3 none) (by simp) (by simp)
    clear hb3 HR2 c2 G2
    have r0 := boxk_cell HR3.out 0 _ rfl
    have f0 := boxk_frozen HR3.out 0
    have r1 := boxk_cell HR3.out 1 _ rfl
    have f1 := boxk_frozen HR3.out 1
    have r2 := boxk_cell HR3.out 2 _ rfl
    have f2 := boxk_frozen HR3.out 2
    have r3 := boxk_cell HR3.out 3 _ rfl
    have f3 := boxk_frozen HR3.out 3
    have r4 := boxk_cell HR3.out 4 _ rfl
    have f4 := boxk_frozen HR3.out 4
    go_wp2
    refine box5_post HR3.out (fun w4 h4 gr => ?_)
    clear r0 f0 r1 f1 r2 f2 r3 f3 r4 f4
    have a0 := boxk_cell h4 0 _ rfl
    have a1 := boxk_cell h4 1 _ rfl
    have a2 := boxk_cell h4 2 _ rfl
    have a3 := boxk_cell h4 3 _ rfl
    have a4 := boxk_cell h4 4 _ rfl
    refine bodyPost_ret (v := .agg #[.int .i64 2, .string ⟨#[]⟩, .int .i64 v.K, .int .i64 v.N, .string v.S]) (by simp [results, Try.results76, go_sem, a0, a1, a2, a3, a4]) rfl ⟨⟨2, ⟨#[]⟩, v⟩, rfl, ⟨emp_small, by show v.S.size ≤ 1048576; omega⟩, (fun _ => HVo.out), c3.keep gr (by simp; omega) (by intro k hk; cases hk; omega), grown_more G3 gr (by intro k hk; cases hk; omega)⟩


/-- a few binds of right values, in a row of the call's own -/
def DrawnBo (w : World) (B q : Nat) (e : Ending) (w' : World) : Prop := ∃ (g c : Nat) (L : List B4), e = .returned (.slice (some ⟨g, 0, none⟩) L.length c) ∧ L.length ≤ 3 ∧ (∀ x ∈ L, x.small ∧ x.V.ok = true) ∧ w'.ownsRow w.heap.size 76 4 (.slice (some ⟨g, 0, none⟩) L.length c) L.length (rowOf B4.cs L) ∧ Cur B w' q ∧ w.grownBy w' (some q)

set_option maxRecDepth 100000 in
set_option maxHeartbeats 3200000 in
theorem l6Binds_ok (B q : Nat) (w : World) (hc : Cur B w q) :
    Calls Try.prog 40 #[.pointer (some ⟨q, 0, none⟩)] w (DrawnBo w B q) := by
  obtain ⟨i0, hi, hz0, hz1, hz2⟩ := info_parts Try.info76
  have hq := hc.lt
  have hB := hc.1
  go_enter Try.func40, Try.ntmps40
  go_wp2_with fail
  have c0 : Cur B (w.alloc (.cells #[] 76)) q := hc.keep (World.grownBy_alloc w _ none) (by simp) (by simp)
  have ho0 := World.ownsRow_lit (base := w.heap.size) (e := 76) (size := 4) w #[] 0 (Nat.le_refl _) (Nat.zero_le _) rfl
  have G0 := grown_alloc w (.cells #[] 76) q
  have hs0 : w.heap.size < (w.alloc (.cells #[] 76)).heap.size := by simp
  refine (l1Below_any B q 3 _ c0 (by omega) (by omega)).mono ?_
  rintro e w1 ⟨x, rfl, x0, x1, c1, g1⟩
  have ho1 : w1.ownsRow w.heap.size 76 4 (.slice (some ⟨w.heap.size, 0, none⟩) 0 0) 0 [] := ho0.kept g1 (.inr (by simp [Value.ownBlock]; omega))
  have G1 : w.grownBy w1 (some q) := grown_trans G0 g1
  have hs1 := Nat.lt_of_lt_of_le hs0 g1.size
  clear g1 c0 ho0 G0 hs0
  obtain ⟨n, rfl⟩ := Int.eq_ofNat_of_zero_le x0
  have hn3 : n ≤ 3 := by omega
  go_wp2
  go_loopw [3, 4] (fun v i wr => ∃ (k g c : Nat) (L : List B4), k + L.length = n ∧ i = .int .i64 k ∧ v = .slice (some ⟨g, 0, none⟩) L.length c ∧ wr.ownsRow w.heap.size 76 4 (.slice (some ⟨g, 0, none⟩) L.length c) L.length (rowOf B4.cs L) ∧ (∀ x ∈ L, x.small ∧ x.V.ok = true) ∧ Cur B wr q ∧ w.grownBy wr (some q)) (fun _ i _ => (intOf i).toNat)
  case atStart => exact ⟨n, w.heap.size, 0, [], by simp, rfl, rfl, ho1, (fun x hx => by cases hx), c1, G1⟩
  case round =>
    obtain ⟨k, g, c, L, hkn, rfl, rfl, hown, hsm, cr, gr⟩ := hrel
    have HSm := hide hsm
    have HO := hide hown
    have HG := hide gr
    have hzr := gr.size
    have hqr := cr.lt
    clear ho1 c1 G1 hsm hown gr
    by_cases hlt : 0 < k
    · have hk1 : (0 : Int) < (k : Int) := by omega
      go_wp2_with fail
      refine (l1Str_any B q wr.heap.size [⟨#[88]⟩, ⟨#[89]⟩, ⟨#[87]⟩] 3 _ (cr.keep (World.grownBy_alloc wr _ none) (by simp) (by simp)) (by decide) (by decide) (by omega) (cells_strs wr 9 _)).mono ?_
      rintro e w2 ⟨s, rfl, hx, c2, g2⟩
      have HS : Hid (s.size ≤ 1048576) := by
        unfold Hid
        simp only [List.mem_cons, List.not_mem_nil, or_false] at hx
        rcases hx with rfl | rfl | rfl <;> decide
      have HO2 := hide ((HO.out.alloc (.cells (([⟨#[88]⟩, ⟨#[89]⟩, ⟨#[87]⟩] : List ByteArray).map Value.string).toArray 9)).kept g2 (.inr (by have := (HO.out.lt g rfl).1; simp [Value.ownBlock]; omega)))
      have HG2 := hide (grown_trans (grown_trans HG.out (grown_alloc wr _ q)) g2)
      clear hx g2 HO HG cr
      go_wp2_with fail
      refine (l3Small_ok B q _ c2).mono ?_
      rintro e w3 ⟨u, rfl, hu, huo, c3, g3⟩
      have HUo := hide huo
      clear huo
      have HO3 := hide ((HO2.out.kept g3 (.inr (by have := (HO2.out.lt g rfl).1; simp [Value.ownBlock]; omega))).alloc (.cells #[.string s, .int .i64 u.K, .int .i64 u.N, .string u.S] 76))
      have HG3 := hide (grown_trans (grown_trans HG2.out g3) (grown_alloc w3 (.cells #[.string s, .int .i64 u.K, .int .i64 u.N, .string u.S] 76) q))
      have c4 : Cur B (w3.alloc (.cells #[.string s, .int .i64 u.K, .int .i64 u.N, .string u.S] 76)) q := c3.keep (World.grownBy_alloc w3 _ none) (by simp) (by simp)
      have HSrc := hide (src4 w3 ⟨s, u⟩)
      have HApp : Hid (rowOf B4.cs L ++ B4.cs ⟨s, u⟩ = rowOf B4.cs (L ++ [⟨s, u⟩])) := by unfold Hid; rw [rowOf_append]; simp [rowOf]
      have hz4 := HG3.out.size
      clear g3 HO2 HG2 c2 c3
      go_wp2_with (at_builtin; refine wpList_append_lies _ rfl (.tmp 12) (.tmp 19) 38 rfl w.heap.size 76 i0 (.agg #[.string ⟨#[]⟩, .int .i64 0, .int .i64 0, .string ⟨#[]⟩]) 4 48 Try.underlying38 hi hz0 hz1 hz2 rfl (by omega) (.slice (some ⟨g, 0, none⟩) L.length c) L.length (rowOf B4.cs L) rfl HO3.out ⟨w3.heap.size, 0, none⟩ 1 1 (B4.cs ⟨s, u⟩) ?hx rfl HSrc.out (one4 _) (by omega) (by unfold maxLen; omega) (by omega) hz4 _ rfl ?_)
      case hx => simp [Act.eval]
      intro g5 c5 w5 ho5 hg5 hat5 hlt5
      rw [HApp.out] at ho5
      have HO5 := hide ho5
      have hgb := (HO3.out.lt g rfl).1
      have c6 : Cur B w5 q := c4.keep hg5 (by simp [Value.ownBlock]; omega) (fun j hj => by have := (HO3.out.lt j hj).1; omega)
      have HG5 := hide (grown_more HG3.out hg5 (fun j hj => (HO3.out.lt j hj).1))
      clear ho5 hg5 hat5 hlt5 HO3 HG3 HSrc c4
      go_wp2
      go_roundw
      case rel => exact ⟨k - 1, g5, c5, L ++ [⟨s, u⟩], by simp; omega, by go_num, by simp, by rw [show (L ++ [(⟨s, u⟩ : B4)]).length = L.length + 1 by simp]; exact HO5.out, fun x hx => by
          rcases List.mem_append.1 hx with h | h
          · exact HSm.out x h
          · simp only [List.mem_cons, List.not_mem_nil, or_false] at h
            rw [h]; exact ⟨⟨HS.out, by show u.S.size ≤ 1048576; omega⟩, HUo.out⟩, c6, HG5.out⟩
      case measure => simp [intOf]; omega
    · obtain rfl : k = 0 := by omega
      have HD : Hid (DrawnBo w B q (.returned (.slice (some ⟨g, 0, none⟩) L.length c)) wr) := ⟨g, c, L, rfl, by omega, HSm.out, HO.out, cr, HG.out⟩
      clear HO HG HSm cr
      go_wp2
      go_returns
      exact HD.out

end Go.Proofs.Ytbellpalomiokab
