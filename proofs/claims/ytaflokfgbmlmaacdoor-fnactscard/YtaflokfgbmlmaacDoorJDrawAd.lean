/-
  The contract of l8Draw.
-/
import Derived.Test.YtaflokfgbmlmaacDoorJDrawAc
namespace Go.Proofs.YtaflokfgbmlmaacDoor
open Go.RowKit
set_option linter.unusedVariables false

set_option maxRecDepth 100000 in
set_option maxHeartbeats 12800000 in
theorem l8Draw_any (B q : Nat) (w : World) (hc : Cur B w q) :
    Calls Tryd.prog 89 #[.pointer (some ⟨q, 0, none⟩), .int .i64 2] w (DrawnT w B q 2) := by
  obtain ⟨i0, hi, hz0, hz1, hz2⟩ := info_parts Tryd.info41
  have hq := hc.lt
  have hB := hc.1
  go_enter Tryd.func89, Tryd.ntmps89
  go_wp2_with fail
  have G0 := grown_alloc w (.cells #[.int .i64 0, .string ⟨#[]⟩, .slice none 0 0, .int .i64 0, .string ⟨#[]⟩] 29) q
  have HR0 := hide (boxk_new w #[.int .i64 0, .string ⟨#[]⟩, .slice none 0 0, .int .i64 0, .string ⟨#[]⟩] 29)
  have c0 : Cur B (w.alloc (.cells #[.int .i64 0, .string ⟨#[]⟩, .slice none 0 0, .int .i64 0, .string ⟨#[]⟩] 29)) q := hc.keep (World.grownBy_alloc w _ none) (by simp) (by simp)
  have z0 : (w.alloc (.cells #[.int .i64 0, .string ⟨#[]⟩, .slice none 0 0, .int .i64 0, .string ⟨#[]⟩] 29)).heap.size = w.heap.size + 1 := by simp
  generalize w.alloc (.cells #[.int .i64 0, .string ⟨#[]⟩, .slice none 0 0, .int .i64 0, .string ⟨#[]⟩] 29) = w0 at G0 HR0 c0 z0 ⊢
  have l1 : w.heap.size < w0.heap.size := by omega
  rw [← z0]
  refine (l1Int_any B q w0.heap.size [1, 1, 2, 3, 3, 4, 5, 6] 8 _ (c0.keep (World.grownBy_alloc w0 _ none) (by simp) (by simp)) (by decide) (by decide) (by omega) (cells_lit w0 3 _)).mono ?_
  rintro e w1 ⟨K, rfl, hx, c1, g1⟩
  have G1 : w.grownBy w1 (some q) := grown_trans (grown_trans G0 (grown_alloc w0 _ q)) g1
  have HR1 := hide (box_grown (box_alloc HR0.out _) g1 (by omega))
  have z1 : w.heap.size < w1.heap.size := (Array.getElem?_eq_some_iff.1 HR1.out).1
  clear hx g1 c0 G0 HR0 z0
  have D0 : DrwT w B q (w1.heap.size + 1) w1.heap.size K ⟨#[]⟩ (.slice none 0 0) [] 0 ⟨#[]⟩ (w1.alloc (.cells #[.int .i64 K, .string ⟨#[]⟩, .slice none 0 0, .int .i64 0, .string ⟨#[]⟩] 29)) := ⟨c1.keep (World.grownBy_alloc w1 _ none) (by simp) (by simp), boxk_new w1 _ _, World.ownsRow_nil _ _ _ _, (by unfold Value.ownBlock; simp), grown_trans G1 (grown_alloc w1 _ q), ⟨hq, by omega, z1⟩, box_alloc HR1.out _, (fun v hv => by cases hv), emp_small, emp_small, (by simp)⟩
  clear G1 HR1 c1
  obtain ⟨b, hb⟩ : ∃ b, Hid (w1.heap.size + 1 = b) := ⟨_, rfl⟩
  rw [hb.out] at D0
  clear hb
  by_cases hk2 : K = 2
  · subst hk2
    have d0 := boxk_cell D0.box 0 _ rfl
    go_wp2_with fail
    refine (l1Below_any B q 2 _ D0.cur (by omega) (by omega)).mono ?_
    rintro e w2 ⟨N', rfl, -, -, c2, g2⟩
    have D2 := D0.draws c2 g2
    obtain ⟨F, HF⟩ : ∃ F, Hid (w1.heap.size = F) := ⟨_, rfl⟩
    rw [HF.out] at D2 ⊢
    clear d0 D0 c2 g2 HF
    have HD3 := hide (D2.num N')
    have b3 := boxk_cell D2.box 3 _ rfl
    have bf3 := boxk_frozen D2.box 3
    clear D2
    go_upto_region 5 with fail
    generalize w2.setCell ⟨F, 3, none⟩ (.int .i64 N') = w8 at HD3 ⊢
    clear b3 bf3
    have b0 := boxk_cell HD3.out.box 0 _ rfl
    have b1 := boxk_cell HD3.out.box 1 _ rfl
    have b2 := boxk_cell HD3.out.box 2 _ rfl
    have b3 := boxk_cell HD3.out.box 3 _ rfl
    have b4 := boxk_cell HD3.out.box 4 _ rfl
    have r0 := boxk_cell HD3.out.res 0 _ rfl
    have r1 := boxk_cell HD3.out.res 1 _ rfl
    have r2 := boxk_cell HD3.out.res 2 _ rfl
    have r3 := boxk_cell HD3.out.res 3 _ rfl
    have r4 := boxk_cell HD3.out.res 4 _ rfl
    have rf0 := boxk_frozen HD3.out.res 0
    have rf1 := boxk_frozen HD3.out.res 1
    have rf2 := boxk_frozen HD3.out.res 2
    have rf3 := boxk_frozen HD3.out.res 3
    have rf4 := boxk_frozen HD3.out.res 4
    have hFl := HD3.out.far
    go_wp2
    refine box5_post HD3.out.res (fun w9 h9 gr => ?_)
    clear b0 b1 b2 b3 b4 r0 r1 r2 r3 r4 rf0 rf1 rf2 rf3 rf4
    have d0 := boxk_cell h9 0 _ rfl
    have d1 := boxk_cell h9 1 _ rfl
    have d2 := boxk_cell h9 2 _ rfl
    have d3 := boxk_cell h9 3 _ rfl
    have d4 := boxk_cell h9 4 _ rfl
    exact bodyPost_ret (v := .agg #[.int .i64 2, .string ⟨#[]⟩, .slice none 0 0, .int .i64 N', .string ⟨#[]⟩]) (by simp [results, Tryd.results89, go_sem, d0, d1, d2, d3, d4]) rfl (HD3.out.done (by simp) gr)
  · have k2 : (K == 2) = false := by simpa using hk2
    by_cases hk5 : K = 5
    · subst hk5
      have d0 := boxk_cell D0.box 0 _ rfl
      go_upto_region 8 with fail
      clear d0
      generalize w1.alloc (.cells #[.int .i64 5, .string ⟨#[]⟩, .slice none 0 0, .int .i64 0, .string ⟨#[]⟩] 29) = w8 at D0 ⊢
      have b0 := boxk_cell D0.box 0 _ rfl
      have b1 := boxk_cell D0.box 1 _ rfl
      have b2 := boxk_cell D0.box 2 _ rfl
      have b3 := boxk_cell D0.box 3 _ rfl
      have b4 := boxk_cell D0.box 4 _ rfl
      have r0 := boxk_cell D0.res 0 _ rfl
      have r1 := boxk_cell D0.res 1 _ rfl
      have r2 := boxk_cell D0.res 2 _ rfl
      have r3 := boxk_cell D0.res 3 _ rfl
      have r4 := boxk_cell D0.res 4 _ rfl
      have rf0 := boxk_frozen D0.res 0
      have rf1 := boxk_frozen D0.res 1
      have rf2 := boxk_frozen D0.res 2
      have rf3 := boxk_frozen D0.res 3
      have rf4 := boxk_frozen D0.res 4
      have HD3 := hide D0
      clear D0
      have hFl := HD3.out.far
      go_wp2
      refine box5_post HD3.out.res (fun w9 h9 gr => ?_)
      clear b0 b1 b2 b3 b4 r0 r1 r2 r3 r4 rf0 rf1 rf2 rf3 rf4
      have d0 := boxk_cell h9 0 _ rfl
      have d1 := boxk_cell h9 1 _ rfl
      have d2 := boxk_cell h9 2 _ rfl
      have d3 := boxk_cell h9 3 _ rfl
      have d4 := boxk_cell h9 4 _ rfl
      exact bodyPost_ret (v := .agg #[.int .i64 5, .string ⟨#[]⟩, .slice none 0 0, .int .i64 0, .string ⟨#[]⟩]) (by simp [results, Tryd.results89, go_sem, d0, d1, d2, d3, d4]) rfl (HD3.out.done (by simp) gr)
    · have k5 : (K == 5) = false := by simpa using hk5
      by_cases hk6 : K = 6
      · subst hk6
        have d0 := boxk_cell D0.box 0 _ rfl
        go_upto_region 8 with fail
        clear d0
        generalize w1.alloc (.cells #[.int .i64 6, .string ⟨#[]⟩, .slice none 0 0, .int .i64 0, .string ⟨#[]⟩] 29) = w8 at D0 ⊢
        have b0 := boxk_cell D0.box 0 _ rfl
        have b1 := boxk_cell D0.box 1 _ rfl
        have b2 := boxk_cell D0.box 2 _ rfl
        have b3 := boxk_cell D0.box 3 _ rfl
        have b4 := boxk_cell D0.box 4 _ rfl
        have r0 := boxk_cell D0.res 0 _ rfl
        have r1 := boxk_cell D0.res 1 _ rfl
        have r2 := boxk_cell D0.res 2 _ rfl
        have r3 := boxk_cell D0.res 3 _ rfl
        have r4 := boxk_cell D0.res 4 _ rfl
        have rf0 := boxk_frozen D0.res 0
        have rf1 := boxk_frozen D0.res 1
        have rf2 := boxk_frozen D0.res 2
        have rf3 := boxk_frozen D0.res 3
        have rf4 := boxk_frozen D0.res 4
        have HD3 := hide D0
        clear D0
        have hFl := HD3.out.far
        go_wp2
        refine box5_post HD3.out.res (fun w9 h9 gr => ?_)
        clear b0 b1 b2 b3 b4 r0 r1 r2 r3 r4 rf0 rf1 rf2 rf3 rf4
        have d0 := boxk_cell h9 0 _ rfl
        have d1 := boxk_cell h9 1 _ rfl
        have d2 := boxk_cell h9 2 _ rfl
        have d3 := boxk_cell h9 3 _ rfl
        have d4 := boxk_cell h9 4 _ rfl
        exact bodyPost_ret (v := .agg #[.int .i64 6, .string ⟨#[]⟩, .slice none 0 0, .int .i64 0, .string ⟨#[]⟩]) (by simp [results, Tryd.results89, go_sem, d0, d1, d2, d3, d4]) rfl (HD3.out.done (by simp) gr)
      · have k6 : (K == 6) = false := by simpa using hk6
        clear hk2 hk5 hk6
        have d0 := boxk_cell D0.box 0 _ rfl
        go_wp2_with fail
        obtain ⟨F, HF⟩ : ∃ F, Hid (w1.heap.size = F) := ⟨_, rfl⟩
        have hzz : (w1.alloc (.cells #[.int .i64 K, .string ⟨#[]⟩, .slice none 0 0, .int .i64 0, .string ⟨#[]⟩] 29)).heap.size = w1.heap.size + 1 := by simp
        generalize w1.alloc (.cells #[.int .i64 K, .string ⟨#[]⟩, .slice none 0 0, .int .i64 0, .string ⟨#[]⟩] 29) = w1' at D0 d0 hzz ⊢
        rw [← hzz]
        rw [HF.out] at D0 d0 ⊢
        have hq1 := D0.cur.lt
        clear HF hzz d0
        refine (l1Str_any B q w1'.heap.size [⟨#[111, 114, 100, 101, 114]⟩, ⟨#[112, 97, 105, 100]⟩, ⟨#[105, 116, 101, 109]⟩, ⟨#[115, 104, 105, 112]⟩, ⟨#[99, 104, 97, 114, 103, 101]⟩] 5 _ (D0.alloc _).cur (by decide) (by decide) (by omega) (cells_strs w1' 9 _)).mono ?_
        rintro e w2 ⟨nm, rfl, hx, c2, g2⟩
        have D2 := (D0.alloc _).draws c2 g2
        have hsn : nm.size ≤ 1048576 := (by simp only [List.mem_cons, List.not_mem_nil, or_false] at hx; rcases hx with rfl | rfl | rfl | rfl | rfl <;> decide)
        have HD3 := hide (D2.name nm hsn)
        have b1 := boxk_cell D2.box 1 _ rfl
        have bf1 := boxk_frozen D2.box 1
        clear D0 D2 c2 g2 hx hsn hq1
        go_upto_region 10 with fail
        generalize w2.setCell ⟨F, 1, none⟩ (.string nm) = w3 at HD3 ⊢
        clear b1 bf1
        have b1 := boxk_cell HD3.out.box 1 _ rfl
        cases hk : (nm.toList == [105, 116, 101, 109])
        · go_wp2
          clear b1 hk
          go_loopw [7] (fun i wr => ∃ (k : Nat) (v : Value) (L : List X11), L.length = k ∧ k ≤ 1 ∧ i = .int .i64 k ∧ DrwT w B q b F K nm v L 0 ⟨#[]⟩ wr) (fun i _ => (1 - intOf i).toNat)
          case atStart => exact ⟨0, _, [], rfl, by omega, rfl, HD3.out⟩
          case round =>
            obtain ⟨k, v, L, rfl, hk2, rfl, D2⟩ := hrel
            clear HD3
            have HD := hide D2
            clear D2
            by_cases hlt : (L.length : Int) < 1
            · have c2' := boxk_cell HD.out.box 2 _ rfl
              have f2' := boxk_frozen HD.out.box 2
              go_wp2_with fail
              go_region_law (first
                | (refine step_append_lies _ rfl (.tmp 38) (.tmp 41) 27 rfl b 41 i0 (.agg #[.string ⟨#[]⟩, .int .i64 0, .string ⟨#[]⟩, .int .i64 0, .int .i64 0, .string ⟨#[]⟩, .int .i64 0, .string ⟨#[]⟩, .int .i64 0, .int .i64 0, .string ⟨#[]⟩]) 11 128 Tryd.underlying27 hi hz0 hz1 hz2 rfl (by omega) v L.length (rowOf X11.cs L) (by simp [Act.eval]) (D3.alloc _).row ⟨w3.heap.size, 0, none⟩ 1 1 (X11.cs u) (by simp [Act.eval]) rfl (src_row w3 #[.string u.Op, .int .i64 u.L.K, .string u.L.S, .int .i64 u.L.V.K, .int .i64 u.L.V.N, .string u.L.V.S, .int .i64 u.R.K, .string u.R.S, .int .i64 u.R.V.K, .int .i64 u.R.V.N, .string u.R.V.S] 41) (one_x u) (by omega) (by unfold maxLen; omega) (by omega) (by have := D3.bsz; simp; omega) _ rfl ?_; intro g cap w4 ho4 hg4 hat4 hlt4; obtain ⟨x1, y1, D4⟩ := (D3.alloc _).grew hu ho4 hg4 hat4 rfl)
                | (rw [if_pos (by simp [Region.wanted])]; go_simp; go_at_call 91; refine (l8Expr_any B q _ HD.out.drew.cur).mono ?_; rintro e w3 ⟨u, rfl, hu, huo, c3, g3⟩; have D3 := HD.out.drew.draws c3 g3; have c3' := boxk_cell D3.box 2 _ rfl; have f3' := boxk_frozen D3.box 2; have c3'' := boxk_cell (D3.alloc (.cells #[.string u.Op, .int .i64 u.L.K, .string u.L.S, .int .i64 u.L.V.K, .int .i64 u.L.V.N, .string u.L.V.S, .int .i64 u.R.K, .string u.R.S, .int .i64 u.R.V.K, .int .i64 u.R.V.N, .string u.R.V.S] 41)).box 2 _ rfl; have f3'' := boxk_frozen (D3.alloc (.cells #[.string u.Op, .int .i64 u.L.K, .string u.L.S, .int .i64 u.L.V.K, .int .i64 u.L.V.N, .string u.L.V.S, .int .i64 u.R.K, .string u.R.S, .int .i64 u.R.V.K, .int .i64 u.R.V.N, .string u.R.V.S] 41)).box 2))
              all_goals
                have HD4 := hide D4
                clear c2' f2' c3' f3' c3'' f3'' x1 y1 D3 D4 HD
                go_wp2
                go_roundw
                case rel => exact ⟨L.length + 1, _, L ++ [u], by simp, by omega, by go_num, HD4.out⟩
                case measure => simp [intOf]; omega
            · skip
              obtain ⟨av, cv, rfl⟩ := HD.out.slice
              have hL2 : L.length ≤ 2 := by omega
              by_cases hk4 : K = 4
              · subst hk4
                have b0 := boxk_cell HD.out.box 0 _ rfl
                go_wp2_with fail
                have hqr := HD.out.cur.lt
                refine (l1Int_any B q wr.heap.size [0, 1, 5, 100000] 4 _ (HD.out.alloc _).cur (by decide) (by decide) (by omega) (cells_lit wr 3 _)).mono ?_
                rintro e w4 ⟨N', rfl, -, c4, g4⟩
                have D4 := (HD.out.alloc _).draws c4 g4
                have HD5 := hide (D4.num N')
                clear b0 c4 g4 hqr HD
                have b3 := boxk_cell D4.box 3 _ rfl
                have bf3 := boxk_frozen D4.box 3
                clear D4
                go_upto_region 19 with fail
                generalize w4.setCell ⟨F, 3, none⟩ (.int .i64 N') = w8 at HD5 ⊢
                clear b3 bf3
                have b0 := boxk_cell HD5.out.box 0 _ rfl
                have b1 := boxk_cell HD5.out.box 1 _ rfl
                have b2 := boxk_cell HD5.out.box 2 _ rfl
                have b3 := boxk_cell HD5.out.box 3 _ rfl
                have b4 := boxk_cell HD5.out.box 4 _ rfl
                have r0 := boxk_cell HD5.out.res 0 _ rfl
                have r1 := boxk_cell HD5.out.res 1 _ rfl
                have r2 := boxk_cell HD5.out.res 2 _ rfl
                have r3 := boxk_cell HD5.out.res 3 _ rfl
                have r4 := boxk_cell HD5.out.res 4 _ rfl
                have rf0 := boxk_frozen HD5.out.res 0
                have rf1 := boxk_frozen HD5.out.res 1
                have rf2 := boxk_frozen HD5.out.res 2
                have rf3 := boxk_frozen HD5.out.res 3
                have rf4 := boxk_frozen HD5.out.res 4
                have hFl := HD5.out.far
                go_wp2
                refine box5_post HD5.out.res (fun w9 h9 gr => ?_)
                clear b0 b1 b2 b3 b4 r0 r1 r2 r3 r4 rf0 rf1 rf2 rf3 rf4
                have d0 := boxk_cell h9 0 _ rfl
                have d1 := boxk_cell h9 1 _ rfl
                have d2 := boxk_cell h9 2 _ rfl
                have d3 := boxk_cell h9 3 _ rfl
                have d4 := boxk_cell h9 4 _ rfl
                exact bodyPost_ret (v := .agg #[.int .i64 4, .string nm, .slice av L.length cv, .int .i64 N', .string ⟨#[]⟩]) (by simp [results, Tryd.results89, go_sem, d0, d1, d2, d3, d4]) rfl (HD5.out.done hL2 gr)
              · have k4 : (K == 4) = false := by simpa using hk4
                by_cases hk3 : K = 3
                · subst hk3
                  have b0 := boxk_cell HD.out.box 0 _ rfl
                  go_wp2_with fail
                  refine (l1Once_any B q 2 _ HD.out.cur (by omega) (by omega)).mono ?_
                  rintro e w4 ⟨bb, rfl, c4, g4⟩
                  have HD4 := hide (HD.out.draws c4 g4)
                  clear b0 c4 g4 HD
                  cases bb
                  · skip
                    have b0 := boxk_cell HD4.out.box 0 _ rfl
                    have b1 := boxk_cell HD4.out.box 1 _ rfl
                    have b2 := boxk_cell HD4.out.box 2 _ rfl
                    have b3 := boxk_cell HD4.out.box 3 _ rfl
                    have b4 := boxk_cell HD4.out.box 4 _ rfl
                    have r0 := boxk_cell HD4.out.res 0 _ rfl
                    have r1 := boxk_cell HD4.out.res 1 _ rfl
                    have r2 := boxk_cell HD4.out.res 2 _ rfl
                    have r3 := boxk_cell HD4.out.res 3 _ rfl
                    have r4 := boxk_cell HD4.out.res 4 _ rfl
                    have rf0 := boxk_frozen HD4.out.res 0
                    have rf1 := boxk_frozen HD4.out.res 1
                    have rf2 := boxk_frozen HD4.out.res 2
                    have rf3 := boxk_frozen HD4.out.res 3
                    have rf4 := boxk_frozen HD4.out.res 4
                    have hFl := HD4.out.far
                    go_wp2
                    refine box5_post HD4.out.res (fun w9 h9 gr => ?_)
                    clear b0 b1 b2 b3 b4 r0 r1 r2 r3 r4 rf0 rf1 rf2 rf3 rf4
                    have d0 := boxk_cell h9 0 _ rfl
                    have d1 := boxk_cell h9 1 _ rfl
                    have d2 := boxk_cell h9 2 _ rfl
                    have d3 := boxk_cell h9 3 _ rfl
                    have d4 := boxk_cell h9 4 _ rfl
                    exact bodyPost_ret (v := .agg #[.int .i64 3, .string nm, .slice av L.length cv, .int .i64 0, .string ⟨#[]⟩]) (by simp [results, Tryd.results89, go_sem, d0, d1, d2, d3, d4]) rfl (HD4.out.done hL2 gr)
                  · go_wp2_with fail
                    have hqr := HD4.out.cur.lt
                    refine (l1Str_any B q w4.heap.size [⟨#[114, 101, 102, 117, 110, 100]⟩, ⟨#[99, 97, 110, 99, 101, 108]⟩] 2 _ (HD4.out.alloc _).cur (by decide) (by decide) (by omega) (cells_strs w4 9 _)).mono ?_
                    rintro e w5 ⟨un', rfl, hx, c5, g5⟩
                    have D5 := (HD4.out.alloc _).draws c5 g5
                    have hsu : un'.size ≤ 1048576 := (by simp only [List.mem_cons, List.not_mem_nil, or_false] at hx; rcases hx with rfl | rfl <;> decide)
                    have HD6 := hide (D5.undo un' hsu)
                    have b4 := boxk_cell D5.box 4 _ rfl
                    have bf4 := boxk_frozen D5.box 4
                    clear D5 HD4 c5 g5 hqr hx hsu
                    go_upto_region 21 with fail
                    generalize w5.setCell ⟨F, 4, none⟩ (.string un') = w8 at HD6 ⊢
                    clear b4 bf4
                    have b0 := boxk_cell HD6.out.box 0 _ rfl
                    have b1 := boxk_cell HD6.out.box 1 _ rfl
                    have b2 := boxk_cell HD6.out.box 2 _ rfl
                    have b3 := boxk_cell HD6.out.box 3 _ rfl
                    have b4 := boxk_cell HD6.out.box 4 _ rfl
                    have r0 := boxk_cell HD6.out.res 0 _ rfl
                    have r1 := boxk_cell HD6.out.res 1 _ rfl
                    have r2 := boxk_cell HD6.out.res 2 _ rfl
                    have r3 := boxk_cell HD6.out.res 3 _ rfl
                    have r4 := boxk_cell HD6.out.res 4 _ rfl
                    have rf0 := boxk_frozen HD6.out.res 0
                    have rf1 := boxk_frozen HD6.out.res 1
                    have rf2 := boxk_frozen HD6.out.res 2
                    have rf3 := boxk_frozen HD6.out.res 3
                    have rf4 := boxk_frozen HD6.out.res 4
                    have hFl := HD6.out.far
                    go_wp2
                    refine box5_post HD6.out.res (fun w9 h9 gr => ?_)
                    clear b0 b1 b2 b3 b4 r0 r1 r2 r3 r4 rf0 rf1 rf2 rf3 rf4
                    have d0 := boxk_cell h9 0 _ rfl
                    have d1 := boxk_cell h9 1 _ rfl
                    have d2 := boxk_cell h9 2 _ rfl
                    have d3 := boxk_cell h9 3 _ rfl
                    have d4 := boxk_cell h9 4 _ rfl
                    exact bodyPost_ret (v := .agg #[.int .i64 3, .string nm, .slice av L.length cv, .int .i64 0, .string un']) (by simp [results, Tryd.results89, go_sem, d0, d1, d2, d3, d4]) rfl (HD6.out.done hL2 gr)
                · have k3 : (K == 3) = false := by simpa using hk3
                  have b0 := boxk_cell HD.out.box 0 _ rfl
                  have b1 := boxk_cell HD.out.box 1 _ rfl
                  have b2 := boxk_cell HD.out.box 2 _ rfl
                  have b3 := boxk_cell HD.out.box 3 _ rfl
                  have b4 := boxk_cell HD.out.box 4 _ rfl
                  have r0 := boxk_cell HD.out.res 0 _ rfl
                  have r1 := boxk_cell HD.out.res 1 _ rfl
                  have r2 := boxk_cell HD.out.res 2 _ rfl
                  have r3 := boxk_cell HD.out.res 3 _ rfl
                  have r4 := boxk_cell HD.out.res 4 _ rfl
                  have rf0 := boxk_frozen HD.out.res 0
                  have rf1 := boxk_frozen HD.out.res 1
                  have rf2 := boxk_frozen HD.out.res 2
                  have rf3 := boxk_frozen HD.out.res 3
                  have rf4 := boxk_frozen HD.out.res 4
                  have hFl := HD.out.far
                  go_wp2
                  refine box5_post HD.out.res (fun w9 h9 gr => ?_)
                  clear b0 b1 b2 b3 b4 r0 r1 r2 r3 r4 rf0 rf1 rf2 rf3 rf4
                  have d0 := boxk_cell h9 0 _ rfl
                  have d1 := boxk_cell h9 1 _ rfl
                  have d2 := boxk_cell h9 2 _ rfl
                  have d3 := boxk_cell h9 3 _ rfl
                  have d4 := boxk_cell h9 4 _ rfl
                  exact bodyPost_ret (v := .agg #[.int .i64 K, .string nm, .slice av L.length cv, .int .i64 0, .string ⟨#[]⟩]) (by simp [results, Tryd.results89, go_sem, d0, d1, d2, d3, d4]) rfl (HD.out.done hL2 gr)
        · go_wp2
          clear b1 hk
          go_loopw [7] (fun i wr => ∃ (k : Nat) (v : Value) (L : List X11), L.length = k ∧ k ≤ 2 ∧ i = .int .i64 k ∧ DrwT w B q b F K nm v L 0 ⟨#[]⟩ wr) (fun i _ => (2 - intOf i).toNat)
          case atStart => exact ⟨0, _, [], rfl, by omega, rfl, HD3.out⟩
          case round =>
            obtain ⟨k, v, L, rfl, hk2, rfl, D2⟩ := hrel
            clear HD3
            have HD := hide D2
            clear D2
            by_cases hlt : (L.length : Int) < 2
            · have c2' := boxk_cell HD.out.box 2 _ rfl
              have f2' := boxk_frozen HD.out.box 2
              go_wp2_with fail
              go_region_law (first
                | (refine step_append_lies _ rfl (.tmp 38) (.tmp 41) 27 rfl b 41 i0 (.agg #[.string ⟨#[]⟩, .int .i64 0, .string ⟨#[]⟩, .int .i64 0, .int .i64 0, .string ⟨#[]⟩, .int .i64 0, .string ⟨#[]⟩, .int .i64 0, .int .i64 0, .string ⟨#[]⟩]) 11 128 Tryd.underlying27 hi hz0 hz1 hz2 rfl (by omega) v L.length (rowOf X11.cs L) (by simp [Act.eval]) (D3.alloc _).row ⟨w3.heap.size, 0, none⟩ 1 1 (X11.cs u) (by simp [Act.eval]) rfl (src_row w3 #[.string u.Op, .int .i64 u.L.K, .string u.L.S, .int .i64 u.L.V.K, .int .i64 u.L.V.N, .string u.L.V.S, .int .i64 u.R.K, .string u.R.S, .int .i64 u.R.V.K, .int .i64 u.R.V.N, .string u.R.V.S] 41) (one_x u) (by omega) (by unfold maxLen; omega) (by omega) (by have := D3.bsz; simp; omega) _ rfl ?_; intro g cap w4 ho4 hg4 hat4 hlt4; obtain ⟨x1, y1, D4⟩ := (D3.alloc _).grew hu ho4 hg4 hat4 rfl)
                | (rw [if_pos (by simp [Region.wanted])]; go_simp; go_at_call 91; refine (l8Expr_any B q _ HD.out.drew.cur).mono ?_; rintro e w3 ⟨u, rfl, hu, huo, c3, g3⟩; have D3 := HD.out.drew.draws c3 g3; have c3' := boxk_cell D3.box 2 _ rfl; have f3' := boxk_frozen D3.box 2; have c3'' := boxk_cell (D3.alloc (.cells #[.string u.Op, .int .i64 u.L.K, .string u.L.S, .int .i64 u.L.V.K, .int .i64 u.L.V.N, .string u.L.V.S, .int .i64 u.R.K, .string u.R.S, .int .i64 u.R.V.K, .int .i64 u.R.V.N, .string u.R.V.S] 41)).box 2 _ rfl; have f3'' := boxk_frozen (D3.alloc (.cells #[.string u.Op, .int .i64 u.L.K, .string u.L.S, .int .i64 u.L.V.K, .int .i64 u.L.V.N, .string u.L.V.S, .int .i64 u.R.K, .string u.R.S, .int .i64 u.R.V.K, .int .i64 u.R.V.N, .string u.R.V.S] 41)).box 2))
              all_goals
                have HD4 := hide D4
                clear c2' f2' c3' f3' c3'' f3'' x1 y1 D3 D4 HD
                go_wp2
                go_roundw
                case rel => exact ⟨L.length + 1, _, L ++ [u], by simp, by omega, by go_num, HD4.out⟩
                case measure => simp [intOf]; omega
            · skip
              obtain ⟨av, cv, rfl⟩ := HD.out.slice
              have hL2 : L.length ≤ 2 := by omega
              by_cases hk4 : K = 4
              · subst hk4
                have b0 := boxk_cell HD.out.box 0 _ rfl
                go_wp2_with fail
                have hqr := HD.out.cur.lt
                refine (l1Int_any B q wr.heap.size [0, 1, 5, 100000] 4 _ (HD.out.alloc _).cur (by decide) (by decide) (by omega) (cells_lit wr 3 _)).mono ?_
                rintro e w4 ⟨N', rfl, -, c4, g4⟩
                have D4 := (HD.out.alloc _).draws c4 g4
                have HD5 := hide (D4.num N')
                clear b0 c4 g4 hqr HD
                have b3 := boxk_cell D4.box 3 _ rfl
                have bf3 := boxk_frozen D4.box 3
                clear D4
                go_upto_region 19 with fail
                generalize w4.setCell ⟨F, 3, none⟩ (.int .i64 N') = w8 at HD5 ⊢
                clear b3 bf3
                have b0 := boxk_cell HD5.out.box 0 _ rfl
                have b1 := boxk_cell HD5.out.box 1 _ rfl
                have b2 := boxk_cell HD5.out.box 2 _ rfl
                have b3 := boxk_cell HD5.out.box 3 _ rfl
                have b4 := boxk_cell HD5.out.box 4 _ rfl
                have r0 := boxk_cell HD5.out.res 0 _ rfl
                have r1 := boxk_cell HD5.out.res 1 _ rfl
                have r2 := boxk_cell HD5.out.res 2 _ rfl
                have r3 := boxk_cell HD5.out.res 3 _ rfl
                have r4 := boxk_cell HD5.out.res 4 _ rfl
                have rf0 := boxk_frozen HD5.out.res 0
                have rf1 := boxk_frozen HD5.out.res 1
                have rf2 := boxk_frozen HD5.out.res 2
                have rf3 := boxk_frozen HD5.out.res 3
                have rf4 := boxk_frozen HD5.out.res 4
                have hFl := HD5.out.far
                go_wp2
                refine box5_post HD5.out.res (fun w9 h9 gr => ?_)
                clear b0 b1 b2 b3 b4 r0 r1 r2 r3 r4 rf0 rf1 rf2 rf3 rf4
                have d0 := boxk_cell h9 0 _ rfl
                have d1 := boxk_cell h9 1 _ rfl
                have d2 := boxk_cell h9 2 _ rfl
                have d3 := boxk_cell h9 3 _ rfl
                have d4 := boxk_cell h9 4 _ rfl
                exact bodyPost_ret (v := .agg #[.int .i64 4, .string nm, .slice av L.length cv, .int .i64 N', .string ⟨#[]⟩]) (by simp [results, Tryd.results89, go_sem, d0, d1, d2, d3, d4]) rfl (HD5.out.done hL2 gr)
              · have k4 : (K == 4) = false := by simpa using hk4
                by_cases hk3 : K = 3
                · subst hk3
                  have b0 := boxk_cell HD.out.box 0 _ rfl
                  go_wp2_with fail
                  refine (l1Once_any B q 2 _ HD.out.cur (by omega) (by omega)).mono ?_
                  rintro e w4 ⟨bb, rfl, c4, g4⟩
                  have HD4 := hide (HD.out.draws c4 g4)
                  clear b0 c4 g4 HD
                  cases bb
                  · skip
                    have b0 := boxk_cell HD4.out.box 0 _ rfl
                    have b1 := boxk_cell HD4.out.box 1 _ rfl
                    have b2 := boxk_cell HD4.out.box 2 _ rfl
                    have b3 := boxk_cell HD4.out.box 3 _ rfl
                    have b4 := boxk_cell HD4.out.box 4 _ rfl
                    have r0 := boxk_cell HD4.out.res 0 _ rfl
                    have r1 := boxk_cell HD4.out.res 1 _ rfl
                    have r2 := boxk_cell HD4.out.res 2 _ rfl
                    have r3 := boxk_cell HD4.out.res 3 _ rfl
                    have r4 := boxk_cell HD4.out.res 4 _ rfl
                    have rf0 := boxk_frozen HD4.out.res 0
                    have rf1 := boxk_frozen HD4.out.res 1
                    have rf2 := boxk_frozen HD4.out.res 2
                    have rf3 := boxk_frozen HD4.out.res 3
                    have rf4 := boxk_frozen HD4.out.res 4
                    have hFl := HD4.out.far
                    go_wp2
                    refine box5_post HD4.out.res (fun w9 h9 gr => ?_)
                    clear b0 b1 b2 b3 b4 r0 r1 r2 r3 r4 rf0 rf1 rf2 rf3 rf4
                    have d0 := boxk_cell h9 0 _ rfl
                    have d1 := boxk_cell h9 1 _ rfl
                    have d2 := boxk_cell h9 2 _ rfl
                    have d3 := boxk_cell h9 3 _ rfl
                    have d4 := boxk_cell h9 4 _ rfl
                    exact bodyPost_ret (v := .agg #[.int .i64 3, .string nm, .slice av L.length cv, .int .i64 0, .string ⟨#[]⟩]) (by simp [results, Tryd.results89, go_sem, d0, d1, d2, d3, d4]) rfl (HD4.out.done hL2 gr)
                  · go_wp2_with fail
                    have hqr := HD4.out.cur.lt
                    refine (l1Str_any B q w4.heap.size [⟨#[114, 101, 102, 117, 110, 100]⟩, ⟨#[99, 97, 110, 99, 101, 108]⟩] 2 _ (HD4.out.alloc _).cur (by decide) (by decide) (by omega) (cells_strs w4 9 _)).mono ?_
                    rintro e w5 ⟨un', rfl, hx, c5, g5⟩
                    have D5 := (HD4.out.alloc _).draws c5 g5
                    have hsu : un'.size ≤ 1048576 := (by simp only [List.mem_cons, List.not_mem_nil, or_false] at hx; rcases hx with rfl | rfl <;> decide)
                    have HD6 := hide (D5.undo un' hsu)
                    have b4 := boxk_cell D5.box 4 _ rfl
                    have bf4 := boxk_frozen D5.box 4
                    clear D5 HD4 c5 g5 hqr hx hsu
                    go_upto_region 21 with fail
                    generalize w5.setCell ⟨F, 4, none⟩ (.string un') = w8 at HD6 ⊢
                    clear b4 bf4
                    have b0 := boxk_cell HD6.out.box 0 _ rfl
                    have b1 := boxk_cell HD6.out.box 1 _ rfl
                    have b2 := boxk_cell HD6.out.box 2 _ rfl
                    have b3 := boxk_cell HD6.out.box 3 _ rfl
                    have b4 := boxk_cell HD6.out.box 4 _ rfl
                    have r0 := boxk_cell HD6.out.res 0 _ rfl
                    have r1 := boxk_cell HD6.out.res 1 _ rfl
                    have r2 := boxk_cell HD6.out.res 2 _ rfl
                    have r3 := boxk_cell HD6.out.res 3 _ rfl
                    have r4 := boxk_cell HD6.out.res 4 _ rfl
                    have rf0 := boxk_frozen HD6.out.res 0
                    have rf1 := boxk_frozen HD6.out.res 1
                    have rf2 := boxk_frozen HD6.out.res 2
                    have rf3 := boxk_frozen HD6.out.res 3
                    have rf4 := boxk_frozen HD6.out.res 4
                    have hFl := HD6.out.far
                    go_wp2
                    refine box5_post HD6.out.res (fun w9 h9 gr => ?_)
                    clear b0 b1 b2 b3 b4 r0 r1 r2 r3 r4 rf0 rf1 rf2 rf3 rf4
                    have d0 := boxk_cell h9 0 _ rfl
                    have d1 := boxk_cell h9 1 _ rfl
                    have d2 := boxk_cell h9 2 _ rfl
                    have d3 := boxk_cell h9 3 _ rfl
                    have d4 := boxk_cell h9 4 _ rfl
                    exact bodyPost_ret (v := .agg #[.int .i64 3, .string nm, .slice av L.length cv, .int .i64 0, .string un']) (by simp [results, Tryd.results89, go_sem, d0, d1, d2, d3, d4]) rfl (HD6.out.done hL2 gr)
                · have k3 : (K == 3) = false := by simpa using hk3
                  have b0 := boxk_cell HD.out.box 0 _ rfl
                  have b1 := boxk_cell HD.out.box 1 _ rfl
                  have b2 := boxk_cell HD.out.box 2 _ rfl
                  have b3 := boxk_cell HD.out.box 3 _ rfl
                  have b4 := boxk_cell HD.out.box 4 _ rfl
                  have r0 := boxk_cell HD.out.res 0 _ rfl
                  have r1 := boxk_cell HD.out.res 1 _ rfl
                  have r2 := boxk_cell HD.out.res 2 _ rfl
                  have r3 := boxk_cell HD.out.res 3 _ rfl
                  have r4 := boxk_cell HD.out.res 4 _ rfl
                  have rf0 := boxk_frozen HD.out.res 0
                  have rf1 := boxk_frozen HD.out.res 1
                  have rf2 := boxk_frozen HD.out.res 2
                  have rf3 := boxk_frozen HD.out.res 3
                  have rf4 := boxk_frozen HD.out.res 4
                  have hFl := HD.out.far
                  go_wp2
                  refine box5_post HD.out.res (fun w9 h9 gr => ?_)
                  clear b0 b1 b2 b3 b4 r0 r1 r2 r3 r4 rf0 rf1 rf2 rf3 rf4
                  have d0 := boxk_cell h9 0 _ rfl
                  have d1 := boxk_cell h9 1 _ rfl
                  have d2 := boxk_cell h9 2 _ rfl
                  have d3 := boxk_cell h9 3 _ rfl
                  have d4 := boxk_cell h9 4 _ rfl
                  exact bodyPost_ret (v := .agg #[.int .i64 K, .string nm, .slice av L.length cv, .int .i64 0, .string ⟨#[]⟩]) (by simp [results, Tryd.results89, go_sem, d0, d1, d2, d3, d4]) rfl (HD.out.done hL2 gr)

end Go.Proofs.YtaflokfgbmlmaacDoor
