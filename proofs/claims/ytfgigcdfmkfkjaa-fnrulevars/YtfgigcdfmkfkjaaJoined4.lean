/-
  Texts of this claim joined into one: DrawAds, DrawRx, DrawRy, DrawRd, BindRow, BindP, MatchP, BindOf, LawBind, Src4, MatchI.
-/
import Derived.Test.YtfgigcdfmkfkjaaJoined3
import Derived.Test.YtfgigcdfmkfkjaaJoined2
import Derived.Test.YtfgigcdfmkfkjaaJoined1
import Derived.Handy
import Derived.Deep.AppendLies
import Derived.ArgAppend
import Derived.OwnWalk
/-
  The contract of l8Draw.
-/
namespace Go.Proofs.Ytfgigcdfmkfkjaa
open Go.RowKit
set_option linter.unusedVariables false

set_option maxRecDepth 100000 in
set_option maxHeartbeats 12800000 in
theorem l8Draw_any (B q : Nat) (pos : Int) (hp : 0 < pos) (hp2 : pos ≤ 100) (w : World) (hc : Cur B w q) :
    Calls Try.prog 144 #[.pointer (some ⟨q, 0, none⟩), .int .i64 pos] w (DrawnT w B q 2) := by
  obtain ⟨i0, hi, hz0, hz1, hz2⟩ := info_parts Try.info206
  have hq := hc.lt
  have hB := hc.1
  go_enter Try.func144, Try.ntmps144
  go_wp2_with fail
  have G0 := grown_alloc w (.cells #[.int .i64 0, .string ⟨#[]⟩, .slice none 0 0, .int .i64 0, .string ⟨#[]⟩] 166) q
  have HR0 := hide (boxk_new w #[.int .i64 0, .string ⟨#[]⟩, .slice none 0 0, .int .i64 0, .string ⟨#[]⟩] 166)
  have c0 : Cur B (w.alloc (.cells #[.int .i64 0, .string ⟨#[]⟩, .slice none 0 0, .int .i64 0, .string ⟨#[]⟩] 166)) q := hc.keep (World.grownBy_alloc w _ none) (by simp) (by simp)
  have z0 : (w.alloc (.cells #[.int .i64 0, .string ⟨#[]⟩, .slice none 0 0, .int .i64 0, .string ⟨#[]⟩] 166)).heap.size = w.heap.size + 1 := by simp
  generalize w.alloc (.cells #[.int .i64 0, .string ⟨#[]⟩, .slice none 0 0, .int .i64 0, .string ⟨#[]⟩] 166) = w0 at G0 HR0 c0 z0 ⊢
  have l1 : w.heap.size < w0.heap.size := by omega
  rw [← z0]
  refine (l1Int_any B q w0.heap.size [1, 1, 2, 3, 3, 4, 5, 6] 8 _ (c0.keep (World.grownBy_alloc w0 _ none) (by simp) (by simp)) (by decide) (by decide) (by omega) (cells_lit w0 3 _)).mono ?_
  rintro e w1 ⟨K, rfl, hx, c1, g1⟩
  have G1 : w.grownBy w1 (some q) := grown_trans (grown_trans G0 (grown_alloc w0 _ q)) g1
  have HR1 := hide (box_grown (box_alloc HR0.out _) g1 (by omega))
  have z1 : w.heap.size < w1.heap.size := (Array.getElem?_eq_some_iff.1 HR1.out).1
  clear hx g1 c0 G0 HR0 z0
  have D0 : DrwT w B q (w1.heap.size + 1) w1.heap.size K ⟨#[]⟩ (.slice none 0 0) [] 0 ⟨#[]⟩ (w1.alloc (.cells #[.int .i64 K, .string ⟨#[]⟩, .slice none 0 0, .int .i64 0, .string ⟨#[]⟩] 166)) := ⟨c1.keep (World.grownBy_alloc w1 _ none) (by simp) (by simp), boxk_new w1 _ _, World.ownsRow_nil _ _ _ _, (by unfold Value.ownBlock; simp), grown_trans G1 (grown_alloc w1 _ q), ⟨hq, by omega, z1⟩, box_alloc HR1.out _, (fun v hv => by cases hv), (by decide), (by decide), (by simp)⟩
  clear G1 HR1 c1
  obtain ⟨b, hb⟩ : ∃ b, Hid (w1.heap.size + 1 = b) := ⟨_, rfl⟩
  rw [hb.out] at D0
  clear hb
  by_cases hk2 : K = 2
  · subst hk2
    have d0 := boxk_cell D0.box 0 _ rfl
    go_wp2_with fail
    refine (l1Below_any B q pos _ D0.cur hp (by omega)).mono ?_
    rintro e w2 ⟨N', rfl, -, -, c2, g2⟩
    have D2 := D0.draws c2 g2
    obtain ⟨F, HF⟩ : ∃ F, Hid (w1.heap.size = F) := ⟨_, rfl⟩
    rw [HF.out] at D2 ⊢
    clear d0 D0 c2 g2 HF
    have HD3 := hide (D2.num N')
    have b3 := boxk_cell D2.box 3 _ rfl
    have bf3 := boxk_frozen D2.box 3
    clear D2
    go_upto_region 5 with fail
    generalize w2.setCell ⟨F, 3, none⟩ (.int .i64 N') = w8 at HD3 ⊢
    clear b3 bf3
    have b0 := boxk_cell HD3.out.box 0 _ rfl
    have b1 := boxk_cell HD3.out.box 1 _ rfl
    have b2 := boxk_cell HD3.out.box 2 _ rfl
    have b3 := boxk_cell HD3.out.box 3 _ rfl
    have b4 := boxk_cell HD3.out.box 4 _ rfl
    have r0 := boxk_cell HD3.out.res 0 _ rfl
    have r1 := boxk_cell HD3.out.res 1 _ rfl
    have r2 := boxk_cell HD3.out.res 2 _ rfl
    have r3 := boxk_cell HD3.out.res 3 _ rfl
    have r4 := boxk_cell HD3.out.res 4 _ rfl
    have rf0 := boxk_frozen HD3.out.res 0
    have rf1 := boxk_frozen HD3.out.res 1
    have rf2 := boxk_frozen HD3.out.res 2
    have rf3 := boxk_frozen HD3.out.res 3
    have rf4 := boxk_frozen HD3.out.res 4
    have hFl := HD3.out.far
    go_wp2
    refine box5_post HD3.out.res (fun w9 h9 gr => ?_)
    clear b0 b1 b2 b3 b4 r0 r1 r2 r3 r4 rf0 rf1 rf2 rf3 rf4
    have d0 := boxk_cell h9 0 _ rfl
    have d1 := boxk_cell h9 1 _ rfl
    have d2 := boxk_cell h9 2 _ rfl
    have d3 := boxk_cell h9 3 _ rfl
    have d4 := boxk_cell h9 4 _ rfl
    exact bodyPost_ret (v := .agg #[.int .i64 2, .string ⟨#[]⟩, .slice none 0 0, .int .i64 N', .string ⟨#[]⟩]) (by simp [results, Try.results144, go_sem, d0, d1, d2, d3, d4]) rfl (HD3.out.done (by simp) gr)
  · have k2 : (K == 2) = false := by simpa using hk2
    by_cases hk5 : K = 5
    · subst hk5
      have d0 := boxk_cell D0.box 0 _ rfl
      go_upto_region 8 with fail
      clear d0
      generalize w1.alloc (.cells #[.int .i64 5, .string ⟨#[]⟩, .slice none 0 0, .int .i64 0, .string ⟨#[]⟩] 166) = w8 at D0 ⊢
      have b0 := boxk_cell D0.box 0 _ rfl
      have b1 := boxk_cell D0.box 1 _ rfl
      have b2 := boxk_cell D0.box 2 _ rfl
      have b3 := boxk_cell D0.box 3 _ rfl
      have b4 := boxk_cell D0.box 4 _ rfl
      have r0 := boxk_cell D0.res 0 _ rfl
      have r1 := boxk_cell D0.res 1 _ rfl
      have r2 := boxk_cell D0.res 2 _ rfl
      have r3 := boxk_cell D0.res 3 _ rfl
      have r4 := boxk_cell D0.res 4 _ rfl
      have rf0 := boxk_frozen D0.res 0
      have rf1 := boxk_frozen D0.res 1
      have rf2 := boxk_frozen D0.res 2
      have rf3 := boxk_frozen D0.res 3
      have rf4 := boxk_frozen D0.res 4
      have HD3 := hide D0
      clear D0
      have hFl := HD3.out.far
      go_wp2
      refine box5_post HD3.out.res (fun w9 h9 gr => ?_)
      clear b0 b1 b2 b3 b4 r0 r1 r2 r3 r4 rf0 rf1 rf2 rf3 rf4
      have d0 := boxk_cell h9 0 _ rfl
      have d1 := boxk_cell h9 1 _ rfl
      have d2 := boxk_cell h9 2 _ rfl
      have d3 := boxk_cell h9 3 _ rfl
      have d4 := boxk_cell h9 4 _ rfl
      exact bodyPost_ret (v := .agg #[.int .i64 5, .string ⟨#[]⟩, .slice none 0 0, .int .i64 0, .string ⟨#[]⟩]) (by simp [results, Try.results144, go_sem, d0, d1, d2, d3, d4]) rfl (HD3.out.done (by simp) gr)
    · have k5 : (K == 5) = false := by simpa using hk5
      by_cases hk6 : K = 6
      · subst hk6
        have d0 := boxk_cell D0.box 0 _ rfl
        go_upto_region 8 with fail
        clear d0
        generalize w1.alloc (.cells #[.int .i64 6, .string ⟨#[]⟩, .slice none 0 0, .int .i64 0, .string ⟨#[]⟩] 166) = w8 at D0 ⊢
        have b0 := boxk_cell D0.box 0 _ rfl
        have b1 := boxk_cell D0.box 1 _ rfl
        have b2 := boxk_cell D0.box 2 _ rfl
        have b3 := boxk_cell D0.box 3 _ rfl
        have b4 := boxk_cell D0.box 4 _ rfl
        have r0 := boxk_cell D0.res 0 _ rfl
        have r1 := boxk_cell D0.res 1 _ rfl
        have r2 := boxk_cell D0.res 2 _ rfl
        have r3 := boxk_cell D0.res 3 _ rfl
        have r4 := boxk_cell D0.res 4 _ rfl
        have rf0 := boxk_frozen D0.res 0
        have rf1 := boxk_frozen D0.res 1
        have rf2 := boxk_frozen D0.res 2
        have rf3 := boxk_frozen D0.res 3
        have rf4 := boxk_frozen D0.res 4
        have HD3 := hide D0
        clear D0
        have hFl := HD3.out.far
        go_wp2
        refine box5_post HD3.out.res (fun w9 h9 gr => ?_)
        clear b0 b1 b2 b3 b4 r0 r1 r2 r3 r4 rf0 rf1 rf2 rf3 rf4
        have d0 := boxk_cell h9 0 _ rfl
        have d1 := boxk_cell h9 1 _ rfl
        have d2 := boxk_cell h9 2 _ rfl
        have d3 := boxk_cell h9 3 _ rfl
        have d4 := boxk_cell h9 4 _ rfl
        exact bodyPost_ret (v := .agg #[.int .i64 6, .string ⟨#[]⟩, .slice none 0 0, .int .i64 0, .string ⟨#[]⟩]) (by simp [results, Try.results144, go_sem, d0, d1, d2, d3, d4]) rfl (HD3.out.done (by simp) gr)
      · have k6 : (K == 6) = false := by simpa using hk6
        clear hk2 hk5 hk6
        have d0 := boxk_cell D0.box 0 _ rfl
        go_wp2_with fail
        obtain ⟨F, HF⟩ : ∃ F, Hid (w1.heap.size = F) := ⟨_, rfl⟩
        have hzz : (w1.alloc (.cells #[.int .i64 K, .string ⟨#[]⟩, .slice none 0 0, .int .i64 0, .string ⟨#[]⟩] 166)).heap.size = w1.heap.size + 1 := by simp
        generalize w1.alloc (.cells #[.int .i64 K, .string ⟨#[]⟩, .slice none 0 0, .int .i64 0, .string ⟨#[]⟩] 166) = w1' at D0 d0 hzz ⊢
        rw [← hzz]
        rw [HF.out] at D0 d0 ⊢
        have hq1 := D0.cur.lt
        clear HF hzz d0
        refine (l1Str_any B q w1'.heap.size [⟨#[111, 114, 100, 101, 114]⟩, ⟨#[112, 97, 105, 100]⟩, ⟨#[105, 116, 101, 109]⟩, ⟨#[115, 104, 105, 112]⟩, ⟨#[99, 104, 97, 114, 103, 101]⟩] 5 _ (D0.alloc _).cur (by decide) (by decide) (by omega) (cells_strs w1' 9 _)).mono ?_
        rintro e w2 ⟨nm, rfl, hx, c2, g2⟩
        have D2 := (D0.alloc _).draws c2 g2
        have hsn : nm.size ≤ 100 := (by simp only [List.mem_cons, List.not_mem_nil, or_false] at hx; rcases hx with rfl | rfl | rfl | rfl | rfl <;> decide)
        have HD3 := hide (D2.name nm hsn)
        have b1 := boxk_cell D2.box 1 _ rfl
        have bf1 := boxk_frozen D2.box 1
        clear D0 D2 c2 g2 hx hsn hq1
        go_upto_region 10 with fail
        generalize w2.setCell ⟨F, 1, none⟩ (.string nm) = w3 at HD3 ⊢
        clear b1 bf1
        have b1 := boxk_cell HD3.out.box 1 _ rfl
        cases hk : (nm.toList == [105, 116, 101, 109])
        · go_wp2
          clear b1 hk
          go_loopw [7] (fun i wr => ∃ (k : Nat) (v : Value) (L : List X11), L.length = k ∧ k ≤ 1 ∧ i = .int .i64 k ∧ DrwT w B q b F K nm v L 0 ⟨#[]⟩ wr) (fun i _ => (1 - intOf i).toNat)
          case atStart => exact ⟨0, _, [], rfl, by omega, rfl, HD3.out⟩
          case round =>
            obtain ⟨k, v, L, rfl, hk2, rfl, D2⟩ := hrel
            clear HD3
            have HD := hide D2
            clear D2
            by_cases hlt : (L.length : Int) < 1
            · have c2' := boxk_cell HD.out.box 2 _ rfl
              have f2' := boxk_frozen HD.out.box 2
              go_wp2_with fail
              go_region_law (first
                | (refine step_append_lies _ rfl (.tmp 38) (.tmp 41) 164 rfl b 206 i0 (.agg #[.string ⟨#[]⟩, .int .i64 0, .string ⟨#[]⟩, .int .i64 0, .int .i64 0, .string ⟨#[]⟩, .int .i64 0, .string ⟨#[]⟩, .int .i64 0, .int .i64 0, .string ⟨#[]⟩]) 11 128 Try.underlying164 hi hz0 hz1 hz2 rfl (by omega) v L.length (rowOf X11.cs L) (by simp [Act.eval]) (D3.alloc _).row ⟨w3.heap.size, 0, none⟩ 1 1 (X11.cs u) (by simp [Act.eval]) rfl (src_row w3 #[.string u.Op, .int .i64 u.L.K, .string u.L.S, .int .i64 u.L.V.K, .int .i64 u.L.V.N, .string u.L.V.S, .int .i64 u.R.K, .string u.R.S, .int .i64 u.R.V.K, .int .i64 u.R.V.N, .string u.R.V.S] 206) (one_x u) (by omega) (by unfold maxLen; omega) (by omega) (by have := D3.bsz; simp; omega) _ rfl ?_; intro g cap w4 ho4 hg4 hat4 hlt4; obtain ⟨x1, y1, D4⟩ := (D3.alloc _).grew hu ho4 hg4 hat4 rfl)
                | (rw [if_pos (by simp [Region.wanted])]; go_simp; go_at_call 163; refine (l8Expr_any B q _ HD.out.drew.cur).mono ?_; rintro e w3 ⟨u, rfl, hu, huo, c3, g3⟩; have D3 := HD.out.drew.draws c3 g3; have c3' := boxk_cell D3.box 2 _ rfl; have f3' := boxk_frozen D3.box 2; have c3'' := boxk_cell (D3.alloc (.cells #[.string u.Op, .int .i64 u.L.K, .string u.L.S, .int .i64 u.L.V.K, .int .i64 u.L.V.N, .string u.L.V.S, .int .i64 u.R.K, .string u.R.S, .int .i64 u.R.V.K, .int .i64 u.R.V.N, .string u.R.V.S] 206)).box 2 _ rfl; have f3'' := boxk_frozen (D3.alloc (.cells #[.string u.Op, .int .i64 u.L.K, .string u.L.S, .int .i64 u.L.V.K, .int .i64 u.L.V.N, .string u.L.V.S, .int .i64 u.R.K, .string u.R.S, .int .i64 u.R.V.K, .int .i64 u.R.V.N, .string u.R.V.S] 206)).box 2))
              all_goals
                have HD4 := hide D4
                clear c2' f2' c3' f3' c3'' f3'' x1 y1 D3 D4 HD
                go_wp2
                go_roundw
                case rel => exact ⟨L.length + 1, _, L ++ [u], by simp, by omega, by go_num, HD4.out⟩
                case measure => simp [intOf]; omega
            · skip
              obtain ⟨av, cv, rfl⟩ := HD.out.slice
              have hL2 : L.length ≤ 2 := by omega
              by_cases hk4 : K = 4
              · subst hk4
                have b0 := boxk_cell HD.out.box 0 _ rfl
                go_wp2_with fail
                have hqr := HD.out.cur.lt
                refine (l1Int_any B q wr.heap.size [0, 1, 5, 100000] 4 _ (HD.out.alloc _).cur (by decide) (by decide) (by omega) (cells_lit wr 3 _)).mono ?_
                rintro e w4 ⟨N', rfl, -, c4, g4⟩
                have D4 := (HD.out.alloc _).draws c4 g4
                have HD5 := hide (D4.num N')
                clear b0 c4 g4 hqr HD
                have b3 := boxk_cell D4.box 3 _ rfl
                have bf3 := boxk_frozen D4.box 3
                clear D4
                go_upto_region 19 with fail
                generalize w4.setCell ⟨F, 3, none⟩ (.int .i64 N') = w8 at HD5 ⊢
                clear b3 bf3
                have b0 := boxk_cell HD5.out.box 0 _ rfl
                have b1 := boxk_cell HD5.out.box 1 _ rfl
                have b2 := boxk_cell HD5.out.box 2 _ rfl
                have b3 := boxk_cell HD5.out.box 3 _ rfl
                have b4 := boxk_cell HD5.out.box 4 _ rfl
                have r0 := boxk_cell HD5.out.res 0 _ rfl
                have r1 := boxk_cell HD5.out.res 1 _ rfl
                have r2 := boxk_cell HD5.out.res 2 _ rfl
                have r3 := boxk_cell HD5.out.res 3 _ rfl
                have r4 := boxk_cell HD5.out.res 4 _ rfl
                have rf0 := boxk_frozen HD5.out.res 0
                have rf1 := boxk_frozen HD5.out.res 1
                have rf2 := boxk_frozen HD5.out.res 2
                have rf3 := boxk_frozen HD5.out.res 3
                have rf4 := boxk_frozen HD5.out.res 4
                have hFl := HD5.out.far
                go_wp2
                refine box5_post HD5.out.res (fun w9 h9 gr => ?_)
                clear b0 b1 b2 b3 b4 r0 r1 r2 r3 r4 rf0 rf1 rf2 rf3 rf4
                have d0 := boxk_cell h9 0 _ rfl
                have d1 := boxk_cell h9 1 _ rfl
                have d2 := boxk_cell h9 2 _ rfl
                have d3 := boxk_cell h9 3 _ rfl
                have d4 := boxk_cell h9 4 _ rfl
                exact bodyPost_ret (v := .agg #[.int .i64 4, .string nm, .slice av L.length cv, .int .i64 N', .string ⟨#[]⟩]) (by simp [results, Try.results144, go_sem, d0, d1, d2, d3, d4]) rfl (HD5.out.done hL2 gr)
              · have k4 : (K == 4) = false := by simpa using hk4
                by_cases hk3 : K = 3
                · subst hk3
                  have b0 := boxk_cell HD.out.box 0 _ rfl
                  go_wp2_with fail
                  refine (l1Once_any B q 2 _ HD.out.cur (by omega) (by omega)).mono ?_
                  rintro e w4 ⟨bb, rfl, c4, g4⟩
                  have HD4 := hide (HD.out.draws c4 g4)
                  clear b0 c4 g4 HD
                  cases bb
                  · skip
                    have b0 := boxk_cell HD4.out.box 0 _ rfl
                    have b1 := boxk_cell HD4.out.box 1 _ rfl
                    have b2 := boxk_cell HD4.out.box 2 _ rfl
                    have b3 := boxk_cell HD4.out.box 3 _ rfl
                    have b4 := boxk_cell HD4.out.box 4 _ rfl
                    have r0 := boxk_cell HD4.out.res 0 _ rfl
                    have r1 := boxk_cell HD4.out.res 1 _ rfl
                    have r2 := boxk_cell HD4.out.res 2 _ rfl
                    have r3 := boxk_cell HD4.out.res 3 _ rfl
                    have r4 := boxk_cell HD4.out.res 4 _ rfl
                    have rf0 := boxk_frozen HD4.out.res 0
                    have rf1 := boxk_frozen HD4.out.res 1
                    have rf2 := boxk_frozen HD4.out.res 2
                    have rf3 := boxk_frozen HD4.out.res 3
                    have rf4 := boxk_frozen HD4.out.res 4
                    have hFl := HD4.out.far
                    go_wp2
                    refine box5_post HD4.out.res (fun w9 h9 gr => ?_)
                    clear b0 b1 b2 b3 b4 r0 r1 r2 r3 r4 rf0 rf1 rf2 rf3 rf4
                    have d0 := boxk_cell h9 0 _ rfl
                    have d1 := boxk_cell h9 1 _ rfl
                    have d2 := boxk_cell h9 2 _ rfl
                    have d3 := boxk_cell h9 3 _ rfl
                    have d4 := boxk_cell h9 4 _ rfl
                    exact bodyPost_ret (v := .agg #[.int .i64 3, .string nm, .slice av L.length cv, .int .i64 0, .string ⟨#[]⟩]) (by simp [results, Try.results144, go_sem, d0, d1, d2, d3, d4]) rfl (HD4.out.done hL2 gr)
                  · go_wp2_with fail
                    have hqr := HD4.out.cur.lt
                    refine (l1Str_any B q w4.heap.size [⟨#[114, 101, 102, 117, 110, 100]⟩, ⟨#[99, 97, 110, 99, 101, 108]⟩] 2 _ (HD4.out.alloc _).cur (by decide) (by decide) (by omega) (cells_strs w4 9 _)).mono ?_
                    rintro e w5 ⟨un', rfl, hx, c5, g5⟩
                    have D5 := (HD4.out.alloc _).draws c5 g5
                    have hsu : un'.size ≤ 100 := (by simp only [List.mem_cons, List.not_mem_nil, or_false] at hx; rcases hx with rfl | rfl <;> decide)
                    have HD6 := hide (D5.undo un' hsu)
                    have b4 := boxk_cell D5.box 4 _ rfl
                    have bf4 := boxk_frozen D5.box 4
                    clear D5 HD4 c5 g5 hqr hx hsu
                    go_upto_region 21 with fail
                    generalize w5.setCell ⟨F, 4, none⟩ (.string un') = w8 at HD6 ⊢
                    clear b4 bf4
                    have b0 := boxk_cell HD6.out.box 0 _ rfl
                    have b1 := boxk_cell HD6.out.box 1 _ rfl
                    have b2 := boxk_cell HD6.out.box 2 _ rfl
                    have b3 := boxk_cell HD6.out.box 3 _ rfl
                    have b4 := boxk_cell HD6.out.box 4 _ rfl
                    have r0 := boxk_cell HD6.out.res 0 _ rfl
                    have r1 := boxk_cell HD6.out.res 1 _ rfl
                    have r2 := boxk_cell HD6.out.res 2 _ rfl
                    have r3 := boxk_cell HD6.out.res 3 _ rfl
                    have r4 := boxk_cell HD6.out.res 4 _ rfl
                    have rf0 := boxk_frozen HD6.out.res 0
                    have rf1 := boxk_frozen HD6.out.res 1
                    have rf2 := boxk_frozen HD6.out.res 2
                    have rf3 := boxk_frozen HD6.out.res 3
                    have rf4 := boxk_frozen HD6.out.res 4
                    have hFl := HD6.out.far
                    go_wp2
                    refine box5_post HD6.out.res (fun w9 h9 gr => ?_)
                    clear b0 b1 b2 b3 b4 r0 r1 r2 r3 r4 rf0 rf1 rf2 rf3 rf4
                    have d0 := boxk_cell h9 0 _ rfl
                    have d1 := boxk_cell h9 1 _ rfl
                    have d2 := boxk_cell h9 2 _ rfl
                    have d3 := boxk_cell h9 3 _ rfl
                    have d4 := boxk_cell h9 4 _ rfl
                    exact bodyPost_ret (v := .agg #[.int .i64 3, .string nm, .slice av L.length cv, .int .i64 0, .string un']) (by simp [results, Try.results144, go_sem, d0, d1, d2, d3, d4]) rfl (HD6.out.done hL2 gr)
                · have k3 : (K == 3) = false := by simpa using hk3
                  have b0 := boxk_cell HD.out.box 0 _ rfl
                  have b1 := boxk_cell HD.out.box 1 _ rfl
                  have b2 := boxk_cell HD.out.box 2 _ rfl
                  have b3 := boxk_cell HD.out.box 3 _ rfl
                  have b4 := boxk_cell HD.out.box 4 _ rfl
                  have r0 := boxk_cell HD.out.res 0 _ rfl
                  have r1 := boxk_cell HD.out.res 1 _ rfl
                  have r2 := boxk_cell HD.out.res 2 _ rfl
                  have r3 := boxk_cell HD.out.res 3 _ rfl
                  have r4 := boxk_cell HD.out.res 4 _ rfl
                  have rf0 := boxk_frozen HD.out.res 0
                  have rf1 := boxk_frozen HD.out.res 1
                  have rf2 := boxk_frozen HD.out.res 2
                  have rf3 := boxk_frozen HD.out.res 3
                  have rf4 := boxk_frozen HD.out.res 4
                  have hFl := HD.out.far
                  go_wp2
                  refine box5_post HD.out.res (fun w9 h9 gr => ?_)
                  clear b0 b1 b2 b3 b4 r0 r1 r2 r3 r4 rf0 rf1 rf2 rf3 rf4
                  have d0 := boxk_cell h9 0 _ rfl
                  have d1 := boxk_cell h9 1 _ rfl
                  have d2 := boxk_cell h9 2 _ rfl
                  have d3 := boxk_cell h9 3 _ rfl
                  have d4 := boxk_cell h9 4 _ rfl
                  exact bodyPost_ret (v := .agg #[.int .i64 K, .string nm, .slice av L.length cv, .int .i64 0, .string ⟨#[]⟩]) (by simp [results, Try.results144, go_sem, d0, d1, d2, d3, d4]) rfl (HD.out.done hL2 gr)
        · go_wp2
          clear b1 hk
          go_loopw [7] (fun i wr => ∃ (k : Nat) (v : Value) (L : List X11), L.length = k ∧ k ≤ 2 ∧ i = .int .i64 k ∧ DrwT w B q b F K nm v L 0 ⟨#[]⟩ wr) (fun i _ => (2 - intOf i).toNat)
          case atStart => exact ⟨0, _, [], rfl, by omega, rfl, HD3.out⟩
          case round =>
            obtain ⟨k, v, L, rfl, hk2, rfl, D2⟩ := hrel
            clear HD3
            have HD := hide D2
            clear D2
            by_cases hlt : (L.length : Int) < 2
            · have c2' := boxk_cell HD.out.box 2 _ rfl
              have f2' := boxk_frozen HD.out.box 2
              go_wp2_with fail
              go_region_law (first
                | (refine step_append_lies _ rfl (.tmp 38) (.tmp 41) 164 rfl b 206 i0 (.agg #[.string ⟨#[]⟩, .int .i64 0, .string ⟨#[]⟩, .int .i64 0, .int .i64 0, .string ⟨#[]⟩, .int .i64 0, .string ⟨#[]⟩, .int .i64 0, .int .i64 0, .string ⟨#[]⟩]) 11 128 Try.underlying164 hi hz0 hz1 hz2 rfl (by omega) v L.length (rowOf X11.cs L) (by simp [Act.eval]) (D3.alloc _).row ⟨w3.heap.size, 0, none⟩ 1 1 (X11.cs u) (by simp [Act.eval]) rfl (src_row w3 #[.string u.Op, .int .i64 u.L.K, .string u.L.S, .int .i64 u.L.V.K, .int .i64 u.L.V.N, .string u.L.V.S, .int .i64 u.R.K, .string u.R.S, .int .i64 u.R.V.K, .int .i64 u.R.V.N, .string u.R.V.S] 206) (one_x u) (by omega) (by unfold maxLen; omega) (by omega) (by have := D3.bsz; simp; omega) _ rfl ?_; intro g cap w4 ho4 hg4 hat4 hlt4; obtain ⟨x1, y1, D4⟩ := (D3.alloc _).grew hu ho4 hg4 hat4 rfl)
                | (rw [if_pos (by simp [Region.wanted])]; go_simp; go_at_call 163; refine (l8Expr_any B q _ HD.out.drew.cur).mono ?_; rintro e w3 ⟨u, rfl, hu, huo, c3, g3⟩; have D3 := HD.out.drew.draws c3 g3; have c3' := boxk_cell D3.box 2 _ rfl; have f3' := boxk_frozen D3.box 2; have c3'' := boxk_cell (D3.alloc (.cells #[.string u.Op, .int .i64 u.L.K, .string u.L.S, .int .i64 u.L.V.K, .int .i64 u.L.V.N, .string u.L.V.S, .int .i64 u.R.K, .string u.R.S, .int .i64 u.R.V.K, .int .i64 u.R.V.N, .string u.R.V.S] 206)).box 2 _ rfl; have f3'' := boxk_frozen (D3.alloc (.cells #[.string u.Op, .int .i64 u.L.K, .string u.L.S, .int .i64 u.L.V.K, .int .i64 u.L.V.N, .string u.L.V.S, .int .i64 u.R.K, .string u.R.S, .int .i64 u.R.V.K, .int .i64 u.R.V.N, .string u.R.V.S] 206)).box 2))
              all_goals
                have HD4 := hide D4
                clear c2' f2' c3' f3' c3'' f3'' x1 y1 D3 D4 HD
                go_wp2
                go_roundw
                case rel => exact ⟨L.length + 1, _, L ++ [u], by simp, by omega, by go_num, HD4.out⟩
                case measure => simp [intOf]; omega
            · skip
              obtain ⟨av, cv, rfl⟩ := HD.out.slice
              have hL2 : L.length ≤ 2 := by omega
              by_cases hk4 : K = 4
              · subst hk4
                have b0 := boxk_cell HD.out.box 0 _ rfl
                go_wp2_with fail
                have hqr := HD.out.cur.lt
                refine (l1Int_any B q wr.heap.size [0, 1, 5, 100000] 4 _ (HD.out.alloc _).cur (by decide) (by decide) (by omega) (cells_lit wr 3 _)).mono ?_
                rintro e w4 ⟨N', rfl, -, c4, g4⟩
                have D4 := (HD.out.alloc _).draws c4 g4
                have HD5 := hide (D4.num N')
                clear b0 c4 g4 hqr HD
                have b3 := boxk_cell D4.box 3 _ rfl
                have bf3 := boxk_frozen D4.box 3
                clear D4
                go_upto_region 19 with fail
                generalize w4.setCell ⟨F, 3, none⟩ (.int .i64 N') = w8 at HD5 ⊢
                clear b3 bf3
                have b0 := boxk_cell HD5.out.box 0 _ rfl
                have b1 := boxk_cell HD5.out.box 1 _ rfl
                have b2 := boxk_cell HD5.out.box 2 _ rfl
                have b3 := boxk_cell HD5.out.box 3 _ rfl
                have b4 := boxk_cell HD5.out.box 4 _ rfl
                have r0 := boxk_cell HD5.out.res 0 _ rfl
                have r1 := boxk_cell HD5.out.res 1 _ rfl
                have r2 := boxk_cell HD5.out.res 2 _ rfl
                have r3 := boxk_cell HD5.out.res 3 _ rfl
                have r4 := boxk_cell HD5.out.res 4 _ rfl
                have rf0 := boxk_frozen HD5.out.res 0
                have rf1 := boxk_frozen HD5.out.res 1
                have rf2 := boxk_frozen HD5.out.res 2
                have rf3 := boxk_frozen HD5.out.res 3
                have rf4 := boxk_frozen HD5.out.res 4
                have hFl := HD5.out.far
                go_wp2
                refine box5_post HD5.out.res (fun w9 h9 gr => ?_)
                clear b0 b1 b2 b3 b4 r0 r1 r2 r3 r4 rf0 rf1 rf2 rf3 rf4
                have d0 := boxk_cell h9 0 _ rfl
                have d1 := boxk_cell h9 1 _ rfl
                have d2 := boxk_cell h9 2 _ rfl
                have d3 := boxk_cell h9 3 _ rfl
                have d4 := boxk_cell h9 4 _ rfl
                exact bodyPost_ret (v := .agg #[.int .i64 4, .string nm, .slice av L.length cv, .int .i64 N', .string ⟨#[]⟩]) (by simp [results, Try.results144, go_sem, d0, d1, d2, d3, d4]) rfl (HD5.out.done hL2 gr)
              · have k4 : (K == 4) = false := by simpa using hk4
                by_cases hk3 : K = 3
                · subst hk3
                  have b0 := boxk_cell HD.out.box 0 _ rfl
                  go_wp2_with fail
                  refine (l1Once_any B q 2 _ HD.out.cur (by omega) (by omega)).mono ?_
                  rintro e w4 ⟨bb, rfl, c4, g4⟩
                  have HD4 := hide (HD.out.draws c4 g4)
                  clear b0 c4 g4 HD
                  cases bb
                  · skip
                    have b0 := boxk_cell HD4.out.box 0 _ rfl
                    have b1 := boxk_cell HD4.out.box 1 _ rfl
                    have b2 := boxk_cell HD4.out.box 2 _ rfl
                    have b3 := boxk_cell HD4.out.box 3 _ rfl
                    have b4 := boxk_cell HD4.out.box 4 _ rfl
                    have r0 := boxk_cell HD4.out.res 0 _ rfl
                    have r1 := boxk_cell HD4.out.res 1 _ rfl
                    have r2 := boxk_cell HD4.out.res 2 _ rfl
                    have r3 := boxk_cell HD4.out.res 3 _ rfl
                    have r4 := boxk_cell HD4.out.res 4 _ rfl
                    have rf0 := boxk_frozen HD4.out.res 0
                    have rf1 := boxk_frozen HD4.out.res 1
                    have rf2 := boxk_frozen HD4.out.res 2
                    have rf3 := boxk_frozen HD4.out.res 3
                    have rf4 := boxk_frozen HD4.out.res 4
                    have hFl := HD4.out.far
                    go_wp2
                    refine box5_post HD4.out.res (fun w9 h9 gr => ?_)
                    clear b0 b1 b2 b3 b4 r0 r1 r2 r3 r4 rf0 rf1 rf2 rf3 rf4
                    have d0 := boxk_cell h9 0 _ rfl
                    have d1 := boxk_cell h9 1 _ rfl
                    have d2 := boxk_cell h9 2 _ rfl
                    have d3 := boxk_cell h9 3 _ rfl
                    have d4 := boxk_cell h9 4 _ rfl
                    exact bodyPost_ret (v := .agg #[.int .i64 3, .string nm, .slice av L.length cv, .int .i64 0, .string ⟨#[]⟩]) (by simp [results, Try.results144, go_sem, d0, d1, d2, d3, d4]) rfl (HD4.out.done hL2 gr)
                  · go_wp2_with fail
                    have hqr := HD4.out.cur.lt
                    refine (l1Str_any B q w4.heap.size [⟨#[114, 101, 102, 117, 110, 100]⟩, ⟨#[99, 97, 110, 99, 101, 108]⟩] 2 _ (HD4.out.alloc _).cur (by decide) (by decide) (by omega) (cells_strs w4 9 _)).mono ?_
                    rintro e w5 ⟨un', rfl, hx, c5, g5⟩
                    have D5 := (HD4.out.alloc _).draws c5 g5
                    have hsu : un'.size ≤ 100 := (by simp only [List.mem_cons, List.not_mem_nil, or_false] at hx; rcases hx with rfl | rfl <;> decide)
                    have HD6 := hide (D5.undo un' hsu)
                    have b4 := boxk_cell D5.box 4 _ rfl
                    have bf4 := boxk_frozen D5.box 4
                    clear D5 HD4 c5 g5 hqr hx hsu
                    go_upto_region 21 with fail
                    generalize w5.setCell ⟨F, 4, none⟩ (.string un') = w8 at HD6 ⊢
                    clear b4 bf4
                    have b0 := boxk_cell HD6.out.box 0 _ rfl
                    have b1 := boxk_cell HD6.out.box 1 _ rfl
                    have b2 := boxk_cell HD6.out.box 2 _ rfl
                    have b3 := boxk_cell HD6.out.box 3 _ rfl
                    have b4 := boxk_cell HD6.out.box 4 _ rfl
                    have r0 := boxk_cell HD6.out.res 0 _ rfl
                    have r1 := boxk_cell HD6.out.res 1 _ rfl
                    have r2 := boxk_cell HD6.out.res 2 _ rfl
                    have r3 := boxk_cell HD6.out.res 3 _ rfl
                    have r4 := boxk_cell HD6.out.res 4 _ rfl
                    have rf0 := boxk_frozen HD6.out.res 0
                    have rf1 := boxk_frozen HD6.out.res 1
                    have rf2 := boxk_frozen HD6.out.res 2
                    have rf3 := boxk_frozen HD6.out.res 3
                    have rf4 := boxk_frozen HD6.out.res 4
                    have hFl := HD6.out.far
                    go_wp2
                    refine box5_post HD6.out.res (fun w9 h9 gr => ?_)
                    clear b0 b1 b2 b3 b4 r0 r1 r2 r3 r4 rf0 rf1 rf2 rf3 rf4
                    have d0 := boxk_cell h9 0 _ rfl
                    have d1 := boxk_cell h9 1 _ rfl
                    have d2 := boxk_cell h9 2 _ rfl
                    have d3 := boxk_cell h9 3 _ rfl
                    have d4 := boxk_cell h9 4 _ rfl
                    exact bodyPost_ret (v := .agg #[.int .i64 3, .string nm, .slice av L.length cv, .int .i64 0, .string un']) (by simp [results, Try.results144, go_sem, d0, d1, d2, d3, d4]) rfl (HD6.out.done hL2 gr)
                · have k3 : (K == 3) = false := by simpa using hk3
                  have b0 := boxk_cell HD.out.box 0 _ rfl
                  have b1 := boxk_cell HD.out.box 1 _ rfl
                  have b2 := boxk_cell HD.out.box 2 _ rfl
                  have b3 := boxk_cell HD.out.box 3 _ rfl
                  have b4 := boxk_cell HD.out.box 4 _ rfl
                  have r0 := boxk_cell HD.out.res 0 _ rfl
                  have r1 := boxk_cell HD.out.res 1 _ rfl
                  have r2 := boxk_cell HD.out.res 2 _ rfl
                  have r3 := boxk_cell HD.out.res 3 _ rfl
                  have r4 := boxk_cell HD.out.res 4 _ rfl
                  have rf0 := boxk_frozen HD.out.res 0
                  have rf1 := boxk_frozen HD.out.res 1
                  have rf2 := boxk_frozen HD.out.res 2
                  have rf3 := boxk_frozen HD.out.res 3
                  have rf4 := boxk_frozen HD.out.res 4
                  have hFl := HD.out.far
                  go_wp2
                  refine box5_post HD.out.res (fun w9 h9 gr => ?_)
                  clear b0 b1 b2 b3 b4 r0 r1 r2 r3 r4 rf0 rf1 rf2 rf3 rf4
                  have d0 := boxk_cell h9 0 _ rfl
                  have d1 := boxk_cell h9 1 _ rfl
                  have d2 := boxk_cell h9 2 _ rfl
                  have d3 := boxk_cell h9 3 _ rfl
                  have d4 := boxk_cell h9 4 _ rfl
                  exact bodyPost_ret (v := .agg #[.int .i64 K, .string nm, .slice av L.length cv, .int .i64 0, .string ⟨#[]⟩]) (by simp [results, Try.results144, go_sem, d0, d1, d2, d3, d4]) rfl (HD.out.done hL2 gr)

end Go.Proofs.Ytfgigcdfmkfkjaa
/-
  Terms of a row written in place: an argument of one.
-/
namespace Go.Proofs.Ytfgigcdfmkfkjaa
open Go.RowKit
set_option linter.unusedVariables false

theorem rowOf_setL_X (t : A5) : ∀ (L : List X11) (i : Nat), i < L.length → ((((((rowOf X11.cs L).set (i * 11 + 1) (.int .i64 t.K)).set (i * 11 + 2) (.string t.S)).set (i * 11 + 3) (.int .i64 t.V.K)).set (i * 11 + 4) (.int .i64 t.V.N)).set (i * 11 + 5) (.string t.V.S)) = rowOf X11.cs (L.set i { eAt L i with L := t })
  | [], i, hi => absurd hi (Nat.not_lt_zero _)
  | y :: r, 0, hi => by
    rw [List.set_cons_zero, rowOf_cons, rowOf_cons]
    rfl
  | y :: r, i + 1, hi => by
    have ih := rowOf_setL_X t r i (by simpa using hi)
    rw [List.set_cons_succ, rowOf_cons, rowOf_cons, show eAt (y :: r) (i + 1) = eAt r i from rfl, ← ih]
    simp only [Nat.succ_mul, X11.cs]
    rfl
theorem rowOf_setR_X (t : A5) : ∀ (L : List X11) (i : Nat), i < L.length → ((((((rowOf X11.cs L).set (i * 11 + 6) (.int .i64 t.K)).set (i * 11 + 7) (.string t.S)).set (i * 11 + 8) (.int .i64 t.V.K)).set (i * 11 + 9) (.int .i64 t.V.N)).set (i * 11 + 10) (.string t.V.S)) = rowOf X11.cs (L.set i { eAt L i with R := t })
  | [], i, hi => absurd hi (Nat.not_lt_zero _)
  | y :: r, 0, hi => by
    rw [List.set_cons_zero, rowOf_cons, rowOf_cons]
    rfl
  | y :: r, i + 1, hi => by
    have ih := rowOf_setR_X t r i (by simpa using hi)
    rw [List.set_cons_succ, rowOf_cons, rowOf_cons, show eAt (y :: r) (i + 1) = eAt r i from rfl, ← ih]
    simp only [Nat.succ_mul, X11.cs]
    rfl
/-- an argument stored into a term of a row -/
theorem storedL_X {W : World} {base g n c j : Nat} {L : List X11} (t : A5) (h : W.ownsRow base 206 11 (.slice (some ⟨g, 0, none⟩) n c) n (rowOf X11.cs L)) (hj : j < L.length) :
    (((((W.setCell ⟨g, j * 11 + 1, none⟩ (.int .i64 t.K)).setCell ⟨g, j * 11 + 2, none⟩ (.string t.S)).setCell ⟨g, j * 11 + 3, none⟩ (.int .i64 t.V.K)).setCell ⟨g, j * 11 + 4, none⟩ (.int .i64 t.V.N)).setCell ⟨g, j * 11 + 5, none⟩ (.string t.V.S)).ownsRow base 206 11 (.slice (some ⟨g, 0, none⟩) n c) n (rowOf X11.cs (L.set j { eAt L j with L := t })) ∧ W.grownBy (((((W.setCell ⟨g, j * 11 + 1, none⟩ (.int .i64 t.K)).setCell ⟨g, j * 11 + 2, none⟩ (.string t.S)).setCell ⟨g, j * 11 + 3, none⟩ (.int .i64 t.V.K)).setCell ⟨g, j * 11 + 4, none⟩ (.int .i64 t.V.N)).setCell ⟨g, j * 11 + 5, none⟩ (.string t.V.S)) (some g) := by
  have s0 := h.stored (j * 11 + 1) (.int .i64 t.K)
  have s1 := s0.1.stored (j * 11 + 2) (.string t.S)
  have s2 := s1.1.stored (j * 11 + 3) (.int .i64 t.V.K)
  have s3 := s2.1.stored (j * 11 + 4) (.int .i64 t.V.N)
  have s4 := s3.1.stored (j * 11 + 5) (.string t.V.S)
  have e := rowOf_setL_X t L j hj
  have o := s4.1
  rw [e] at o
  exact ⟨o, (grown_tt (grown_tt (grown_tt (grown_tt s0.2 s1.2) s2.2) s3.2) s4.2)⟩
/-- an argument stored into a term of a row -/
theorem storedR_X {W : World} {base g n c j : Nat} {L : List X11} (t : A5) (h : W.ownsRow base 206 11 (.slice (some ⟨g, 0, none⟩) n c) n (rowOf X11.cs L)) (hj : j < L.length) :
    (((((W.setCell ⟨g, j * 11 + 6, none⟩ (.int .i64 t.K)).setCell ⟨g, j * 11 + 7, none⟩ (.string t.S)).setCell ⟨g, j * 11 + 8, none⟩ (.int .i64 t.V.K)).setCell ⟨g, j * 11 + 9, none⟩ (.int .i64 t.V.N)).setCell ⟨g, j * 11 + 10, none⟩ (.string t.V.S)).ownsRow base 206 11 (.slice (some ⟨g, 0, none⟩) n c) n (rowOf X11.cs (L.set j { eAt L j with R := t })) ∧ W.grownBy (((((W.setCell ⟨g, j * 11 + 6, none⟩ (.int .i64 t.K)).setCell ⟨g, j * 11 + 7, none⟩ (.string t.S)).setCell ⟨g, j * 11 + 8, none⟩ (.int .i64 t.V.K)).setCell ⟨g, j * 11 + 9, none⟩ (.int .i64 t.V.N)).setCell ⟨g, j * 11 + 10, none⟩ (.string t.V.S)) (some g) := by
  have s0 := h.stored (j * 11 + 6) (.int .i64 t.K)
  have s1 := s0.1.stored (j * 11 + 7) (.string t.S)
  have s2 := s1.1.stored (j * 11 + 8) (.int .i64 t.V.K)
  have s3 := s2.1.stored (j * 11 + 9) (.int .i64 t.V.N)
  have s4 := s3.1.stored (j * 11 + 10) (.string t.V.S)
  have e := rowOf_setR_X t L j hj
  have o := s4.1
  rw [e] at o
  exact ⟨o, (grown_tt (grown_tt (grown_tt (grown_tt s0.2 s1.2) s2.2) s3.2) s4.2)⟩
/-- a list of terms of its own, above H, is written: the rule on its way is left -/
theorem RlW.termBox {w0 W W' : World} {B q b F H g n c k : Nat} {cs : Array Value} {vP vC vA : Value} {P : List PE} {C : List C11} {A : List QE} {xs : List Value} (h : RlW w0 B q b F cs vP P vC C vA A W) (ho : W.ownsRow H 206 11 (.slice (some ⟨g, 0, none⟩) n c) k xs)
    (hb : b ≤ H) (hA : ∀ a ∈ A, ∀ k, (Value.slice a.a a.L.length a.cap).ownBlock = some k → k < H) (gr : W.grownBy W' (some g)) : RlW w0 B q b F cs vP P vC C vA A W' := by
  have far := h.far
  have hB := h.cur.1
  have hg : H ≤ g := (ho.lt g rfl).1
  refine h.kept gr (h.cur.keep gr (by simp; omega) (fun k e => by cases e; omega)) (grown_more h.gr gr (fun k e => by cases e; omega)) (fun e => ?_) (by simp; omega) (fun k e => by cases e; exact rows_apart h.rP ho (by decide) rfl) (fun k e => by cases e; exact rows_apart h.rC ho (by decide) rfl) (fun k e => by cases e; exact rows_apart h.rA ho (by decide) rfl)
    (fun p hp k e => by cases e; exact rows_apart (h.iP p hp) ho (by decide) rfl) (fun a ha k e e2 => by cases e; have := hA a ha _ e2; omega)
  simp only [Option.some.injEq] at e
  subst e
  exact row_apart ho h.box (by decide) rfl
end Go.Proofs.Ytfgigcdfmkfkjaa
/-
  An argument written into a term of an act's own list: the rule on its way, its variables, the act's block and the list behind it.
-/
namespace Go.Proofs.Ytfgigcdfmkfkjaa
open Go.RowKit
set_option linter.unusedVariables false

theorem opE (s : ByteArray) : s.toList.isEmpty = decide (s.size = 0) := by
  rw [ByteArray.toList_eq]
  cases hd : s.data.toList with
  | nil =>
    have : s.size = 0 := by show s.data.size = 0; rw [← Array.length_toList, hd]; rfl
    simp [this]
  | cons x r =>
    have : s.size ≠ 0 := by show s.data.size ≠ 0; rw [← Array.length_toList, hd]; simp
    simp [this]
theorem small_set {L : List X11} {j : Nat} (h : ∀ x ∈ L, x.small) (u : X11) (hu : u.small) : ∀ x ∈ L.set j u, x.small := fun x hx => by
  rcases List.mem_or_eq_of_mem_set hx with h1 | h1
  · exact h x h1
  · rw [h1]; exact hu
theorem RlW.termL {w0 W : World} {B q b F H Y g n c j : Nat} {cs csX : Array Value} {vP vC vA vv : Value} {P : List PE} {C : List C11} {A : List QE} {l : List ByteArray} {L : List X11} (D : RlW w0 B q b F cs vP P vC C vA A W) (OV : W.ownsRow b 9 1 vv l.length (valsS l))
    (hX : W.heap[Y]? = some (.cells csX 166 (0, 0))) (R : W.ownsRow H 206 11 (.slice (some ⟨g, 0, none⟩) n c) n (rowOf X11.cs L)) (hj : j < L.length) (hb : b ≤ H) (hA : ∀ a ∈ A, ∀ k, (Value.slice a.a a.L.length a.cap).ownBlock = some k → k < H) (t : A5) :
    RlW w0 B q b F cs vP P vC C vA A (((((W.setCell ⟨g, j * 11 + 1, none⟩ (.int .i64 t.K)).setCell ⟨g, j * 11 + 1 + 1, none⟩ (.string t.S)).setCell ⟨g, j * 11 + 1 + 2, none⟩ (.int .i64 t.V.K)).setCell ⟨g, j * 11 + 1 + 3, none⟩ (.int .i64 t.V.N)).setCell ⟨g, j * 11 + 1 + 4, none⟩ (.string t.V.S)) ∧ (((((W.setCell ⟨g, j * 11 + 1, none⟩ (.int .i64 t.K)).setCell ⟨g, j * 11 + 1 + 1, none⟩ (.string t.S)).setCell ⟨g, j * 11 + 1 + 2, none⟩ (.int .i64 t.V.K)).setCell ⟨g, j * 11 + 1 + 3, none⟩ (.int .i64 t.V.N)).setCell ⟨g, j * 11 + 1 + 4, none⟩ (.string t.V.S)).ownsRow b 9 1 vv l.length (valsS l) ∧ (((((W.setCell ⟨g, j * 11 + 1, none⟩ (.int .i64 t.K)).setCell ⟨g, j * 11 + 1 + 1, none⟩ (.string t.S)).setCell ⟨g, j * 11 + 1 + 2, none⟩ (.int .i64 t.V.K)).setCell ⟨g, j * 11 + 1 + 3, none⟩ (.int .i64 t.V.N)).setCell ⟨g, j * 11 + 1 + 4, none⟩ (.string t.V.S)).heap[Y]? = some (.cells csX 166 (0, 0)) ∧ (((((W.setCell ⟨g, j * 11 + 1, none⟩ (.int .i64 t.K)).setCell ⟨g, j * 11 + 1 + 1, none⟩ (.string t.S)).setCell ⟨g, j * 11 + 1 + 2, none⟩ (.int .i64 t.V.K)).setCell ⟨g, j * 11 + 1 + 3, none⟩ (.int .i64 t.V.N)).setCell ⟨g, j * 11 + 1 + 4, none⟩ (.string t.V.S)).ownsRow H 206 11 (.slice (some ⟨g, 0, none⟩) n c) n (rowOf X11.cs (L.set j { eAt L j with L := t })) := by
  obtain ⟨o, gr⟩ := storedL_X t R hj
  refine ⟨D.termBox R hb hA gr, row_kept OV gr (fun k e => by cases e; exact rows_apart OV R (by decide) rfl), ?_, o⟩
  exact box_gr hX gr (fun e => row_apart R hX (by decide) (by rw [e]; rfl))
theorem RlW.termR {w0 W : World} {B q b F H Y g n c j : Nat} {cs csX : Array Value} {vP vC vA vv : Value} {P : List PE} {C : List C11} {A : List QE} {l : List ByteArray} {L : List X11} (D : RlW w0 B q b F cs vP P vC C vA A W) (OV : W.ownsRow b 9 1 vv l.length (valsS l))
    (hX : W.heap[Y]? = some (.cells csX 166 (0, 0))) (R : W.ownsRow H 206 11 (.slice (some ⟨g, 0, none⟩) n c) n (rowOf X11.cs L)) (hj : j < L.length) (hb : b ≤ H) (hA : ∀ a ∈ A, ∀ k, (Value.slice a.a a.L.length a.cap).ownBlock = some k → k < H) (t : A5) :
    RlW w0 B q b F cs vP P vC C vA A (((((W.setCell ⟨g, j * 11 + 6, none⟩ (.int .i64 t.K)).setCell ⟨g, j * 11 + 6 + 1, none⟩ (.string t.S)).setCell ⟨g, j * 11 + 6 + 2, none⟩ (.int .i64 t.V.K)).setCell ⟨g, j * 11 + 6 + 3, none⟩ (.int .i64 t.V.N)).setCell ⟨g, j * 11 + 6 + 4, none⟩ (.string t.V.S)) ∧ (((((W.setCell ⟨g, j * 11 + 6, none⟩ (.int .i64 t.K)).setCell ⟨g, j * 11 + 6 + 1, none⟩ (.string t.S)).setCell ⟨g, j * 11 + 6 + 2, none⟩ (.int .i64 t.V.K)).setCell ⟨g, j * 11 + 6 + 3, none⟩ (.int .i64 t.V.N)).setCell ⟨g, j * 11 + 6 + 4, none⟩ (.string t.V.S)).ownsRow b 9 1 vv l.length (valsS l) ∧ (((((W.setCell ⟨g, j * 11 + 6, none⟩ (.int .i64 t.K)).setCell ⟨g, j * 11 + 6 + 1, none⟩ (.string t.S)).setCell ⟨g, j * 11 + 6 + 2, none⟩ (.int .i64 t.V.K)).setCell ⟨g, j * 11 + 6 + 3, none⟩ (.int .i64 t.V.N)).setCell ⟨g, j * 11 + 6 + 4, none⟩ (.string t.V.S)).heap[Y]? = some (.cells csX 166 (0, 0)) ∧ (((((W.setCell ⟨g, j * 11 + 6, none⟩ (.int .i64 t.K)).setCell ⟨g, j * 11 + 6 + 1, none⟩ (.string t.S)).setCell ⟨g, j * 11 + 6 + 2, none⟩ (.int .i64 t.V.K)).setCell ⟨g, j * 11 + 6 + 3, none⟩ (.int .i64 t.V.N)).setCell ⟨g, j * 11 + 6 + 4, none⟩ (.string t.V.S)).ownsRow H 206 11 (.slice (some ⟨g, 0, none⟩) n c) n (rowOf X11.cs (L.set j { eAt L j with R := t })) := by
  obtain ⟨o, gr⟩ := storedR_X t R hj
  refine ⟨D.termBox R hb hA gr, row_kept OV gr (fun k e => by cases e; exact rows_apart OV R (by decide) rfl), ?_, o⟩
  exact box_gr hX gr (fun e => row_apart R hX (by decide) (by rw [e]; rfl))
/-- the cells of a term of a row of the calls' own -/
theorem cellsX {W : World} {base g n c j : Nat} {L : List X11} (R : W.ownsRow base 206 11 (.slice (some ⟨g, 0, none⟩) n c) n (rowOf X11.cs L)) (hj : j < L.length) :
    W.cell? ⟨g, j * 11, none⟩ = some (.string (eAt L j).Op) ∧ W.cell? ⟨g, j * 11 + 1, none⟩ = some (.int .i64 (eAt L j).L.K) ∧ W.cell? ⟨g, j * 11 + 2, none⟩ = some (.string (eAt L j).L.S) ∧ W.cell? ⟨g, j * 11 + 3, none⟩ = some (.int .i64 (eAt L j).L.V.K) ∧ W.cell? ⟨g, j * 11 + 4, none⟩ = some (.int .i64 (eAt L j).L.V.N) ∧ W.cell? ⟨g, j * 11 + 5, none⟩ = some (.string (eAt L j).L.V.S) ∧ W.cell? ⟨g, j * 11 + 6, none⟩ = some (.int .i64 (eAt L j).R.K) ∧ W.cell? ⟨g, j * 11 + 7, none⟩ = some (.string (eAt L j).R.S) ∧ W.cell? ⟨g, j * 11 + 8, none⟩ = some (.int .i64 (eAt L j).R.V.K) ∧ W.cell? ⟨g, j * 11 + 9, none⟩ = some (.int .i64 (eAt L j).R.V.N) ∧ W.cell? ⟨g, j * 11 + 10, none⟩ = some (.string (eAt L j).R.V.S) := by
  obtain ⟨a9, c9, e9, rE, -⟩ := rdK_owns X11.len (by decide) R
  simp only [Value.slice.injEq] at e9
  rw [← e9.1] at rE
  obtain ⟨bb, oo, eab, -, hc⟩ := RdExpr.cells rE (by omega)
  simp only [Option.some.injEq, Addr.mk.injEq] at eab
  obtain ⟨rfl, rfl, -⟩ := eab
  have h := hc j hj
  simp only [Nat.zero_add] at h
  exact h
/-- the inner loop's state: the rule on its way, its variables, the act's block, the act's own list of terms -/
structure TmS (w0 : World) (B q b F : Nat) (cs : Array Value) (vP : Value) (P : List PE) (vC : Value) (C : List C11) (vA : Value) (A : List QE) (vv : Value) (l : List ByteArray) (Y : Nat) (csX : Array Value) (H : Nat) (v : Value) (n : Nat) (L : List X11) (W : World) : Prop where
  d : RlW w0 B q b F cs vP P vC C vA A W
  o : W.ownsRow b 9 1 vv l.length (valsS l)
  x : W.heap[Y]? = some (.cells csX 166 (0, 0))
  r : W.ownsRow H 206 11 v n (rowOf X11.cs L)
  s : ∀ y ∈ L, y.small
theorem TmS.drew {w0 : World} {B q b F H Y : Nat} {cs csX : Array Value} {vP vC vA vv v : Value} {P : List PE} {C : List C11} {A : List QE} {l : List ByteArray} {n : Nat} {L : List X11} {W : World} (h : TmS w0 B q b F cs vP P vC C vA A vv l Y csX H v n L W) : TmS w0 B q b F cs vP P vC C vA A vv l Y csX H v n L W.drew := ⟨h.d.drew, h.o, h.x, h.r, h.s⟩
theorem TmS.later {w0 : World} {B q b F H Y : Nat} {cs csX : Array Value} {vP vC vA vv v : Value} {P : List PE} {C : List C11} {A : List QE} {l : List ByteArray} {n : Nat} {L : List X11} {W W' : World} (h : TmS w0 B q b F cs vP P vC C vA A vv l Y csX H v n L W) (hb : Below W.heap.size W W') : TmS w0 B q b F cs vP P vC C vA A vv l Y csX H v n L W' := ⟨h.d.later hb, ownsRow_below' h.o hb, box_step h.x hb, ownsRow_below' h.r hb, h.s⟩
theorem TmS.setL {w0 : World} {B q b F H Y g n c j : Nat} {cs csX : Array Value} {vP vC vA vv : Value} {P : List PE} {C : List C11} {A : List QE} {l : List ByteArray} {L : List X11} {W : World} (h : TmS w0 B q b F cs vP P vC C vA A vv l Y csX H (.slice (some ⟨g, 0, none⟩) n c) n L W) (hj : j < L.length) (hb : b ≤ H) (hA : ∀ a ∈ A, ∀ k, (Value.slice a.a a.L.length a.cap).ownBlock = some k → k < H) (t : A5) (ht : t.small) :
    TmS w0 B q b F cs vP P vC C vA A vv l Y csX H (.slice (some ⟨g, 0, none⟩) n c) n (L.set j { eAt L j with L := t }) (((((W.setCell ⟨g, j * 11 + 1, none⟩ (.int .i64 t.K)).setCell ⟨g, j * 11 + 1 + 1, none⟩ (.string t.S)).setCell ⟨g, j * 11 + 1 + 2, none⟩ (.int .i64 t.V.K)).setCell ⟨g, j * 11 + 1 + 3, none⟩ (.int .i64 t.V.N)).setCell ⟨g, j * 11 + 1 + 4, none⟩ (.string t.V.S)) := by
  obtain ⟨h1, h2, h3, h4⟩ := h.d.termL h.o h.x h.r hj hb hA t
  have hs : (eAt L j).small := by rw [eAt_in hj]; exact h.s _ (List.getElem_mem _)
  exact ⟨h1, h2, h3, h4, small_set h.s _ ⟨hs.1, ht, hs.2.2⟩⟩
theorem TmS.setR {w0 : World} {B q b F H Y g n c j : Nat} {cs csX : Array Value} {vP vC vA vv : Value} {P : List PE} {C : List C11} {A : List QE} {l : List ByteArray} {L : List X11} {W : World} (h : TmS w0 B q b F cs vP P vC C vA A vv l Y csX H (.slice (some ⟨g, 0, none⟩) n c) n L W) (hj : j < L.length) (hb : b ≤ H) (hA : ∀ a ∈ A, ∀ k, (Value.slice a.a a.L.length a.cap).ownBlock = some k → k < H) (t : A5) (ht : t.small) :
    TmS w0 B q b F cs vP P vC C vA A vv l Y csX H (.slice (some ⟨g, 0, none⟩) n c) n (L.set j { eAt L j with R := t }) (((((W.setCell ⟨g, j * 11 + 6, none⟩ (.int .i64 t.K)).setCell ⟨g, j * 11 + 6 + 1, none⟩ (.string t.S)).setCell ⟨g, j * 11 + 6 + 2, none⟩ (.int .i64 t.V.K)).setCell ⟨g, j * 11 + 6 + 3, none⟩ (.int .i64 t.V.N)).setCell ⟨g, j * 11 + 6 + 4, none⟩ (.string t.V.S)) := by
  obtain ⟨h1, h2, h3, h4⟩ := h.d.termR h.o h.x h.r hj hb hA t
  have hs : (eAt L j).small := by rw [eAt_in hj]; exact h.s _ (List.getElem_mem _)
  exact ⟨h1, h2, h3, h4, small_set h.s _ ⟨hs.1, hs.2.1, ht⟩⟩
end Go.Proofs.Ytfgigcdfmkfkjaa
/-
  A rule that is drawn: the model's l9Draw.
-/
namespace Go.Proofs.Ytfgigcdfmkfkjaa
open Go.RowKit
set_option linter.unusedVariables false

/-- some rule was drawn -/
def DrawnR (w : World) (B q : Nat) (nm : ByteArray) (e : Ending) (w' : World) : Prop := ∃ (sal : Int) (vP : Value) (P : List PE) (vC : Value) (C : List C11) (vA : Value) (A : List QE), e = .returned (.agg #[.string nm, .int .i64 sal, vP, vC, vA]) ∧
  1 ≤ P.length ∧ P.length ≤ 4 ∧ C.length ≤ 1 ∧ 1 ≤ A.length ∧ A.length ≤ 3 ∧ RlO w.heap.size vP P vC C vA A w' ∧ Cur B w' q ∧ w.grownBy w' (some q)
theorem infoActR : (Try.prog.info? 166).map (fun i => (i.zero, i.size, i.bytes)) = some (some (.agg #[.int .i64 0, .string ⟨#[]⟩, .slice none 0 0, .int .i64 0, .string ⟨#[]⟩]), 5, 72) := by kernel_rfl
theorem oneQ (x : QE) : ∀ u ∈ x.cs, u.oneCell' = true := by
  intro u hu
  simp only [QE.cs, List.mem_cons, List.not_mem_nil, or_false] at hu
  rcases hu with rfl | rfl | rfl | rfl | rfl <;> rfl
theorem oneC (x : C11) : ∀ u ∈ x.cs, u.oneCell' = true := by
  intro u hu
  simp only [C11.cs, List.mem_cons, List.not_mem_nil, or_false] at hu
  rcases hu with rfl | rfl | rfl | rfl | rfl | rfl | rfl | rfl | rfl | rfl | rfl <;> rfl
theorem posB_len1 {P : List PE} (h : ∀ p ∈ P, p.nt = false) : (posB P).length = P.length := by
  unfold posB
  rw [List.filter_eq_self.2 (fun p hp => by rw [h p hp]; rfl)]
theorem posB_app (P : List PE) (u : PE) : (posB (P ++ [u])).length ≥ (posB P).length := by
  unfold posB
  rw [List.filter_append, List.length_append]; omega

set_option maxRecDepth 100000 in
set_option maxHeartbeats 12800000 in
theorem l9Draw_any (B q : Nat) (name : ByteArray) (w : World) (hc : Cur B w q) (hnm : name.size ≤ 100) :
    Calls Try.prog 117 #[.pointer (some ⟨q, 0, none⟩), .string name] w (DrawnR w B q name) := by
  obtain ⟨iP, hiP, hP0, hP1, hP2⟩ := info_parts infoPat
  obtain ⟨iA, hiA', hA0, hA1, hA2⟩ := info_parts infoActR
  obtain ⟨iC, hiC, hC0, hC1, hC2⟩ := info_parts Try.info162
  have hq := hc.lt
  have hB := hc.1
  go_enter Try.func117, Try.ntmps117
  go_wp2_with fail
  have G0 := grown_alloc w (.cells #[.string ⟨#[]⟩, .int .i64 0, .slice none 0 0, .slice none 0 0, .slice none 0 0] 49) q
  have HR0 := hide (boxk_new w #[.string ⟨#[]⟩, .int .i64 0, .slice none 0 0, .slice none 0 0, .slice none 0 0] 49)
  have c0 : Cur B (w.alloc (.cells #[.string ⟨#[]⟩, .int .i64 0, .slice none 0 0, .slice none 0 0, .slice none 0 0] 49)) q := hc.keep (World.grownBy_alloc w _ none) (by simp) (by simp)
  have z0 : (w.alloc (.cells #[.string ⟨#[]⟩, .int .i64 0, .slice none 0 0, .slice none 0 0, .slice none 0 0] 49)).heap.size = w.heap.size + 1 := by simp
  generalize w.alloc (.cells #[.string ⟨#[]⟩, .int .i64 0, .slice none 0 0, .slice none 0 0, .slice none 0 0] 49) = w0 at G0 HR0 c0 z0 ⊢
  have l1 : w.heap.size < w0.heap.size := by omega
  rw [← z0]
  refine (l1Int_any B q w0.heap.size [0, 0, 5, -5, 100] 5 _ (c0.keep (World.grownBy_alloc w0 _ none) (by simp) (by simp)) (by decide) (by decide) (by omega) (cells_lit w0 3 _)).mono ?_
  rintro e w1 ⟨sal, rfl, hx, c1, g1⟩
  have G1 : w.grownBy w1 (some q) := grown_trans (grown_trans G0 (grown_alloc w0 _ q)) g1
  have HR1 := hide (box_grown (box_alloc HR0.out _) g1 (by omega))
  have z1 : w.heap.size < w1.heap.size := (Array.getElem?_eq_some_iff.1 HR1.out).1
  clear hx g1 c0 G0 HR0 z0
  have D0 : RlW w B q (w.heap.size + 1) w1.heap.size #[.string name, .int .i64 sal, .slice none 0 0, .slice none 0 0, .slice none 0 0] (.slice none 0 0) [] (.slice none 0 0) [] (.slice none 0 0) [] (w1.alloc (.cells #[.string name, .int .i64 sal, .slice none 0 0, .slice none 0 0, .slice none 0 0] 49)) :=
    ⟨c1.keep (World.grownBy_alloc w1 _ none) (by simp) (by simp), boxk_new w1 _ _, box_alloc HR1.out _, World.ownsRow_nil _ _ _ _, World.ownsRow_nil _ _ _ _, World.ownsRow_nil _ _ _ _, (fun p hp => by cases hp), (fun p hp => by cases hp), grown_trans G1 (grown_alloc w1 _ q), ⟨hq, by omega, z1⟩, (fun p hp => by cases hp), (fun p hp => by cases hp), (fun p hp => by cases hp), by simp; omega⟩
  obtain ⟨b, hb⟩ : ∃ b, Hid (w.heap.size + 1 = b) := ⟨_, rfl⟩
  rw [hb.out] at D0
  clear G1 HR1 c1 hb
  go_wp2_with fail
  refine (l1Below_any B q 3 _ D0.cur (by omega) (by omega)).mono ?_
  rintro e w2 ⟨x, rfl, x0, x1, c2, g2⟩
  have D2 := D0.draws c2 g2
  obtain ⟨F, HF⟩ : ∃ F, Hid (w1.heap.size = F) := ⟨_, rfl⟩
  rw [HF.out] at D2 ⊢
  have HD2 := hide D2
  obtain ⟨n1, hn1, hn1a, hn1b⟩ : ∃ n1 : Nat, 1 + x = (n1 : Int) ∧ 1 ≤ n1 ∧ n1 ≤ 3 := ⟨(1 + x).toNat, by omega, by omega, by omega⟩
  have hwr : IntKind.i64.wrap (1 + x) = (n1 : Int) := by rw [IntKind.wrap_i64]; omega
  clear D0 c2 g2 D2 HF l1 z1 hc
  go_wp2
  go_loopw [6] (fun i wr => ∃ (k : Nat) (vP : Value) (P : List PE), i = .int .i64 k ∧ P.length + k = n1 ∧ (∀ p ∈ P, p.nt = false) ∧ RlW w B q b F #[.string name, .int .i64 sal, vP, .slice none 0 0, .slice none 0 0] vP P (.slice none 0 0) [] (.slice none 0 0) [] wr) (fun i _ => (intOf i).toNat)
  case atStart => exact ⟨n1, _, [], rfl, by simp, (fun p hp => by cases hp), HD2.out⟩
  case round =>
    obtain ⟨k, vP, P, rfl, hlen, hnt, D3⟩ := hrel
    have HD := hide D3
    have HNt := hide hnt
    clear D3 HD2 hnt
    by_cases hlt : 0 < k
    · have hlti : (0 : Int) < (k : Int) := by omega
      obtain ⟨m, rfl⟩ : ∃ m, k = m + 1 := ⟨k - 1, by omega⟩
      have c2' := (HD.out.cellF 2 _ rfl).1
      have f2' := (HD.out.cellF 2 _ rfl).2
      go_wp2_with fail
      go_region_law (first
        | (refine step_append_lies _ rfl (.tmp 25) (.tmp 28) 45 rfl b 79 iP (.agg #[.string ⟨#[]⟩, .slice none 0 0, .bool false]) 3 48 Try.underlying45 hiP hP0 hP1 hP2 rfl (by omega) vP P.length (rowOf PE.cs P) (by simp [Act.eval]) (D3.alloc _).rP ⟨w3.heap.size, 0, none⟩ 1 1 (PE.cs ⟨kd, av, ac, L, false⟩) (by simp [Act.eval]) rfl (src_row w3 #[.string kd, .slice av L.length ac, .bool false] 79) (onePE _) (by omega) (by unfold maxLen; omega) (by omega) (D3.alloc _).bsz _ rfl ?_; intro g cap w4 ho4 hg4 hat4 hlt4; have D4 := (D3.alloc _).addP (u := ⟨kd, av, ac, L, false⟩) hu (hiA.alloc _) ho4 hg4; have c4 := (D4.cellF 2 _ rfl).1; have f4 := (D4.cellF 2 _ rfl).2; have D5 := D4.setF 2 (.slice (some ⟨g, 0, none⟩) (P.length + 1) cap))
        | (rw [if_pos (by simp [Region.wanted])]; go_simp; go_at_call 141; refine (l6Draw_any B q false _ HD.out.drew.cur).mono ?_; rintro e w3 ⟨kd, v3, L, rfl, hL, hkd, hsm, ho3, c3, g3⟩; obtain ⟨av, ac, rfl⟩ := own_slice ho3; have D3 := HD.out.drew.draws c3 g3; have hu : PE.tiny ⟨kd, av, ac, L, false⟩ := ⟨⟨Nat.le_trans hkd (by decide), Nat.le_trans hL (by decide), hsm⟩, Nat.le_trans hkd (by decide), Nat.le_trans hL (by decide)⟩; have hiA : w3.ownsRow b 157 5 (.slice av L.length ac) L.length (rowOf A5.cs L) := owns_base ho3 HD.out.bsz; have c3' := (D3.cellF 2 _ rfl).1; have f3' := (D3.cellF 2 _ rfl).2; have c3'' := ((D3.alloc (.cells #[.string kd, .slice av L.length ac, .bool false] 79)).cellF 2 _ rfl).1; have f3'' := ((D3.alloc (.cells #[.string kd, .slice av L.length ac, .bool false] 79)).cellF 2 _ rfl).2))
      all_goals
        have HD5 : Hid (RlW w B q b F #[.string name, .int .i64 sal, .slice (some ⟨g, 0, none⟩) (P.length + 1) cap, .slice none 0 0, .slice none 0 0] (.slice (some ⟨g, 0, none⟩) (P.length + 1) cap) (P ++ [⟨kd, av, ac, L, false⟩]) (.slice none 0 0) [] (.slice none 0 0) [] (w4.setCell ⟨F, 2, none⟩ (.slice (some ⟨g, 0, none⟩) (P.length + 1) cap))) := D5
        have HN5 : Hid (∀ p ∈ P ++ [(⟨kd, av, ac, L, false⟩ : PE)], p.nt = false) := fun p hp => by
          rcases List.mem_append.1 hp with hp | hp
          · exact HNt.out p hp
          · simp only [List.mem_cons, List.not_mem_nil, or_false] at hp; rw [hp]
        have hw2 : IntKind.i64.wrap (((m + 1 : Nat) : Int) - 1) = (m : Int) := by rw [IntKind.wrap_i64]; omega
        clear c2' f2' c3' f3' c3'' f3'' c4 f4 D3 D4 D5 HD hu hiA ho3
        go_wp2
        go_roundw
        case rel => exact ⟨m, _, _, by go_num, by simp; omega, HN5.out, HD5.out⟩
        case measure => first | (simp [intOf]; omega) | simp [intOf]
    · obtain rfl : k = 0 := by omega
      have hnl : ¬ ((0 : Int) < ((0 : Nat) : Int)) := by omega
      have hPle : P.length ≤ 3 := by omega
      have hPge : 1 ≤ P.length := by omega
      clear hlen
      have H1P : Hid (1 ≤ (posB P).length) := by unfold Hid; rw [posB_len1 HNt.out]; omega
      go_wp2_with fail
      refine (l1Once_any B q 3 _ HD.out.cur (by omega) (by omega)).mono ?_
      rintro e w5 ⟨bb, rfl, c5, g5⟩
      have HD' := hide (HD.out.draws c5 g5)
      clear HD c5 g5
      have HD := HD'
      clear HD'
      go_upto_if 32 with fail
      go_cut [] from 33 to 39 (fun wx => ∃ (v2 : Value) (P2 : List PE), RlW w B q b F #[.string name, .int .i64 sal, v2, .slice none 0 0, .slice none 0 0] v2 P2 (.slice none 0 0) [] (.slice none 0 0) [] wx ∧ 1 ≤ P2.length ∧ P2.length ≤ 4 ∧ 1 ≤ (posB P2).length)
      case first =>
        cases bb
        case' false =>
          go_wp2
          go_meet
          exact ⟨vP, P, HD.out, by omega, by omega, H1P.out⟩
        case' true =>
          have c2' := (HD.out.cellF 2 _ rfl).1
          have f2' := (HD.out.cellF 2 _ rfl).2
          go_wp2_with fail
          go_region_law (first
            | (refine step_append_lies _ rfl (.tmp 34) (.tmp 37) 45 rfl b 79 iP (.agg #[.string ⟨#[]⟩, .slice none 0 0, .bool false]) 3 48 Try.underlying45 hiP hP0 hP1 hP2 rfl (by omega) vP P.length (rowOf PE.cs P) (by simp [Act.eval]) (D3.alloc _).rP ⟨w3.heap.size, 0, none⟩ 1 1 (PE.cs ⟨kd, av, ac, L, true⟩) (by simp [Act.eval]) rfl (src_row w3 #[.string kd, .slice av L.length ac, .bool true] 79) (onePE _) (by omega) (by unfold maxLen; omega) (by omega) (D3.alloc _).bsz _ rfl ?_; intro g cap w4 ho4 hg4 hat4 hlt4; have D4 := (D3.alloc _).addP (u := ⟨kd, av, ac, L, true⟩) hu (hiA.alloc _) ho4 hg4; have c4 := (D4.cellF 2 _ rfl).1; have f4 := (D4.cellF 2 _ rfl).2; have D5 := D4.setF 2 (.slice (some ⟨g, 0, none⟩) (P.length + 1) cap))
            | (rw [if_pos (by simp [Region.wanted])]; go_simp; go_at_call 141; refine (l6Draw_any B q true _ HD.out.drew.cur).mono ?_; rintro e w3 ⟨kd, v3, L, rfl, hL, hkd, hsm, ho3, c3, g3⟩; obtain ⟨av, ac, rfl⟩ := own_slice ho3; have D3 := HD.out.drew.draws c3 g3; have hu : PE.tiny ⟨kd, av, ac, L, true⟩ := ⟨⟨Nat.le_trans hkd (by decide), Nat.le_trans hL (by decide), hsm⟩, Nat.le_trans hkd (by decide), Nat.le_trans hL (by decide)⟩; have hiA : w3.ownsRow b 157 5 (.slice av L.length ac) L.length (rowOf A5.cs L) := owns_base ho3 HD.out.bsz; have c3' := (D3.cellF 2 _ rfl).1; have f3' := (D3.cellF 2 _ rfl).2; have c3'' := ((D3.alloc (.cells #[.string kd, .slice av L.length ac, .bool true] 79)).cellF 2 _ rfl).1; have f3'' := ((D3.alloc (.cells #[.string kd, .slice av L.length ac, .bool true] 79)).cellF 2 _ rfl).2))
          all_goals
            have HE : Hid (RlW w B q b F #[.string name, .int .i64 sal, .slice (some ⟨g, 0, none⟩) (P.length + 1) cap, .slice none 0 0, .slice none 0 0] (.slice (some ⟨g, 0, none⟩) (P.length + 1) cap) (P ++ [⟨kd, av, ac, L, true⟩]) (.slice none 0 0) [] (.slice none 0 0) [] (w4.setCell ⟨F, 2, none⟩ (.slice (some ⟨g, 0, none⟩) (P.length + 1) cap))) := D5
            clear c2' f2' c3' f3' c3'' f3'' c4 f4 D3 D4 D5 HD hu hiA ho3
            go_wp2
            go_meet
            exact ⟨_, _, HE.out, by simp, by simp; omega, Nat.le_trans H1P.out (posB_app _ _)⟩
      case rest =>
        obtain ⟨v2, P2, hE, hLn⟩ := hcut
        have HE := hide hE
        have HLn : Hid (1 ≤ P2.length ∧ P2.length ≤ 4 ∧ 1 ≤ (posB P2).length) := hLn
        have e0 := (hE.cellF 0 _ rfl).1
        have e1 := (hE.cellF 1 _ rfl).1
        have e2 := (hE.cellF 2 _ rfl).1
        have e3 := (hE.cellF 3 _ rfl).1
        have e4 := (hE.cellF 4 _ rfl).1
        clear hE hLn HD HNt H1P hPle hPge
        go_wp2_with fail
        refine (posVars_W HE.out name sal hnm (Nat.le_trans HLn.out.2.1 (by decide)) (by simp) (by simp)).mono ?_
        rintro e w6 ⟨vv, l, rfl, ov, hls, hll, hb6⟩
        obtain ⟨va, cv, rfl, -, -⟩ := rdS_owns ov
        have D6 := HE.out.later hb6
        clear e0 e1 e2 e3 e4 HE hb6
        go_wp2_with fail
        refine (l1Once_any B q 3 _ D6.cur (by omega) (by omega)).mono ?_
        rintro e w7 ⟨bb, rfl, c7, g7⟩
        have HOv := hide (D6.vars_draw ov g7)
        have HD7 := hide (D6.draws c7 g7)
        clear ov D6 c7 g7
        go_upto_if 43 with fail
        go_cut [8] from 44 to 61 (fun x8 wx => ∃ (v3 : Value) (C3 : List C11), RlW w B q b F #[.string name, .int .i64 sal, v2, v3, .slice none 0 0] v2 P2 v3 C3 (.slice none 0 0) [] wx ∧ C3.length ≤ 1 ∧ wx.ownsRow b 9 1 (.slice va l.length cv) l.length (valsS l))
        case first =>
         cases bb
         case' false =>
           go_wp2
           go_meet
           exact ⟨_, [], HD7.out, Nat.zero_le _, HOv.out⟩
         case' true =>
           go_wp2_with fail
           refine (l7Draw_any B q _ HD7.out.cur).mono ?_
           rintro e w8 ⟨y, rfl, hy, c8, g8⟩
           have D8 := HD7.out.draws c8 g8
           have OV8 := HD7.out.vars_draw HOv.out g8
           have bX := below_al w8 (.cells #[.int .i64 y.Op, .int .i64 y.L.K, .string y.L.S, .int .i64 y.L.V.K, .int .i64 y.L.V.N, .string y.L.V.S, .int .i64 y.R.K, .string y.R.S, .int .i64 y.R.V.K, .int .i64 y.R.V.N, .string y.R.V.S] 162)
           have D9 := hide (D8.later bX)
           have OV9 := hide (ownsRow_below' OV8 bX)
           have HX9 := hide (boxk_new w8 #[.int .i64 y.Op, .int .i64 y.L.K, .string y.L.S, .int .i64 y.L.V.K, .int .i64 y.L.V.N, .string y.L.V.S, .int .i64 y.R.K, .string y.R.S, .int .i64 y.R.V.K, .int .i64 y.R.V.N, .string y.R.V.S] 162)
           have hbX : b ≤ w8.heap.size := D8.bsz
           obtain ⟨X, HXX⟩ : ∃ X, Hid (w8.heap.size = X) := ⟨_, rfl⟩
           rw [HXX.out] at HX9 hbX
           clear bX D8 OV8 c8 g8 HD7 HOv
           go_wp2_with fail
           rw [HXX.out]
           generalize w8.alloc (.cells #[.int .i64 y.Op, .int .i64 y.L.K, .string y.L.S, .int .i64 y.L.V.K, .int .i64 y.L.V.N, .string y.L.V.S, .int .i64 y.R.K, .string y.R.S, .int .i64 y.R.V.K, .int .i64 y.R.V.N, .string y.R.V.S] 162) = w9 at D9 OV9 HX9 ⊢
           have a1 := boxk_cell HX9.out 1 _ rfl
           have fa1 := boxk_frozen HX9.out 1
           have a2 := boxk_cell HX9.out 2 _ rfl
           have fa2 := boxk_frozen HX9.out 2
           have a3 := boxk_cell HX9.out 3 _ rfl
           have fa3 := boxk_frozen HX9.out 3
           have a4 := boxk_cell HX9.out 4 _ rfl
           have fa4 := boxk_frozen HX9.out 4
           have a5 := boxk_cell HX9.out 5 _ rfl
           have fa5 := boxk_frozen HX9.out 5
           go_wp2_with fail
           refine (l9Fit_any y.L va l.length cv l _ hy.1 rfl (rdS_of OV9.out) (by omega) hls).mono ?_
           rintro e w10 ⟨tL, rfl, htL, hb⟩
           have Da := D9.out.later hb
           have HXa := hide (box_step HX9.out hb)
           have OVa := ownsRow_below' OV9.out hb
           clear hb a1 fa1 a2 fa2 a3 fa3 a4 fa4 a5 fa5 D9 HX9 OV9
           have b1 := boxk_cell HXa.out 1 _ rfl
           have fb1 := boxk_frozen HXa.out 1
           have b2 := boxk_cell HXa.out 2 _ rfl
           have fb2 := boxk_frozen HXa.out 2
           have b3 := boxk_cell HXa.out 3 _ rfl
           have fb3 := boxk_frozen HXa.out 3
           have b4 := boxk_cell HXa.out 4 _ rfl
           have fb4 := boxk_frozen HXa.out 4
           have b5 := boxk_cell HXa.out 5 _ rfl
           have fb5 := boxk_frozen HXa.out 5
           have S := box11_setL HXa.out (.int .i64 tL.K) (.string tL.S) (.int .i64 tL.V.K) (.int .i64 tL.V.N) (.string tL.V.S)
           have D11 := hide (Da.condBox HXa.out hbX S.2)
           have OV11 := hide (row_kept OVa S.2 (fun k e => by cases e; exact row_apart OVa HXa.out (by decide)))
           have HX11 := hide S.1
           clear S Da OVa HXa
           go_upto_region 12 with fail
           generalize (((((w10.setCell ⟨X, 1, none⟩ (.int .i64 tL.K)).setCell ⟨X, 2, none⟩ (.string tL.S)).setCell ⟨X, 3, none⟩ (.int .i64 tL.V.K)).setCell ⟨X, 4, none⟩ (.int .i64 tL.V.N)).setCell ⟨X, 5, none⟩ (.string tL.V.S)) = w11 at D11 OV11 HX11 ⊢
           clear b1 fb1 b2 fb2 b3 fb3 b4 fb4 b5 fb5
           have a6 := boxk_cell HX11.out 6 _ rfl
           have fa6 := boxk_frozen HX11.out 6
           have a7 := boxk_cell HX11.out 7 _ rfl
           have fa7 := boxk_frozen HX11.out 7
           have a8 := boxk_cell HX11.out 8 _ rfl
           have fa8 := boxk_frozen HX11.out 8
           have a9 := boxk_cell HX11.out 9 _ rfl
           have fa9 := boxk_frozen HX11.out 9
           have a10 := boxk_cell HX11.out 10 _ rfl
           have fa10 := boxk_frozen HX11.out 10
           go_wp2_with fail
           refine (l9Fit_any y.R va l.length cv l _ hy.2 rfl (rdS_of OV11.out) (by omega) hls).mono ?_
           rintro e w12 ⟨tR, rfl, htR, hb⟩
           have Da := D11.out.later hb
           have HXa := hide (box_step HX11.out hb)
           have OVa := ownsRow_below' OV11.out hb
           clear hb a6 fa6 a7 fa7 a8 fa8 a9 fa9 a10 fa10 D11 HX11 OV11
           have b6 := boxk_cell HXa.out 6 _ rfl
           have fb6 := boxk_frozen HXa.out 6
           have b7 := boxk_cell HXa.out 7 _ rfl
           have fb7 := boxk_frozen HXa.out 7
           have b8 := boxk_cell HXa.out 8 _ rfl
           have fb8 := boxk_frozen HXa.out 8
           have b9 := boxk_cell HXa.out 9 _ rfl
           have fb9 := boxk_frozen HXa.out 9
           have b10 := boxk_cell HXa.out 10 _ rfl
           have fb10 := boxk_frozen HXa.out 10
           have S := box11_setR HXa.out (.int .i64 tR.K) (.string tR.S) (.int .i64 tR.V.K) (.int .i64 tR.V.N) (.string tR.V.S)
           have D13 := hide (Da.condBox HXa.out hbX S.2)
           have OV13 := hide (row_kept OVa S.2 (fun k e => by cases e; exact row_apart OVa HXa.out (by decide)))
           have HX13 := hide S.1
           clear S Da OVa HXa
           go_upto_region 13 with fail
           generalize (((((w12.setCell ⟨X, 6, none⟩ (.int .i64 tR.K)).setCell ⟨X, 7, none⟩ (.string tR.S)).setCell ⟨X, 8, none⟩ (.int .i64 tR.V.K)).setCell ⟨X, 9, none⟩ (.int .i64 tR.V.N)).setCell ⟨X, 10, none⟩ (.string tR.V.S)) = w13 at D13 OV13 HX13 ⊢
           clear b6 fb6 b7 fb7 b8 fb8 b9 fb9 b10 fb10
           have a0 := boxk_cell HX13.out 0 _ rfl
           have a1 := boxk_cell HX13.out 1 _ rfl
           have a2 := boxk_cell HX13.out 2 _ rfl
           have a3 := boxk_cell HX13.out 3 _ rfl
           have a4 := boxk_cell HX13.out 4 _ rfl
           have a5 := boxk_cell HX13.out 5 _ rfl
           have a6 := boxk_cell HX13.out 6 _ rfl
           have a7 := boxk_cell HX13.out 7 _ rfl
           have a8 := boxk_cell HX13.out 8 _ rfl
           have a9 := boxk_cell HX13.out 9 _ rfl
           have a10 := boxk_cell HX13.out 10 _ rfl
           have a33 := (D13.out.cellF 3 _ rfl).1
           have hu : (⟨y.Op, tL, tR⟩ : C11).small := ⟨htL, htR⟩
           go_wp2_with (at_builtin; refine wpList_append_lies _ rfl (.tmp 57) (.tmp 59) 46 rfl b 162 iC (.agg #[.int .i64 0, .int .i64 0, .string ⟨#[]⟩, .int .i64 0, .int .i64 0, .string ⟨#[]⟩, .int .i64 0, .string ⟨#[]⟩, .int .i64 0, .int .i64 0, .string ⟨#[]⟩]) 11 120 Try.underlying46 hiC hC0 hC1 hC2 rfl (by omega) (.slice none 0 0) 0 [] rfl (World.ownsRow_nil _ _ _ _) ⟨w13.heap.size, 0, none⟩ 1 1 (C11.cs ⟨y.Op, tL, tR⟩) ?hx rfl (src_row w13 #[.int .i64 y.Op, .int .i64 tL.K, .string tL.S, .int .i64 tL.V.K, .int .i64 tL.V.N, .string tL.V.S, .int .i64 tR.K, .string tR.S, .int .i64 tR.V.K, .int .i64 tR.V.N, .string tR.V.S] 162) (oneC _) (by omega) (by unfold maxLen; omega) (by omega) (D13.out.alloc _).bsz _ rfl ?_)
           case hx => simp [Act.eval]
           intro g c w14 ho hg hat hlt4
           have D14 := (D13.out.alloc (.cells #[.int .i64 y.Op, .int .i64 tL.K, .string tL.S, .int .i64 tL.V.K, .int .i64 tL.V.N, .string tL.V.S, .int .i64 tR.K, .string tR.S, .int .i64 tR.V.K, .int .i64 tR.V.N, .string tR.V.S] 162)).addC (u := ⟨y.Op, tL, tR⟩) hu ho hg
           have OV14 := row_kept (OV13.out.alloc (.cells #[.int .i64 y.Op, .int .i64 tL.K, .string tL.S, .int .i64 tL.V.K, .int .i64 tL.V.N, .string tL.V.S, .int .i64 tR.K, .string tR.S, .int .i64 tR.V.K, .int .i64 tR.V.N, .string tR.V.S] 162)) hg (fun k e => by cases e)
           have f3 := (D14.cellF 3 _ rfl).1
           have ff3 := (D14.cellF 3 _ rfl).2
           have HE0 : Hid (RlW w B q b F #[.string name, .int .i64 sal, v2, .slice (some ⟨g, 0, none⟩) (0 + 1) c, .slice none 0 0] v2 P2 (.slice (some ⟨g, 0, none⟩) (0 + 1) c) [⟨y.Op, tL, tR⟩] (.slice none 0 0) [] (w14.setCell ⟨F, 3, none⟩ (.slice (some ⟨g, 0, none⟩) (0 + 1) c))) := D14.setF 3 _
           have HOv := hide (D14.vars_setF OV14 3 (.slice (some ⟨g, 0, none⟩) (0 + 1) c))
           clear a0 a1 a2 a3 a4 a5 a6 a7 a8 a9 a10 a33 ho hg hat hlt4 D14 OV14 D13 OV13 HX13 hu
           go_wp2
           go_meet
           exact ⟨_, _, HE0, Nat.le_refl _, HOv.out⟩
        case rest =>
          obtain ⟨v3, C3, hE, hC3, hOv⟩ := hcut
          have HE := hide hE
          have HC3 := hide hC3
          have HOv := hide hOv
          clear hE hC3 hOv HD7
          go_wp2_with fail
          refine (l1Below_any B q 3 _ HE.out.cur (by omega) (by omega)).mono ?_
          rintro e w16 ⟨x2, rfl, y0, y1, c16, g16⟩
          have HOw := hide (HE.out.vars_draw HOv.out g16)
          have HD16 := hide (HE.out.draws c16 g16)
          obtain ⟨n2, hn2, hn2a, hn2b⟩ : ∃ n2 : Nat, 1 + x2 = (n2 : Int) ∧ 1 ≤ n2 ∧ n2 ≤ 3 := ⟨(1 + x2).toNat, by omega, by omega, by omega⟩
          have hwr2 : IntKind.i64.wrap (1 + x2) = (n2 : Int) := by rw [IntKind.wrap_i64]; omega
          clear c16 g16 HE HOv
          go_wp2
          go_loopw [9] (fun i wr => ∃ (k : Nat) (vA : Value) (A : List QE), i = .int .i64 k ∧ A.length + k = n2 ∧ RlW w B q b F #[.string name, .int .i64 sal, v2, v3, vA] v2 P2 v3 C3 vA A wr ∧ wr.ownsRow b 9 1 (.slice va l.length cv) l.length (valsS l)) (fun i _ => (intOf i).toNat)
          case atStart => exact ⟨n2, _, [], rfl, by simp, HD16.out, HOw.out⟩
          case round =>
            obtain ⟨k, vA, A, rfl, hlen, D3, ov⟩ := hrel
            have HD := hide D3
            have HOv := hide ov
            clear D3 ov HD16 HOw
            have e0 := (HD.out.cellF 0 _ rfl).1
            have e1 := (HD.out.cellF 1 _ rfl).1
            have e2 := (HD.out.cellF 2 _ rfl).1
            have e3 := (HD.out.cellF 3 _ rfl).1
            have e4 := (HD.out.cellF 4 _ rfl).1
            by_cases hlt : 0 < k
            · have hlti : (0 : Int) < (k : Int) := by omega
              go_wp2_with fail
              refine (posCount_W HD.out name sal (Nat.le_trans HLn.out.2.1 (by decide))).mono ?_
              rintro e w17 ⟨rfl, hb⟩
              have HD17 := hide (HD.out.later hb)
              have HOv17 := hide (ownsRow_below' HOv.out hb)
              have hpl := posB_len P2
              obtain ⟨np, hnp⟩ : ∃ np, np = (posB P2).length := ⟨_, rfl⟩
              have hnp1 : 1 ≤ np := by have := HLn.out.2.2; omega
              have hnp4 : np ≤ 4 := by have := HLn.out.2.1; omega
              rw [← hnp]
              clear hb HD HOv e0 e1 e2 e3 e4 hpl hnp
              go_wp2_with fail
              refine (l8Draw_any B q (np : Int) (by omega) (by omega) _ HD17.out.cur).mono ?_
              rintro e w18 ⟨K, anm, v8, L, N, un, rfl, hL, hanm, hun, hsm, ho8, c18, g18⟩
              obtain ⟨aa, ac, rfl⟩ := own_slice ho8
              have HD18 := hide (HD17.out.draws c18 g18)
              have HOv18 := hide (HD17.out.vars_draw HOv17.out g18)
              have HFH : F < w17.heap.size := HD17.out.lt
              have HbH : b ≤ w17.heap.size := HD17.out.bsz
              have HAH : Hid (∀ a ∈ A, ∀ k, (Value.slice a.a a.L.length a.cap).ownBlock = some k → k < w17.heap.size) := fun a ha k e => ((HD17.out.iA a ha).lt k e).2
              have hXH : w17.heap.size ≤ w18.heap.size := g18.size
              have bX := below_al w18 (.cells #[.int .i64 K, .string anm, .slice aa L.length ac, .int .i64 N, .string un] 166)
              have HD19 := hide (HD18.out.later bX)
              have HOv19 := hide (ownsRow_below' HOv18.out bX)
              have HR19 := hide (ownsRow_below' ho8 bX)
              have HX19 := hide (boxk_new w18 #[.int .i64 K, .string anm, .slice aa L.length ac, .int .i64 N, .string un] 166)
              obtain ⟨H, HH⟩ : ∃ H, Hid (w17.heap.size = H) := ⟨_, rfl⟩
              obtain ⟨Y, HY⟩ : ∃ Y, Hid (w18.heap.size = Y) := ⟨_, rfl⟩
              rw [HH.out] at HFH HbH HAH hXH HR19
              rw [HY.out] at hXH HX19
              clear ho8 bX c18 g18 HD17 HOv17 HD18 HOv18
              go_wp2
              rw [HY.out]
              generalize w18.alloc (.cells #[.int .i64 K, .string anm, .slice aa L.length ac, .int .i64 N, .string un] 166) = w19 at HD19 HOv19 HR19 HX19 ⊢
              have HT19 : Hid (TmS w B q b F #[.string name, .int .i64 sal, v2, v3, vA] v2 P2 v3 C3 vA A (.slice va l.length cv) l Y #[.int .i64 K, .string anm, .slice aa L.length ac, .int .i64 N, .string un] H (.slice aa L.length ac) L.length L w19) := ⟨HD19.out, HOv19.out, HX19.out, HR19.out, hsm⟩
              clear HD19 HOv19 HX19 HR19
              go_loopw [11] (fun i wi => ∃ (j : Nat) (L' : List X11), j ≤ L.length ∧ L'.length = L.length ∧ i = .int .i64 j ∧ TmS w B q b F #[.string name, .int .i64 sal, v2, v3, vA] v2 P2 v3 C3 vA A (.slice va l.length cv) l Y #[.int .i64 K, .string anm, .slice aa L.length ac, .int .i64 N, .string un] H (.slice aa L.length ac) L.length L' wi) (fun i _ => L.length - (intOf i).toNat)
              case atStart => exact ⟨0, L, Nat.zero_le _, rfl, rfl, HT19.out⟩
              case round =>
                obtain ⟨j, L', hj, hL', rfl, T20⟩ := hrel
                have HT := hide T20
                have HLL := hide hL'
                clear T20 hL' HT19
                have x0' : wr.cell? ⟨Y, 0, none⟩ = some (.int .i64 K) := boxk_cell HT.out.x 0 _ rfl
                have x1' : wr.cell? ⟨Y, 1, none⟩ = some (.string anm) := boxk_cell HT.out.x 1 _ rfl
                have x2' : wr.cell? ⟨Y, 2, none⟩ = some (.slice aa L.length ac) := boxk_cell HT.out.x 2 _ rfl
                have x3' : wr.cell? ⟨Y, 3, none⟩ = some (.int .i64 N) := boxk_cell HT.out.x 3 _ rfl
                have x4' : wr.cell? ⟨Y, 4, none⟩ = some (.string un) := boxk_cell HT.out.x 4 _ rfl
                by_cases hjl : j < L.length
                · have hjli : (j : Int) < (L.length : Int) := by omega
                  obtain ⟨gA, hgA⟩ : ∃ gA, aa = some ⟨gA, 0, none⟩ := by
                    rcases HT.out.r.2 with ⟨h1, h0⟩ | ⟨gA, cap, cur, h1, -⟩
                    · omega
                    · simp only [Value.slice.injEq] at h1; exact ⟨gA, h1.1⟩
                  subst hgA
                  have hjL : j < L'.length := by rw [HLL.out]; exact hjl
                  have HJL := hide hjL
                  obtain ⟨c0, c1, c2, c3, c4, c5, -⟩ := cellsX HT.out.r hjL
                  have hxs : (eAt L' j).small := by rw [eAt_in hjL]; exact HT.out.s _ (List.getElem_mem _)
                  have HXS := hide hxs
                  have HTd := hide HT.out.drew
                  clear hjL hxs HT
                  go_wp2_with fail
                  go_cut [] from 80 to 92 (fun wx => ∃ L2 : List X11, L2.length = L.length ∧ TmS w B q b F #[.string name, .int .i64 sal, v2, v3, vA] v2 P2 v3 C3 vA A (.slice va l.length cv) l Y #[.int .i64 K, .string anm, .slice (some ⟨gA, 0, none⟩) L.length ac, .int .i64 N, .string un] H (.slice (some ⟨gA, 0, none⟩) L.length ac) L.length L2 wx)
                  case first =>
                    go_region_law (first
                      | (rw [if_pos (by simp [Region.wanted])]; go_simp; go_at_call 143; refine (l9Fit_any (eAt L' j).L va l.length cv l _ HXS.out.2.1 rfl (rdS_of HTd.out.o) (by omega) hls).mono ?_; rintro e w20 ⟨tL, rfl, htL, hb⟩; have T21 := HTd.out.later hb; obtain ⟨-, d1, d2, d3, d4, d5, -⟩ := cellsX T21.r HJL.out; have f1 := T21.r.frozenAt (j * 11 + 1); have f2 := T21.r.frozenAt (j * 11 + 2); have f3 := T21.r.frozenAt (j * 11 + 3); have f4 := T21.r.frozenAt (j * 11 + 4); have f5 := T21.r.frozenAt (j * 11 + 5); have y2 := boxk_cell T21.x 2 _ rfl))
                    all_goals
                      have HT22 := hide (T21.setL HJL.out HbH HAH.out tL htL)
                      clear T21 d1 d2 d3 d4 d5 f1 f2 f3 f4 f5 y2 c0 c1 c2 c3 c4 c5 x0' x1' x2' x3' x4'
                      go_wp2
                      go_meet
                      exact ⟨_, by rw [List.length_set]; exact HLL.out, HT22.out⟩
                  case rest =>
                    obtain ⟨L2, hL2, T22⟩ := hcut
                    have HT := hide T22
                    have HL2 := hide hL2
                    clear T22 hL2 HTd HXS HJL HLL c0 c1 c2 c3 c4 c5 x0' x1' x2' x3' x4'
                    have hjL : j < L2.length := by rw [HL2.out]; exact hjl
                    have HJL := hide hjL
                    obtain ⟨c0, -, -, -, -, -, c6, c7, c8, c9, c10⟩ := cellsX HT.out.r hjL
                    have x2' := boxk_cell HT.out.x 2 _ rfl
                    have hxs : (eAt L2 j).small := by rw [eAt_in hjL]; exact HT.out.s _ (List.getElem_mem _)
                    have HXS := hide hxs
                    clear hjL hxs
                    by_cases hop : (eAt L2 j).Op.size = 0
                    · have hE : (eAt L2 j).Op.toList.isEmpty = true := by rw [opE, hop]; rfl
                      clear hop
                      go_wp2
                      go_roundw
                      case rel => exact ⟨j + 1, L2, by omega, HL2.out, by go_num, HT.out⟩
                      case measure => simp [intOf]; omega
                    · have hE : (eAt L2 j).Op.toList.isEmpty = false := isEmpty_false hop
                      have HTd := hide HT.out.drew
                      clear hop HT
                      go_wp2_with fail
                      go_region_law (first
                        | (rw [if_pos (by simp [Region.wanted])]; go_simp; go_at_call 143; refine (l9Fit_any (eAt L2 j).R va l.length cv l _ HXS.out.2.2 rfl (rdS_of HTd.out.o) (by omega) hls).mono ?_; rintro e w20 ⟨tR, rfl, htR, hb⟩; have T21 := HTd.out.later hb; obtain ⟨-, -, -, -, -, -, d6, d7, d8, d9, d10⟩ := cellsX T21.r HJL.out; have f6 := T21.r.frozenAt (j * 11 + 6); have f7 := T21.r.frozenAt (j * 11 + 7); have f8 := T21.r.frozenAt (j * 11 + 8); have f9 := T21.r.frozenAt (j * 11 + 9); have f10 := T21.r.frozenAt (j * 11 + 10); have y2 := boxk_cell T21.x 2 _ rfl))
                      all_goals
                        have HT22 := hide (T21.setR HJL.out HbH HAH.out tR htR)
                        clear T21 d6 d7 d8 d9 d10 f6 f7 f8 f9 f10 y2 c0 c6 c7 c8 c9 c10 x2'
                        go_wp2
                        go_roundw
                        case rel => exact ⟨j + 1, _, by omega, by rw [List.length_set]; exact HL2.out, by go_num, HT22.out⟩
                        case measure => simp [intOf]; omega
                · have hjli : ¬ ((j : Int) < (L.length : Int)) := by omega
                  have a44 := (HT.out.d.cellF 4 _ rfl).1
                  have hu : QE.tiny ⟨K, anm, aa, ac, L', N, un⟩ := by
                    have h1 := HLL.out
                    refine ⟨⟨?_, ?_, ?_, HT.out.s⟩, hanm, hun, ?_⟩
                    · show anm.size ≤ 1048576; omega
                    · show un.size ≤ 1048576; omega
                    · show L'.length ≤ 1048576; omega
                    · show L'.length ≤ 8; omega
                  have hiA : wr.ownsRow b 206 11 (.slice aa L'.length ac) L'.length (rowOf X11.cs L') := by rw [HLL.out]; exact owns_base HT.out.r HbH
                  have hA3 : A.length ≤ 3 := by omega
                  have hcs : QE.cs ⟨K, anm, aa, ac, L', N, un⟩ = [.int .i64 K, .string anm, .slice aa L.length ac, .int .i64 N, .string un] := by simp [QE.cs, HLL.out]
                  have hone : ∀ u ∈ ([.int .i64 K, .string anm, .slice aa L.length ac, .int .i64 N, .string un] : List Value), u.oneCell' = true := by rw [← hcs]; exact oneQ _
                  have HCs := hide hcs
                  have HHi := hide hiA
                  have HHu := hide hu
                  clear hcs hiA hu


                  go_wp2_with (at_builtin; refine wpList_append_lies _ rfl (.tmp 114) (.tmp 116) 47 rfl b 166 iA (.agg #[.int .i64 0, .string ⟨#[]⟩, .slice none 0 0, .int .i64 0, .string ⟨#[]⟩]) 5 72 Try.underlying47 hiA' hA0 hA1 hA2 rfl (by omega) vA A.length (rowOf QE.cs A) rfl (HT.out.d.alloc _).rA ⟨wr.heap.size, 0, none⟩ 1 1 [.int .i64 K, .string anm, .slice aa L.length ac, .int .i64 N, .string un] ?hx rfl (src_row wr #[.int .i64 K, .string anm, .slice aa L.length ac, .int .i64 N, .string un] 166) hone (by omega) (by unfold maxLen; omega) (by omega) (HT.out.d.alloc _).bsz _ rfl ?_)
                  intro g c w21 ho hg hat hlt4
                  rw [← HCs.out] at ho
                  have D21 := (HT.out.d.alloc _).addA (u := ⟨K, anm, aa, ac, L', N, un⟩) HHu.out (HHi.out.alloc _) ho hg
                  have OV21 := row_kept (HT.out.o.alloc (.cells #[.int .i64 K, .string anm, .slice aa L.length ac, .int .i64 N, .string un] 166)) hg (fun k e => rows_apart HT.out.o HT.out.d.rA (by decide) e)
                  have f4 := (D21.cellF 4 _ rfl).1
                  have ff4 := (D21.cellF 4 _ rfl).2
                  have HE1 : Hid (RlW w B q b F #[.string name, .int .i64 sal, v2, v3, .slice (some ⟨g, 0, none⟩) (A.length + 1) c] v2 P2 v3 C3 (.slice (some ⟨g, 0, none⟩) (A.length + 1) c) (A ++ [⟨K, anm, aa, ac, L', N, un⟩]) (w21.setCell ⟨F, 4, none⟩ (.slice (some ⟨g, 0, none⟩) (A.length + 1) c))) := D21.setF 4 _
                  have HOv1 := hide (D21.vars_setF OV21 4 (.slice (some ⟨g, 0, none⟩) (A.length + 1) c))
                  obtain ⟨m, rfl⟩ : ∃ m, k = m + 1 := ⟨k - 1, by omega⟩
                  have hw2 : IntKind.i64.wrap (((m + 1 : Nat) : Int) - 1) = (m : Int) := by rw [IntKind.wrap_i64]; omega
                  clear ho hg hat hlt4 D21 OV21 HT x0' x1' x2' x3' x4' a44
                  go_wp2
                  go_roundw
                  case rel => exact ⟨m, _, _, by go_num, by simp; omega, HE1.out, HOv1.out⟩
                  case measure => first | (simp [intOf]; omega) | simp [intOf]
            · obtain rfl : k = 0 := by omega
              have hnl : ¬ ((0 : Int) < ((0 : Nat) : Int)) := by omega
              have HAl : Hid (1 ≤ A.length ∧ A.length ≤ 3) := ⟨by omega, by omega⟩
              clear hlen
              obtain ⟨aP, cP, rfl⟩ := own_slice HD.out.rP
              obtain ⟨aC, cC, rfl⟩ := own_slice HD.out.rC
              obtain ⟨aA, cA, rfl⟩ := own_slice HD.out.rA
              have r0 := boxk_cell HD.out.res 0 _ rfl
              have r1 := boxk_cell HD.out.res 1 _ rfl
              have r2 := boxk_cell HD.out.res 2 _ rfl
              have r3 := boxk_cell HD.out.res 3 _ rfl
              have r4 := boxk_cell HD.out.res 4 _ rfl
              have rf0 := boxk_frozen HD.out.res 0
              have rf1 := boxk_frozen HD.out.res 1
              have rf2 := boxk_frozen HD.out.res 2
              have rf3 := boxk_frozen HD.out.res 3
              have rf4 := boxk_frozen HD.out.res 4
              go_wp2
              refine box5_post HD.out.res (fun w9 h9 gr => ?_)
              clear r0 r1 r2 r3 r4 rf0 rf1 rf2 rf3 rf4 e0 e1 e2 e3 e4
              have d0 := boxk_cell h9 0 _ rfl
              have d1 := boxk_cell h9 1 _ rfl
              have d2 := boxk_cell h9 2 _ rfl
              have d3 := boxk_cell h9 3 _ rfl
              have d4 := boxk_cell h9 4 _ rfl
              exact bodyPost_ret (v := .agg #[.string name, .int .i64 sal, .slice aP P2.length cP, .slice aC C3.length cC, .slice aA A.length cA]) (by simp [results, Try.results117, go_sem, d0, d1, d2, d3, d4]) rfl
                ⟨sal, _, P2, _, C3, _, A, rfl, HLn.out.1, HLn.out.2.1, HC3.out, HAl.out.1, HAl.out.2, HD.out.done gr⟩
end Go.Proofs.Ytfgigcdfmkfkjaa
/-
  Rows of Binds: what a slice of them reads as, what came in.
-/
namespace Go.Proofs.Ytfgigcdfmkfkjaa
open Go.ChangeShapes Go.WideShapes Go.ChangeAt Go.RowKit Go.Joins Go.Deep
set_option linter.unusedVariables false
set_option maxRecDepth 100000

structure B4 where
  N : ByteArray
  V : V3
instance : Inhabited B4 := ⟨⟨⟨#[]⟩, default⟩⟩
def B4.cs (x : B4) : List Value := [.string x.N, .int .i64 x.V.K, .int .i64 x.V.N, .string x.V.S]
theorem B4.len (x : B4) : x.cs.length = 4 := rfl
def B4.fits (x : B4) : Prop := x.N.size ≤ maxLen ∧ x.V.S.size ≤ maxLen
def B4.small (x : B4) : Prop := x.N.size ≤ 1048576 ∧ x.V.S.size ≤ 1048576
def B4.zero : B4 := ⟨⟨#[]⟩, ⟨0, 0, ⟨#[]⟩⟩⟩
abbrev RdBind (w : World) (a : Option Addr) (L : List B4) : Prop := RdK B4.cs 4 w a L
theorem RdBind.cells {w : World} {a : Option Addr} {L : List B4} (h : RdBind w a L) (hp : 0 < L.length) :
    ∃ b off, a = some ⟨b, off, none⟩ ∧ b < w.heap.size ∧ ∀ i, i < L.length → w.cell? ⟨b, off + i * 4, none⟩ = some (.string (eAt L i).N) ∧ w.cell? ⟨b, off + i * 4 + 1, none⟩ = some (.int .i64 (eAt L i).V.K) ∧ w.cell? ⟨b, off + i * 4 + 2, none⟩ = some (.int .i64 (eAt L i).V.N) ∧ w.cell? ⟨b, off + i * 4 + 3, none⟩ = some (.string (eAt L i).V.S) := by
  obtain ⟨b, off, e, hb, hc⟩ := RdK.open B4.len (by decide) h hp
  refine ⟨b, off, e, hb, fun i hi => ?_⟩
  have hc := hc i hi
  exact ⟨hc 0 _ rfl, hc 1 _ rfl, hc 2 _ rfl, hc 3 _ rfl⟩
def IsBinds (w : World) (a : Option Addr) (len cap : Nat) (L : List B4) : Prop := L.length = len ∧ len ≤ maxLen ∧ RdBind w a L ∧ ∀ x ∈ L, x.fits

theorem bind_cells {H : Type} {enc : TypeId × Value → H} {w : World} {base : Nat} {spare : Nat → Bool} {held : Bool} {n : Nat} {cs : List Value} {x : DataW H × List MemPlace}
    (h : DataW.trod enc Try.prog w base spare held n 120 cs = some x) : ∃ y : B4, cs = y.cs ∧ y.fits := by
  obtain ⟨y0, y1, m, -, hl, h0, h1⟩ := trod_struct2 Try.underlying120 h
  have hc : Try.prog.cellsOf 120 = 4 := by kernel_rfl
  have hi : Try.prog.cellsOf 3 = 1 := by kernel_rfl
  have hs : Try.prog.cellsOf 9 = 1 := by kernel_rfl
  have hv : Try.prog.cellsOf 118 = 3 := by kernel_rfl
  rw [hc] at hl
  match cs, hl with
  | [c0, c1, c2, c3], _ =>
    simp only [hs, hv, List.drop_zero, List.drop_succ_cons, List.take_succ_cons, List.take_zero] at h0 h1
    obtain ⟨N, eN, _, wN⟩ := DataW.trod_string Try.underlying9 h0
    obtain ⟨VK, VN, VS, eV, wVS⟩ := three_cells h1
    simp only [List.cons.injEq, and_true] at eN eV
    obtain ⟨e0, e1, e2⟩ := eV
    exact ⟨⟨N, ⟨VK, VN, VS⟩⟩, by rw [eN, e0, e1, e2]; rfl, wN, wVS⟩

theorem bind_in {H : Type} {enc : TypeId × Value → H} {w : World} {base b0 : Nat} {spare : Nat → Bool} {held : Bool} {r : Reach} {v : Value} {d : DataW H} {p : List MemPlace}
    (hv : Value.okWide Try.prog w r b0 120 v) (h : DataW.Trod enc Try.prog w base spare held 120 v d p) : ∃ (N : ByteArray) (VK : Int) (VN : Int) (VS : ByteArray), v = .agg #[.string N, .int .i64 VK, .int .i64 VN, .string VS] ∧ N.size ≤ maxLen ∧ VS.size ≤ maxLen := by
  obtain ⟨cs, rfl, hsz⟩ := okWide_struct Try.underlying120 hv
  obtain ⟨fuel, hf⟩ := h
  obtain ⟨y, e, hy⟩ := bind_cells hf
  refine ⟨y.N, y.V.K, y.V.N, y.V.S, ?_, hy⟩
  have e2 : cs.toList = y.cs := e
  rw [← Array.toArray_toList (xs := cs), e2]
  rfl
theorem binds_in {H : Type} {enc : TypeId × Value → H} {w : World} {spare : Nat → Bool} {held : Bool} {n : Nat} {v : Value} {x : DataW H × List MemPlace}
    (h : DataW.trod enc Try.prog w 0 spare held n 23 [v] = some x) : ∃ a len cap L, v = .slice a len cap ∧ IsBinds w a len cap L := by
  have hc : Try.prog.cellsOf 120 = 4 := by kernel_rfl
  rcases open_slice Try.underlying23 h with ⟨h0, _⟩ | ⟨a, len, cap, m, n', D, Pl, h0, hb, hl, hm, hmm, _, hx⟩
  · simp only [List.cons.injEq, and_true] at h0
    exact ⟨none, 0, 0, [], h0, rfl, Nat.zero_le _, RdK.nil _ _ _ _, fun v hv => by cases hv⟩
  · simp only [List.cons.injEq, and_true] at h0
    have hlm : len ≤ m := by rw [hmm]; split <;> omega
    obtain ⟨F, hF⟩ := choose_lt (α := B4) (n := len) (p := fun i v => w.cells? 0 (a.add (i * 4)) 4 = some v.cs ∧ v.fits) (fun i hi => by
      obtain ⟨cs', h1, h2⟩ := hx i (by omega)
      rw [hc] at h1
      obtain ⟨y, rfl, hs⟩ := bind_cells h2
      exact ⟨y, h1, hs⟩)
    refine ⟨some a, len, cap, (List.range len).map F, h0, by simp, Nat.le_trans hl hm, fun i hi => ?_, fun v hv => ?_⟩
    · have hi2 : i < len := by simpa using hi
      obtain ⟨_, _, hcell⟩ := World.cells?_some (hF i hi2).1
      obtain ⟨b, off, spot⟩ := a
      have hs : spot = none := by
        obtain ⟨_, _, hcell0⟩ := World.cells?_some (hF 0 (by omega)).1
        have e := hcell0 0 (by omega)
        rw [add_add] at e
        simp only [B4.cs, List.getElem?_cons_zero] at e
        simpa [Addr.add] using World.cell?_spot e
      subst hs
      have ev : eAt ((List.range len).map F) i = F i := by rw [eAt_in hi]; simp
      rw [ev]
      refine ⟨b, off, rfl, fun j c hj => ?_⟩
      have hjk : j < 4 := by rw [← (F i).len]; exact (List.getElem?_eq_some_iff.1 hj).1
      have e := hcell j hjk
      rw [add_add, Addr.add_lit, hj] at e
      simpa [Nat.add_assoc] using e
    · obtain ⟨i, hi, rfl⟩ := List.mem_map.1 hv
      exact (hF i (List.mem_range.1 hi)).2
theorem rowOf_set_B4 (x : B4) : ∀ (L : List B4) (i : Nat), i < L.length →
    (((((rowOf B4.cs L).set (i * 4) (.string x.N)).set (i * 4 + 1) (.int .i64 x.V.K)).set (i * 4 + 2) (.int .i64 x.V.N)).set (i * 4 + 3) (.string x.V.S)) = rowOf B4.cs (L.set i x)
  | [], i, hi => absurd hi (Nat.not_lt_zero _)
  | y :: r, 0, hi => by
    rw [List.set_cons_zero, rowOf_cons, rowOf_cons]
    rfl
  | y :: r, i + 1, hi => by
    have ih := rowOf_set_B4 x r i (by simpa using hi)
    rw [List.set_cons_succ, rowOf_cons, rowOf_cons, ← ih]
    simp only [Nat.succ_mul, B4.cs]
    rfl
abbrev OwnBind (w : World) (g cap : Nat) (L : List B4) : Prop := OwnK 107 B4.cs 4 w g cap L
theorem rdOwnBind {w : World} {g cap : Nat} {L : List B4} (h : OwnBind w g cap L) : RdBind w (some ⟨g, 0, none⟩) L := OwnK.rd B4.len (by decide) h
end Go.Proofs.Ytfgigcdfmkfkjaa
/-
  What is bound to a name, plainly.
-/
namespace Go.Proofs.Ytfgigcdfmkfkjaa
open Go.RowKit
set_option linter.unusedVariables false

/-- the value of the first of this name -/
def bindO : List B4 → ByteArray → Option V3
  | [], _ => none
  | x :: r, s => if x.N = s then some x.V else bindO r s
theorem bindO_at : ∀ {L : List B4} {s : ByteArray} {k : Nat}, k < L.length → (∀ j, j < k → (eAt L j).N ≠ s) → (eAt L k).N = s → bindO L s = some (eAt L k).V
  | [], _, k, h, _, _ => absurd h (Nat.not_lt_zero _)
  | x :: r, s, 0, _, _, h => by
    have h' : x.N = s := h
    unfold bindO; rw [if_pos h']; rfl
  | x :: r, s, k + 1, hk, hj, h => by
    have h0 : x.N ≠ s := hj 0 (by omega)
    unfold bindO
    rw [if_neg h0]
    exact bindO_at (by simpa using hk) (fun j hjk => hj (j + 1) (by omega)) h
theorem bindO_none : ∀ {L : List B4} {s : ByteArray}, (∀ j, j < L.length → (eAt L j).N ≠ s) → bindO L s = none
  | [], _, _ => rfl
  | x :: r, s, h => by
    have h0 : x.N ≠ s := h 0 (by simp)
    unfold bindO
    rw [if_neg h0]
    exact bindO_none (fun j hj => h (j + 1) (by simpa using hj))
/-- what BindOf answers -/
def bindA (o : Option V3) : Value := match o with
  | some v => .tuple #[.agg #[.int .i64 v.K, .int .i64 v.N, .string v.S], .bool true]
  | none => .tuple #[.agg #[.int .i64 0, .int .i64 0, .string ⟨#[]⟩], .bool false]
theorem bindO_mem : ∀ {L : List B4} {s : ByteArray} {v : V3}, bindO L s = some v → ∃ x ∈ L, x.N = s ∧ x.V = v
  | [], _, _, h => by cases h
  | x :: r, s, v, h => by
    unfold bindO at h
    by_cases hx : x.N = s
    · rw [if_pos hx] at h
      exact ⟨x, List.mem_cons_self, hx, by simpa using h⟩
    · rw [if_neg hx] at h
      obtain ⟨y, hy, e⟩ := bindO_mem h
      exact ⟨y, List.mem_cons_of_mem _ hy, e⟩
theorem bindA_form (o : Option V3) : ∃ (K N : Int) (S : ByteArray) (b : Bool), bindA o = .tuple #[.agg #[.int .i64 K, .int .i64 N, .string S], .bool b] := by
  cases o with
  | none => exact ⟨_, _, _, _, rfl⟩
  | some v => exact ⟨_, _, _, _, rfl⟩
end Go.Proofs.Ytfgigcdfmkfkjaa
/-
  What a pattern binds, plainly.
-/
namespace Go.Proofs.Ytfgigcdfmkfkjaa
open Go.RowKit
set_option linter.unusedVariables false

/-- one argument held against one value -/
def stepM (M : List B4) (x : A5) (u : V3) : List B4 × Bool :=
  if x.K = 1 then (match bindO M x.S with
    | some v => (M, decide (v = u))
    | none => (M ++ [⟨x.S, u⟩], true))
  else if x.K = 2 then (M, decide (x.V = u)) else (M, true)
/-- behind k arguments -/
def matchK (L : List A5) (F : List V3) (M0 : List B4) : Nat → Option (List B4)
  | 0 => some M0
  | k + 1 => match matchK L F M0 k with
    | none => none
    | some M => if (stepM M (eAt L k) (vAt F k)).2 = true then some (stepM M (eAt L k) (vAt F k)).1 else none
/-- what MatchPat answers -/
def matchR (kd kd' : ByteArray) (L : List A5) (F : List V3) (M0 : List B4) : List B4 × Bool :=
  if kd = kd' ∧ L.length = F.length then (match matchK L F M0 L.length with
    | some M => (M, true)
    | none => (M0, false))
  else (M0, false)
theorem matchK_none {L : List A5} {F : List V3} {M0 : List B4} : ∀ {k j : Nat}, matchK L F M0 k = none → k ≤ j → matchK L F M0 j = none
  | k, 0, h, hj => by
    obtain rfl : k = 0 := by omega
    exact h
  | k, j + 1, h, hj => by
    by_cases hk : k = j + 1
    · rw [← hk]; exact h
    · show (match matchK L F M0 j with | none => none | some M => _) = none
      rw [matchK_none h (show k ≤ j by omega)]
theorem matchK_step {L : List A5} {F : List V3} {M0 M : List B4} {k : Nat} (h : matchK L F M0 k = some M) (hb : (stepM M (eAt L k) (vAt F k)).2 = true) : matchK L F M0 (k + 1) = some (stepM M (eAt L k) (vAt F k)).1 := by
  show (match matchK L F M0 k with | none => none | some M => _) = _
  rw [h]
  simp only
  rw [if_pos hb]
theorem matchK_fail {L : List A5} {F : List V3} {M0 M : List B4} {k : Nat} (h : matchK L F M0 k = some M) (hb : (stepM M (eAt L k) (vAt F k)).2 = false) : matchK L F M0 (k + 1) = none := by
  show (match matchK L F M0 k with | none => none | some M => _) = _
  rw [h]
  simp only
  rw [if_neg (by rw [hb]; simp)]
theorem matchR_kind {kd kd' : ByteArray} {L : List A5} {F : List V3} {M0 : List B4} (h : kd ≠ kd') : matchR kd kd' L F M0 = (M0, false) := by unfold matchR; rw [if_neg (fun e => h e.1)]
theorem matchR_len {kd kd' : ByteArray} {L : List A5} {F : List V3} {M0 : List B4} (h : L.length ≠ F.length) : matchR kd kd' L F M0 = (M0, false) := by unfold matchR; rw [if_neg (fun e => h e.2)]
theorem matchR_fail {kd : ByteArray} {L : List A5} {F : List V3} {M0 : List B4} {k : Nat} (hl : L.length = F.length) (hk : k ≤ L.length) (h : matchK L F M0 k = none) : matchR kd kd L F M0 = (M0, false) := by
  unfold matchR; rw [if_pos ⟨rfl, hl⟩, matchK_none h hk]
theorem matchR_yes {kd : ByteArray} {L : List A5} {F : List V3} {M0 M : List B4} (hl : L.length = F.length) (h : matchK L F M0 L.length = some M) : matchR kd kd L F M0 = (M, true) := by
  unfold matchR; rw [if_pos ⟨rfl, hl⟩, h]
theorem stepM_len (M : List B4) (x : A5) (u : V3) : (stepM M x u).1.length ≤ M.length + 1 := by
  unfold stepM
  split
  · split <;> simp
  · split <;> simp
theorem matchK_len {L : List A5} {F : List V3} {M0 : List B4} : ∀ {k : Nat} {M : List B4}, matchK L F M0 k = some M → M.length ≤ M0.length + k
  | 0, M, h => by
    have : M0 = M := by simpa [matchK] using h
    rw [this]; omega
  | k + 1, M, h => by
    cases hk : matchK L F M0 k with
    | none => rw [matchK_none hk (Nat.le_succ _)] at h; cases h
    | some M1 =>
      have h1 := matchK_len hk
      cases hb : (stepM M1 (eAt L k) (vAt F k)).2
      · rw [matchK_fail hk hb] at h; cases h
      · rw [matchK_step hk hb] at h
        have := stepM_len M1 (eAt L k) (vAt F k)
        simp only [Option.some.injEq] at h
        rw [← h]; omega
theorem stepM_small {M : List B4} {x : A5} {u : V3} (hM : ∀ y ∈ M, y.small) (hx : x.small) (hu : u.S.size ≤ 1048576) : ∀ y ∈ (stepM M x u).1, y.small := by
  unfold stepM
  split
  · split
    · exact hM
    · intro y hy
      rcases List.mem_append.1 hy with h | h
      · exact hM y h
      · simp only [List.mem_cons, List.not_mem_nil, or_false] at h
        rw [h]; exact ⟨hx.1, hu⟩
  · split <;> exact hM
theorem matchK_small {L : List A5} {F : List V3} {M0 : List B4} (hM : ∀ y ∈ M0, y.small) (hL : ∀ x ∈ L, x.small) (hF : ∀ u ∈ F, u.S.size ≤ 1048576) (hl : L.length = F.length) : ∀ {k : Nat} {M : List B4}, k ≤ L.length → matchK L F M0 k = some M → ∀ y ∈ M, y.small
  | 0, M, _, h => by
    have : M0 = M := by simpa [matchK] using h
    rw [← this]; exact hM
  | k + 1, M, hk, h => by
    cases h0 : matchK L F M0 k with
    | none => rw [matchK_none h0 (Nat.le_succ _)] at h; cases h
    | some M1 =>
      have h1 := matchK_small hM hL hF hl (by omega) h0
      cases hb : (stepM M1 (eAt L k) (vAt F k)).2
      · rw [matchK_fail h0 hb] at h; cases h
      · rw [matchK_step h0 hb] at h
        simp only [Option.some.injEq] at h
        rw [← h]
        refine stepM_small h1 ?_ ?_
        · rw [eAt_in (by omega)]; exact hL _ (List.getElem_mem _)
        · rw [vAt_in (by omega)]; exact hF _ (List.getElem_mem _)
theorem stepM_K1 {M : List B4} {S : ByteArray} {V u v : V3} (h : bindO M S = some v) : stepM M ⟨1, S, V⟩ u = (M, decide (v = u)) := by unfold stepM; rw [if_pos rfl, h]
theorem stepM_K1n {M : List B4} {S : ByteArray} {V u : V3} (h : bindO M S = none) : stepM M ⟨1, S, V⟩ u = (M ++ [⟨S, u⟩], true) := by unfold stepM; rw [if_pos rfl, h]
theorem stepM_K2 {M : List B4} {S : ByteArray} {V u : V3} : stepM M ⟨2, S, V⟩ u = (M, decide (V = u)) := by unfold stepM; rw [if_neg (show ¬ (2 : Int) = 1 by decide), if_pos rfl]
theorem stepM_no {M : List B4} {K : Int} {S : ByteArray} {V u : V3} (h1 : K ≠ 1) (h2 : K ≠ 2) : stepM M ⟨K, S, V⟩ u = (M, true) := by unfold stepM; rw [if_neg h1, if_neg h2]
theorem matchR_cases (kd kd' : ByteArray) (L : List A5) (F : List V3) (M0 : List B4) : matchR kd kd' L F M0 = (M0, false) ∨ (kd = kd' ∧ L.length = F.length ∧ ∃ M, matchK L F M0 L.length = some M ∧ matchR kd kd' L F M0 = (M, true)) := by
  by_cases h1 : kd = kd'
  · subst h1
    by_cases h2 : L.length = F.length
    · cases h : matchK L F M0 L.length with
      | none => exact .inl (matchR_fail h2 (Nat.le_refl _) h)
      | some M => exact .inr ⟨rfl, h2, M, rfl, matchR_yes h2 h⟩
    · exact .inl (matchR_len h2)
  · exact .inl (matchR_kind h1)
theorem matchR_small (kd kd' : ByteArray) {L : List A5} {F : List V3} {M0 : List B4} (hM : ∀ y ∈ M0, y.small) (hL : ∀ x ∈ L, x.small) (hF : ∀ u ∈ F, u.S.size ≤ 1048576) : ∀ y ∈ (matchR kd kd' L F M0).1, y.small := by
  rcases matchR_cases kd kd' L F M0 with h | ⟨-, hl, M, hM1, h⟩
  · rw [h]; exact hM
  · rw [h]; exact matchK_small hM hL hF hl (Nat.le_refl _) hM1
theorem matchR_len_le (kd kd' : ByteArray) (L : List A5) (F : List V3) (M0 : List B4) : (matchR kd kd' L F M0).1.length ≤ L.length + M0.length := by
  rcases matchR_cases kd kd' L F M0 with h | ⟨-, hl, M, hM1, h⟩
  · rw [h]; simp
  · rw [h]
    have := matchK_len hM1
    simp only
    omega
end Go.Proofs.Ytfgigcdfmkfkjaa
/-
  What both BindOfs answer: bindA.
-/
namespace Go.Proofs.Ytfgigcdfmkfkjaa
open Go.RowKit
set_option linter.unusedVariables false

theorem beq_ne {a b : ByteArray} (h : a ≠ b) : (a.toList == b.toList) = false := by
  simp only [beq_eq_false_iff_ne, ne_eq]
  exact fun e => h (toList_inj e)

set_option maxRecDepth 100000 in
set_option maxHeartbeats 1600000 in
theorem specBindOf_any (a : Option Addr) (cap : Nat) (L : List B4) (nm : ByteArray) (w : World) (hr : RdBind w a L) (hm : L.length ≤ 2097152) :
    Calls Try.prog 93 #[.slice a L.length cap, .string nm] w fun e w' => e = .returned (bindA (bindO L nm)) ∧ Below w.heap.size w w' := by
  obtain ⟨n, hN⟩ : ∃ n, n = L.length := ⟨_, rfl⟩
  rw [← hN] at hm ⊢
  have HN := hide hN
  clear hN
  have b0 := below_al w (.cells #[.int .i64 0, .int .i64 0, .string ⟨#[]⟩] 105)
  have HR := hide (boxk_new w #[.int .i64 0, .int .i64 0, .string ⟨#[]⟩] 105)
  have r1 := hr.below b0
  go_enter Try.func93, Try.ntmps93
  go_wp2
  generalize w.alloc (.cells #[.int .i64 0, .int .i64 0, .string ⟨#[]⟩] 105) = w0 at b0 HR r1
  obtain ⟨r0, rr1, rr2, rf0, rf1, rf2⟩ := box_cell HR.out
  go_loop [6] (fun i => ∃ (k : Nat), k ≤ n ∧ i = .int .i64 k ∧ (∀ j, j < k → (eAt L j).N ≠ nm)) (fun i => n - (intOf i).toNat)
  case atStart => exact ⟨0, Nat.zero_le _, rfl, fun j hj => absurd hj (Nat.not_lt_zero _)⟩
  case round =>
    obtain ⟨k, hk, rfl, hall⟩ := hrel
    have HA := hide hall
    clear hall
    by_cases hlt : k < n
    · obtain ⟨b, off, hab, hbw, hc⟩ := RdBind.cells r1 (by rw [← HN.out]; omega)
      obtain ⟨c0, c1, c2, c3⟩ := hc k (by rw [← HN.out]; exact hlt)
      clear hc
      subst hab
      by_cases he : (eAt L k).N = nm
      · have HV := hide (bindO_at (by rw [← HN.out]; exact hlt) HA.out he)
        rw [he] at c0
        have k1 : (nm.toList == nm.toList) = true := by simp
        clear he
        go_wp2
        refine box_post HR.out (fun w4 h4 gr => ?_)
        obtain ⟨d0, d1, d2, -, -, -⟩ := box_cell h4
        exact bodyPost_ret (v := bindA (some (eAt L k).V)) (by simp [bindA, results, Try.results93, go_sem, d0, d1, d2]) rfl ⟨by rw [HV.out], below_set b0 gr (Nat.le_refl _)⟩
      · have k1 := beq_ne he
        have HE := hide he
        clear he
        go_wp2
        go_round
        case rel => exact ⟨k + 1, by omega, by go_num, fun j hj => by
            by_cases hjk : j = k
            · rw [hjk]; exact HE.out
            · exact HA.out j (by omega)⟩
        case measure => simp [intOf]; omega
    · have HV : Hid (bindO L nm = none) := bindO_none (fun j hj => HA.out j (by rw [← HN.out] at hj; omega))
      go_wp2
      refine box_post HR.out (fun w4 h4 gr => ?_)
      obtain ⟨d0, d1, d2, -, -, -⟩ := box_cell h4
      exact bodyPost_ret (v := bindA none) (by simp [bindA, results, Try.results93, go_sem, d0, d1, d2]) rfl ⟨by rw [HV.out], below_set b0 gr (Nat.le_refl _)⟩

set_option maxRecDepth 100000 in
set_option maxHeartbeats 1600000 in
theorem implBindOf_any (a : Option Addr) (cap : Nat) (L : List B4) (nm : ByteArray) (w : World) (hr : RdBind w a L) (hs : ∀ x ∈ L, x.small) (hm : L.length ≤ 2097152) :
    Calls Try.prog 154 #[.slice a L.length cap, .string nm] w fun e w' => e = .returned (bindA (bindO L nm)) ∧ Below w.heap.size w w' := by
  obtain ⟨n, hN⟩ : ∃ n, n = L.length := ⟨_, rfl⟩
  rw [← hN] at hm ⊢
  have HN := hide hN
  have HS := hide hs
  clear hN hs
  have b0 := below_al w (.cells #[.int .i64 0, .int .i64 0, .string ⟨#[]⟩] 105)
  have HR := hide (boxk_new w #[.int .i64 0, .int .i64 0, .string ⟨#[]⟩] 105)
  have r1 := hr.below b0
  go_enter Try.func154, Try.ntmps154
  go_wp2
  generalize hW : w.alloc (.cells #[.int .i64 0, .int .i64 0, .string ⟨#[]⟩] 105) = w0 at b0 HR r1
  have hq : w.heap.size < w0.heap.size := by rw [← hW]; simp
  clear hW hr
  go_loopw [10] (fun i wr => ∃ (k : Nat), k ≤ n ∧ i = .int .i64 k ∧ (∀ j, j < k → (eAt L j).N ≠ nm) ∧ Below w0.heap.size w0 wr) (fun i _ => n - (intOf i).toNat)
  case atStart => exact ⟨0, Nat.zero_le _, rfl, fun j hj => absurd hj (Nat.not_lt_zero _), Below.refl _ _⟩
  case round =>
    obtain ⟨k, hk, rfl, hall, hbel⟩ := hrel
    have HA := hide hall
    clear hall
    have hB : Below w.heap.size w wr := b0.trans (hbel.mono b0.size)
    have HR1 := hide (box_below HR.out hbel hq)
    by_cases hlt : k < n
    · obtain ⟨b, off, hab, hbw, hc⟩ := RdBind.cells r1 (by rw [← HN.out]; omega)
      obtain ⟨c0, c1, c2, c3⟩ := hc k (by rw [← HN.out]; exact hlt)
      clear hc
      subst hab
      rw [← hbel.cell (p := ⟨b, off + k * 4, none⟩) hbw] at c0
      rw [← hbel.cell (p := ⟨b, off + k * 4 + 1, none⟩) hbw] at c1
      rw [← hbel.cell (p := ⟨b, off + k * 4 + 2, none⟩) hbw] at c2
      rw [← hbel.cell (p := ⟨b, off + k * 4 + 3, none⟩) hbw] at c3
      have hS : (eAt L k).small := by rw [eAt_in (by rw [← HN.out]; exact hlt)]; exact HS.out _ (List.getElem_mem _)
      by_cases he : (eAt L k).N = nm
      · have HV := hide (bindO_at (by rw [← HN.out]; exact hlt) HA.out he)
        rw [he] at c0
        have k1 : (nm.toList == nm.toList) = true := by simp
        clear he
        go_wp2_with fail
        refine (copyVal_any _ _ _ _ (by have := hS.2; omega)).mono ?_
        rintro e w2 ⟨rfl, hb2⟩
        have hqr := hbel.size
        have bA := hB.alloc hB.size (.cells #[.string nm, .int .i64 (eAt L k).V.K, .int .i64 (eAt L k).V.N, .string (eAt L k).V.S] 107)
        have HR2 := hide (box_below (box_old HR1.out (by omega) (.cells #[.string nm, .int .i64 (eAt L k).V.K, .int .i64 (eAt L k).V.N, .string (eAt L k).V.S] 107)) hb2 (by simp; omega))
        have B2 := bA.trans (hb2.mono bA.size)
        obtain ⟨q0, q1, q2, qf0, qf1, qf2⟩ := box_cell HR2.out
        clear hb2 bA c0 c1 c2 c3 hbel hB HR1
        go_wp2
        refine box_post HR2.out (fun w4 h4 gr => ?_)
        obtain ⟨d0, d1, d2, -, -, -⟩ := box_cell h4
        exact bodyPost_ret (v := bindA (some (eAt L k).V)) (by simp [bindA, results, Try.results154, go_sem, d0, d1, d2]) rfl ⟨by rw [HV.out], below_set B2 gr (Nat.le_refl _)⟩
      · have k1 := beq_ne he
        have HE := hide he
        clear he
        go_wp2
        go_roundw
        case rel => exact ⟨k + 1, by omega, by go_num, fun j hj => by
            by_cases hjk : j = k
            · rw [hjk]; exact HE.out
            · exact HA.out j (by omega), hbel.alloc hbel.size _⟩
        case measure => simp [intOf]; omega
    · have HV : Hid (bindO L nm = none) := bindO_none (fun j hj => HA.out j (by rw [← HN.out] at hj; omega))
      obtain ⟨q0, q1, q2, qf0, qf1, qf2⟩ := box_cell HR1.out
      go_wp2
      refine box_post HR1.out (fun w4 h4 gr => ?_)
      obtain ⟨d0, d1, d2, -, -, -⟩ := box_cell h4
      exact bodyPost_ret (v := bindA none) (by simp [bindA, results, Try.results154, go_sem, d0, d1, d2]) rfl ⟨by rw [HV.out], below_set hB gr (Nat.le_refl _)⟩
end Go.Proofs.Ytfgigcdfmkfkjaa
/-
  The contracts of the laws' own helpers on Binds: to copies, sz counts off, eq finds one the same as itself; so of rows of them.
-/
namespace Go.Proofs.Ytfgigcdfmkfkjaa
open Go.RowKit
set_option linter.unusedVariables false

theorem Try.info107 : (Try.prog.info? 107).map (fun i => (i.zero, i.size, i.bytes)) = some (some (.agg #[.string ⟨#[]⟩, .int .i64 0, .int .i64 0, .string ⟨#[]⟩]), 4, 48) := by kernel_rfl

set_option maxRecDepth 100000 in
set_option maxHeartbeats 1600000 in
theorem toBind_any (N : ByteArray) (VK : Int) (VN : Int) (VS : ByteArray) (w : World) :
    Calls Try.prog 75 #[.agg #[.string N, .int .i64 VK, .int .i64 VN, .string VS]] w fun e w' => e = .returned (.agg #[.string N, .int .i64 VK, .int .i64 VN, .string VS]) ∧ Below w.heap.size w w' := by
  go_enter Try.func75, Try.ntmps75
  go_wp2_with fail
  have b0 := below_al w (.cells #[.string N, .int .i64 VK, .int .i64 VN, .string VS] 120)
  have b1 := b0.alloc b0.size (.cells #[.string ⟨#[]⟩, .int .i64 0, .int .i64 0, .string ⟨#[]⟩] 107)
  have b2 := b1.alloc b1.size (.cells #[.string N, .int .i64 0, .int .i64 0, .string ⟨#[]⟩] 107)
  have hR := box_old (boxk_new (w.alloc (.cells #[.string N, .int .i64 VK, .int .i64 VN, .string VS] 120)) #[.string ⟨#[]⟩, .int .i64 0, .int .i64 0, .string ⟨#[]⟩] 107) (by simp) (.cells #[.string N, .int .i64 0, .int .i64 0, .string ⟨#[]⟩] 107)
  have hX := boxk_new ((w.alloc (.cells #[.string N, .int .i64 VK, .int .i64 VN, .string VS] 120)).alloc (.cells #[.string ⟨#[]⟩, .int .i64 0, .int .i64 0, .string ⟨#[]⟩] 107)) #[.string N, .int .i64 0, .int .i64 0, .string ⟨#[]⟩] 107
  simp only [World.size_alloc] at hR hX
  refine (toVal_any VK VN VS _).mono ?_
  rintro e w1 ⟨rfl, hb⟩
  have HR := hide (box_below hR hb (by simp))
  have HX := hide (box_below hX hb (by simp))
  have hB : Below w.heap.size w w1 := b2.trans (hb.mono b2.size)
  clear hb hR hX b0 b1 b2
  have x0 := boxk_cell HX.out 0 _ rfl
  have xf0 := boxk_frozen HX.out 0
  have r0 := boxk_cell HR.out 0 _ rfl
  have rf0 := boxk_frozen HR.out 0
  have x1 := boxk_cell HX.out 1 _ rfl
  have xf1 := boxk_frozen HX.out 1
  have r1 := boxk_cell HR.out 1 _ rfl
  have rf1 := boxk_frozen HR.out 1
  have x2 := boxk_cell HX.out 2 _ rfl
  have xf2 := boxk_frozen HX.out 2
  have r2 := boxk_cell HR.out 2 _ rfl
  have rf2 := boxk_frozen HR.out 2
  have x3 := boxk_cell HX.out 3 _ rfl
  have xf3 := boxk_frozen HX.out 3
  have r3 := boxk_cell HR.out 3 _ rfl
  have rf3 := boxk_frozen HR.out 3
  have HX2 := hide (boxk_set HX.out 1 (.int .i64 VK))
  have HX3 := hide (boxk_set HX2.out.1 2 (.int .i64 VN))
  have HX4 := hide (boxk_set HX3.out.1 3 (.string VS))
  have HR2 := hide (box_gr (box_gr (box_gr HR.out HX2.out.2 (by omega)) HX3.out.2 (by omega)) HX4.out.2 (by omega))
  have HB2 := hide (below_set (below_set (below_set hB HX2.out.2 (by omega)) HX3.out.2 (by omega)) HX4.out.2 (by omega))
  go_wp2
  refine box4_post HR2.out (fun w4 h4 gr => ?_)
  clear x0 xf0 r0 rf0 x1 xf1 r1 rf1 x2 xf2 r2 rf2 x3 xf3 r3 rf3
  have c0 := boxk_cell h4 0 _ rfl
  have c1 := boxk_cell h4 1 _ rfl
  have c2 := boxk_cell h4 2 _ rfl
  have c3 := boxk_cell h4 3 _ rfl
  exact bodyPost_ret (v := .agg #[.string N, .int .i64 VK, .int .i64 VN, .string VS]) (by simp [results, Try.results75, go_sem, c0, c1, c2, c3]) rfl ⟨rfl, below_set HB2.out gr (by omega)⟩

set_option maxRecDepth 100000 in
set_option maxHeartbeats 1600000 in
theorem szBind_any (N : ByteArray) (VK : Int) (VN : Int) (VS : ByteArray) (left : Int) (w : World) (hs : N.size ≤ maxLen) (hv : VS.size ≤ maxLen) (h0 : 0 ≤ left) (h1 : left ≤ 1048576) :
    Calls Try.prog 74 #[.agg #[.string N, .int .i64 VK, .int .i64 VN, .string VS], .int .i64 left] w fun e w' =>
      (∃ r, e = .returned (.int .i64 r) ∧ (r = -1 ∨ (0 ≤ r ∧ r + (N.size : Int) + (VS.size : Int) ≤ left))) ∧ Below w.heap.size w w' := by
  have hs0 := hs
  unfold maxLen at hs
  by_cases h2 : left - (N.size : Int) < 0
  · go_enter Try.func74, Try.ntmps74
    go_wp2
    go_ret
    exact ⟨⟨-1, rfl, .inl rfl⟩, by go_grown⟩
  · go_enter Try.func74, Try.ntmps74
    go_wp2_with fail
    have b0 := below_al w (.cells #[.string N, .int .i64 VK, .int .i64 VN, .string VS] 120)
    refine (szVal_any VK VN VS (left - (N.size : Int)) _ hv (by omega) (by omega)).mono ?_
    rintro e w1 ⟨rfl, hb1⟩
    have hB1 : Below w.heap.size w w1 := b0.trans (hb1.mono b0.size)
    clear hb1 b0
    by_cases h3 : left - (N.size : Int) - (VS.size : Int) < 0
    · rw [if_pos h3]
      go_wp2
      go_ret
      exact ⟨⟨-1, rfl, .inl rfl⟩, hB1⟩
    · rw [if_neg h3]
      go_wp2
      go_ret
      exact ⟨⟨_, rfl, .inr ⟨by omega, by omega⟩⟩, hB1⟩

set_option maxRecDepth 100000 in
set_option maxHeartbeats 1600000 in
theorem eqBind_same (N : ByteArray) (VK : Int) (VN : Int) (VS : ByteArray) (w : World) :
    Calls Try.prog 64 #[.agg #[.string N, .int .i64 VK, .int .i64 VN, .string VS], .agg #[.string N, .int .i64 VK, .int .i64 VN, .string VS]] w fun e w' => e = .returned (.bool true) ∧ Below w.heap.size w w' := by
  have kN : (N.toList == N.toList) = true := by simp
  go_enter Try.func64, Try.ntmps64
  go_wp2_with fail
  have b0 := below_al w (.cells #[.string N, .int .i64 VK, .int .i64 VN, .string VS] 107)
  have b1 := b0.alloc b0.size (.cells #[.string N, .int .i64 VK, .int .i64 VN, .string VS] 107)
  refine (eqVal_same VK VN VS _).mono ?_
  rintro e w1 ⟨rfl, hb⟩
  have hB : Below w.heap.size w w1 := b1.trans (hb.mono b1.size)
  go_wp2
  go_ret
  exact ⟨rfl, hB⟩

set_option maxRecDepth 100000 in
set_option maxHeartbeats 1600000 in
theorem toBindS_at (a : Option Addr) (cap : Nat) (L : List B4) (w : World) (hr : RdBind w a L) (hn : L.length ≤ 1048576) :
    Calls Try.prog 34 #[.slice a L.length cap] w fun e w' =>
      e = .returned (.slice (some ⟨w.heap.size, 0, none⟩) L.length L.length) ∧ w'.ownsRow w.heap.size 107 4 (.slice (some ⟨w.heap.size, 0, none⟩) L.length L.length) L.length (rowOf B4.cs L) ∧ Below w.heap.size w w' := by
  obtain ⟨i0, hi, hz0, hz1, hz2⟩ := info_parts Try.info107
  obtain ⟨n, hN⟩ : ∃ n, n = L.length := ⟨_, rfl⟩
  rw [← hN] at hn ⊢
  have HN := hide hN
  clear hN
  have hmade := rowOf_made (f := B4.cs) (x := B4.zero) (cs := #[.string ⟨#[]⟩, .int .i64 0, .int .i64 0, .string ⟨#[]⟩]) rfl (by decide) n
  go_enter Try.func34, Try.ntmps34
  go_wp2_with (at_make; refine wpList_make_full _ rfl _ _ 28 rfl w.heap.size 107 i0 (.agg #[.string ⟨#[]⟩, .int .i64 0, .int .i64 0, .string ⟨#[]⟩]) 4 Try.underlying28 hi hz0 hz1 _ _ _ _ n rfl rfl (by omega) (by omega) ?b2 ?b3 (Nat.le_refl _) ?_)
  case b2 => rw [hz2]; omega
  case b3 => unfold maxLen; omega
  intro w0 hown0 hgrow0
  have hown0' : w0.ownsRow w.heap.size 107 4 (.slice (some ⟨w.heap.size, 0, none⟩) n n) n (rowOf B4.cs (List.replicate n B4.zero)) := by rw [← hmade]; exact hown0
  clear hown0 hmade
  go_wp2
  go_loopw [4] (fun i wr => ∃ k : Nat, k ≤ n ∧ i = .int .i64 k ∧ wr.ownsRow w.heap.size 107 4 (.slice (some ⟨w.heap.size, 0, none⟩) n n) n (rowOf B4.cs (partK L B4.zero k)) ∧ Below w.heap.size w wr)
    (fun i _ => n - (intOf i).toNat)
  case atStart =>
    refine ⟨0, Nat.zero_le _, rfl, ?_, (Below.refl _ _).grown hgrow0 (Nat.le_refl _) (fun k h => by cases h)⟩
    rw [partK_zero, ← HN.out]
    exact hown0'
  case round =>
    obtain ⟨k, hk, rfl, hown, hbel⟩ := hrel
    by_cases hlt : k < n
    · obtain ⟨b, off, hab, hbw, hc⟩ := RdBind.cells hr (by rw [← HN.out]; omega)
      obtain ⟨c0, c1, c2, c3⟩ := hc k (by rw [← HN.out]; exact hlt)
      clear hc
      subst hab
      rw [← hbel.cell (p := ⟨b, off + k * 4, none⟩) hbw] at c0
      rw [← hbel.cell (p := ⟨b, off + k * 4 + 1, none⟩) hbw] at c1
      rw [← hbel.cell (p := ⟨b, off + k * 4 + 2, none⟩) hbw] at c2
      rw [← hbel.cell (p := ⟨b, off + k * 4 + 3, none⟩) hbw] at c3
      go_wp2_with fail
      refine (toBind_any _ _ _ _ _).mono ?_
      rintro e w2 ⟨rfl, hb2⟩
      have hown2 : w2.ownsRow w.heap.size 107 4 (.slice (some ⟨w.heap.size, 0, none⟩) n n) n (rowOf B4.cs (partK L B4.zero k)) := ownsRow_below' hown hb2
      have hbel2 : Below w.heap.size w w2 := hbel.trans (hb2.mono hbel.size)
      have hlen : (rowOf B4.cs (partK L B4.zero k)).length = n * 4 := by rw [rowOf_length B4.len, partK_length (by rw [← HN.out]; omega), ← HN.out]
      have hmem : ∀ j, j < 4 → ∃ u, w2.cell? ⟨w.heap.size, k * 4 + j, none⟩ = some u := fun j hj => by
        rw [hown2.cellAt (k * 4 + j) (by omega), List.getElem?_eq_getElem (by omega)]
        exact ⟨_, rfl⟩
      obtain ⟨u0, m0⟩ := hmem 0 (by omega)
      obtain ⟨u1, m1⟩ := hmem 1 (by omega)
      obtain ⟨u2, m2⟩ := hmem 2 (by omega)
      obtain ⟨u3, m3⟩ := hmem 3 (by omega)
      rw [Nat.add_zero] at m0
      have f0 := hown2.frozenAt (k * 4)
      have f1 := hown2.frozenAt (k * 4 + 1)
      have f2 := hown2.frozenAt (k * 4 + 2)
      have f3 := hown2.frozenAt (k * 4 + 3)
      have HO := hide ((((hown2.stored (k * 4) (.string (eAt L k).N)).1.stored (k * 4 + 1) (.int .i64 (eAt L k).V.K)).1.stored (k * 4 + 2) (.int .i64 (eAt L k).V.N)).1.stored (k * 4 + 3) (.string (eAt L k).V.S)).1
      have HB : Hid (Below w.heap.size w ((((w2.setCell ⟨w.heap.size, k * 4, none⟩ (.string (eAt L k).N)).setCell ⟨w.heap.size, k * 4 + 1, none⟩ (.int .i64 (eAt L k).V.K)).setCell ⟨w.heap.size, k * 4 + 2, none⟩ (.int .i64 (eAt L k).V.N)).setCell ⟨w.heap.size, k * 4 + 3, none⟩ (.string (eAt L k).V.S))) := ((((hbel2.setCell (Nat.le_refl _) _).setCell (Nat.le_refl _) _).setCell (Nat.le_refl _) _).setCell (Nat.le_refl _) _)
      rw [rowOf_set_B4 (eAt L k) _ k (by rw [partK_length (by rw [← HN.out]; omega), ← HN.out]; exact hlt), partK_set (by rw [← HN.out]; exact hlt)] at HO
      clear hmem hlen c0 c1 c2 c3 hown hbel hb2 hown2 hbel2
      go_wp2
      go_roundw
      case rel => exact ⟨k + 1, by omega, by go_num, HO.out, HB.out⟩
      case measure => simp [intOf]; omega
    · have HE : Hid (wr.ownsRow w.heap.size 107 4 (.slice (some ⟨w.heap.size, 0, none⟩) n n) n (rowOf B4.cs L)) := by
        have hkn : k = L.length := by rw [← HN.out]; omega
        rw [hkn, partK_end] at hown
        exact hown
      clear hown
      go_wp2
      go_ret
      exact ⟨rfl, HE.out, hbel⟩

set_option maxRecDepth 100000 in
set_option maxHeartbeats 1600000 in
theorem szBindS_any (a : Option Addr) (cap : Nat) (L : List B4) (left : Int) (w : World) (hr : RdBind w a L) (hs : ∀ x ∈ L, x.fits) (hm : L.length ≤ maxLen) (h0 : 0 ≤ left) (h1 : left ≤ 1048576) :
    Calls Try.prog 32 #[.slice a L.length cap, .int .i64 left] w fun e w' =>
      (∃ r, e = .returned (.int .i64 r) ∧ (r = -1 ∨ (0 ≤ r ∧ r + (L.length : Int) ≤ left ∧ ∀ x ∈ L, x.small))) ∧ Below w.heap.size w w' := by
  unfold maxLen at hm
  obtain ⟨n, hN⟩ : ∃ n, n = L.length := ⟨_, rfl⟩
  rw [← hN] at hm ⊢
  have HN := hide hN
  have HS := hide hs
  clear hN hs
  by_cases h2 : left - (n : Int) < 0
  · go_enter Try.func32, Try.ntmps32
    go_wp2
    go_ret
    exact ⟨⟨-1, rfl, .inl rfl⟩, Below.refl _ _⟩
  · go_enter Try.func32, Try.ntmps32
    go_wp2
    go_loopw [1, 5] (fun l i wr => ∃ (k : Nat) (lf : Int), k ≤ n ∧ i = .int .i64 k ∧ l = .int .i64 lf ∧ 0 ≤ lf ∧ lf ≤ left - n ∧ (∀ j, j < k → (eAt L j).small) ∧ Below w.heap.size w wr) (fun _ i _ => n - (intOf i).toNat)
    case atStart => exact ⟨0, left - n, Nat.zero_le _, rfl, rfl, by omega, Int.le_refl _, fun j hj => absurd hj (Nat.not_lt_zero _), Below.refl _ _⟩
    case round =>
      obtain ⟨k, lf, hk, rfl, rfl, hlf, hle, hsm, hbel⟩ := hrel
      have HSm := hide hsm
      clear hsm
      by_cases hlt : k < n
      · obtain ⟨b, off, hab, hbw, hc⟩ := RdBind.cells hr (by rw [← HN.out]; omega)
        obtain ⟨c0, c1, c2, c3⟩ := hc k (by rw [← HN.out]; exact hlt)
        clear hc
        subst hab
        rw [← hbel.cell (p := ⟨b, off + k * 4, none⟩) hbw] at c0
        rw [← hbel.cell (p := ⟨b, off + k * 4 + 1, none⟩) hbw] at c1
        rw [← hbel.cell (p := ⟨b, off + k * 4 + 2, none⟩) hbw] at c2
        rw [← hbel.cell (p := ⟨b, off + k * 4 + 3, none⟩) hbw] at c3
        have hS : (eAt L k).fits := by rw [eAt_in (by rw [← HN.out]; exact hlt)]; exact HS.out _ (List.getElem_mem _)
        obtain ⟨hS0, hS1⟩ := hS
        go_wp2_with fail
        refine (szBind_any _ _ _ _ lf _ hS0 hS1 hlf (by omega)).mono ?_
        rintro e w2 ⟨⟨r, rfl, hr2⟩, hb2⟩
        have hbel2 : Below w.heap.size w w2 := hbel.trans (hb2.mono hbel.size)
        clear hb2 c0 c1 c2 c3 hbel
        rcases hr2 with rfl | ⟨h3, h4⟩
        · go_wp2
          go_ret
          exact ⟨⟨-1, rfl, .inl rfl⟩, hbel2⟩
        · have HSk : Hid ((eAt L k).small) := ⟨by omega, by omega⟩
          have h5 : r ≤ lf := by omega
          clear h4
          go_wp2
          go_roundw
          case rel => exact ⟨k + 1, r, by omega, by go_num, rfl, h3, by omega, fun j hj => by
              by_cases hjk : j = k
              · rw [hjk]; exact HSk.out
              · exact HSm.out j (by omega), hbel2⟩
          case measure => simp [intOf]; omega
      · have HAll : Hid (∀ x ∈ L, x.small) := fun x hx => by
          obtain ⟨j, hj, rfl⟩ := List.getElem_of_mem hx
          rw [← eAt_in hj]
          exact HSm.out j (by rw [← HN.out] at hj; omega)
        go_wp2
        go_ret
        exact ⟨⟨lf, rfl, .inr ⟨hlf, by omega, HAll.out⟩⟩, hbel⟩

theorem toBindS_ex (a : Option Addr) (cap : Nat) (L : List B4) (w : World) (hr : RdBind w a L) (hn : L.length ≤ 1048576) :
    Calls Try.prog 34 #[.slice a L.length cap] w fun e w' =>
      ∃ g, e = .returned (.slice (some ⟨g, 0, none⟩) L.length L.length) ∧ w.heap.size ≤ g ∧ OwnBind w' g L.length L ∧ Below w.heap.size w w' :=
  (toBindS_at a cap L w hr hn).mono fun e w' h => ⟨w.heap.size, h.1, Nat.le_refl _, OwnK.of B4.len (by decide) h.2.1, h.2.2⟩

theorem keepBind {w0 W w' : World} {B : Nat} {p0 p1 p2 p3 p4 p5 p6 p7 : Addr} {v0 v1 v2 v3 v4 v5 v6 v7 : Value} (hb : Below W.heap.size W w')
    (h : W.cell? p0 = some v0 ∧ W.cell? p1 = some v1 ∧ W.cell? p2 = some v2 ∧ W.cell? p3 = some v3 ∧ W.cell? p4 = some v4 ∧ W.cell? p5 = some v5 ∧ W.cell? p6 = some v6 ∧ W.cell? p7 = some v7 ∧ Below B w0 W ∧ B ≤ W.heap.size) :
    w'.cell? p0 = some v0 ∧ w'.cell? p1 = some v1 ∧ w'.cell? p2 = some v2 ∧ w'.cell? p3 = some v3 ∧ w'.cell? p4 = some v4 ∧ w'.cell? p5 = some v5 ∧ w'.cell? p6 = some v6 ∧ w'.cell? p7 = some v7 ∧ Below B w0 w' ∧ B ≤ w'.heap.size := by
  obtain ⟨q0, q1, q2, q3, q4, q5, q6, q7, h6, h7⟩ := h
  have k : ∀ {a : Addr} {v : Value}, W.cell? a = some v → w'.cell? a = some v := fun {a v} h => by rw [hb.cell (World.block_lt_of_cell? W _ h)]; exact h
  exact ⟨k q0, k q1, k q2, k q3, k q4, k q5, k q6, k q7, h6.trans (hb.mono h7), Nat.le_trans h7 hb.size⟩
set_option maxRecDepth 100000 in
set_option maxHeartbeats 1600000 in
theorem eqBindS_same (a b : Option Addr) (ca cb : Nat) (L : List B4) (w : World) (hr : RdBind w a L) (hq : RdBind w b L) (hm : L.length ≤ 2097152) :
    Calls Try.prog 23 #[.slice a L.length ca, .slice b L.length cb] w fun e w' =>
      e = .returned (.bool true) ∧ Below w.heap.size w w' := by
  obtain ⟨n, hN⟩ : ∃ n, n = L.length := ⟨_, rfl⟩
  rw [← hN] at hm ⊢
  have HN := hide hN
  clear hN
  have hnn : ((n : Int) != (n : Int)) = false := by simp
  go_enter Try.func23, Try.ntmps23
  go_wp2
  go_loopw [5] (fun i wr => ∃ (k : Nat), k ≤ n ∧ i = .int .i64 k ∧ Below w.heap.size w wr) (fun i _ => n - (intOf i).toNat)
  case atStart => exact ⟨0, Nat.zero_le _, rfl, Below.refl _ _⟩
  case round =>
    obtain ⟨k, hk, rfl, hbel⟩ := hrel
    by_cases hlt : k < n
    · obtain ⟨b1, o1, e1, hbw1, hc1⟩ := RdBind.cells hr (by rw [← HN.out]; omega)
      obtain ⟨b2, o2, e2, hbw2, hc2⟩ := RdBind.cells hq (by rw [← HN.out]; omega)
      obtain ⟨c0, c1, c2, c3⟩ := hc1 k (by rw [← HN.out]; exact hlt)
      obtain ⟨d0, d1, d2, d3⟩ := hc2 k (by rw [← HN.out]; exact hlt)
      clear hc1 hc2
      subst e1 e2
      rw [← hbel.cell (p := ⟨b1, o1 + k * 4, none⟩) hbw1] at c0
      rw [← hbel.cell (p := ⟨b2, o2 + k * 4, none⟩) hbw2] at d0
      rw [← hbel.cell (p := ⟨b1, o1 + k * 4 + 1, none⟩) hbw1] at c1
      rw [← hbel.cell (p := ⟨b2, o2 + k * 4 + 1, none⟩) hbw2] at d1
      rw [← hbel.cell (p := ⟨b1, o1 + k * 4 + 2, none⟩) hbw1] at c2
      rw [← hbel.cell (p := ⟨b2, o2 + k * 4 + 2, none⟩) hbw2] at d2
      rw [← hbel.cell (p := ⟨b1, o1 + k * 4 + 3, none⟩) hbw1] at c3
      rw [← hbel.cell (p := ⟨b2, o2 + k * 4 + 3, none⟩) hbw2] at d3
      generalize (eAt L k).N = N at c0 d0
      generalize (eAt L k).V.K = VK at c1 d1
      generalize (eAt L k).V.N = VN at c2 d2
      generalize (eAt L k).V.S = VS at c3 d3
      go_wp2_with fail
      go_region_held3 (fun W => W.cell? ⟨b1, o1 + k * 4, none⟩ = some (.string N) ∧ W.cell? ⟨b1, o1 + k * 4 + 1, none⟩ = some (.int .i64 VK) ∧ W.cell? ⟨b1, o1 + k * 4 + 2, none⟩ = some (.int .i64 VN) ∧ W.cell? ⟨b1, o1 + k * 4 + 3, none⟩ = some (.string VS) ∧ W.cell? ⟨b2, o2 + k * 4, none⟩ = some (.string N) ∧ W.cell? ⟨b2, o2 + k * 4 + 1, none⟩ = some (.int .i64 VK) ∧ W.cell? ⟨b2, o2 + k * 4 + 2, none⟩ = some (.int .i64 VN) ∧ W.cell? ⟨b2, o2 + k * 4 + 3, none⟩ = some (.string VS) ∧ Below w.heap.size w W ∧ w.heap.size ≤ W.heap.size) (first | exact ⟨c0, c1, c2, c3, d0, d1, d2, d3, hbel.drew, hbel.size⟩ | exact keepBind (by assumption) (by assumption))
        (first | (go_at_call 64; refine (eqBind_same _ _ _ _ _).mono ?_; rintro e w2 ⟨rfl, hb⟩))
      all_goals
        obtain ⟨-, -, -, -, -, -, -, -, hB2, -⟩ : w2.cell? ⟨b1, o1 + k * 4, none⟩ = some (.string N) ∧ w2.cell? ⟨b1, o1 + k * 4 + 1, none⟩ = some (.int .i64 VK) ∧ w2.cell? ⟨b1, o1 + k * 4 + 2, none⟩ = some (.int .i64 VN) ∧ w2.cell? ⟨b1, o1 + k * 4 + 3, none⟩ = some (.string VS) ∧ w2.cell? ⟨b2, o2 + k * 4, none⟩ = some (.string N) ∧ w2.cell? ⟨b2, o2 + k * 4 + 1, none⟩ = some (.int .i64 VK) ∧ w2.cell? ⟨b2, o2 + k * 4 + 2, none⟩ = some (.int .i64 VN) ∧ w2.cell? ⟨b2, o2 + k * 4 + 3, none⟩ = some (.string VS) ∧ Below w.heap.size w w2 ∧ w.heap.size ≤ w2.heap.size := by assumption
        go_wp2
        go_roundw
        case rel => exact ⟨k + 1, by omega, by go_num, hB2⟩
        case measure => simp [intOf]; omega
    · go_wp2
      go_ret
      exact ⟨rfl, hbel⟩
end Go.Proofs.Ytfgigcdfmkfkjaa
/-
  A bind that was just laid, cell by cell.
-/
namespace Go.Proofs.Ytfgigcdfmkfkjaa
open Go.RowKit
set_option linter.unusedVariables false

theorem src4 (W : World) (x : B4) : ∀ j u, (x.cs)[j]? = some u → (W.alloc (.cells #[.string x.N, .int .i64 x.V.K, .int .i64 x.V.N, .string x.V.S] 107)).cell? ((⟨W.heap.size, 0, none⟩ : Addr).add j) = some u := by
  intro j u hj
  rw [Addr.add_lit, Nat.zero_add]
  have hb : (W.alloc (.cells #[.string x.N, .int .i64 x.V.K, .int .i64 x.V.N, .string x.V.S] 107)).heap[W.heap.size]? = some (.cells #[.string x.N, .int .i64 x.V.K, .int .i64 x.V.N, .string x.V.S] 107 (0, 0)) := by rw [heap_alloc_new]
  rw [cell_of_row _ _ j _ _ (0, 0) hb, ← hj]
  simp [B4.cs]
theorem one4 (x : B4) : ∀ u ∈ x.cs, u.oneCell' = true := by
  intro u hu
  simp only [B4.cs, List.mem_cons, List.not_mem_nil, or_false] at hu
  rcases hu with rfl | rfl | rfl | rfl <;> rfl
end Go.Proofs.Ytfgigcdfmkfkjaa
/-
  What the tested functions that hold an argument against a value answer: stepM.
-/
namespace Go.Proofs.Ytfgigcdfmkfkjaa
open Go.RowKit
set_option linter.unusedVariables false

theorem below_2boxN (w : World) (o p : Obj) (n : Nat) : Below w.heap.size w (((w.alloc o).alloc p).drewN n) :=
  (((Below.refl w.heap.size w).alloc (Nat.le_refl _) o).alloc (by simp) p).trans ⟨rfl, rfl, rfl, Nat.le_refl _, fun _ _ => rfl⟩

set_option maxRecDepth 100000 in
theorem clip_any (a : Option Addr) (cap : Nat) (M : List B4) (w : World) (hr : RdBind w a M) (hc : M.length ≤ cap) (hm : M.length ≤ 2097152) :
    Calls Try.prog 99 #[.slice a M.length cap] w fun e w' => (∃ a', e = .returned (.slice a' M.length M.length) ∧ RdBind w a' M) ∧ w' = w := by
  go_enter Try.func99, Try.ntmps99
  go_wp2
  go_ret
  exact ⟨⟨a, rfl, hr⟩, rfl⟩

/-- the list of binds on the way: the caller's own, without spare room, or one of the call's own -/
def BL (base : Nat) (W : World) (a : Option Addr) (cap : Nat) (M : List B4) : Prop :=
  RdBind W a M ∧ (cap = M.length ∧ (a = none → M.length = 0) ∨ W.ownsRow base 107 4 (.slice a M.length cap) M.length (rowOf B4.cs M))
theorem BL.below {base : Nat} {W W' : World} {a : Option Addr} {cap : Nat} {M : List B4} (h : BL base W a cap M) (hb : Below W.heap.size W W') : BL base W' a cap M :=
  ⟨h.1.below hb, h.2.imp id (fun h => ownsRow_below' h hb)⟩

set_option maxRecDepth 100000 in
set_option maxHeartbeats 1600000 in
theorem matchAny_any (K : Int) (S : ByteArray) (V u : V3) (v : Value) (w : World) :
    Calls Try.prog 133 #[.agg #[.int .i64 K, .string S, .int .i64 V.K, .int .i64 V.N, .string V.S], .agg #[.int .i64 u.K, .int .i64 u.N, .string u.S], v] w fun e w' =>
      e = .returned (.tuple #[v, .bool true]) ∧ Below w.heap.size w w' := by
  go_enter Try.func133, Try.ntmps133
  go_wp2
  go_returns
  exact ⟨rfl, by go_grown⟩

set_option maxRecDepth 100000 in
set_option maxHeartbeats 1600000 in
theorem matchVal_any (K : Int) (S : ByteArray) (V u : V3) (v : Value) (w : World) :
    Calls Try.prog 132 #[.agg #[.int .i64 K, .string S, .int .i64 V.K, .int .i64 V.N, .string V.S], .agg #[.int .i64 u.K, .int .i64 u.N, .string u.S], v] w fun e w' =>
      e = .returned (.tuple #[v, .bool (decide (V = u))]) ∧ Below w.heap.size w w' := by
  rcases v3_cases V u with rfl | ⟨hne, hv⟩
  · have k1 : (V.K == V.K) = true := by simp
    have k2 : (V.N == V.N) = true := by simp
    have k3 : (V.S.toList == V.S.toList) = true := by simp
    rw [decide_eq_true rfl]
    go_enter Try.func132, Try.ntmps132
    go_wp2
    go_quiet (fail)
    go_wp2
    go_returns
    exact ⟨rfl, below_2boxN _ _ _ _⟩
  · rw [decide_eq_false hne]
    clear hne
    rcases hv with k1 | ⟨k1, k2⟩ | ⟨k1, k2, k3⟩
    all_goals
      go_enter Try.func132, Try.ntmps132
      go_wp2
      go_quiet (fail)
      go_wp2
      go_returns
      exact ⟨rfl, below_2boxN _ _ _ _⟩

theorem ownsRow_lowK {w : World} {base base' size n : Nat} {e : TypeId} {v : Value} {xs : List Value} (h : w.ownsRow base e size v n xs) (hb : base' ≤ base) : w.ownsRow base' e size v n xs := by
  refine ⟨h.1, ?_⟩
  rcases h.2 with h2 | ⟨g, cap, cur, h1, hb', rest⟩
  · exact .inl h2
  · exact .inr ⟨g, cap, cur, h1, Nat.le_trans hb hb', rest⟩
def GivesM (e : Ending) (w' : World) (base : Nat) (w : World) (r : List B4 × Bool) : Prop := ∃ a' cap', e = .returned (.tuple #[.slice a' r.1.length cap', .bool r.2]) ∧ BL base w' a' cap' r.1 ∧ Below base w w'
theorem rdK_src {α : Type} [Inhabited α] {f : α → List Value} {k : Nat} (hk : ∀ x, (f x).length = k) (hp : 0 < k) {w : World} {b : Addr} {L : List α} (h : RdK f k w (some b) L) : ∀ j u, (rowOf f L)[j]? = some u → w.cell? (b.add j) = some u := by
  intro j u hj
  have hl : j < L.length * k := by rw [← rowOf_length hk]; exact (List.getElem?_eq_some_iff.1 hj).1
  have hi : j / k < L.length := (Nat.div_lt_iff_lt_mul hp).2 hl
  have hr : j % k < k := Nat.mod_lt _ hp
  have ej : j = (j / k) * k + j % k := (Nat.div_add_mod' j k).symm
  obtain ⟨b', off, e, hc⟩ := h (j / k) hi
  simp only [Option.some.injEq] at e
  subst e
  rw [ej, rowOf_get hk L (j / k) (j % k) hi hr, ← eAt_in hi] at hj
  have := hc (j % k) u hj
  rw [Addr.add_lit]
  rw [Nat.add_assoc, ← ej] at this
  exact this
set_option maxRecDepth 100000 in
set_option maxHeartbeats 3200000 in
theorem matchVar_any (S : ByteArray) (V u : V3) (a : Option Addr) (cap base : Nat) (M : List B4) (w : World) (hbase : base ≤ w.heap.size) (h : BL base w a cap M) (hs : ∀ x ∈ M, x.small) (hm : M.length ≤ 2000000) :
    Calls Try.prog 131 #[.agg #[.int .i64 1, .string S, .int .i64 V.K, .int .i64 V.N, .string V.S], .agg #[.int .i64 u.K, .int .i64 u.N, .string u.S], .slice a M.length cap] w fun e w' =>
      GivesM e w' base w (stepM M ⟨1, S, V⟩ u) := by
  obtain ⟨i0, hi, hz0, hz1, hz2⟩ := info_parts Try.info107
  have b0 := below_al w (.cells #[.int .i64 1, .string S, .int .i64 V.K, .int .i64 V.N, .string V.S] 157)
  have b1 := b0.alloc b0.size (.cells #[.int .i64 u.K, .int .i64 u.N, .string u.S] 105)
  have hA := box_old (boxk_new w #[.int .i64 1, .string S, .int .i64 V.K, .int .i64 V.N, .string V.S] 157) (by simp) (.cells #[.int .i64 u.K, .int .i64 u.N, .string u.S] 105)
  have hU := boxk_new (w.alloc (.cells #[.int .i64 1, .string S, .int .i64 V.K, .int .i64 V.N, .string V.S] 157)) #[.int .i64 u.K, .int .i64 u.N, .string u.S] 105
  simp only [World.size_alloc] at hU
  have h1 := h.below b1
  have hz : w.heap.size + 2 ≤ ((w.alloc (.cells #[.int .i64 1, .string S, .int .i64 V.K, .int .i64 V.N, .string V.S] 157)).alloc (.cells #[.int .i64 u.K, .int .i64 u.N, .string u.S] 105)).heap.size := by simp
  obtain ⟨n, hN⟩ : ∃ n, n = M.length := ⟨_, rfl⟩
  have HBO := hide (fun W (h : RdBind W a M) => implBindOf_any a cap M S W h hs (by omega))
  rw [← hN] at HBO hm ⊢
  have HN := hide hN
  clear hN hs h
  cases hb : bindO M S with
  | some v =>
    rw [hb] at HBO
    rw [stepM_K1 hb]
    clear hb
    simp only [bindA] at HBO
    obtain ⟨r, hr⟩ : ∃ r : Bool, r = decide (v = u) := ⟨_, rfl⟩
    rw [← hr]
    go_enter Try.func131, Try.ntmps131
    go_wp2_with fail
    refine (HBO.out _ h1.1).mono ?_
    generalize (w.alloc (.cells #[.int .i64 1, .string S, .int .i64 V.K, .int .i64 V.N, .string V.S] 157)).alloc (.cells #[.int .i64 u.K, .int .i64 u.N, .string u.S] 105) = w1 at b1 hA hU h1 hz
    rintro e w2 ⟨rfl, hb2⟩
    have HA := hide (box_below hA hb2 (by omega))
    have HU := hide (box_below hU hb2 (by omega))
    have h2 := h1.below hb2
    have hB2 : Below w.heap.size w w2 := b1.trans (hb2.mono b1.size)
    have hz2' : w.heap.size + 2 ≤ w2.heap.size := Nat.le_trans hz hb2.size
    clear hA hU h1 hb2 b0 b1 HBO
    obtain ⟨u0, u1, u2, -, -, -⟩ := box_cell (box_old HU.out (by omega) (.cells #[.int .i64 v.K, .int .i64 v.N, .string v.S] 105))
    obtain ⟨x0, x1, x2, -, -, -⟩ := box_cell (boxk_new w2 #[.int .i64 v.K, .int .i64 v.N, .string v.S] 105)
    have b3 := hB2.alloc hB2.size (.cells #[.int .i64 v.K, .int .i64 v.N, .string v.S] 105)
    have h3 := h2.below (below_al w2 (.cells #[.int .i64 v.K, .int .i64 v.N, .string v.S] 105))
    have HG : Hid (∀ n', GivesM (.returned (.tuple #[.slice a n cap, .bool r])) ((w2.alloc (.cells #[.int .i64 v.K, .int .i64 v.N, .string v.S] 105)).drewN n') base w (M, r)) := fun n' =>
      ⟨a, cap, by rw [HN.out], ⟨h3.1.heap rfl, h3.2⟩, (b3.mono hbase).trans ⟨rfl, rfl, rfl, Nat.le_refl _, fun _ _ => rfl⟩⟩
    clear h2 hB2
    rcases v3_cases v u with he | ⟨hne, hv⟩
    · obtain rfl : r = true := by rw [hr]; simpa using he
      subst he
      clear hr
      have k1 : (v.K == v.K) = true := by simp
      have k2 : (v.N == v.N) = true := by simp
      have k3 : (v.S.toList == v.S.toList) = true := by simp
      go_wp2
      go_quiet (fail)
      go_wp2
      go_returns
      exact HG.out _
    · obtain rfl : r = false := by rw [hr]; simpa using hne
      clear hr hne
      rcases hv with k1 | ⟨k1, k2⟩ | ⟨k1, k2, k3⟩
      all_goals
        go_wp2
        go_quiet (fail)
        go_wp2
        go_returns
        exact HG.out _
  | none =>
    rw [hb] at HBO
    rw [stepM_K1n hb]
    clear hb
    simp only [bindA] at HBO
    go_enter Try.func131, Try.ntmps131
    go_wp2_with fail
    refine (HBO.out _ h1.1).mono ?_
    generalize (w.alloc (.cells #[.int .i64 1, .string S, .int .i64 V.K, .int .i64 V.N, .string V.S] 157)).alloc (.cells #[.int .i64 u.K, .int .i64 u.N, .string u.S] 105) = w1 at b1 hA hU h1 hz
    rintro e w2 ⟨rfl, hb2⟩
    have HA := hide (box_below hA hb2 (by omega))
    have HU := hide (box_below hU hb2 (by omega))
    have h2 := h1.below hb2
    have hB2 : Below w.heap.size w w2 := b1.trans (hb2.mono b1.size)
    have hz2' : w.heap.size + 2 ≤ w2.heap.size := Nat.le_trans hz hb2.size
    clear hA hU h1 hb2 b0 b1 HBO
    have b3 := hB2.alloc hB2.size (.cells #[.int .i64 0, .int .i64 0, .string ⟨#[]⟩] 105)
    have hz3 : w.heap.size + 2 ≤ (w2.alloc (.cells #[.int .i64 0, .int .i64 0, .string ⟨#[]⟩] 105)).heap.size := by simp; omega
    have h3 := h2.below (below_al w2 (.cells #[.int .i64 0, .int .i64 0, .string ⟨#[]⟩] 105))
    have s1 := boxk_cell (box_old HA.out (by omega) (.cells #[.int .i64 0, .int .i64 0, .string ⟨#[]⟩] 105)) 1 _ rfl
    obtain ⟨u0, u1, u2, -, -, -⟩ := box_cell (box_old HU.out (by omega) (.cells #[.int .i64 0, .int .i64 0, .string ⟨#[]⟩] 105))
    have HZ0 := hide (by exact (rfl : w2.alloc (.cells #[.int .i64 0, .int .i64 0, .string ⟨#[]⟩] 105) = w2.alloc (.cells #[.int .i64 0, .int .i64 0, .string ⟨#[]⟩] 105)))
    obtain ⟨w3, hw3⟩ : ∃ w3, w3 = w2.alloc (.cells #[.int .i64 0, .int .i64 0, .string ⟨#[]⟩] 105) := ⟨_, rfl⟩
    have b4 := b3.alloc b3.size (.cells #[.string S, .int .i64 u.K, .int .i64 u.N, .string u.S] 107)
    have h4 := h3.below (below_al (w2.alloc (.cells #[.int .i64 0, .int .i64 0, .string ⟨#[]⟩] 105)) (.cells #[.string S, .int .i64 u.K, .int .i64 u.N, .string u.S] 107))
    have HSrc := hide (src4 (w2.alloc (.cells #[.int .i64 0, .int .i64 0, .string ⟨#[]⟩] 105)) ⟨S, u⟩)
    have HL : Hid ((rowOf B4.cs M).length = n * 4) := by unfold Hid; rw [rowOf_length B4.len, HN.out]
    have HApp : Hid (rowOf B4.cs M ++ B4.cs ⟨S, u⟩ = rowOf B4.cs (M ++ [⟨S, u⟩])) := by unfold Hid; rw [rowOf_append]; simp [rowOf]
    clear h2 hB2 h3 HZ0 hw3
    have hz5 : w.heap.size ≤ ((w2.alloc (.cells #[.int .i64 0, .int .i64 0, .string ⟨#[]⟩] 105)).alloc (.cells #[.string S, .int .i64 u.K, .int .i64 u.N, .string u.S] 107)).heap.size := b4.size
    rcases h4 with ⟨rd4, hcap | ho4⟩
    · obtain ⟨hc1, hc2⟩ := hcap
      have HNone : Hid (a = none → n = 0 ∧ cap = 0) := fun e => by have := hc2 e; rw [HN.out, hc1]; exact ⟨this, this⟩
      have hcn : cap = n := by rw [hc1, HN.out]
      subst hcn
      have HOld : Hid (∀ b, a = some b → ∀ j x, (rowOf B4.cs M)[j]? = some x → ((w2.alloc (.cells #[.int .i64 0, .int .i64 0, .string ⟨#[]⟩] 105)).alloc (.cells #[.string S, .int .i64 u.K, .int .i64 u.N, .string u.S] 107)).cell? (b.add j) = some x) := fun b e => by subst e; exact rdK_src B4.len (by decide) rd4
      clear hc1 hc2 rd4
      go_wp2_with (at_builtin; refine wpList_append_grows _ rfl (.tmp 22) (.tmp 27) 28 rfl 107 i0 (.agg #[.string ⟨#[]⟩, .int .i64 0, .int .i64 0, .string ⟨#[]⟩]) 4 48 Try.underlying28 hi hz0 hz1 hz2 rfl (by omega) a cap cap (rowOf B4.cs M) rfl HNone.out HL.out HOld.out ⟨(w2.alloc (.cells #[.int .i64 0, .int .i64 0, .string ⟨#[]⟩] 105)).heap.size, 0, none⟩ 1 1 (B4.cs ⟨S, u⟩) ?hx rfl HSrc.out (one4 _) (by omega) (by unfold maxLen; omega) (by omega) ?_)
      case hx => simp [Act.eval]
      intro v' w5 ho5 hg5
      rw [HApp.out] at ho5
      obtain ⟨a5, c5, rfl, rd5, hn5, -, -⟩ := rdK_owns B4.len (by decide) ho5
      have HG : Hid (GivesM (.returned (.tuple #[.slice a5 (M ++ [(⟨S, u⟩ : B4)]).length c5, .bool true])) w5 base w (M ++ [(⟨S, u⟩ : B4)], true)) := by
        refine ⟨a5, c5, rfl, ⟨rd5, .inr ?_⟩, (b4.mono hbase).grown hg5 (by omega) (fun k hk => by cases hk)⟩
        rw [hn5] at ho5
        exact ownsRow_lowK ho5 (by omega)
      clear ho5 hg5 rd5 hn5
      go_wp2
      go_returns
      exact HG.out
    · have HO4 := hide ho4
      have hn4 : (Value.slice a M.length cap) = .slice a n cap := by rw [HN.out]
      rw [hn4, ← HN.out] at HO4
      clear ho4 rd4 hn4
      go_wp2_with (at_builtin; refine wpList_append_lies _ rfl (.tmp 22) (.tmp 27) 28 rfl base 107 i0 (.agg #[.string ⟨#[]⟩, .int .i64 0, .int .i64 0, .string ⟨#[]⟩]) 4 48 Try.underlying28 hi hz0 hz1 hz2 rfl (by omega) (.slice a n cap) n (rowOf B4.cs M) rfl HO4.out ⟨(w2.alloc (.cells #[.int .i64 0, .int .i64 0, .string ⟨#[]⟩] 105)).heap.size, 0, none⟩ 1 1 (B4.cs ⟨S, u⟩) ?hx rfl HSrc.out (one4 _) (by omega) (by unfold maxLen; omega) (by omega) (by omega) _ rfl ?_)
      case hx => simp [Act.eval]
      intro g5 c5 w5 ho5 hg5 hat5 hlt5
      rw [HApp.out] at ho5
      obtain ⟨a5, c6, e5, rd5, hn5, -, -⟩ := rdK_owns B4.len (by decide) ho5
      simp only [Value.slice.injEq] at e5
      obtain ⟨rfl, e6, rfl⟩ := e5
      have HG : Hid (GivesM (.returned (.tuple #[.slice (some ⟨g5, 0, none⟩) (n + 1) c5, .bool true])) w5 base w (M ++ [(⟨S, u⟩ : B4)], true)) := by
        refine ⟨some ⟨g5, 0, none⟩, c5, by rw [hn5], ⟨rd5, .inr ?_⟩, (b4.mono hbase).grown hg5 (by omega) (fun k hk => (HO4.out.lt k hk).1)⟩
        rw [hn5] at ho5
        exact ho5
      clear ho5 hg5 rd5 hn5 e6 HO4 hat5 hlt5
      go_wp2
      go_returns
      exact HG.out
end Go.Proofs.Ytfgigcdfmkfkjaa
