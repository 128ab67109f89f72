/-
  The contracts of l8Any and DrawActOk.
-/
import Derived.Test.YtfgigcdfmkfkjaaJoined4
namespace Go.Proofs.Ytfgigcdfmkfkjaa
open Go.RowKit
set_option linter.unusedVariables false

set_option maxRecDepth 100000 in
set_option maxHeartbeats 12800000 in
theorem l8Any_any (B q : Nat) (w : World) (hc : Cur B w q) :
    Calls Try.prog 148 #[.pointer (some ⟨q, 0, none⟩)] w (DrawnT w B q 3) := by
  obtain ⟨i0, hi, hz0, hz1, hz2⟩ := info_parts Try.info206
  have hq := hc.lt
  have hB := hc.1
  go_enter Try.func148, Try.ntmps148
  go_wp2_with fail
  have G0 := grown_alloc w (.cells #[.int .i64 0, .string ⟨#[]⟩, .slice none 0 0, .int .i64 0, .string ⟨#[]⟩] 166) q
  have HR0 := hide (boxk_new w #[.int .i64 0, .string ⟨#[]⟩, .slice none 0 0, .int .i64 0, .string ⟨#[]⟩] 166)
  have c0 : Cur B (w.alloc (.cells #[.int .i64 0, .string ⟨#[]⟩, .slice none 0 0, .int .i64 0, .string ⟨#[]⟩] 166)) q := hc.keep (World.grownBy_alloc w _ none) (by simp) (by simp)
  have z0 : (w.alloc (.cells #[.int .i64 0, .string ⟨#[]⟩, .slice none 0 0, .int .i64 0, .string ⟨#[]⟩] 166)).heap.size = w.heap.size + 1 := by simp
  generalize w.alloc (.cells #[.int .i64 0, .string ⟨#[]⟩, .slice none 0 0, .int .i64 0, .string ⟨#[]⟩] 166) = w0 at G0 HR0 c0 z0 ⊢
  have l1 : w.heap.size < w0.heap.size := by omega
  refine (l8Draw_any B q 2 (by omega) (by omega) _ c0).mono ?_
  rintro e w2 ⟨K, nm, v, L, N, un, rfl, hL, hsn, hsu, hsm, o2, c2, g2⟩
  have G2 : w.grownBy w2 (some q) := grown_trans G0 g2
  have HR2 := hide (box_grown HR0.out g2 (by omega))
  have s2 := g2.size
  clear g2 c0 G0 HR0
  obtain ⟨av, cv, hv⟩ : ∃ a c, v = .slice a L.length c := by
    rcases o2.2 with ⟨h, h0⟩ | ⟨g, cp, _, h, _⟩
    · exact ⟨_, 0, by rw [h0]; exact h⟩
    · exact ⟨_, _, h⟩
  subst hv
  have D0 : DrwT w B q w0.heap.size w2.heap.size K nm (.slice av L.length cv) L N un (w2.alloc (.cells #[.int .i64 K, .string nm, .slice av L.length cv, .int .i64 N, .string un] 166)) :=
    ⟨c2.keep (World.grownBy_alloc w2 _ none) (by simp) (by simp), boxk_new w2 _ _, o2.alloc _, (fun e => by have := (o2.lt _ e).2; omega), grown_trans G2 (grown_alloc w2 _ q), ⟨hq, l1, by omega⟩, box_alloc HR2.out _, hsm, hsn, hsu, (by simp; omega)⟩
  clear G2 HR2 o2 c2 hsm hsn hsu
  go_wp2_with fail
  refine (l1Below_any B q 10 _ D0.cur (by omega) (by omega)).mono ?_
  rintro e w3 ⟨x, rfl, x0, x1, c3, g3⟩
  have D3 := D0.draws c3 g3
  obtain ⟨F, HF⟩ : ∃ F, Hid (w2.heap.size = F) := ⟨_, rfl⟩
  rw [HF.out] at D3 ⊢
  obtain ⟨b, Hb⟩ : ∃ b, Hid (w0.heap.size = b) := ⟨_, rfl⟩
  rw [Hb.out] at D3
  clear D0 c3 g3 HF Hb z0 l1 s2
  have HD := hide D3
  clear D3
  by_cases h0 : x = 0
  · subst h0
    go_wp2_with fail
    refine (l1Below_any B q 8 _ HD.out.cur (by omega) (by omega)).mono ?_
    rintro e w4 ⟨K', rfl, -, -, c4, g4⟩
    have D4 := HD.out.draws c4 g4
    have HD5 := hide (D4.kind K')
    have b0 := boxk_cell D4.box 0 _ rfl
    have bf0 := boxk_frozen D4.box 0
    clear D4 HD c4 g4
    go_upto_region 13 with fail
    generalize w4.setCell ⟨F, 0, none⟩ (.int .i64 K') = w8 at HD5 ⊢
    clear b0 bf0
    have b0 := boxk_cell HD5.out.box 0 _ rfl
    have b1 := boxk_cell HD5.out.box 1 _ rfl
    have b2 := boxk_cell HD5.out.box 2 _ rfl
    have b3 := boxk_cell HD5.out.box 3 _ rfl
    have b4 := boxk_cell HD5.out.box 4 _ rfl
    have r0 := boxk_cell HD5.out.res 0 _ rfl
    have r1 := boxk_cell HD5.out.res 1 _ rfl
    have r2 := boxk_cell HD5.out.res 2 _ rfl
    have r3 := boxk_cell HD5.out.res 3 _ rfl
    have r4 := boxk_cell HD5.out.res 4 _ rfl
    have rf0 := boxk_frozen HD5.out.res 0
    have rf1 := boxk_frozen HD5.out.res 1
    have rf2 := boxk_frozen HD5.out.res 2
    have rf3 := boxk_frozen HD5.out.res 3
    have rf4 := boxk_frozen HD5.out.res 4
    have hFl := HD5.out.far
    go_wp2
    refine box5_post HD5.out.res (fun w9 h9 gr => ?_)
    clear b0 b1 b2 b3 b4 r0 r1 r2 r3 r4 rf0 rf1 rf2 rf3 rf4
    have d0 := boxk_cell h9 0 _ rfl
    have d1 := boxk_cell h9 1 _ rfl
    have d2 := boxk_cell h9 2 _ rfl
    have d3 := boxk_cell h9 3 _ rfl
    have d4 := boxk_cell h9 4 _ rfl
    exact bodyPost_ret (v := .agg #[.int .i64 K', .string nm, .slice av L.length cv, .int .i64 N, .string un]) (by simp [results, Try.results148, go_sem, d0, d1, d2, d3, d4]) rfl (HD5.out.done (by omega) gr)
  · have k0 : (x == 0) = false := by simpa using h0
    by_cases h1 : x = 1
    · subst h1
      go_wp2_with fail
      have hqr := HD.out.cur.lt
      refine (l1Str_any B q w3.heap.size [⟨#[]⟩, ⟨#[65]⟩, ⟨#[120]⟩] 3 _ (HD.out.alloc _).cur (by decide) (by decide) (by omega) (cells_strs w3 9 _)).mono ?_
      rintro e w4 ⟨nm', rfl, hx, c4, g4⟩
      have hss : nm'.size ≤ 100 := (by simp only [List.mem_cons, List.not_mem_nil, or_false] at hx; rcases hx with rfl | rfl | rfl <;> decide)
      have D4 := (HD.out.alloc _).draws c4 g4
      have HD5 := hide (D4.name nm' hss)
      have b1 := boxk_cell D4.box 1 _ rfl
      have bf1 := boxk_frozen D4.box 1
      clear D4 HD c4 g4 hx hqr hss
      go_upto_region 13 with fail
      generalize w4.setCell ⟨F, 1, none⟩ (.string nm') = w8 at HD5 ⊢
      clear b1 bf1
      have b0 := boxk_cell HD5.out.box 0 _ rfl
      have b1 := boxk_cell HD5.out.box 1 _ rfl
      have b2 := boxk_cell HD5.out.box 2 _ rfl
      have b3 := boxk_cell HD5.out.box 3 _ rfl
      have b4 := boxk_cell HD5.out.box 4 _ rfl
      have r0 := boxk_cell HD5.out.res 0 _ rfl
      have r1 := boxk_cell HD5.out.res 1 _ rfl
      have r2 := boxk_cell HD5.out.res 2 _ rfl
      have r3 := boxk_cell HD5.out.res 3 _ rfl
      have r4 := boxk_cell HD5.out.res 4 _ rfl
      have rf0 := boxk_frozen HD5.out.res 0
      have rf1 := boxk_frozen HD5.out.res 1
      have rf2 := boxk_frozen HD5.out.res 2
      have rf3 := boxk_frozen HD5.out.res 3
      have rf4 := boxk_frozen HD5.out.res 4
      have hFl := HD5.out.far
      go_wp2
      refine box5_post HD5.out.res (fun w9 h9 gr => ?_)
      clear b0 b1 b2 b3 b4 r0 r1 r2 r3 r4 rf0 rf1 rf2 rf3 rf4
      have d0 := boxk_cell h9 0 _ rfl
      have d1 := boxk_cell h9 1 _ rfl
      have d2 := boxk_cell h9 2 _ rfl
      have d3 := boxk_cell h9 3 _ rfl
      have d4 := boxk_cell h9 4 _ rfl
      exact bodyPost_ret (v := .agg #[.int .i64 K, .string nm', .slice av L.length cv, .int .i64 N, .string un]) (by simp [results, Try.results148, go_sem, d0, d1, d2, d3, d4]) rfl (HD5.out.done (by omega) gr)
    · have k1 : (x == 1) = false := by simpa using h1
      by_cases h2 : x = 2
      · subst h2
        go_wp2_with fail
        have hqr := HD.out.cur.lt
        refine (l1Int_any B q w3.heap.size [-1, 7, 8, 100001] 4 _ (HD.out.alloc _).cur (by decide) (by decide) (by omega) (cells_lit w3 3 _)).mono ?_
        rintro e w4 ⟨N', rfl, -, c4, g4⟩
        have D4 := (HD.out.alloc _).draws c4 g4
        have HD5 := hide (D4.num N')
        have b3 := boxk_cell D4.box 3 _ rfl
        have bf3 := boxk_frozen D4.box 3
        clear D4 HD c4 g4 hqr
        go_upto_region 13 with fail
        generalize w4.setCell ⟨F, 3, none⟩ (.int .i64 N') = w8 at HD5 ⊢
        clear b3 bf3
        have b0 := boxk_cell HD5.out.box 0 _ rfl
        have b1 := boxk_cell HD5.out.box 1 _ rfl
        have b2 := boxk_cell HD5.out.box 2 _ rfl
        have b3 := boxk_cell HD5.out.box 3 _ rfl
        have b4 := boxk_cell HD5.out.box 4 _ rfl
        have r0 := boxk_cell HD5.out.res 0 _ rfl
        have r1 := boxk_cell HD5.out.res 1 _ rfl
        have r2 := boxk_cell HD5.out.res 2 _ rfl
        have r3 := boxk_cell HD5.out.res 3 _ rfl
        have r4 := boxk_cell HD5.out.res 4 _ rfl
        have rf0 := boxk_frozen HD5.out.res 0
        have rf1 := boxk_frozen HD5.out.res 1
        have rf2 := boxk_frozen HD5.out.res 2
        have rf3 := boxk_frozen HD5.out.res 3
        have rf4 := boxk_frozen HD5.out.res 4
        have hFl := HD5.out.far
        go_wp2
        refine box5_post HD5.out.res (fun w9 h9 gr => ?_)
        clear b0 b1 b2 b3 b4 r0 r1 r2 r3 r4 rf0 rf1 rf2 rf3 rf4
        have d0 := boxk_cell h9 0 _ rfl
        have d1 := boxk_cell h9 1 _ rfl
        have d2 := boxk_cell h9 2 _ rfl
        have d3 := boxk_cell h9 3 _ rfl
        have d4 := boxk_cell h9 4 _ rfl
        exact bodyPost_ret (v := .agg #[.int .i64 K, .string nm, .slice av L.length cv, .int .i64 N', .string un]) (by simp [results, Try.results148, go_sem, d0, d1, d2, d3, d4]) rfl (HD5.out.done (by omega) gr)
      · have k2 : (x == 2) = false := by simpa using h2
        by_cases h3 : x = 3
        · subst h3
          go_wp2_with fail
          have hqr := HD.out.cur.lt
          refine (l1Str_any B q w3.heap.size [⟨#[]⟩, ⟨#[65]⟩, ⟨#[120]⟩] 3 _ (HD.out.alloc _).cur (by decide) (by decide) (by omega) (cells_strs w3 9 _)).mono ?_
          rintro e w4 ⟨un', rfl, hx, c4, g4⟩
          have hss : un'.size ≤ 100 := (by simp only [List.mem_cons, List.not_mem_nil, or_false] at hx; rcases hx with rfl | rfl | rfl <;> decide)
          have D4 := (HD.out.alloc _).draws c4 g4
          have HD5 := hide (D4.undo un' hss)
          have b4 := boxk_cell D4.box 4 _ rfl
          have bf4 := boxk_frozen D4.box 4
          clear D4 HD c4 g4 hx hqr hss
          go_upto_region 13 with fail
          generalize w4.setCell ⟨F, 4, none⟩ (.string un') = w8 at HD5 ⊢
          clear b4 bf4
          have b0 := boxk_cell HD5.out.box 0 _ rfl
          have b1 := boxk_cell HD5.out.box 1 _ rfl
          have b2 := boxk_cell HD5.out.box 2 _ rfl
          have b3 := boxk_cell HD5.out.box 3 _ rfl
          have b4 := boxk_cell HD5.out.box 4 _ rfl
          have r0 := boxk_cell HD5.out.res 0 _ rfl
          have r1 := boxk_cell HD5.out.res 1 _ rfl
          have r2 := boxk_cell HD5.out.res 2 _ rfl
          have r3 := boxk_cell HD5.out.res 3 _ rfl
          have r4 := boxk_cell HD5.out.res 4 _ rfl
          have rf0 := boxk_frozen HD5.out.res 0
          have rf1 := boxk_frozen HD5.out.res 1
          have rf2 := boxk_frozen HD5.out.res 2
          have rf3 := boxk_frozen HD5.out.res 3
          have rf4 := boxk_frozen HD5.out.res 4
          have hFl := HD5.out.far
          go_wp2
          refine box5_post HD5.out.res (fun w9 h9 gr => ?_)
          clear b0 b1 b2 b3 b4 r0 r1 r2 r3 r4 rf0 rf1 rf2 rf3 rf4
          have d0 := boxk_cell h9 0 _ rfl
          have d1 := boxk_cell h9 1 _ rfl
          have d2 := boxk_cell h9 2 _ rfl
          have d3 := boxk_cell h9 3 _ rfl
          have d4 := boxk_cell h9 4 _ rfl
          exact bodyPost_ret (v := .agg #[.int .i64 K, .string nm, .slice av L.length cv, .int .i64 N, .string un']) (by simp [results, Try.results148, go_sem, d0, d1, d2, d3, d4]) rfl (HD5.out.done (by omega) gr)
        · have k3 : (x == 3) = false := by simpa using h3
          by_cases h4 : x = 4
          · subst h4
            have hqr := HD.out.cur.lt
            have hS0 : ∀ k, k < 2 → ((w3.alloc (.cells #[.string ⟨#[]⟩, .string ⟨#[42]⟩] 9)).drew).cell? ⟨w3.heap.size, k, none⟩ = some (.string (([⟨#[]⟩, ⟨#[42]⟩] : List ByteArray).getD k ⟨#[]⟩)) := cells_strs w3 9 [⟨#[]⟩, ⟨#[42]⟩]
            have HS0 := hide hS0
            clear hS0
            have c3 := boxk_cell HD.out.box 2 _ rfl
            have c3a := boxk_cell (HD.out.alloc (.cells #[.string ⟨#[]⟩, .string ⟨#[42]⟩] 9)).box 2 _ rfl
            go_wp2_with fail
            go_region_law (first
              | (refine step_append_lies _ rfl (.tmp 34) (.tmp 43) 164 rfl b 206 i0 (.agg #[.string ⟨#[]⟩, .int .i64 0, .string ⟨#[]⟩, .int .i64 0, .int .i64 0, .string ⟨#[]⟩, .int .i64 0, .string ⟨#[]⟩, .int .i64 0, .int .i64 0, .string ⟨#[]⟩]) 11 128 Try.underlying164 hi hz0 hz1 hz2 rfl (by omega) (.slice av L.length cv) L.length (rowOf X11.cs L) (by simp [Act.eval]) (D6.alloc _).row ⟨w6.heap.size, 0, none⟩ 1 1 (X11.cs ⟨op, u1, u2⟩) (by simp [Act.eval]) rfl (src_row w6 #[.string op, .int .i64 u1.K, .string u1.S, .int .i64 u1.V.K, .int .i64 u1.V.N, .string u1.V.S, .int .i64 u2.K, .string u2.S, .int .i64 u2.V.K, .int .i64 u2.V.N, .string u2.V.S] 206) (one_x ⟨op, u1, u2⟩) (by omega) (by unfold maxLen; omega) (by omega) (by have := D6.bsz; simp; omega) _ rfl ?_; intro g cap w7 ho7 hg7 hat7 hlt7; obtain ⟨x1', y1', D7⟩ := (D6.alloc _).grew (u := ⟨op, u1, u2⟩) ⟨hop, hu1, hu2⟩ ho7 hg7 hat7 rfl)
              | (rw [if_pos (by simp [Region.wanted])]; go_simp; go_at_call 118; refine (l1Str_any B q w3.heap.size [⟨#[]⟩, ⟨#[42]⟩] 2 _ (HD.out.alloc _).drew.cur (by decide) (by decide) (by omega) HS0.out).mono ?_; rintro e w4 ⟨op, rfl, hx4, c4, g4⟩; have hop : op.size ≤ 1048576 := (by simp only [List.mem_cons, List.not_mem_nil, or_false] at hx4; rcases hx4 with rfl | rfl <;> decide); have D4 := (HD.out.alloc _).drew.draws c4 g4; have c4' := boxk_cell D4.box 2 _ rfl)
              | (rw [if_pos (by simp [Region.wanted])]; go_simp; go_at_call 158; (with_reducible show Calls _ _ _ w4 _); refine (l6Arg_any B q _ D4.cur).mono ?_; rintro e w5 ⟨u1, rfl, hu1, c5, g5⟩; have D5 := D4.draws c5 g5; have c5' := boxk_cell D5.box 2 _ rfl)
              | (rw [if_pos (by simp [Region.wanted])]; go_simp; go_at_call 158; (with_reducible show Calls _ _ _ w5 _); refine (l6Arg_any B q _ D5.cur).mono ?_; rintro e w6 ⟨u2, rfl, hu2, c6, g6⟩; have D6 := D5.draws c6 g6; have c6' := boxk_cell D6.box 2 _ rfl; have c6a := boxk_cell (D6.alloc (.cells #[.string op, .int .i64 u1.K, .string u1.S, .int .i64 u1.V.K, .int .i64 u1.V.N, .string u1.V.S, .int .i64 u2.K, .string u2.S, .int .i64 u2.V.K, .int .i64 u2.V.N, .string u2.V.S] 206)).box 2 _ rfl))
            all_goals
              have HD7 := hide D7
              clear D4 D5 D6 D7 HD HS0 c3 c3a c4' c5' c6' c6a x1' y1'
              generalize w7.setCell ⟨F, 2, none⟩ (.slice (some ⟨g, 0, none⟩) (L.length + 1) cap) = w8 at HD7 ⊢
              have b0 := boxk_cell HD7.out.box 0 _ rfl
              have b1 := boxk_cell HD7.out.box 1 _ rfl
              have b2 := boxk_cell HD7.out.box 2 _ rfl
              have b3 := boxk_cell HD7.out.box 3 _ rfl
              have b4 := boxk_cell HD7.out.box 4 _ rfl
              have r0 := boxk_cell HD7.out.res 0 _ rfl
              have r1 := boxk_cell HD7.out.res 1 _ rfl
              have r2 := boxk_cell HD7.out.res 2 _ rfl
              have r3 := boxk_cell HD7.out.res 3 _ rfl
              have r4 := boxk_cell HD7.out.res 4 _ rfl
              have rf0 := boxk_frozen HD7.out.res 0
              have rf1 := boxk_frozen HD7.out.res 1
              have rf2 := boxk_frozen HD7.out.res 2
              have rf3 := boxk_frozen HD7.out.res 3
              have rf4 := boxk_frozen HD7.out.res 4
              have hFl := HD7.out.far
              go_wp2
              refine box5_post HD7.out.res (fun w9 h9 gr => ?_)
              clear b0 b1 b2 b3 b4 r0 r1 r2 r3 r4 rf0 rf1 rf2 rf3 rf4
              have d0 := boxk_cell h9 0 _ rfl
              have d1 := boxk_cell h9 1 _ rfl
              have d2 := boxk_cell h9 2 _ rfl
              have d3 := boxk_cell h9 3 _ rfl
              have d4 := boxk_cell h9 4 _ rfl
              exact bodyPost_ret (v := .agg #[.int .i64 K, .string nm, .slice (some ⟨g, 0, none⟩) (L.length + 1) cap, .int .i64 N, .string un]) (by simp [results, Try.results148, go_sem, d0, d1, d2, d3, d4]) rfl (HD7.out.done (by simp; omega) gr)
          · have k4 : (x == 4) = false := by simpa using h4
            have b0 := boxk_cell HD.out.box 0 _ rfl
            have b1 := boxk_cell HD.out.box 1 _ rfl
            have b2 := boxk_cell HD.out.box 2 _ rfl
            have b3 := boxk_cell HD.out.box 3 _ rfl
            have b4 := boxk_cell HD.out.box 4 _ rfl
            have r0 := boxk_cell HD.out.res 0 _ rfl
            have r1 := boxk_cell HD.out.res 1 _ rfl
            have r2 := boxk_cell HD.out.res 2 _ rfl
            have r3 := boxk_cell HD.out.res 3 _ rfl
            have r4 := boxk_cell HD.out.res 4 _ rfl
            have rf0 := boxk_frozen HD.out.res 0
            have rf1 := boxk_frozen HD.out.res 1
            have rf2 := boxk_frozen HD.out.res 2
            have rf3 := boxk_frozen HD.out.res 3
            have rf4 := boxk_frozen HD.out.res 4
            have hFl := HD.out.far
            go_wp2
            refine box5_post HD.out.res (fun w9 h9 gr => ?_)
            clear b0 b1 b2 b3 b4 r0 r1 r2 r3 r4 rf0 rf1 rf2 rf3 rf4
            have d0 := boxk_cell h9 0 _ rfl
            have d1 := boxk_cell h9 1 _ rfl
            have d2 := boxk_cell h9 2 _ rfl
            have d3 := boxk_cell h9 3 _ rfl
            have d4 := boxk_cell h9 4 _ rfl
            exact bodyPost_ret (v := .agg #[.int .i64 K, .string nm, .slice av L.length cv, .int .i64 N, .string un]) (by simp [results, Try.results148, go_sem, d0, d1, d2, d3, d4]) rfl (HD.out.done (by omega) gr)

end Go.Proofs.Ytfgigcdfmkfkjaa
