/-
  The contracts of the draws of any pattern and any argument: some, whatever they are, with short texts.
-/
import Derived.Test.YtfgigcdfmkfkjaaJoined2
import Derived.Test.YtfgigcdfmkfkjaaJDrawA
namespace Go.Proofs.Ytfgigcdfmkfkjaa
open Go.RowKit
set_option linter.unusedVariables false

/-- a pattern on the way: its block F, its row of arguments in another block -/
structure DrwQ (w0 : World) (B q b F : Nat) (kd : ByteArray) (nt : Bool) (v : Value) (L : List A5) (W : World) : Prop where
  cur : Cur B W q
  box : W.heap[F]? = some (.cells #[.string kd, v, .bool nt] 79 (0, 0))
  row : W.ownsRow b 157 5 v L.length (rowOf A5.cs L)
  rne : v.ownBlock ≠ some F
  gr : w0.grownBy W (some q)
  far : q < w0.heap.size ∧ w0.heap.size < b ∧ w0.heap.size < F
  res : W.heap[w0.heap.size]? = some (.cells #[.string ⟨#[]⟩, .slice none 0 0, .bool false] 79 (0, 0))
  small : ∀ v ∈ L, v.small
  bsz : b ≤ W.heap.size
theorem DrwQ.lt {w0 W : World} {B q b F : Nat} {kd : ByteArray} {nt : Bool} {v : Value} {L : List A5} (h : DrwQ w0 B q b F kd nt v L W) : F < W.heap.size := (Array.getElem?_eq_some_iff.1 h.box).1
theorem DrwQ.ne {w0 W : World} {B q b F : Nat} {kd : ByteArray} {nt : Bool} {v : Value} {L : List A5} (h : DrwQ w0 B q b F kd nt v L W) {k : Nat} (hk : k ≤ w0.heap.size) : v.ownBlock ≠ some k := fun e => by have := (h.row.lt k e).1; have := h.far; omega
theorem DrwQ.drew {w0 W : World} {B q b F : Nat} {kd : ByteArray} {nt : Bool} {v : Value} {L : List A5} (h : DrwQ w0 B q b F kd nt v L W) : DrwQ w0 B q b F kd nt v L W.drew :=
  ⟨h.cur, h.box, h.row, h.rne, ⟨h.gr.os, h.gr.tape, h.gr.output, h.gr.size, h.gr.block⟩, h.far, h.res, h.small, h.bsz⟩
theorem DrwQ.draws {w0 W W' : World} {B q b F : Nat} {kd : ByteArray} {nt : Bool} {v : Value} {L : List A5} (h : DrwQ w0 B q b F kd nt v L W) (c : Cur B W' q) (g : W.grownBy W' (some q)) : DrwQ w0 B q b F kd nt v L W' :=
  ⟨c, box_grown h.box g (by have := h.far; omega), h.row.kept g (.inr (h.ne (by have := h.far; omega))), h.rne, grown_trans h.gr g, h.far, box_grown h.res g (by have := h.far; omega), h.small, Nat.le_trans h.bsz g.size⟩
theorem DrwQ.alloc {w0 W : World} {B q b F : Nat} {kd : ByteArray} {nt : Bool} {v : Value} {L : List A5} (h : DrwQ w0 B q b F kd nt v L W) (o : Obj) : DrwQ w0 B q b F kd nt v L (W.alloc o) :=
  ⟨h.cur.keep (World.grownBy_alloc W o none) (by simp) (by simp), box_alloc h.box o, h.row.alloc o, h.rne, grown_trans h.gr (grown_alloc W o q), h.far, box_alloc h.res o, h.small, Nat.le_trans h.bsz (World.grownBy_alloc W o none).size⟩
theorem DrwQ.kind {w0 W : World} {B q b F : Nat} {kd : ByteArray} {nt : Bool} {v : Value} {L : List A5} (h : DrwQ w0 B q b F kd nt v L W) (kd' : ByteArray) : DrwQ w0 B q b F kd' nt v L (W.setCell ⟨F, 0, none⟩ (.string kd')) := by
  obtain ⟨hb, gr⟩ := boxk_set h.box 0 (.string kd')
  have o := h.far
  have hc := h.cur.1
  exact ⟨h.cur.keep gr (by simp; omega) (fun k hk => by cases hk; omega), hb, h.row.kept gr (.inr h.rne), h.rne, grown_more h.gr gr (fun k hk => by cases hk; omega), o, box_grown h.res gr (by omega), h.small, Nat.le_trans h.bsz gr.size⟩
/-- an argument appended, and the row stored into the pattern -/
theorem DrwQ.grew {w0 W W' : World} {B q b F g cap H : Nat} {kd : ByteArray} {nt : Bool} {v : Value} {L : List A5} {u : A5} (h : DrwQ w0 B q b F kd nt v L W) (hu : u.small)
    (ho : W'.ownsRow b 157 5 (.slice (some ⟨g, 0, none⟩) (L.length + 1) cap) (L.length + 1) (rowOf A5.cs L ++ u.cs)) (hg : W.grownBy W' v.ownBlock) (hat : v.ownBlock = some g ∨ g = H) (hH : W.heap.size = H) :
    W'.cell? ⟨F, 1, none⟩ = some v ∧ W'.frozen? ⟨F, 1, none⟩ = false ∧ DrwQ w0 B q b F kd nt (.slice (some ⟨g, 0, none⟩) (L.length + 1) cap) (L ++ [u]) (W'.setCell ⟨F, 1, none⟩ (.slice (some ⟨g, 0, none⟩) (L.length + 1) cap)) := by
  have hF := h.lt
  have o := h.far
  have hc := h.cur.1
  have hgF : g ≠ F := by
    rcases hat with e | e
    · exact fun e2 => h.rne (by rw [e, e2])
    · omega
  have hb : W'.heap[F]? = some (.cells #[.string kd, v, .bool nt] 79 (0, 0)) := by rw [hg.block F hF (fun e => h.rne e.symm)]; exact h.box
  obtain ⟨-, c1, -, -, f1, -⟩ := box_cell hb
  obtain ⟨hb2, gr2⟩ := box3_set1 hb (.slice (some ⟨g, 0, none⟩) (L.length + 1) cap)
  have hres : W'.heap[w0.heap.size]? = some (.cells #[.string ⟨#[]⟩, .slice none 0 0, .bool false] 79 (0, 0)) := by rw [hg.block _ (Array.getElem?_eq_some_iff.1 h.res).1 (fun e => h.ne (Nat.le_refl _) e.symm)]; exact h.res
  refine ⟨c1, f1, ?_, hb2, ?_, by simp [Value.ownBlock]; exact hgF, ?_, o, box_grown hres gr2 (by omega), ?_, Nat.le_trans h.bsz (Nat.le_trans hg.size gr2.size)⟩
  · refine (h.cur.keep hg (h.ne (by omega)) (fun k hk => ?_)).keep gr2 (by simp; omega) (fun k hk => by cases hk; omega)
    have := (h.row.lt k hk).1
    omega
  · have := ho.kept gr2 (.inr (by simp [Value.ownBlock]; exact hgF))
    rw [show rowOf A5.cs L ++ u.cs = rowOf A5.cs (L ++ [u]) by rw [rowOf_append]; simp [rowOf]] at this
    rw [List.length_append]
    exact this
  · refine grown_more (grown_more h.gr hg (fun k hk => ?_)) gr2 (fun k hk => by cases hk; omega)
    have := (h.row.lt k hk).1
    omega
  · intro x hx
    rcases List.mem_append.1 hx with hx | hx
    · exact h.small x hx
    · simp only [List.mem_cons, List.not_mem_nil, or_false] at hx
      rw [hx]; exact hu

theorem strs_small {s : ByteArray} (hx : s ∈ ([⟨#[]⟩, ⟨#[120]⟩, ⟨#[88]⟩] : List ByteArray)) : s.size ≤ 1048576 := by
  simp only [List.mem_cons, List.not_mem_nil, or_false] at hx
  rcases hx with rfl | rfl | rfl <;> decide
def lenAt (o : Option Value) : Nat := match o with
  | some (.slice _ n _) => n
  | _ => 0
theorem lenAt_slice (a : Option Addr) (n c : Nat) : lenAt (some (.slice a n c)) = n := rfl
/-- some pattern was drawn, of at most eight arguments -/
def DrawnQ (w : World) (B q : Nat) (e : Ending) (w' : World) : Prop := ∃ (kd : ByteArray) (nt : Bool) (v : Value) (L : List A5), e = .returned (.agg #[.string kd, v, .bool nt]) ∧ L.length ≤ 8 ∧ kd.size ≤ 21 ∧ (∀ x ∈ L, x.small) ∧ w'.ownsRow w.heap.size 157 5 v L.length (rowOf A5.cs L) ∧ Cur B w' q ∧ w.grownBy w' (some q)
/-- at the end: the pattern laid into the result -/
theorem DrwQ.done {w W : World} {B q b F : Nat} {kd : ByteArray} {nt : Bool} {v : Value} {L : List A5} (h : DrwQ w B q b F kd nt v L W) (hL : L.length ≤ 8) (hk : kd.size ≤ 21) {w9 : World} (gr : W.grownBy w9 (some w.heap.size)) : DrawnQ w B q (.returned (.agg #[.string kd, v, .bool nt])) w9 := by
  have far := h.far
  have hc := h.cur.1
  exact ⟨kd, nt, v, L, rfl, hL, hk, h.small, owns_base (h.row.kept gr (.inr (h.ne (Nat.le_refl _)))) (by omega), h.cur.keep gr (by simp; omega) (fun k hk => by cases hk; omega), grown_more h.gr gr (fun k hk => by cases hk; exact Nat.le_refl _)⟩
set_option maxRecDepth 100000 in
set_option maxHeartbeats 6400000 in
theorem l6Any_any (B q : Nat) (w : World) (hc : Cur B w q) :
    Calls Try.prog 146 #[.pointer (some ⟨q, 0, none⟩)] w (DrawnQ w B q) := by
  obtain ⟨i0, hi, hz0, hz1, hz2⟩ := info_parts Try.info157
  have hq := hc.lt
  have hB := hc.1
  go_enter Try.func146, Try.ntmps146
  go_wp2_with fail
  have G0 := grown_alloc w (.cells #[.string ⟨#[]⟩, .slice none 0 0, .bool false] 79) q
  have HR0 := hide (boxk_new w #[.string ⟨#[]⟩, .slice none 0 0, .bool false] 79)
  have c0 : Cur B (w.alloc (.cells #[.string ⟨#[]⟩, .slice none 0 0, .bool false] 79)) q := hc.keep (World.grownBy_alloc w _ none) (by simp) (by simp)
  refine (l1Once_any B q 3 _ c0 (by omega) (by omega)).mono ?_
  rintro e w1 ⟨nt, rfl, c1, g1⟩
  have G1 : w.grownBy w1 (some q) := grown_trans G0 g1
  have HR1 := hide (box_grown HR0.out g1 (by omega))
  have l1 : w.heap.size < w1.heap.size := (Array.getElem?_eq_some_iff.1 HR1.out).1
  clear g1 c0 G0 HR0
  go_wp2_with fail
  refine (l6Draw_any B q nt _ c1).mono ?_
  rintro e w2 ⟨kd, v, L, rfl, hL, hkd, hsm, o2, c2, g2⟩
  have G2 : w.grownBy w2 (some q) := grown_trans G1 g2
  have HR2 := hide (box_grown HR1.out g2 (by omega))
  have s2 := g2.size
  clear g2 c1 G1 HR1
  obtain ⟨av, cv, hv⟩ : ∃ a c, v = .slice a L.length c := by
    rcases o2.2 with ⟨h, h0⟩ | ⟨g, cp, _, h, _⟩
    · exact ⟨_, 0, by rw [h0]; exact h⟩
    · exact ⟨_, _, h⟩
  subst hv
  have D0 : DrwQ w B q w1.heap.size w2.heap.size kd nt (.slice av L.length cv) L (w2.alloc (.cells #[.string kd, .slice av L.length cv, .bool nt] 79)) :=
    ⟨c2.keep (World.grownBy_alloc w2 _ none) (by simp) (by simp), boxk_new w2 _ _, o2.alloc _, fun e => by have := (o2.lt _ e).2; omega, grown_trans G2 (grown_alloc w2 _ q), ⟨hq, l1, by omega⟩, box_alloc HR2.out _, hsm, by simp; omega⟩
  clear G2 HR2 o2 c2 hsm
  go_wp2_with fail
  refine (l1Below_any B q 10 _ D0.cur (by omega) (by omega)).mono ?_
  rintro e w3 ⟨x, rfl, x0, x1, c3, g3⟩
  have D3 := D0.draws c3 g3
  obtain ⟨F, HF⟩ : ∃ F, Hid (w2.heap.size = F) := ⟨_, rfl⟩
  rw [HF.out] at D3 ⊢
  clear D0 c3 g3 HF
  have hFl := D3.far
  by_cases h0 : x = 0
  · subst h0
    go_wp2_with fail
    have c3 := D3.cur
    refine (l1Str_any B q w3.heap.size [⟨#[]⟩, ⟨#[65]⟩, ⟨#[120]⟩] 3 _ (c3.keep (World.grownBy_alloc w3 _ none) (by simp) (by simp)) (by decide) (by decide) (by have := c3.lt; omega) (cells_strs w3 9 _)).mono ?_
    rintro e w4 ⟨kd', rfl, hx, c4, g4⟩
    have HK : Hid (kd'.size ≤ 21) := by
      unfold Hid
      simp only [List.mem_cons, List.not_mem_nil, or_false] at hx
      rcases hx with rfl | rfl | rfl <;> decide
    have D4 := (D3.alloc _).draws c4 g4
    have HD5 := hide (D4.kind kd')
    have b0 := boxk_cell D4.box 0 _ rfl
    have b1 := boxk_cell D4.box 1 _ rfl
    have b2 := boxk_cell D4.box 2 _ rfl
    have bf0 := boxk_frozen D4.box 0
    obtain ⟨r0, r1, r2, rf0, rf1, rf2⟩ := box_cell D4.res
    clear D3 D4 hx c3 c4 g4
    go_wp2
    generalize w4.setCell ⟨F, 0, none⟩ (.string kd') = w5 at HD5
    refine box_post HD5.out.res (fun w9 h9 gr => ?_)
    clear b0 b1 b2 bf0 r0 r1 r2 rf0 rf1 rf2
    obtain ⟨d0, d1, d2, -, -, -⟩ := box_cell h9
    exact bodyPost_ret (v := .agg #[.string kd', .slice av L.length cv, .bool nt]) (by simp [results, Try.results146, go_sem, d0, d1, d2]) rfl (HD5.out.done (by omega) HK.out gr)
  · have k0 : (x == 0) = false := by simpa using h0
    by_cases h1 : x = 1
    · subst h1
      clear h0 k0
      have HD := hide D3
      obtain ⟨-, c1', -, -, f1', -⟩ := box_cell D3.box
      have hl3 := D3.lt
      have hq3 := D3.cur.lt
      have hS0 : ∀ k, k < 3 → ((w3.alloc (.cells #[.string ⟨#[]⟩, .string ⟨#[120]⟩, .string ⟨#[88]⟩] 9)).drew).cell? ⟨w3.heap.size, k, none⟩ = some (.string (([⟨#[]⟩, ⟨#[120]⟩, ⟨#[88]⟩] : List ByteArray).getD k ⟨#[]⟩)) := cells_strs w3 9 [⟨#[]⟩, ⟨#[120]⟩, ⟨#[88]⟩]
      have HS0 := hide hS0
      clear D3 hS0
      go_wp2_with fail
      go_region_law (first
        | (refine step_append_lies _ rfl (.tmp 19) (.tmp 26) 77 rfl w1.heap.size 157 i0 (.agg #[.int .i64 0, .string ⟨#[]⟩, .int .i64 0, .int .i64 0, .string ⟨#[]⟩]) 5 56 Try.underlying77 hi hz0 hz1 hz2 rfl (by omega) (.slice av L.length cv) L.length (rowOf A5.cs L) (by simp [Act.eval]) (D5.alloc _).row ⟨w5.heap.size, 0, none⟩ 1 1 (A5.cs ⟨kx, sx, ⟨0, 0, ⟨#[]⟩⟩⟩) (by simp [Act.eval]) rfl (src5 w5 ⟨kx, sx, ⟨0, 0, ⟨#[]⟩⟩⟩) (one5 _) (by omega) (by unfold maxLen; omega) (by omega) (by have := D5.lt; have := D5.far; have := D5.bsz; simp; omega) _ rfl ?_; intro g cap w6 ho6 hg6 hat6 hlt6; obtain ⟨xx1, yy1, D6⟩ := (D5.alloc _).grew ⟨hsx, emp_small⟩ ho6 hg6 hat6 rfl)
        | (rw [if_pos (by simp [Region.wanted])]; go_simp; go_at_call 139; (with_reducible show Calls _ _ _ (World.drew w3) _); refine (l1Below_any B q 5 _ HD.out.drew.cur (by omega) (by omega)).mono ?_; rintro e w4 ⟨kx, rfl, kx0, kx1, c4, g4⟩; have D4 := HD.out.drew.draws c4 g4; obtain ⟨-, c4', -, -, f4', -⟩ := box_cell D4.box; obtain ⟨-, c4a, -, -, f4a, -⟩ := box_cell (D4.alloc (.cells #[.string ⟨#[]⟩, .string ⟨#[120]⟩, .string ⟨#[88]⟩] 9)).box; have hq4 := D4.cur.lt)
        | (rw [if_pos (by simp [Region.wanted])]; go_simp; go_at_call 139; (with_reducible show Calls _ _ _ (World.drew (World.alloc w3 _)) _); refine (l1Below_any B q 5 _ (HD.out.alloc _).drew.cur (by omega) (by omega)).mono ?_; rintro e w4 ⟨kx, rfl, kx0, kx1, c4, g4⟩; have D4 := (HD.out.alloc _).drew.draws c4 g4; obtain ⟨-, c4', -, -, f4', -⟩ := box_cell D4.box; have HS4 : Hid (∀ k, k < 3 → w4.cell? ⟨w3.heap.size, k, none⟩ = some (.string (([⟨#[]⟩, ⟨#[120]⟩, ⟨#[88]⟩] : List ByteArray).getD k ⟨#[]⟩))) := fun k hk => g4.cell (HS0.out k hk) (by simp; omega))
        | (rw [if_pos (by simp [Region.wanted])]; go_simp; go_at_call 118; (with_reducible show Calls _ _ _ (World.alloc w4 _) _); refine (l1Str_any B q w4.heap.size [⟨#[]⟩, ⟨#[120]⟩, ⟨#[88]⟩] 3 _ (D4.alloc _).cur (by decide) (by decide) (by omega) (cells_strs w4 9 _)).mono ?_; rintro e w5 ⟨sx, rfl, hsx0, c5, g5⟩; have hsx := strs_small hsx0; have D5 := (D4.alloc _).draws c5 g5; obtain ⟨-, c5', -, -, f5', -⟩ := box_cell D5.box; obtain ⟨-, c5a, -, -, f5a, -⟩ := box_cell (D5.alloc (.cells #[.int .i64 kx, .string sx, .int .i64 0, .int .i64 0, .string ⟨#[]⟩] 157)).box)
        | (rw [if_pos (by simp [Region.wanted])]; go_simp; go_at_call 118; have HS4' := HS4; (with_reducible show Calls _ _ _ (w4) _); refine (l1Str_any B q w3.heap.size [⟨#[]⟩, ⟨#[120]⟩, ⟨#[88]⟩] 3 _ D4.cur (by decide) (by decide) (by omega) HS4'.out).mono ?_; rintro e w5 ⟨sx, rfl, hsx0, c5, g5⟩; have hsx := strs_small hsx0; have D5 := D4.draws c5 g5; obtain ⟨-, c5', -, -, f5', -⟩ := box_cell D5.box; obtain ⟨-, c5a, -, -, f5a, -⟩ := box_cell (D5.alloc (.cells #[.int .i64 kx, .string sx, .int .i64 0, .int .i64 0, .string ⟨#[]⟩] 157)).box))
      all_goals
        have HD6 := hide D6
        have e0 := boxk_cell D6.box 0 _ rfl
        have e1 := boxk_cell D6.box 1 _ rfl
        have e2 := boxk_cell D6.box 2 _ rfl
        obtain ⟨r0, r1, r2, rf0, rf1, rf2⟩ := box_cell D6.res
        clear D6 D5 D4 HD
        go_wp2
        refine box_post HD6.out.res (fun w9 h9 gr => ?_)
        clear r0 r1 r2 rf0 rf1 rf2 e0 e1 e2
        obtain ⟨d0, d1, d2, -, -, -⟩ := box_cell h9
        exact bodyPost_ret (v := .agg #[.string kd, .slice (some ⟨g, 0, none⟩) (L.length + 1) cap, .bool nt]) (by simp [results, Try.results146, go_sem, d0, d1, d2]) rfl (HD6.out.done (by simp; omega) hkd gr)
    · have k1 : (x == 1) = false := by simpa using h1
      by_cases h2 : x = 2
      · subst h2
        clear h0 h1 k0 k1
        have HD0 := hide D3
        clear D3
        go_wp2
        go_loopw [31] (fun _ wr => ∃ (v : Value) (M : List A5), M.length ≤ 7 ∧ DrwQ w B q w1.heap.size F kd nt v M wr) (fun _ wr => 8 - lenAt (wr.cell? ⟨F, 1, none⟩))
        case atStart => exact ⟨_, L, by omega, HD0.out⟩
        case round =>
          clear HD0
          obtain ⟨v, M, hM, D⟩ := hrel
          obtain ⟨a', c', hv⟩ : ∃ a c, v = .slice a M.length c := by
            rcases D.row.2 with ⟨h, h0⟩ | ⟨g, cp, _, h, _⟩
            · exact ⟨_, 0, by rw [h0]; exact h⟩
            · exact ⟨_, _, h⟩
          subst hv
          obtain ⟨-, c1', -, -, -, -⟩ := box_cell D.box
          have HC := hide c1'
          have HD := hide D
          clear D
          go_wp2_with fail
          go_region_law (rw [if_pos (by simp [Region.wanted])]; go_simp; go_at_call 139; refine (l1Below_any B q 2 _ HD.out.drew.cur (by omega) (by omega)).mono ?_; rintro e w4 ⟨y, rfl, y0, y1, c4, g4⟩; have hwy : IntKind.i64.wrap (5 + y) = 5 + y := (by rw [IntKind.wrap_i64]; omega); have D4 := HD.out.drew.draws c4 g4; obtain ⟨-, c4', -, -, -, -⟩ := box_cell D4.box)
          all_goals
            have HD4 := hide D4
            clear D4 HD c1' c4 g4
            by_cases hlt : (M.length : Int) < 5 + y
            · have hM5 : M.length ≤ 5 := by omega
              obtain ⟨-, c4', -, -, f4', -⟩ := box_cell HD4.out.box
              go_wp2_with fail
              go_region_law (first
                | (refine step_append_lies _ rfl (.tmp 39) (.tmp 42) 77 rfl w1.heap.size 157 i0 (.agg #[.int .i64 0, .string ⟨#[]⟩, .int .i64 0, .int .i64 0, .string ⟨#[]⟩]) 5 56 Try.underlying77 hi hz0 hz1 hz2 rfl (by omega) (.slice a' M.length c') M.length (rowOf A5.cs M) (by simp [Act.eval]) (D5.alloc _).row ⟨w5.heap.size, 0, none⟩ 1 1 (A5.cs u) (by simp [Act.eval]) rfl (src5 w5 u) (one5 u) (by omega) (by unfold maxLen; omega) (by omega) (by have := D5.lt; have := D5.far; have := D5.bsz; simp; omega) _ rfl ?_; intro g cap w6 ho6 hg6 hat6 hlt6; obtain ⟨xx1, yy1, D6⟩ := (D5.alloc _).grew hu ho6 hg6 hat6 rfl)
                | (rw [if_pos (by simp [Region.wanted])]; go_simp; go_at_call 158; refine (l6Arg_any B q _ HD4.out.drew.cur).mono ?_; rintro e w5 ⟨u, rfl, hu, c5, g5⟩; have D5 := HD4.out.drew.draws c5 g5; obtain ⟨-, c5', -, -, f5', -⟩ := box_cell D5.box; obtain ⟨-, c5'', -, -, f5'', -⟩ := box_cell (D5.alloc (.cells #[.int .i64 u.K, .string u.S, .int .i64 u.V.K, .int .i64 u.V.N, .string u.V.S] 157)).box))
              all_goals
                have HD6 := hide D6
                clear c4' f4' c5' f5' c5'' f5'' xx1 yy1 D5 D6 HD4
                go_wp2
                go_roundw
                case rel => exact ⟨_, M ++ [u], by simp; omega, HD6.out⟩
                case measure =>
                  have h6 : (w6.setCell ⟨F, 1, none⟩ (.slice (some ⟨g, 0, none⟩) (M.length + 1) cap)).cell? ⟨F, 1, none⟩ = some (.slice (some ⟨g, 0, none⟩) (M.length + 1) cap) := boxk_cell HD6.out.box 1 _ rfl
                  have e6 : lenAt ((w6.setCell ⟨F, 1, none⟩ (.slice (some ⟨g, 0, none⟩) (M.length + 1) cap)).cell? ⟨F, 1, none⟩) = M.length + 1 := by rw [h6]; rfl
                  have e0 : lenAt (wr.cell? ⟨F, 1, none⟩) = M.length := by rw [HC.out]; rfl
                  rw [e6, e0]
                  omega
            · have b0 := boxk_cell HD4.out.box 0 _ rfl
              have b1 := boxk_cell HD4.out.box 1 _ rfl
              have b2 := boxk_cell HD4.out.box 2 _ rfl
              obtain ⟨r0, r1, r2, rf0, rf1, rf2⟩ := box_cell HD4.out.res
              go_wp2
              refine box_post HD4.out.res (fun w9 h9 gr => ?_)
              clear b0 b1 b2 r0 r1 r2 rf0 rf1 rf2
              obtain ⟨d0, d1, d2, -, -, -⟩ := box_cell h9
              exact bodyPost_ret (v := .agg #[.string kd, .slice a' M.length c', .bool nt]) (by simp [results, Try.results146, go_sem, d0, d1, d2]) rfl (HD4.out.done (by omega) hkd gr)
      · have k2 : (x == 2) = false := by simpa using h2
        clear h0 h1 h2
        have HD := hide D3
        have b0 := boxk_cell D3.box 0 _ rfl
        have b1 := boxk_cell D3.box 1 _ rfl
        have b2 := boxk_cell D3.box 2 _ rfl
        obtain ⟨r0, r1, r2, rf0, rf1, rf2⟩ := box_cell D3.res
        clear D3
        go_wp2
        refine box_post HD.out.res (fun w9 h9 gr => ?_)
        clear b0 b1 b2 r0 r1 r2 rf0 rf1 rf2
        obtain ⟨d0, d1, d2, -, -, -⟩ := box_cell h9
        exact bodyPost_ret (v := .agg #[.string kd, .slice av L.length cv, .bool nt]) (by simp [results, Try.results146, go_sem, d0, d1, d2]) rfl (HD.out.done (by omega) hkd gr)
end Go.Proofs.Ytfgigcdfmkfkjaa
