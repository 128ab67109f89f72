/-
  A store that is drawn: its block, its items, the cursor; the model's l4Draw.
-/
import Derived.Test.YtaflokfgbmlmaadDoorJL4Drop
import Derived.Test.YtaflokfgbmlmaadDoorJDrawF
import Derived.Test.YtaflokfgbmlmaadDoorJBoxK
import Derived.Deep.RegionLaw
namespace Go.Proofs.YtaflokfgbmlmaadDoor
open Go.RowKit
set_option linter.unusedVariables false

theorem Cur.low {B q lo : Nat} {w w' : World} (h : Cur B w q) (hb : Below lo w w') (hq : q < lo) : Cur B w' q := by
  obtain ⟨h0, a, cap, code, i, hh, h1, h2, h3, h4⟩ := h
  exact ⟨h0, a, cap, code, i, hh, h1, h2, h3.below (hb.mono (by omega)), by rw [hb.block q hq]; exact h4⟩
theorem grown_low {w0 w w' : World} {q lo : Nat} (h : w0.grownBy w (some q)) (hb : Below lo w w') (hl : w0.heap.size ≤ lo) : w0.grownBy w' (some q) :=
  ⟨hb.os.trans h.os, hb.tape.trans h.tape, hb.output.trans h.output, Nat.le_trans h.size hb.size, fun i hi hne => (hb.block i (by omega)).trans (h.block i hi hne)⟩
/-- an item of short texts, plainly -/
def SmP (x : P4) : Prop := x.kd.size ≤ 21 ∧ x.L.length ≤ 8 ∧ ∀ v ∈ x.L, v.S.size ≤ 21
/-- a store on the way: its block p, its items above the answer's block -/
structure SD (w0 : World) (B q p : Nat) (va : Option Addr) (vc : Nat) (nx : Int) (K : List It) (W : World) : Prop where
  cur : Cur B W q
  box : W.heap[p]? = some (.cells #[.slice va K.length vc, .int .i64 nx] 29 (0, 0))
  row : HV W (w0.heap.size + 1) K.length va vc K
  gr : w0.grownBy W (some q)
  far : q < w0.heap.size ∧ w0.heap.size < p
  res : W.heap[w0.heap.size]? = some (.cells #[.slice none 0 0, .int .i64 0] 29 (0, 0))
  small : ∀ x ∈ K.map It.pl, SmP x
  len : K.length ≤ 40
  nx0 : 0 ≤ nx
theorem SD.lt {w0 W : World} {B q p vc : Nat} {va : Option Addr} {nx : Int} {K : List It} (h : SD w0 B q p va vc nx K W) : p < W.heap.size := (Array.getElem?_eq_some_iff.1 h.box).1
theorem SD.drew {w0 W : World} {B q p vc : Nat} {va : Option Addr} {nx : Int} {K : List It} (h : SD w0 B q p va vc nx K W) : SD w0 B q p va vc nx K W.drew :=
  ⟨h.cur, h.box, h.row.later ((Below.refl _ _).drew), ⟨h.gr.os, h.gr.tape, h.gr.output, h.gr.size, h.gr.block⟩, h.far, h.res, h.small, h.len, h.nx0⟩
theorem SD.draws {w0 W W' : World} {B q p vc : Nat} {va : Option Addr} {nx : Int} {K : List It} (h : SD w0 B q p va vc nx K W) (c : Cur B W' q) (g : W.grownBy W' (some q)) : SD w0 B q p va vc nx K W' :=
  ⟨c, box_grown h.box g (by have := h.far; omega), h.row.grown g (by have := h.far; omega), grown_trans h.gr g, h.far, box_grown h.res g (by have := h.far; omega), h.small, h.len, h.nx0⟩
theorem SD.later {w0 W W' : World} {B q p vc : Nat} {va : Option Addr} {nx : Int} {K : List It} (h : SD w0 B q p va vc nx K W) (hb : Below W.heap.size W W') : SD w0 B q p va vc nx K W' :=
  ⟨h.cur.low hb h.cur.lt, box_step h.box hb, h.row.later hb, grown_low h.gr hb h.gr.size, h.far, box_step h.res hb, h.small, h.len, h.nx0⟩
theorem SD.rows {w0 W : World} {B q p vc : Nat} {va : Option Addr} {nx : Int} {K : List It} (h : SD w0 B q p va vc nx K W) : ∀ i, i < K.length → (iAt K i).L.length ≤ 1048580 := fun i hi => by
  have := (h.small (iAt K i).pl (List.mem_map.2 ⟨_, by rw [iAt_in hi]; exact List.getElem_mem hi, rfl⟩)).2.1
  show (iAt K i).pl.L.length ≤ _
  omega
theorem SD.cellId {w0 W : World} {B q p vc g : Nat} {nx : Int} {K : List It} (h : SD w0 B q p (some ⟨g, 0, none⟩) vc nx K W) {j : Nat} (hj : j < K.length) : W.cell? ⟨g, j * 3, none⟩ = some (.int .i64 (iAt K j).id) := by
  obtain ⟨b, off, e, -, hc⟩ := h.row.rd.open (by omega)
  simp only [Option.some.injEq, Addr.mk.injEq] at e
  obtain ⟨rfl, rfl, -⟩ := e
  have := (hc j hj).1
  rwa [Nat.zero_add] at this
/-- what asserting leaves -/
theorem SD.asserted {w0 W W' : World} {B q p vc vc' : Nat} {va va' : Option Addr} {nx : Int} {K K' : List It} {kd : ByteArray} {M : List V3} (h : SD w0 B q p va vc nx K W) (hs : SmP ⟨nx, kd, M⟩)
    (hbox : W'.heap[p]? = some (.cells #[.slice va' K'.length vc', .int .i64 (assP (K.map It.pl) nx kd M).2.1] 29 (0, 0))) (hhv : HV W' (w0.heap.size + 1) K'.length va' vc' K')
    (hpl : K'.map It.pl = (assP (K.map It.pl) nx kd M).2.2) (hb : Below (w0.heap.size + 1) W W') :
    SD w0 B q p va' vc' (assP (K.map It.pl) nx kd M).2.1 K' W' := by
  have far := h.far
  have hl : K'.length = (assP (K.map It.pl) nx kd M).2.2.length := by rw [← hpl, List.length_map]
  have hn0 := h.nx0
  have hl0 := h.len
  refine ⟨h.cur.low hb (by omega), hbox, hhv, grown_low h.gr hb (by omega), far, by rw [hb.block _ (by omega)]; exact h.res, ?_, ?_, ?_⟩
  · rw [hpl]
    unfold assP
    split
    · exact h.small
    · split
      · exact h.small
      · intro x hx
        rcases List.mem_append.1 hx with hx | hx
        · exact h.small x hx
        · simp only [List.mem_cons, List.not_mem_nil, or_false] at hx
          rw [hx]; exact hs
  · rw [hl]
    unfold assP
    split
    · rw [List.length_map]; exact hl0
    · split
      · rw [List.length_map]; exact hl0
      · rename_i h1
        rw [List.length_map] at h1
        simp only [List.length_append, List.length_map, List.length_cons, List.length_nil]
        omega
  · unfold assP
    split
    · exact hn0
    · split
      · exact hn0
      · show 0 ≤ nx + 1
        omega
/-- what dropping leaves -/
theorem SD.dropped {w0 W W' : World} {B q p vc vc' g' : Nat} {va : Option Addr} {nx id : Int} {K : List It} (h : SD w0 B q p va vc nx K W)
    (hbox : W'.heap[p]? = some (.cells #[.slice (some ⟨g', 0, none⟩) (dropP K id).length vc', .int .i64 nx] 29 (0, 0))) (hho : HoldsI W' (w0.heap.size + 1) g' vc' (dropP K id)) (hb : Below (w0.heap.size + 1) W W') :
    SD w0 B q p (some ⟨g', 0, none⟩) vc' nx (dropP K id) W' := by
  have far := h.far
  have hl := dropP_len K id
  have hl0 := h.len
  exact ⟨h.cur.low hb (by omega), hbox, .inr ⟨g', rfl, hho⟩, grown_low h.gr hb (by omega), far, by rw [hb.block _ (by omega)]; exact h.res, fun x hx => by
    obtain ⟨y, hy, rfl⟩ := List.mem_map.1 hx
    exact h.small _ (List.mem_map.2 ⟨y, dropP_mem hy, rfl⟩), by omega, h.nx0⟩
/-- the facts of drawn items have no kind of that name -/
def NoFull (K : List It) : Prop := ∀ x ∈ K.map It.pl, x.kd ≠ ⟨#[102, 117, 108, 108]⟩
theorem NoFull.asserted {K K' : List It} {nx : Int} {kd : ByteArray} {M : List V3} (h : NoFull K) (hk : kd ≠ ⟨#[102, 117, 108, 108]⟩) (hpl : K'.map It.pl = (assP (K.map It.pl) nx kd M).2.2) : NoFull K' := by
  unfold NoFull
  rw [hpl]
  unfold assP
  split
  · exact h
  · split
    · exact h
    · intro x hx
      rcases List.mem_append.1 hx with hx | hx
      · exact h x hx
      · simp only [List.mem_cons, List.not_mem_nil, or_false] at hx
        rw [hx]; exact hk
theorem assP_nx (K : List P4) (nx : Int) (kd : ByteArray) (M : List V3) : (assP K nx kd M).2.1 ≤ nx + 1 := by
  unfold assP
  split
  · show nx ≤ nx + 1; omega
  · split
    · show nx ≤ nx + 1; omega
    · exact Int.le_refl _

/-- some store was drawn -/
def DrawnS (w : World) (B q : Nat) (e : Ending) (w' : World) : Prop := ∃ (va : Option Addr) (vc : Nat) (nx : Int) (K : List It), e = .returned (.agg #[.slice va K.length vc, .int .i64 nx]) ∧ K.length ≤ 40 ∧ (∀ x ∈ K.map It.pl, SmP x) ∧ NoFull K ∧ 0 ≤ nx ∧ nx ≤ 9 ∧ HV w' (w.heap.size + 1) K.length va vc K ∧ Cur B w' q ∧ w.grownBy w' (some q)

set_option maxRecDepth 100000 in
set_option maxHeartbeats 6400000 in
theorem l4Draw_any (B q : Nat) (w : World) (hc : Cur B w q) :
    Calls Tryd.prog 74 #[.pointer (some ⟨q, 0, none⟩)] w (DrawnS w B q) := by
  have hq := hc.lt
  have hB := hc.1
  go_enter Tryd.func74, Tryd.ntmps74
  go_wp2_with fail
  have D0 : SD w B q (w.heap.size + 1) none 0 1 [] ((w.alloc (.cells #[.slice none 0 0, .int .i64 0] 29)).alloc (.cells #[.slice none 0 0, .int .i64 1] 29)) := by
    have h1 := box2_new (w.alloc (.cells #[.slice none 0 0, .int .i64 0] 29)) (.slice none 0 0) (.int .i64 1) 29
    simp only [World.size_alloc] at h1
    exact ⟨(hc.keep (World.grownBy_alloc w _ none) (by simp) (by simp)).keep (World.grownBy_alloc _ _ none) (by simp) (by simp), h1, .inl ⟨rfl, rfl, rfl, rfl⟩, grown_trans (grown_alloc w _ q) (grown_alloc _ _ q), ⟨hq, by omega⟩, box_alloc (box2_new w _ _ _) _, (fun x hx => by cases hx), by simp, by omega⟩
  generalize (w.alloc (.cells #[.slice none 0 0, .int .i64 0] 29)).alloc (.cells #[.slice none 0 0, .int .i64 1] 29) = w0 at D0 ⊢
  refine (l1Below_any B q 9 _ D0.cur (by omega) (by omega)).mono ?_
  rintro e w1 ⟨x, rfl, x0, x1, c1, g1⟩
  have D1 := D0.draws c1 g1
  obtain ⟨n, rfl⟩ := Int.eq_ofNat_of_zero_le x0
  have hn8 : n ≤ 8 := by omega
  clear D0 c1 g1 x0 x1 hc
  obtain ⟨p, HPp⟩ : ∃ p, Hid (w.heap.size + 1 = p) := ⟨_, rfl⟩
  rw [HPp.out] at D1 ⊢
  clear HPp
  go_wp2
  go_loopw [4] (fun i wr => ∃ (k : Nat) (va : Option Addr) (vc : Nat) (nx : Int) (K : List It), i = .int .i64 k ∧ nx + k ≤ 9 ∧ k ≤ 8 ∧ NoFull K ∧ SD w B q p va vc nx K wr) (fun i _ => (intOf i).toNat)
  case atStart => exact ⟨n, none, 0, 1, [], rfl, by omega, hn8, (fun x hx => by cases hx), D1⟩
  case round =>
    clear D1
    obtain ⟨k, va, vc, nx, K, rfl, hnk, hk8, hnf, D⟩ := hrel
    have HNF := hide hnf
    clear hnf
    by_cases hlt : 0 < k
    · have hk1 : (0 : Int) < (k : Int) := by omega
      go_wp2_with fail
      refine (l1Once_any B q 5 _ D.cur (by omega) (by omega)).mono ?_
      rintro e w2 ⟨bb, rfl, c2, g2⟩
      have HD2 := hide (D.draws c2 g2)
      clear c2 g2 D
      obtain ⟨p0, p1, pf0, pf1⟩ := box2_cell HD2.out.box
      have hl40 := HD2.out.len
      by_cases hgo : bb = true ∧ 0 < K.length
      · obtain ⟨rfl, hKp⟩ := hgo
        obtain ⟨g, hva⟩ : ∃ g, va = some ⟨g, 0, none⟩ := by
          rcases HD2.out.row with ⟨h, -⟩ | ⟨g, h, -⟩
          · omega
          · exact ⟨g, h⟩
        subst hva
        have hl1 : (0 : Int) < (K.length : Int) := by omega
        go_wp2_with fail
        go_region_with (first
          | (go_at_call 75; refine (l1Below_any B q (K.length : Int) _ HD2.out.drew.cur (by omega) (by omega)).mono ?_; rintro e w3 ⟨x, rfl, x0, x1, c3, g3⟩; obtain ⟨j, rfl⟩ := Int.eq_ofNat_of_zero_le x0; have D3 := HD2.out.drew.draws c3 g3; obtain ⟨t0, -, -, -⟩ := box2_cell D3.box; have hd := D3.cellId (show j < K.length by omega))
          | (go_at_call 89; refine (l4Drop_any p (w.heap.size + 1) K.length vc _ nx _ K _ D3.box D3.row rfl (by omega) (by have := D3.far; omega) (by have := D3.far; have := D3.lt; omega)).mono ?_; rintro e w4 ⟨⟨b4, rfl⟩, g', vc', hbx, hho, hbl⟩))
        all_goals
          have HD4 := hide (D3.dropped hbx hho hbl)
          have HN4 : Hid (NoFull (dropP K (iAt K j).id)) := fun x hx => by
            obtain ⟨y, hy, rfl⟩ := List.mem_map.1 hx
            exact HNF.out _ (List.mem_map.2 ⟨y, dropP_mem hy, rfl⟩)
          clear hbx hho hbl D3 t0 hd p0 p1 pf0 pf1 HD2
          go_wp2
          go_roundw
          case rel => exact ⟨k - 1, _, _, nx, _, by go_num, by omega, by omega, HN4.out, HD4.out⟩
          case measure => simp [intOf]; omega
      · have hcs : bb = false ∨ (bb = true ∧ K.length = 0) := by
          cases bb
          · exact .inl rfl
          · exact .inr ⟨rfl, by
              by_cases h : 0 < K.length
              · exact absurd ⟨rfl, h⟩ hgo
              · omega⟩
        clear hgo
        rcases hcs with rfl | ⟨rfl, hK0⟩
        case' inr => have hl1 : ¬ (0 : Int) < (K.length : Int) := by omega
        all_goals
          go_wp2_with fail
          refine (l3Draw_any B q _ HD2.out.cur).mono ?_
          rintro e w3 ⟨kd, v, L, rfl, hL, ⟨hkd, hnf⟩, hsm, o3, c3, g3⟩
          have HD3 := hide (HD2.out.draws c3 g3)
          obtain ⟨a', c', rfl, rV, -, -, -⟩ := rdV_owns o3
          have HSmL := hide hsm
          have HNk := hide hnf
          clear c3 g3 o3 hsm hnf p0 p1 pf0 pf1 HD2
          go_wp2_with fail
          refine (l4Assert_any p (w.heap.size + 1) K.length vc c' va a' nx kd K L _ HD3.out.box HD3.out.row rfl (by omega) HD3.out.rows rV (by omega) (by have := HD3.out.far; omega) (by have := HD3.out.far; have := HD3.out.lt; omega) HD3.out.nx0).mono ?_
          rintro e w4 ⟨rfl, va', vc', K', hbx, hhv, hpl, hbl⟩
          have HD4 := hide (HD3.out.asserted ⟨hkd, by show L.length ≤ 8; omega, HSmL.out⟩ hbx hhv hpl hbl)
          have HN4 := hide (HNF.out.asserted HNk.out hpl)
          have hnx := assP_nx (K.map It.pl) nx kd L
          clear hbx hhv hpl hbl HD3 rV HNk HSmL
          generalize (assP (K.map It.pl) nx kd L).2.1 = nx' at HD4 hnx
          generalize (assP (K.map It.pl) nx kd L).1 = rr
          go_wp2
          go_roundw
          case rel => exact ⟨k - 1, va', vc', nx', K', by go_num, by omega, by omega, HN4.out, HD4.out⟩
          case measure => simp [intOf]; omega
    · obtain rfl : k = 0 := by omega
      obtain ⟨p0, p1, -, -⟩ := box2_cell D.box
      obtain ⟨r0, r1, rf0, rf1⟩ := box2_cell D.res
      have HD := hide D
      clear D
      go_wp2
      refine box2_post HD.out.res (fun w9 h9 gr => ?_)
      clear p0 p1 r0 r1 rf0 rf1
      obtain ⟨d0, d1, -, -⟩ := box2_cell h9
      have far := HD.out.far
      have hB2 := HD.out.cur.1
      exact bodyPost_ret (v := .agg #[.slice va K.length vc, .int .i64 nx]) (by simp [results, Tryd.results74, go_sem, d0, d1]) rfl ⟨va, vc, nx, K, rfl, HD.out.len, HD.out.small, HNF.out, HD.out.nx0, by omega, HD.out.row.grown gr (by omega), HD.out.cur.keep gr (by simp; omega) (fun k hk => by cases hk; omega), grown_more HD.out.gr gr (fun k hk => by cases hk; exact Nat.le_refl _)⟩
end Go.Proofs.YtaflokfgbmlmaadDoor
