/-
  The contracts of the draws of a text to be read as a value and of bytes to be read as one: some text, some bytes and a place, whatever they are.
-/
import Derived.Test.YtofdbnkeddcdjaaDoorDrawV
import Derived.Test.YtofdbnkeddcdjaaDoorValsP
import Derived.Test.YtofdbnkeddcdjaaDoorPutValS
import Derived.Test.YtofdbnkeddcdjaaDoorOwnD
import Derived.Test.YtofdbnkeddcdjaaDoorKeep6
namespace Go.Proofs.YtofdbnkeddcdjaaDoor
open Go.RowKit
set_option linter.unusedVariables false

theorem Cur.later {B q : Nat} {w w' : World} (h : Cur B w q) (hb : Below w.heap.size w w') : Cur B w' q := by
  have hlt := h.lt
  obtain ⟨h0, a, cap, code, i, hh, h1, h2, h3, h4⟩ := h
  exact ⟨h0, a, cap, code, i, hh, h1, h2, h3.below (hb.mono (by omega)), box_step h4 hb⟩
theorem below_no {w w' : World} (h : w.grownBy w' none) : Below w.heap.size w w' := (Below.refl _ _).grown h (Nat.le_refl _) (fun k hk => by cases hk)
theorem below_one {w0 w w' : World} {q : Nat} (hb : Below w0.heap.size w0 w) (h : w.grownBy w' (some q)) (hq : w0.heap.size ≤ q) : Below w0.heap.size w0 w' := hb.grown h hb.size (fun k hk => by cases hk; exact hq)

set_option maxRecDepth 100000 in
set_option maxHeartbeats 1600000 in
theorem drawParseVal_any (a : Option Addr) (cap : Nat) (code : List UInt8) (w : World) (hr : Rd w a code) (hn : code.length ≤ 1048576) :
    Calls Tryd.prog 13 #[.slice a code.length cap] w fun e w' => ∃ s, e = .returned (.string s) ∧ s.size ≤ 100 ∧ Below w.heap.size w w' := by
  go_enter Tryd.func13, Tryd.ntmps13
  go_wp2_with fail
  refine (l1New_any w.heap.size a cap code w hr.toB hn (Nat.le_refl _)).mono ?_
  rintro e w1 ⟨rfl, c1, g1⟩
  have B1 := below_no g1
  clear g1
  go_wp2_with fail
  refine (l1Once_any w.heap.size w.heap.size 3 w1 c1 (by omega) (by omega)).mono ?_
  rintro e w2 ⟨b, rfl, c2, g2⟩
  have B2 := below_one B1 g2 (Nat.le_refl _)
  have hq2 := c2.lt
  clear g2 c1 B1
  cases b
  · go_wp2_with fail
    refine (l2Draw_any w.heap.size w.heap.size w2 c2).mono ?_
    rintro e w3 ⟨K, N, S, rfl, hS, c3, g3⟩
    have B3 := below_one B2 g3 (Nat.le_refl _)
    clear g3 c2 c3 B2
    go_wp2_with fail
    refine (specValText_any K N S w3 (by unfold maxLen; omega)).mono ?_
    rintro e w4 ⟨rfl, b4⟩
    have B4 : Below w.heap.size w w4 := B3.trans (b4.mono B3.size)
    have HS : Hid ((textV K N S).size ≤ 100) := by
      unfold Hid
      cases hv : valB K N S
      · rw [textV_no hv]; decide
      · have := textV_size hv; omega
    generalize textV K N S = tx at HS ⊢
    go_wp2
    go_ret
    exact ⟨_, rfl, HS.out, B4⟩
  · go_wp2_with fail
    refine (l1Str_any w.heap.size w.heap.size w2.heap.size [⟨#[]⟩, ⟨#[48, 49]⟩, ⟨#[45, 48]⟩, ⟨#[45]⟩, ⟨#[39]⟩, ⟨#[39, 39]⟩, ⟨#[39, 65, 39]⟩, ⟨#[39, 97]⟩, ⟨#[97]⟩, ⟨#[49, 48, 48, 48, 48, 48, 48, 48, 48, 49]⟩, ⟨#[57, 57, 57, 57, 57, 57, 57, 57, 57, 57, 57]⟩, ⟨#[45, 45, 49]⟩, ⟨#[39, 116, 119, 101, 110, 116, 121, 111, 110, 101, 98, 121, 116, 101, 115, 116, 119, 101, 110, 116, 121, 111, 39]⟩] 13 _ (c2.keep (World.grownBy_alloc w2 _ none) (by simp) (by simp)) (by decide) (by decide) (by omega) (cells_strs w2 9 _)).mono ?_
    rintro e w3 ⟨s, rfl, hx, c3, g3⟩
    have HS : Hid (s.size ≤ 100) := by
      unfold Hid
      simp only [List.mem_cons, List.not_mem_nil, or_false] at hx
      rcases hx with rfl | rfl | rfl | rfl | rfl | rfl | rfl | rfl | rfl | rfl | rfl | rfl | rfl <;> decide
    have B3 := below_one (B2.alloc B2.size _) g3 (Nat.le_refl _)
    clear hx g3 c2
    go_wp2
    go_ret
    exact ⟨_, rfl, HS.out, B3⟩

set_option maxRecDepth 100000 in
set_option maxHeartbeats 1600000 in
theorem l1At_any (B q : Nat) (a : Option Addr) (n cap : Nat) (w : World) (hc : Cur B w q) (hn : n ≤ 1000) :
    Calls Tryd.prog 38 #[.pointer (some ⟨q, 0, none⟩), .slice a n cap] w fun e w' => ∃ x : Int, e = .returned (.int .i64 x) ∧ w.grownBy w' (some q) := by
  have hq := hc.lt
  go_enter Tryd.func38, Tryd.ntmps38
  go_wp2_with fail
  refine (l1Below_any B q ((n : Int) + 1) w hc (by omega) (by omega)).mono ?_
  rintro e w1 ⟨y, rfl, y0, y1, c1, g1⟩
  have hq1 := c1.lt
  go_wp2_with fail
  refine (l1Int_any B q w1.heap.size [0, 0, 0, (n : Int), y, -1, 9223372036854775807] 7 _ (c1.keep (World.grownBy_alloc w1 _ none) (by simp) (by simp)) (by simp) (by simp) (by omega) (cells_lit w1 3 _)).mono ?_
  rintro e w2 ⟨x, rfl, hx, c2, g2⟩
  have G2 : w.grownBy w2 (some q) := grown_trans (grown_trans g1 (grown_alloc w1 _ q)) g2
  clear hx g2 g1 c1
  go_wp2
  go_ret
  exact ⟨_, rfl, G2⟩

theorem vals_set (bs : List UInt8) (k : Nat) (c : UInt8) : (vals bs).set k (.int .u8 (c.toNat : Int)) = vals (bs.set k c) := by unfold vals; rw [List.map_set]
theorem Own.set {w : World} {g cap k : Nat} {bs : List UInt8} (h : Own w g cap bs) (hk : k < bs.length) (c : UInt8) :
    Own (w.setCell ⟨g, k, none⟩ (.int .u8 (c.toNat : Int))) g cap (bs.set k c) ∧ w.grownBy (w.setCell ⟨g, k, none⟩ (.int .u8 (c.toNat : Int))) (some g) := by
  have := World.ownsRow.stored h k (.int .u8 (c.toNat : Int))
  rw [vals_set] at this
  refine ⟨?_, this.2⟩
  unfold Own
  rw [List.length_set]
  exact this.1
theorem Rd.take {w : World} {b off : Nat} {bs : List UInt8} (h : Rd w (some ⟨b, off, none⟩) bs) (A B : Nat) (hAB : A ≤ B) (hB : B ≤ bs.length) : Rd w (some ⟨b, off + A, none⟩) ((bs.drop A).take (B - A)) := by
  intro i hi
  have hi2 : i < B - A := by simp at hi; omega
  obtain ⟨b', off', e, hc⟩ := h (A + i) (by omega)
  simp only [Option.some.injEq, Addr.mk.injEq, and_true] at e
  obtain ⟨rfl, rfl⟩ := e
  refine ⟨b, off + A, rfl, ?_⟩
  rw [show off + A + i = off + (A + i) by omega, hc]
  unfold byteAt
  simp [List.getD, hi2]
/-- some bytes and a place are drawn -/
def GivesB (e : Ending) (w : World) : Prop := ∃ (g cp : Nat) (bs : List UInt8) (x : Int), e = .returned (.tuple #[.slice (some ⟨g, 0, none⟩) bs.length cp, .int .i64 x]) ∧ bs.length ≤ 60 ∧ bs.length ≤ cp ∧ Rd w (some ⟨g, 0, none⟩) bs
theorem gives_b {w : World} {g cp n : Nat} {bs : List UInt8} {x : Int} (hn : bs.length = n) (h : bs.length ≤ 60) (hc : bs.length ≤ cp) (hr : Rd w (some ⟨g, 0, none⟩) bs) : GivesB (.returned (.tuple #[.slice (some ⟨g, 0, none⟩) n cp, .int .i64 x])) w := by
  subst hn; exact ⟨g, cp, bs, x, rfl, h, hc, hr⟩
theorem rd_grown {w w' : World} {g q : Nat} {bs : List UInt8} (h : Rd w (some ⟨g, 0, none⟩) bs) (hg : w.grownBy w' (some q)) (hne : g ≠ q) : Rd w' (some ⟨g, 0, none⟩) bs := by
  intro i hi
  obtain ⟨b, off, e, hc⟩ := h i hi
  refine ⟨b, off, e, hg.cell hc ?_⟩
  simp only [Option.some.injEq, Addr.mk.injEq, and_true] at e
  simp; omega

set_option maxRecDepth 100000 in
set_option maxHeartbeats 3200000 in
theorem drawGetVal_any (a : Option Addr) (cap : Nat) (code : List UInt8) (w : World) (hr : Rd w a code) (hn : code.length ≤ 1048576) :
    Calls Tryd.prog 15 #[.slice a code.length cap] w fun e w' => GivesB e w' ∧ Below w.heap.size w w' := by
  go_enter Tryd.func15, Tryd.ntmps15
  go_wp2_with fail
  refine (l1New_any w.heap.size a cap code w hr.toB hn (Nat.le_refl _)).mono ?_
  rintro e w1 ⟨rfl, c1, g1⟩
  have B1 := below_no g1
  have hq1 := c1.lt
  clear g1
  go_wp2_with fail
  refine (l2Draw_any w.heap.size w.heap.size _ (c1.keep (World.grownBy_alloc w1 (.cells #[] 5) none) (by simp) (by simp))).mono ?_
  rintro e w2 ⟨K, N, S, rfl, hS, c2, g2⟩
  have B2 := below_one (B1.alloc B1.size _) g2 (Nat.le_refl _)
  have hq2 := c2.lt
  have hrn : Rd w2 (some ⟨w1.heap.size, 0, none⟩) [] := fun i hi => absurd hi (Nat.not_lt_zero _)
  clear g2 c1 B1
  go_wp2_with fail
  refine (specPutVal_some ⟨w1.heap.size, 0, none⟩ 0 K N S [] w2 hrn (by simp) (by omega)).mono ?_
  rw [List.nil_append]
  rintro e w3 ⟨v, rfl, ho, b3⟩
  obtain ⟨E, hE⟩ : ∃ E, encV K N S = E := ⟨_, rfl⟩
  have hl := encV_length K N S
  have hp := encV_pos K N S
  rw [hE] at ho hl hp
  obtain ⟨g, cg, rfl, hg, o3⟩ := owns_own ho hp
  have B3 : Below w.heap.size w w3 := B2.trans (b3.mono B2.size)
  have c3 := c2.later b3
  have hgq : g ≠ w.heap.size := by omega
  have hwg : w.heap.size ≤ g := by omega
  clear ho b3 c2 hE B2
  go_wp2_with fail
  refine (l1Below_any w.heap.size w.heap.size 4 w3 c3 (by omega) (by omega)).mono ?_
  rintro e w4 ⟨x, rfl, x0, x1, c4, g4⟩
  have B4 := below_one B3 g4 (Nat.le_refl _)
  have o4 := o3.grown g4 hgq
  clear g4 c3 o3 B3
  have hlc := o4.cap
  by_cases h0 : x = 0
  · subst h0
    go_wp2_with fail
    refine (l1Below_any w.heap.size w.heap.size (E.length : Int) w4 c4 (by omega) (by omega)).mono ?_
    rintro e w5 ⟨y, rfl, y0, y1, c5, g5⟩
    obtain ⟨k, rfl⟩ := Int.eq_ofNat_of_zero_le y0
    have B5 := below_one B4 g5 (Nat.le_refl _)
    have o5 := o4.grown g5 hgq
    have hq5 := c5.lt
    clear g5 c4 o4 B4
    go_wp2_with fail
    refine (l1Int_any w.heap.size w.heap.size w5.heap.size [0, 1, 2, 4, 97, 128] 6 _ (c5.keep (World.grownBy_alloc w5 _ none) (by simp) (by simp)) (by decide) (by decide) (by omega) (cells_lit w5 3 _)).mono ?_
    rintro e w6 ⟨z, rfl, hz, c6, g6⟩
    have B6 := below_one (B5.alloc B5.size _) g6 (Nat.le_refl _)
    have o6 := (o5.later (below_al w5 (.cells #[.int .i64 0, .int .i64 1, .int .i64 2, .int .i64 4, .int .i64 97, .int .i64 128] 3))).grown g6 hgq
    obtain ⟨c, hc⟩ : ∃ c : UInt8, IntKind.u8.wrap z = (c.toNat : Int) := by
      simp only [List.mem_cons, List.not_mem_nil, or_false] at hz
      rcases hz with rfl | rfl | rfl | rfl | rfl | rfl
      · exact ⟨0, rfl⟩
      · exact ⟨1, rfl⟩
      · exact ⟨2, rfl⟩
      · exact ⟨4, rfl⟩
      · exact ⟨97, rfl⟩
      · exact ⟨128, rfl⟩
    have hkE : k < E.length := by omega
    obtain ⟨os, gs⟩ := o6.set hkE c
    have HOs := hide os
    have Bs := below_one B6 gs hwg
    have HCs := hide (c6.keep gs (by simp; omega) (fun j hj => by cases hj; exact hwg))
    obtain ⟨u, m0⟩ : ∃ u, w6.cell? ⟨g, k, none⟩ = some u := by
      rw [World.ownsRow.cellAt o6 k (by omega), List.getElem?_eq_getElem (by rw [vals_length]; exact hkE)]
      exact ⟨_, rfl⟩
    have f0 : w6.frozen? ⟨g, k, none⟩ = false := World.ownsRow.frozenAt o6 k
    clear g6 c5 o5 hz o6 os gs c6 B5
    go_wp2_with fail
    generalize w6.setCell ⟨g, k, none⟩ (.int .u8 (c.toNat : Int)) = w7 at HOs HCs Bs ⊢
    refine (l1At_any w.heap.size w.heap.size _ E.length cg w7 HCs.out (by omega)).mono ?_
    rintro e w8 ⟨p, rfl, g8⟩
    have B8 := below_one Bs g8 (Nat.le_refl _)
    have hls : (E.set k c).length = E.length := List.length_set
    have HF : Hid (GivesB (.returned (.tuple #[.slice (some ⟨g, 0, none⟩) E.length cg, .int .i64 p])) w8) := gives_b hls (by rw [hls]; omega) (by rw [hls]; exact hlc) (rd_grown HOs.out.rd g8 hgq)
    clear hls
    go_wp2
    go_ret2
    exact ⟨HF.out, B8⟩
  · by_cases h1 : x = 1
    · subst h1
      go_wp2_with fail
      refine (l1Below_any w.heap.size w.heap.size (E.length : Int) w4 c4 (by omega) (by omega)).mono ?_
      rintro e w5 ⟨y, rfl, y0, y1, c5, g5⟩
      obtain ⟨k, rfl⟩ := Int.eq_ofNat_of_zero_le y0
      have B5 := below_one B4 g5 (Nat.le_refl _)
      have o5 := o4.grown g5 hgq
      have r5 := o5.rd.take 0 k (Nat.zero_le _) (by omega)
      clear g5 c4 o4 B4
      have i1 : (k : Int) ≤ (cg : Int) := by omega
      go_wp2_with fail
      refine (l1At_any w.heap.size w.heap.size _ k cg w5 c5 (by omega)).mono ?_
      rintro e w8 ⟨p, rfl, g8⟩
      have B8 := below_one B5 g8 (Nat.le_refl _)
      have hls : ((E.drop 0).take (k - 0)).length = k := by simp; omega
      have HF : Hid (GivesB (.returned (.tuple #[.slice (some ⟨g, 0, none⟩) k cg, .int .i64 p])) w8) := gives_b hls (by rw [hls]; omega) (by rw [hls]; omega) (rd_grown r5 g8 hgq)
      clear hls
      go_wp2
      go_ret2
      exact ⟨HF.out, B8⟩
    · have h0b : (x == 0) = false := by simpa using h0
      have h1b : (x == 1) = false := by simpa using h1
      go_wp2_with fail
      refine (l1At_any w.heap.size w.heap.size _ E.length cg w4 c4 (by omega)).mono ?_
      rintro e w8 ⟨p, rfl, g8⟩
      have B8 := below_one B4 g8 (Nat.le_refl _)
      have HF : Hid (GivesB (.returned (.tuple #[.slice (some ⟨g, 0, none⟩) E.length cg, .int .i64 p])) w8) := gives_b rfl (by omega) hlc (rd_grown o4.rd g8 hgq)
      go_wp2
      go_ret2
      exact ⟨HF.out, B8⟩
end Go.Proofs.YtofdbnkeddcdjaaDoor
