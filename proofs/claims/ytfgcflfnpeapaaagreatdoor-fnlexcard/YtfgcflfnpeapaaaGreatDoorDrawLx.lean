/-
  The contract of the draw of a text to be read: some text, and not a long one.
-/
import Derived.Test.YtfgcflfnpeapaaaGreatDoorDrawTok
import Derived.Test.YtfgcflfnpeapaaaGreatDoorJoinS
import Derived.Test.YtfgcflfnpeapaaaGreatDoorKeep6
namespace Go.Proofs.YtfgcflfnpeapaaaGreatDoor
open Go.RowKit
set_option linter.unusedVariables false

theorem lx_a : ∀ x ∈ ([⟨#[32, 48, 49]⟩, ⟨#[255]⟩, ⟨#[32, 39, 97]⟩, ⟨#[32, 39, 65, 39]⟩, ⟨#[32, 37, 32, 101, 110, 100, 10, 32, 120]⟩, ⟨#[37]⟩, ⟨#[45, 62, 45]⟩, ⟨#[32, 49, 48, 48, 48, 48, 48, 48, 48, 48, 49]⟩, ⟨#[32, 57, 57, 57, 57, 57, 57, 57, 57, 57, 57, 57]⟩, ⟨#[97, 66]⟩, ⟨#[65, 32, 98]⟩, ⟨#[32, 116, 104, 105, 114, 116, 101, 101, 110, 98, 121, 116, 101, 115]⟩, ⟨#[9, 13, 10]⟩, ⟨#[95, 97]⟩, ⟨#[62]⟩, ⟨#[39, 39]⟩] : List ByteArray), x.size ≤ 40 := by decide +kernel
theorem lx_b : ∀ x ∈ ([⟨#[114, 117, 108, 101, 32, 114, 58, 32, 111, 114, 100, 101, 114, 40, 88, 41, 44, 33, 112, 97, 105, 100, 40, 88, 41, 45, 62, 100, 111, 110, 101, 46]⟩, ⟨#[97, 37, 32, 98, 10, 99]⟩, ⟨#[49, 45, 50]⟩, ⟨#[97, 115, 115, 101, 114, 116, 32, 105, 116, 101, 109, 40, 88, 44, 49, 32, 43, 32, 50, 41]⟩] : List ByteArray), x.size ≤ 40 := by decide +kernel
theorem cur_below {B q : Nat} {w w' : World} (hc : Cur B w q) (h : Below w.heap.size w w') : Cur B w' q := by
  have hlt := hc.lt
  obtain ⟨h0, a, cap, code, i, hh, h1, h2, h3, h4⟩ := hc
  exact ⟨h0, a, cap, code, i, hh, h1, h2, h3.below (h.mono (by omega)), box_step h4 h⟩

set_option maxRecDepth 100000 in
set_option maxHeartbeats 3200000 in
theorem drawLex_any (a : Option Addr) (cap : Nat) (code : List UInt8) (w : World) (hr : Rd w a code) (hn : code.length ≤ 1048576) :
    Calls Tryz.prog 5 #[.slice a code.length cap] w fun e w' => (∃ s : ByteArray, e = .returned (.string s) ∧ s.size ≤ 4000) ∧ Below w.heap.size w w' := by
  go_enter Tryz.func5, Tryz.ntmps5
  go_wp2_with fail
  refine (l1New_any w.heap.size a cap code _ hr.toB hn (Nat.le_refl _)).mono ?_
  rintro e w1 ⟨rfl, c1, g1⟩
  have hlt := c1.lt
  have hz1 := g1.size
  have B1 : Below w.heap.size w w1 := (Below.refl _ _).grown g1 (Nat.le_refl _) (fun k hk => by cases hk)
  go_wp2_with fail
  refine (l5Tokens_any w.heap.size w.heap.size 8 w1 c1 hlt (by omega) (by omega)).mono ?_
  rintro e w2 ⟨⟨v, L, rfl, ho, hl, ht⟩, c2, g2⟩
  have B2 : Below w.heap.size w w2 := B1.grown g2 hz1 (fun k hk => by cases hk; exact Nat.le_refl _)
  obtain ⟨al, cl, rfl, hrl, -, -, -⟩ := rdV_owns ho
  have HS : Hid (∀ u ∈ L, u.S.size ≤ maxLen) := fun u hu => by have := tokB_le (ht u hu); unfold maxLen; omega
  clear ho ht c1 g1 g2 B1 hlt hz1
  go_wp2_with fail
  refine (specJoin_any al cl L _ hrl HS.out (by omega)).mono ?_
  rintro e w3 ⟨rfl, hb3⟩
  have c3 := cur_below c2 hb3
  have B3 := B2.trans (hb3.mono B2.size)
  have hs0 : (⟨(joinT L L.length).toArray⟩ : ByteArray).size ≤ 300 := by
    show (joinT L L.length).toArray.size ≤ _
    have := joinT_le L L.length
    simp; omega
  clear hb3 B2 c2 hrl HS
  generalize (⟨(joinT L L.length).toArray⟩ : ByteArray) = s0 at hs0 ⊢
  go_wp2_with fail
  refine (l1Below_any w.heap.size w.heap.size 4 _ c3 (by omega) (by omega)).mono ?_
  rintro e w4 ⟨x, rfl, x0, x1, c4, g4⟩
  have B4 := B3.grown g4 B3.size (fun k hk => by cases hk; exact Nat.le_refl _)
  have hq4 := c4.lt
  clear g4 B3 c3
  have hx : x = 0 ∨ x = 1 ∨ (x ≠ 0 ∧ x ≠ 1) := by omega
  clear x0 x1
  rcases hx with rfl | rfl | ⟨hx0, hx1⟩
  case' inl =>
    go_wp2_with fail
    refine (l1Str_any w.heap.size w.heap.size w4.heap.size [⟨#[32, 48, 49]⟩, ⟨#[255]⟩, ⟨#[32, 39, 97]⟩, ⟨#[32, 39, 65, 39]⟩, ⟨#[32, 37, 32, 101, 110, 100, 10, 32, 120]⟩, ⟨#[37]⟩, ⟨#[45, 62, 45]⟩, ⟨#[32, 49, 48, 48, 48, 48, 48, 48, 48, 48, 49]⟩, ⟨#[32, 57, 57, 57, 57, 57, 57, 57, 57, 57, 57, 57]⟩, ⟨#[97, 66]⟩, ⟨#[65, 32, 98]⟩, ⟨#[32, 116, 104, 105, 114, 116, 101, 101, 110, 98, 121, 116, 101, 115]⟩, ⟨#[9, 13, 10]⟩, ⟨#[95, 97]⟩, ⟨#[62]⟩, ⟨#[39, 39]⟩] 16 _ (c4.keep (World.grownBy_alloc w4 _ none) (by simp) (by simp)) (by decide) (by decide) (by omega) (cells_strs w4 9 _)).mono ?_
    rintro e w5 ⟨t, rfl, hx, c5, g5⟩
    have ht := lx_a t hx
    have B5 := (B4.alloc B4.size _).grown g5 (by have := B4.size; simp; omega) (fun k hk => by cases hk; exact Nat.le_refl _)
    clear hx g5 B4 c4 hq4
    have n1 : ¬ 9223372036854775807 < s0.size + t.size := by omega
    have hs : (s0 ++ t).size ≤ 400 := by rw [ByteArray.size_append]; omega
    go_wp2_with fail
    clear n1 hs0 ht
    generalize s0 ++ t = s at hs ⊢
  case' inr.inl =>
    go_wp2_with fail
    refine (l1Str_any w.heap.size w.heap.size w4.heap.size [⟨#[114, 117, 108, 101, 32, 114, 58, 32, 111, 114, 100, 101, 114, 40, 88, 41, 44, 33, 112, 97, 105, 100, 40, 88, 41, 45, 62, 100, 111, 110, 101, 46]⟩, ⟨#[97, 37, 32, 98, 10, 99]⟩, ⟨#[49, 45, 50]⟩, ⟨#[97, 115, 115, 101, 114, 116, 32, 105, 116, 101, 109, 40, 88, 44, 49, 32, 43, 32, 50, 41]⟩] 4 _ (c4.keep (World.grownBy_alloc w4 _ none) (by simp) (by simp)) (by decide) (by decide) (by omega) (cells_strs w4 9 _)).mono ?_
    rintro e w5 ⟨s, rfl, hx, c5, g5⟩
    have ht := lx_b s hx
    have B5 := (B4.alloc B4.size _).grown g5 (by have := B4.size; simp; omega) (fun k hk => by cases hk; exact Nat.le_refl _)
    have hs : s.size ≤ 400 := by omega
    clear hx g5 B4 c4 hq4 hs0 ht
    go_wp2_with fail
  case' inr.inr =>
    have q0 : (x == 0) = false := by simpa using hx0
    have q1 : (x == 1) = false := by simpa using hx1
    go_wp2_with fail
    have hs : s0.size ≤ 400 := by omega
    have c5 := c4
    have B5 := B4
    clear B4 c4 hq4 hs0
    obtain ⟨s, es⟩ : ∃ s, s = s0 := ⟨_, rfl⟩
    obtain ⟨w5, ew⟩ : ∃ w5, w5 = w4 := ⟨_, rfl⟩
    subst es ew
  all_goals
    refine (l1Once_any w.heap.size w.heap.size 300 _ c5 (by omega) (by omega)).mono ?_
    rintro e w6 ⟨b, rfl, c6, g6⟩
    have B6 := B5.grown g6 B5.size (fun k hk => by cases hk; exact Nat.le_refl _)
    clear g6 B5 c5
    cases b
    · go_wp2
      go_ret
      exact ⟨⟨s, rfl, by omega⟩, B6⟩
    · go_wp2
      go_loopw [4, 5] (fun s i wr => ∃ (k : Nat) (x : ByteArray), k ≤ 3001 ∧ i = .int .i64 k ∧ s = .string x ∧ x.size = k ∧ Cur w.heap.size wr w.heap.size ∧ Below w.heap.size w wr) (fun _ i _ => 3001 - (intOf i).toNat)
      case atStart => exact ⟨0, ⟨#[]⟩, Nat.zero_le _, rfl, rfl, rfl, c6, B6⟩
      case round =>
        clear c6 B6
        obtain ⟨k, x, hk, rfl, rfl, hxs, hcu, hbel⟩ := hrel
        go_wp2_with fail
        refine (l1Below_any w.heap.size w.heap.size 2 _ hcu (by omega) (by omega)).mono ?_
        rintro e w7 ⟨y, rfl, y0, y1, c7, g7⟩
        have B7 := hbel.grown g7 hbel.size (fun k hk => by cases hk; exact Nat.le_refl _)
        clear g7 hbel hcu
        by_cases hlt : (k : Int) < 3000 + y
        · have n1 : ¬ 9223372036854775807 < x.size + 1 := by omega
          have hc1 : (ByteArray.mk #[46]).size = 1 := rfl
          go_wp2
          go_roundw
          case rel => exact ⟨k + 1, _, by omega, by go_num, rfl, by rw [ByteArray.size_append]; omega, c7, B7⟩
          case measure => simp [intOf]; omega
        · go_wp2
          go_ret
          exact ⟨⟨x, rfl, by omega⟩, B7⟩
end Go.Proofs.YtfgcflfnpeapaaaGreatDoor
