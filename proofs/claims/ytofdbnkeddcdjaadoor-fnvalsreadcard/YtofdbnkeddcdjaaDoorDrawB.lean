/-
  The contracts of the draws of bytes: a new cursor; some bytes drawn into a row of the call's own.
-/
import Derived.Test.YtofdbnkeddcdjaaDoorDraw
import Derived.Test.YtofdbnkeddcdjaaDoorEnc
namespace Go.Proofs.YtofdbnkeddcdjaaDoor
open Go.RowKit
set_option linter.unusedVariables false

theorem grown_more {a b c : World} {q : Option Nat} {row : Option Nat} (h : a.grownBy b q) (k : b.grownBy c row) (hr : ∀ j, row = some j → a.heap.size ≤ j) : a.grownBy c q :=
  ⟨k.os.trans h.os, k.tape.trans h.tape, k.output.trans h.output, Nat.le_trans h.size k.size,
    fun i hi hne => (k.block i (Nat.lt_of_lt_of_le hi h.size) (fun e => by have := hr i e.symm; omega)).trans (h.block i hi hne)⟩

theorem owns_base {w : World} {base base' n size : Nat} {e : TypeId} {v : Value} {xs : List Value} (h : w.ownsRow base e size v n xs) (hb : base' ≤ base) : w.ownsRow base' e size v n xs := by
  refine ⟨h.1, ?_⟩
  rcases h.2 with h2 | ⟨g, cap, cur, h1, hb', rest⟩
  · exact .inl h2
  · exact .inr ⟨g, cap, cur, h1, by omega, rest⟩

set_option maxRecDepth 100000 in
set_option maxHeartbeats 1600000 in
theorem l1New_any (B : Nat) (a : Option Addr) (cap : Nat) (code : List UInt8) (w : World) (hr : RdB B w a code) (hn : code.length ≤ 1048576) (hB : B ≤ w.heap.size) :
    Calls Tryd.prog 18 #[.slice a code.length cap] w fun e w' => e = .returned (.pointer (some ⟨w.heap.size, 0, none⟩)) ∧ Cur B w' w.heap.size ∧ w.grownBy w' none := by
  obtain ⟨n, hN⟩ : ∃ n, n = code.length := ⟨_, rfl⟩
  rw [← hN] at hn ⊢
  have HN := hide hN
  clear hN
  go_enter Tryd.func18, Tryd.ntmps18
  go_wp2
  go_loop [3, 4] (fun h i => ∃ (k : Nat) (x : Int), k ≤ n ∧ i = .int .i64 k ∧ h = .int .i64 x) (fun _ i => n - (intOf i).toNat)
  case atStart => exact ⟨0, _, Nat.zero_le _, rfl, rfl⟩
  case round =>
    obtain ⟨k, x, hk, rfl, rfl⟩ := hrel
    by_cases hlt : k < n ∧ k < 4000
    · obtain ⟨h1, h2⟩ := hlt
      obtain ⟨b, off, hab, hbB, hcell⟩ := hr k (by rw [← HN.out]; exact h1)
      have y1 := byteAt_lo code k
      have y2 := byteAt_hi code k
      generalize byteAt code k = y at hcell y1 y2
      subst hab
      go_wp2
      go_round
      case rel => exact ⟨k + 1, _, by omega, by go_num, rfl⟩
      case measure => simp [intOf]; omega
    · by_cases h1 : k < n
      all_goals
        go_wp2
        go_ret
        refine ⟨rfl, ⟨hB, a, cap, code, 0, x, by rw [← HN.out]; exact hn, Nat.zero_le _, hr.below ((Below.refl _ _).alloc hB _), ?_⟩, World.grownBy_alloc _ _ _⟩
        rw [heap_alloc_new, ← HN.out]; rfl

set_option maxRecDepth 100000 in
set_option maxHeartbeats 1600000 in
theorem l1Bytes_any (B q n : Nat) (w : World) (hc : Cur B w q) (hn : n ≤ 1000) :
    Calls Tryd.prog 41 #[.pointer (some ⟨q, 0, none⟩), .int .i64 (n : Int)] w fun e w' =>
      ∃ v bs, e = .returned v ∧ bs.length = n ∧ w'.ownsRow w.heap.size 5 1 v n (vals bs) ∧ v ≠ .slice none 0 0 ∧ Cur B w' q ∧ w.grownBy w' (some q) := by
  obtain ⟨i0, hi, hz0, hz1, hz2⟩ := info_parts Tryd.info5
  have hB : B ≤ q := hc.1
  have hq := hc.lt
  go_enter Tryd.func41, Tryd.ntmps41
  go_wp2
  go_loopw [5, 6] (fun out i wr => ∃ (k : Nat) (bs : List UInt8), k ≤ n ∧ i = .int .i64 k ∧ bs.length = k ∧ wr.ownsRow w.heap.size 5 1 out k (vals bs) ∧ out ≠ .slice none 0 0 ∧ Cur B wr q ∧ w.grownBy wr (some q)) (fun _ i _ => n - (intOf i).toNat)
  case atStart =>
    exact ⟨0, [], Nat.zero_le _, rfl, rfl, World.ownsRow_made w #[] 0 (Nat.le_refl _) (Nat.zero_le _) rfl, by simp, hc.keep (World.grownBy_alloc w _ none) (by simp) (by simp), World.grownBy_alloc w _ _⟩
  case round =>
    obtain ⟨k, bs, hk, rfl, hbl, hown, hnn, hcu, hgr⟩ := hrel
    have HB := hide hbl
    have HNN := hide hnn
    clear hbl hnn
    by_cases hlt : k < n
    · go_wp2_with fail
      refine (l1Byte_any B q wr hcu).mono ?_
      rintro e w1 ⟨x, rfl, x0, x1, c1, g1⟩
      have hown1 := hown.kept g1 (by
        cases hv : Value.ownBlock _ with
        | none => exact .inl rfl
        | some g => right; intro e; have := (hown.lt g hv).1; cases e; omega)
      go_wp2_with (at_builtin; refine wpList_append_own _ rfl (.tmp 13) (.tmp 17) 22 rfl w.heap.size 5 i0 (.int .u8 0) 1 1 Tryd.underlying22 hi hz0 hz1 hz2 rfl (by decide) _ _ _ rfl (hown1.alloc _) ⟨w1.heap.size, 0, none⟩ 1 1 [.int .u8 x] rfl rfl (one_cell _ _ _) (by intro u hu; simp at hu; subst hu; rfl) (by unfold maxLen; omega) (by omega) (by have := hgr.size; have := g1.size; simp; omega) ?_)
      intro v2 w2 hown2 hgrow2 hnil
      have HV : Hid (vals bs ++ [Value.int .u8 x] = vals (bs ++ [UInt8.ofNat x.toNat])) := by
        unfold Hid; simp [vals]; omega
      rw [HV.out] at hown2
      have gA : w.grownBy w2 (some q) := grown_more (grown_more (grown_trans hgr g1) (World.grownBy_alloc _ _ none) (by simp)) hgrow2 (fun j hj => (hown.lt j hj).1)
      have cA : Cur B w2 q := (c1.keep (World.grownBy_alloc _ _ none) (by simp) (by simp)).keep hgrow2 (fun e => by have := (hown.lt q e).1; omega) (fun j hj => by have := (hown.lt j hj).1; omega)
      have HNil : Hid (v2 ≠ .slice none 0 0) := hnil
      clear hgrow2 hown hown1 hgr g1 hcu c1 hnil
      go_wp2
      go_roundw
      case rel => exact ⟨k + 1, bs ++ [UInt8.ofNat x.toNat], by omega, by go_num, by simp [HB.out], hown2, HNil.out, cA, gA⟩
      case measure => simp [intOf]; omega
    · have hkn : k = n := by omega
      subst hkn
      go_wp2
      go_ret
      exact ⟨_, bs, rfl, HB.out, hown, HNN.out, hcu, hgr⟩

theorem cells_lit (w : World) (T : TypeId) (zs : List Int) : ∀ k, k < zs.length → (w.alloc (.cells (zs.map (Value.int .i64)).toArray T)).cell? ⟨w.heap.size, k, none⟩ = some (.int .i64 (zs.getD k 0)) := by
  intro k hk
  rw [cell_of_row _ w.heap.size k _ T (0, 0) (heap_alloc_new w _)]
  simp [List.getD, hk]

set_option maxRecDepth 100000 in
set_option maxHeartbeats 1600000 in
theorem l1Some_any (B q : Nat) (w : World) (hc : Cur B w q) :
    Calls Tryd.prog 19 #[.pointer (some ⟨q, 0, none⟩)] w fun e w' =>
      ∃ v bs, e = .returned v ∧ bs.length ≤ 9 ∧ w'.ownsRow w.heap.size 5 1 v bs.length (vals bs) ∧ v ≠ .slice none 0 0 ∧ Cur B w' q ∧ w.grownBy w' (some q) := by
  have hq := hc.lt
  go_enter Tryd.func19, Tryd.ntmps19
  go_wp2_with fail
  refine (l1Int_any B q w.heap.size [0, 1, 2, 5, 9] 5 _ (hc.keep (World.grownBy_alloc w _ none) (by simp) (by simp)) (by decide) (by decide) (by omega) (cells_lit w 3 [0, 1, 2, 5, 9])).mono ?_
  rintro e w1 ⟨x, rfl, hx, c1, g1⟩
  obtain ⟨n, rfl⟩ : ∃ n : Nat, x = (n : Int) := by
    apply Int.eq_ofNat_of_zero_le
    simp at hx; omega
  have hn : n ≤ 9 := by simp at hx; omega
  clear hx
  go_wp2_with fail
  refine (l1Bytes_any B q n w1 c1 (by omega)).mono ?_
  rintro e w2 ⟨v, bs, rfl, hl, ho, hv, c2, g2⟩
  have gA : w.grownBy w2 (some q) := grown_trans (grown_more (World.grownBy.refl w _) (World.grownBy_alloc w _ none) (by simp)) (grown_trans g1 g2)
  have HO : Hid (w2.ownsRow w.heap.size 5 1 v bs.length (vals bs)) := by
    unfold Hid
    rw [hl]
    refine ⟨ho.1, ?_⟩
    rcases ho.2 with h2 | ⟨g, cap, cur, h1, hb, rest⟩
    · exact .inl h2
    · exact .inr ⟨g, cap, cur, h1, by have := g1.size; simp at this; omega, rest⟩
  have HV := hide hv
  have HL := hide hl
  clear hv hl ho c1 g1 g2
  go_wp2
  go_ret
  exact ⟨_, bs, rfl, by rw [HL.out]; exact hn, HO.out, HV.out, c2, gA⟩
end Go.Proofs.YtofdbnkeddcdjaaDoor
