/-
  What the model's Lex answers: lexP, in a row of its own.
-/
import Derived.Test.YtfgcflfnpeapaaaGreatDoorLexA
namespace Go.Proofs.YtfgcflfnpeapaaaGreatDoor
open Go.RowKit
set_option linter.unusedVariables false

theorem ownsRow_base2 {w : World} {base base' n size : Nat} {e : TypeId} {v : Value} {xs : List Value} (h : w.ownsRow base e size v n xs) (hb : base' ≤ base) : w.ownsRow base' e size v n xs := by
  refine ⟨h.1, ?_⟩
  rcases h.2 with h2 | ⟨g, cap, cur, h1, hb', rest⟩
  · exact .inl h2
  · exact .inr ⟨g, cap, cur, h1, by omega, rest⟩
theorem oneP_size {s : ByteArray} {k : Nat} (hs : s.size ≤ 1048576) : (oneP s k).1.S.size ≤ maxLen := by
  have he : ∀ a b, (s.extract a b).size ≤ maxLen := fun a b => by rw [ByteArray.size_extract]; unfold maxLen; omega
  have h0 : (⟨#[]⟩ : ByteArray).size ≤ maxLen := Nat.zero_le _
  unfold oneP
  split
  · exact h0
  · split
    · exact he _ _
    · split
      · exact he _ _
      · split
        · split
          · exact h0
          · exact he _ _
        · split
          · exact he _ _
          · exact he _ _

set_option maxRecDepth 100000 in
set_option maxHeartbeats 6400000 in
theorem specLex_any (s : ByteArray) (w : World) (hs : s.size ≤ 1048576) :
    Calls Tryz.prog 7 #[.string s] w fun e w' => GivesL s w.heap.size e w' ∧ Below w.heap.size w w' := by
  obtain ⟨i0, hi, hz0, hz1, hz2⟩ := info_parts Tk.infoT
  have b0 := (Below.refl w.heap.size w).alloc (Nat.le_refl _) (.cells #[] 31)
  have r0 : (w.alloc (.cells #[] 31)).ownsRow w.heap.size 31 3 (.slice (some ⟨w.heap.size, 0, none⟩) 0 0) ([] : List V3).length (cells3 []) := World.ownsRow_lit w #[] 0 (Nat.le_refl _) (Nat.zero_le _) rfl
  go_enter Tryz.func7, Tryz.ntmps7
  go_wp2_with fail
  generalize w.alloc (.cells #[] 31) = w1 at b0 r0 ⊢
  refine (l5Pass_any s 0 _ hs (by omega)).mono ?_
  rintro e w' ⟨rfl, hw'⟩
  subst hw'
  go_wp2
  go_loopw [4, 5] (fun v i wr => ∃ (k : Nat) (L : List V3), k ≤ s.size ∧ L.length ≤ 3000 ∧ i = .int .i64 (k : Int) ∧ wr.ownsRow w.heap.size 31 3 v L.length (cells3 L) ∧ lexF s (3001 - L.length) L k = lexP s ∧ Below w.heap.size w wr) (fun _ i _ => s.size - (intOf i).toNat)
  case atStart => exact ⟨passN s false 0, [], passN_le _ _ _, by simp, rfl, r0, rfl, b0⟩
  case round =>
    clear r0 b0
    obtain ⟨k, L, hk, hL, rfl, hown, hlex, hbel⟩ := hrel
    have HLex := hide hlex
    clear hlex
    obtain ⟨g, c, e0, -, -, -, -⟩ := rdV_owns hown
    by_cases hlt : k < s.size
    · have hlt' : ((k : Int) < (s.size : Int)) := by omega
      have HN : Hid (k < (oneP s k).2 ∧ (oneP s k).2 ≤ s.size) := oneP_next hlt
      have HC := hide (fun W => l5One_any s k W hs hlt)
      have HS1 := hide (lexF_no hL hlt)
      have HS2 := hide (lexF_step hL hlt)
      have HSz : Hid ((oneP s k).1.S.size ≤ maxLen) := oneP_size hs
      obtain ⟨⟨⟨K1, N1, S1⟩, nx⟩, hone⟩ : ∃ y, oneP s k = y := ⟨_, rfl⟩
      rw [hone] at HS1 HS2 HN HC HSz
      simp only at HS1 HS2 HN HC HSz
      clear hone
      subst e0
      go_wp2_with fail
      refine (HC.out _).mono ?_
      rintro e w3 ⟨rfl, hb3⟩
      have hbel3 : Below w.heap.size w w3 := hbel.trans (hb3.mono hbel.size)
      have hown3 := (rows_below hown hb3).alloc (.cells #[.int .i64 K1, .int .i64 N1, .string S1] 31)
      have hX := box_new w3 (.int .i64 K1) (.int .i64 N1) (.string S1) 31
      have hB3 := hbel3.alloc hbel3.size (.cells #[.int .i64 K1, .int .i64 N1, .string S1] 31)
      clear hb3 hbel hown hbel3
      go_wp2_with fail
      generalize w3.alloc (.cells #[.int .i64 K1, .int .i64 N1, .string S1] 31) = w4 at hown3 hX hB3 ⊢
      refine (specTokenOk_any K1 N1 S1 _ HSz.out).mono ?_
      rintro e w5 ⟨rfl, g5⟩
      have hb5 : Below w4.heap.size w4 w5 := (Below.refl _ _).grown g5 (Nat.le_refl _) (fun k hk => by cases hk)
      have hown5 := rows_below hown3 hb5
      have hX5 := box_step hX hb5
      have hB5 : Below w.heap.size w w5 := hB3.trans (hb5.mono hB3.size)
      clear g5 hb5 hown3 hX hB3
      obtain ⟨c0, c1, c2, -, -, -⟩ := box_cell hX5
      have HLit : Hid (∀ W : World, w.heap.size ≤ W.heap.size → lexP s = ([], (k : Int)) → GivesL s w.heap.size (.returned (.tuple #[.slice (some ⟨W.heap.size, 0, none⟩) 0 0, .int .i64 (k : Int)])) (W.alloc (.cells #[] 31))) := fun W hW h =>
        ⟨_, _, [], rfl, ownsRow_base2 (World.ownsRow_lit W #[] 0 (Nat.le_refl _) (Nat.zero_le _) rfl) hW, h, by simp⟩
      cases hv : tokB K1 N1 S1
      · have HF := hide (HLit.out w5 hB5.size (by rw [← HLex.out, HS1.out (by rw [hv]; simp)]))
        clear hown5
        go_wp2
        go_ret2
        exact ⟨HF.out, hB5.alloc hB5.size _⟩
      · by_cases h3 : L.length = 3000
        · have HF := hide (HLit.out w5 hB5.size (by rw [← HLex.out, HS1.out (fun h => h.2 h3)]))
          have q5 : ((L.length : Int) == 3000) = true := by rw [h3]; rfl
          clear hown5
          go_wp2
          go_ret2
          exact ⟨HF.out, hB5.alloc hB5.size _⟩
        · have q5 : ((L.length : Int) == 3000) = false := by simp; omega
          have HX2 := hide (HS2.out hv h3)
          have HO4 := hide (hown5.alloc (.cells #[.int .i64 K1, .int .i64 N1, .string S1] 31))
          have HSrc := hide (tnews_src w5 ⟨K1, N1, S1⟩)
          have HB4 := hide (hB5.alloc hB5.size (.cells #[.int .i64 K1, .int .i64 N1, .string S1] 31))
          clear hown5 hB5
          go_wp2_with (at_builtin; refine wpList_append_lies _ rfl (.tmp 31) (.tmp 33) 25 rfl w.heap.size 31 i0 (.agg #[.int .i64 0, .int .i64 0, .string ⟨#[]⟩]) 3 32 Tryz.underlying25 hi hz0 hz1 hz2 rfl (by omega) (.slice g L.length c) L.length (cells3 L) rfl HO4.out ⟨w5.heap.size, 0, none⟩ 1 1 [.int .i64 K1, .int .i64 N1, .string S1] rfl rfl HSrc.out (tnews_one ⟨K1, N1, S1⟩) (by omega) (by unfold maxLen; omega) (by omega) HB4.out.size _ rfl ?_)
          intro g6 c6 w6 ho6 hg6 hat6 hlt6
          have HO6 : Hid (w6.ownsRow w.heap.size 31 3 (.slice (some ⟨g6, 0, none⟩) (L.length + 1) c6) (L ++ [(⟨K1, N1, S1⟩ : V3)]).length (cells3 (L ++ [⟨K1, N1, S1⟩]))) := by
            unfold Hid
            rw [← tapp3, List.length_append]
            exact ho6
          have HB6 := hide (HB4.out.grown hg6 HB4.out.size (fun k hk => (HO4.out.lt k hk).1))
          clear ho6 hg6 hat6 hlt6 HO4 HSrc HB4 c0 c1 c2 hX5
          go_wp2_with fail
          refine (l5Pass_any s nx _ hs HN.out.2).mono ?_
          rintro e w7 ⟨rfl, hw7⟩
          subst hw7
          go_wp2
          go_roundw
          case rel => exact ⟨passN s false nx, L ++ [⟨K1, N1, S1⟩], passN_le _ _ _, by simp; omega, rfl, HO6.out, by rw [← HX2.out]; exact HLex.out, HB6.out⟩
          case measure => have := passN_ge (s := s) (b := false) (k := nx) HN.out.2; have := HN.out.1; simp [intOf]; omega
    · have hlt' : ¬ ((k : Int) < (s.size : Int)) := by omega
      have HF : Hid (GivesL s w.heap.size (.returned (.tuple #[.slice g L.length c, .int .i64 (-1)])) wr) := ⟨_, _, L, rfl, by rw [← e0]; exact hown, by rw [← HLex.out]; exact lexF_end hL hlt, hL⟩
      subst e0
      go_wp2
      go_ret2
      exact ⟨HF.out, hbel⟩
end Go.Proofs.YtfgcflfnpeapaaaGreatDoor
