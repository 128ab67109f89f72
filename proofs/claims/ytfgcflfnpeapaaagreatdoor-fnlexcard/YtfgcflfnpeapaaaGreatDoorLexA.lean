/-
  Lex: the tested one and the model's answer lexP, each in a row of its own.
-/
import Derived.Test.YtfgcflfnpeapaaaGreatDoorLexQ
import Derived.Test.YtfgcflfnpeapaaaGreatDoorLexI1
import Derived.Test.YtfgcflfnpeapaaaGreatDoorLexS2
import Derived.Test.YtfgcflfnpeapaaaGreatDoorLexS3
import Derived.Test.YtfgcflfnpeapaaaGreatDoorValRow
namespace Go.Proofs.YtfgcflfnpeapaaaGreatDoor
open Go.RowKit
set_option linter.unusedVariables false

theorem Tk.infoT : (Tryz.prog.info? 31).map (fun i => (i.zero, i.size, i.bytes)) = some (some (.agg #[.int .i64 0, .int .i64 0, .string ⟨#[]⟩]), 3, 32) := by kernel_rfl
theorem tapp3 (L : List V3) (u : V3) : cells3 L ++ [.int .i64 u.K, .int .i64 u.N, .string u.S] = cells3 (L ++ [u]) := by simp [cells3]
theorem tnews_src (W : World) (u : V3) : ∀ j x, ([.int .i64 u.K, .int .i64 u.N, .string u.S] : List Value)[j]? = some x → (W.alloc (.cells #[.int .i64 u.K, .int .i64 u.N, .string u.S] 31)).cell? ((⟨W.heap.size, 0, none⟩ : Addr).add j) = some x := by
  obtain ⟨h0, h1, h2, -, -, -⟩ := box_cell (box_new W (.int .i64 u.K) (.int .i64 u.N) (.string u.S) 31)
  intro j x hj
  rw [Addr.add_lit, Nat.zero_add]
  match j, hj with
  | 0, hj => rw [h0]; simpa using hj
  | 1, hj => rw [h1]; simpa using hj
  | 2, hj => rw [h2]; simpa using hj
theorem tnews_one (u : V3) : ∀ x ∈ ([.int .i64 u.K, .int .i64 u.N, .string u.S] : List Value), x.oneCell' = true := by
  intro x hx
  simp only [List.mem_cons, List.not_mem_nil, or_false] at hx
  rcases hx with rfl | rfl | rfl <;> rfl

/-- Lex' answer, in a row of its own -/
def GivesL (s : ByteArray) (B : Nat) (e : Ending) (w' : World) : Prop :=
  ∃ v p L, e = .returned (.tuple #[v, .int .i64 p]) ∧ w'.ownsRow B 31 3 v L.length (cells3 L) ∧ lexP s = (L, p) ∧ L.length ≤ 3000

set_option maxRecDepth 100000 in
set_option maxHeartbeats 6400000 in
theorem implLex_any (s : ByteArray) (w : World) (hs : s.size ≤ 1048576) (ht : Tab w) (he : Errs w) :
    Calls Tryz.prog 6 #[.string s] w fun e w' => GivesL s w.heap.size e w' ∧ Below w.heap.size w w' := by
  obtain ⟨i0, hi, hz0, hz1, hz2⟩ := info_parts Tk.infoT
  have HT := hide ht
  have HEr := hide he
  clear ht he
  go_enter Tryz.func6, Tryz.ntmps6
  go_wp2_with fail
  refine (passOver_any s 0 _ hs (by omega)).mono ?_
  rintro e w' ⟨rfl, rfl⟩
  go_wp2
  go_loopw [4, 5] (fun v i wr => ∃ (k : Nat) (L : List V3), k ≤ s.size ∧ L.length ≤ 3000 ∧ i = .int .i64 (k : Int) ∧ wr.ownsRow w'.heap.size 31 3 v L.length (cells3 L) ∧ lexF s (3001 - L.length) L k = lexP s ∧ Below w'.heap.size w' wr) (fun _ i _ => s.size - (intOf i).toNat)
  case atStart => exact ⟨passN s false 0, [], passN_le _ _ _, by simp, rfl, World.ownsRow_nil _ _ _ _, rfl, Below.refl _ _⟩
  case round =>
    obtain ⟨k, L, hk, hL, rfl, hown, hlex, hbel⟩ := hrel
    have HLex := hide hlex
    clear hlex
    obtain ⟨g, c, e0, -, -, -, -⟩ := rdV_owns hown
    by_cases hlt : k < s.size
    · have hlt' : ((k : Int) < (s.size : Int)) := by omega
      obtain ⟨q1, q2, q3, q4⟩ := one_kind hlt
      have HN : Hid (k < (oneP s k).2 ∧ (oneP s k).2 ≤ s.size) := oneP_next hlt
      have HC := hide (fun W => kindAndEnd_any s k W hs hlt)
      obtain ⟨⟨K, E⟩, hKE⟩ : ∃ y, kindP s k = y := ⟨_, rfl⟩
      rw [hKE] at HC q1 q2 q3 q4
      simp only at HC q1 q2 q3 q4
      have HQ1 := hide q1
      have HQ2 := hide q2
      have hE' : ((k : Int) ≤ (E : Int)) := by omega
      have hE2 : ((E : Int) ≤ (s.size : Int)) := by omega
      have hxs : (s.extract k E).size = E - k := ext_size q4
      clear hKE q1 q2
      subst e0
      go_wp2_with fail
      refine (HC.out _).mono ?_
      rintro e w2 ⟨rfl, hw2⟩
      subst hw2
      go_wp2_with fail
      refine (tokenOf_any K (s.extract k E) _ (by omega) (by omega) (HT.out.later hbel (Nat.le_refl _)) (HEr.out.later hbel (Nat.le_refl _))).mono ?_
      rw [HQ1.out]
      have HS1 := hide (lexF_no hL hlt)
      have HS2 := hide (lexF_step hL hlt)
      obtain ⟨⟨⟨K1, N1, S1⟩, nx⟩, hone⟩ : ∃ y, oneP s k = y := ⟨_, rfl⟩
      rw [hone] at HS1 HS2 HQ2 HN ⊢
      simp only at HS1 HS2 HQ2 HN ⊢
      clear hone
      rintro e w3 ⟨rfl, hb3⟩
      have hbel3 : Below w'.heap.size w' w3 := hbel.trans (hb3.mono hbel.size)
      have hown3 := rows_below hown hb3
      clear hb3 hbel hown
      cases hv : tokB K1 N1 S1
      · have HF : Hid (∀ W : World, GivesL s w'.heap.size (.returned (.tuple #[.slice none 0 0, .int .i64 (k : Int)])) W) := fun W =>
          ⟨_, _, [], rfl, World.ownsRow_nil _ _ _ _, by rw [← HLex.out, HS1.out (by rw [hv]; simp)], by simp⟩
        rw [if_neg (by simp)]
        unfold ansT
        simp only
        clear hown3
        go_wp2
        go_ret2
        exact ⟨HF.out _, hbel3.alloc hbel3.size _⟩
      · rw [if_pos rfl]
        unfold ansT
        simp only
        have hEn := HQ2.out hv
        subst hEn
        by_cases h3 : L.length = 3000
        · have HF : Hid (∀ W : World, GivesL s w'.heap.size (.returned (.tuple #[.slice none 0 0, .int .i64 (k : Int)])) W) := fun W =>
            ⟨_, _, [], rfl, World.ownsRow_nil _ _ _ _, by rw [← HLex.out, HS1.out (fun h => h.2 h3)], by simp⟩
          have q5 : ((L.length : Int) == 3000) = true := by rw [h3]; rfl
          clear hown3
          go_wp2
          go_ret2
          exact ⟨HF.out _, hbel3.alloc hbel3.size _⟩
        · have q5 : ((L.length : Int) == 3000) = false := by simp; omega
          have HX2 := hide (HS2.out hv h3)
          have hown4 := (hown3.alloc (.cells #[.int .i64 K1, .int .i64 N1, .string S1] 31)).alloc (.cells #[.int .i64 K1, .int .i64 N1, .string S1] 31)
          have HO4 := hide hown4
          have HSrc := hide (tnews_src (w3.alloc (.cells #[.int .i64 K1, .int .i64 N1, .string S1] 31)) ⟨K1, N1, S1⟩)
          have HB4 := hide ((hbel3.alloc hbel3.size (.cells #[.int .i64 K1, .int .i64 N1, .string S1] 31)).alloc (by have := hbel3.size; simp; omega) (.cells #[.int .i64 K1, .int .i64 N1, .string S1] 31))
          clear hown3 hown4 hbel3
          go_wp2_with (at_builtin; refine wpList_append_lies _ rfl (.tmp 39) (.tmp 41) 25 rfl w'.heap.size 31 i0 (.agg #[.int .i64 0, .int .i64 0, .string ⟨#[]⟩]) 3 32 Tryz.underlying25 hi hz0 hz1 hz2 rfl (by omega) (.slice g L.length c) L.length (cells3 L) rfl HO4.out ⟨(w3.alloc (.cells #[.int .i64 K1, .int .i64 N1, .string S1] 31)).heap.size, 0, none⟩ 1 1 [.int .i64 K1, .int .i64 N1, .string S1] ?hx rfl HSrc.out (tnews_one ⟨K1, N1, S1⟩) (by omega) (by unfold maxLen; omega) (by omega) HB4.out.size _ rfl ?_)
          intro g5 c5 w5 ho5 hg5 hat5 hlt5
          have HO5 : Hid (w5.ownsRow w'.heap.size 31 3 (.slice (some ⟨g5, 0, none⟩) (L.length + 1) c5) (L ++ [(⟨K1, N1, S1⟩ : V3)]).length (cells3 (L ++ [⟨K1, N1, S1⟩]))) := by
            unfold Hid
            rw [← tapp3, List.length_append]
            exact ho5
          have HB5 := hide (HB4.out.grown hg5 HB4.out.size (fun k hk => (HO4.out.lt k hk).1))
          clear ho5 hg5 hat5 hlt5 HO4 HSrc HB4
          go_wp2_with fail
          refine (passOver_any s E _ hs q4).mono ?_
          rintro e w6 ⟨rfl, hw6⟩
          subst hw6
          go_wp2
          go_roundw
          case rel => exact ⟨passN s false E, L ++ [⟨K1, N1, S1⟩], passN_le _ _ _, by simp; omega, rfl, HO5.out, by rw [← HX2.out]; exact HLex.out, HB5.out⟩
          case measure => have := passN_ge (s := s) (b := false) (k := E) q4; simp [intOf]; omega
    · have hlt' : ¬ ((k : Int) < (s.size : Int)) := by omega
      have HF : Hid (GivesL s w'.heap.size (.returned (.tuple #[.slice g L.length c, .int .i64 (-1)])) wr) := ⟨_, _, L, rfl, by rw [← e0]; exact hown, by rw [← HLex.out]; exact lexF_end hL hlt, hL⟩
      subst e0
      go_wp2
      go_ret2
      exact ⟨HF.out, hbel⟩
end Go.Proofs.YtfgcflfnpeapaaaGreatDoor
