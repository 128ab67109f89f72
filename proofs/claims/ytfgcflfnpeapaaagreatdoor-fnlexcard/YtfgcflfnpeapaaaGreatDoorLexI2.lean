/-
  What the tested kindAndEnd answers.
-/
import Derived.Test.YtfgcflfnpeapaaaGreatDoorLexI1
namespace Go.Proofs.YtfgcflfnpeapaaaGreatDoor
open Go.RowKit
set_option linter.unusedVariables false

/-- the kind of what begins at a place, and where it ends -/
def kindP (s : ByteArray) (k : Nat) : Int × Nat :=
  if digB (bat s k) = true then (1, runN digB s (k + 1))
  else if inB (bat s k) 97 122 = true then (2, runN wordB s (k + 1))
  else if inB (bat s k) 65 90 = true then (3, runN varByteB s (k + 1))
  else if bat s k = 39 then (4, min (runN notQ s (k + 1) + 1) s.size)
  else if bat s k = 45 then (5, if bat s (k + 1) = 62 then k + 2 else k + 1)
  else (5, k + 1)
theorem ret_kind {s : ByteArray} {k e : Nat} {K : Int} {R : Int × Nat} (h : (K, e) = R) (hR : kindP s k = R) : Ending.returned (.tuple #[.int .i64 K, .int .i64 (e : Int)]) = .returned (.tuple #[.int .i64 (kindP s k).1, .int .i64 ((kindP s k).2 : Int)]) := by
  rw [hR, ← h]

/-- kindAndEnd's frame at a place -/
def Fr (s : ByteArray) (k : Nat) (a' : Act) : Prop := ∃ (u6 u7 u8 u9 u10 u11 u12 u13 u14 u15 u16 u17 u18 u19 u20 u21 u22 u23 u24 u25 u26 u27 u28 u29 u30 u31 u32 u33 u34 u35 u36 u37 u38 u39 u40 u41 u42 u43 u44 u45 u46 u47 u48 u49 u50 u51 u52 u53 u54 u55 u56 u57 u58 u59 u60 u61 u62 u63 u64 u65 u66 u67 u68 u69 u70 u71 u72 u73 : Value), a' = { tmps := #[.string s, .int .i64 (k : Int), undef, undef, .int .i64 0, .int .i64 0, u6, u7, u8, u9, u10, u11, u12, u13, u14, u15, u16, u17, u18, u19, u20, u21, u22, u23, u24, u25, u26, u27, u28, u29, u30, u31, u32, u33, u34, u35, u36, u37, u38, u39, u40, u41, u42, u43, u44, u45, u46, u47, u48, u49, u50, u51, u52, u53, u54, u55, u56, u57, u58, u59, u60, u61, u62, u63, u64, u65, u66, u67, u68, u69, u70, u71, u72, u73], defers := [] }
theorem Fr.all {s : ByteArray} {k : Nat} {C : Act → Prop} (h : ∀ (u6 u7 u8 u9 u10 u11 u12 u13 u14 u15 u16 u17 u18 u19 u20 u21 u22 u23 u24 u25 u26 u27 u28 u29 u30 u31 u32 u33 u34 u35 u36 u37 u38 u39 u40 u41 u42 u43 u44 u45 u46 u47 u48 u49 u50 u51 u52 u53 u54 u55 u56 u57 u58 u59 u60 u61 u62 u63 u64 u65 u66 u67 u68 u69 u70 u71 u72 u73 : Value), C { tmps := #[.string s, .int .i64 (k : Int), undef, undef, .int .i64 0, .int .i64 0, u6, u7, u8, u9, u10, u11, u12, u13, u14, u15, u16, u17, u18, u19, u20, u21, u22, u23, u24, u25, u26, u27, u28, u29, u30, u31, u32, u33, u34, u35, u36, u37, u38, u39, u40, u41, u42, u43, u44, u45, u46, u47, u48, u49, u50, u51, u52, u53, u54, u55, u56, u57, u58, u59, u60, u61, u62, u63, u64, u65, u66, u67, u68, u69, u70, u71, u72, u73], defers := [] }) : ∀ a', Fr s k a' → C a' := by
  intro a' hF
  obtain ⟨u6, u7, u8, u9, u10, u11, u12, u13, u14, u15, u16, u17, u18, u19, u20, u21, u22, u23, u24, u25, u26, u27, u28, u29, u30, u31, u32, u33, u34, u35, u36, u37, u38, u39, u40, u41, u42, u43, u44, u45, u46, u47, u48, u49, u50, u51, u52, u53, u54, u55, u56, u57, u58, u59, u60, u61, u62, u63, u64, u65, u66, u67, u68, u69, u70, u71, u72, u73, rfl⟩ := hF
  exact h _ _ _ _ _ _ _ _ _ _ _ _ _ _ _ _ _ _ _ _ _ _ _ _ _ _ _ _ _ _ _ _ _ _ _ _ _ _ _ _ _ _ _ _ _ _ _ _ _ _ _ _ _ _ _ _ _ _ _ _ _ _ _ _ _ _ _ _

set_option maxRecDepth 100000 in
set_option maxHeartbeats 6400000 in
theorem kindAndEnd_any (s : ByteArray) (k0 : Nat) (w : World) (hs : s.size ≤ 1048576) (hk0 : k0 < s.size) :
    Calls Tryz.prog 18 #[.string s, .int .i64 (k0 : Int)] w fun e w' => e = .returned (.tuple #[.int .i64 (kindP s k0).1, .int .i64 ((kindP s k0).2 : Int)]) ∧ w' = w := by
  obtain ⟨R, hR⟩ : ∃ R, kindP s k0 = R := ⟨_, rfl⟩
  have HR := hide hR
  clear hR
  go_enter Tryz.func18, Tryz.ntmps18
  go_wp2
  refine wp_scope_gotos (fun l a' w' => w' = w ∧ ∃ (k : Nat), k < s.size ∧ ((l = 0 ∧ ((1 : Int), runN digB s (k + 1)) = R) ∨ (l = 1 ∧ ((2 : Int), runN wordB s (k + 1)) = R) ∨ (l = 2 ∧ ((3 : Int), runN varByteB s (k + 1)) = R) ∨ (l = 3 ∧ ((4 : Int), min (runN notQ s (k + 1) + 1) s.size) = R) ∨ (l = 4 ∧ ((5 : Int), if bat s (k + 1) = 62 then k + 2 else k + 1) = R)) ∧ Fr s k a') (fun _ a' _ => s.size - (intOf (a'.tmps.getD 1 undef)).toNat) ?_ ?_ ?_
  · rintro l a' w' ⟨-, k, -, h, -⟩
    rcases h with ⟨rfl, -⟩ | ⟨rfl, -⟩ | ⟨rfl, -⟩ | ⟨rfl, -⟩ | ⟨rfl, -⟩ <;> rfl
  · go_wp2_with fail
    refine (byteAt_any s k0 _ hs).mono ?_
    rintro e w' ⟨rfl, rfl⟩
    have HK : Hid (kindP s k0 = if digB (bat s k0) = true then (1, runN digB s (k0 + 1)) else if inB (bat s k0) 97 122 = true then (2, runN wordB s (k0 + 1)) else if inB (bat s k0) 65 90 = true then (3, runN varByteB s (k0 + 1)) else if bat s k0 = 39 then (4, min (runN notQ s (k0 + 1) + 1) s.size) else if bat s k0 = 45 then (5, if bat s (k0 + 1) = 62 then k0 + 2 else k0 + 1) else (5, k0 + 1)) := rfl
    generalize bat s k0 = c at HK ⊢
    rw [HR.out] at HK
    have HD : Hid (digB c = inB c 48 57) := rfl
    cases h1 : inB c 48 57
    · rw [HD.out, h1, if_neg (by simp)] at HK
      cases h2 : inB c 97 122
      · rw [h2, if_neg (by simp)] at HK
        cases h3 : inB c 65 90
        · rw [h3, if_neg (by simp)] at HK
          by_cases h4 : c = 39
          · subst h4
            rw [if_pos rfl] at HK
            go_wp2_with (first | (go_at_call 30; refine (isDigit_any _ _).mono ?_; rintro e w' ⟨rfl, rfl⟩) | (go_at_call 31; refine (isSmall_any _ _).mono ?_; rintro e w' ⟨rfl, rfl⟩) | (go_at_call 32; refine (isLarge_any _ _).mono ?_; rintro e w' ⟨rfl, rfl⟩))
            go_step3
            exact ⟨rfl, k0, hk0, .inr (.inr (.inr (.inl ⟨rfl, HK.out.symm⟩))), _, _, _, _, _, _, _, _, _, _, _, _, _, _, _, _, _, _, _, _, _, _, _, _, _, _, _, _, _, _, _, _, _, _, _, _, _, _, _, _, _, _, _, _, _, _, _, _, _, _, _, _, _, _, _, _, _, _, _, _, _, _, _, _, _, _, _, _, rfl⟩
          · rw [if_neg h4] at HK
            have q4 : (c == 39) = false := by simpa using h4
            clear h4
            by_cases h5 : c = 45
            · subst h5
              rw [if_pos rfl] at HK
              go_wp2_with (first | (go_at_call 30; refine (isDigit_any _ _).mono ?_; rintro e w' ⟨rfl, rfl⟩) | (go_at_call 31; refine (isSmall_any _ _).mono ?_; rintro e w' ⟨rfl, rfl⟩) | (go_at_call 32; refine (isLarge_any _ _).mono ?_; rintro e w' ⟨rfl, rfl⟩))
              go_step3
              exact ⟨rfl, k0, hk0, .inr (.inr (.inr (.inr ⟨rfl, HK.out.symm⟩))), _, _, _, _, _, _, _, _, _, _, _, _, _, _, _, _, _, _, _, _, _, _, _, _, _, _, _, _, _, _, _, _, _, _, _, _, _, _, _, _, _, _, _, _, _, _, _, _, _, _, _, _, _, _, _, _, _, _, _, _, _, _, _, _, _, _, _, _, rfl⟩
            · rw [if_neg h5] at HK
              have q5 : (c == 45) = false := by simpa using h5
              clear h5
              go_wp2_with (first | (go_at_call 30; refine (isDigit_any _ _).mono ?_; rintro e w' ⟨rfl, rfl⟩) | (go_at_call 31; refine (isSmall_any _ _).mono ?_; rintro e w' ⟨rfl, rfl⟩) | (go_at_call 32; refine (isLarge_any _ _).mono ?_; rintro e w' ⟨rfl, rfl⟩))
              refine jumps_ret ?_
              go_returns
              exact ⟨ret_kind HK.out.symm HR.out, rfl⟩
        · rw [h3, if_pos rfl] at HK
          go_wp2_with (first | (go_at_call 30; refine (isDigit_any _ _).mono ?_; rintro e w' ⟨rfl, rfl⟩) | (go_at_call 31; refine (isSmall_any _ _).mono ?_; rintro e w' ⟨rfl, rfl⟩) | (go_at_call 32; refine (isLarge_any _ _).mono ?_; rintro e w' ⟨rfl, rfl⟩))
          go_step3
          exact ⟨rfl, k0, hk0, .inr (.inr (.inl ⟨rfl, HK.out.symm⟩)), _, _, _, _, _, _, _, _, _, _, _, _, _, _, _, _, _, _, _, _, _, _, _, _, _, _, _, _, _, _, _, _, _, _, _, _, _, _, _, _, _, _, _, _, _, _, _, _, _, _, _, _, _, _, _, _, _, _, _, _, _, _, _, _, _, _, _, _, rfl⟩
      · rw [h2, if_pos rfl] at HK
        go_wp2_with (first | (go_at_call 30; refine (isDigit_any _ _).mono ?_; rintro e w' ⟨rfl, rfl⟩) | (go_at_call 31; refine (isSmall_any _ _).mono ?_; rintro e w' ⟨rfl, rfl⟩) | (go_at_call 32; refine (isLarge_any _ _).mono ?_; rintro e w' ⟨rfl, rfl⟩))
        go_step3
        exact ⟨rfl, k0, hk0, .inr (.inl ⟨rfl, HK.out.symm⟩), _, _, _, _, _, _, _, _, _, _, _, _, _, _, _, _, _, _, _, _, _, _, _, _, _, _, _, _, _, _, _, _, _, _, _, _, _, _, _, _, _, _, _, _, _, _, _, _, _, _, _, _, _, _, _, _, _, _, _, _, _, _, _, _, _, _, _, _, rfl⟩
    · rw [HD.out, h1, if_pos rfl] at HK
      go_wp2_with (first | (go_at_call 30; refine (isDigit_any _ _).mono ?_; rintro e w' ⟨rfl, rfl⟩) | (go_at_call 31; refine (isSmall_any _ _).mono ?_; rintro e w' ⟨rfl, rfl⟩) | (go_at_call 32; refine (isLarge_any _ _).mono ?_; rintro e w' ⟨rfl, rfl⟩))
      go_step3
      exact ⟨rfl, k0, hk0, .inl ⟨rfl, HK.out.symm⟩, _, _, _, _, _, _, _, _, _, _, _, _, _, _, _, _, _, _, _, _, _, _, _, _, _, _, _, _, _, _, _, _, _, _, _, _, _, _, _, _, _, _, _, _, _, _, _, _, _, _, _, _, _, _, _, _, _, _, _, _, _, _, _, _, _, _, _, _, rfl⟩
  · rintro l a' w' rest ⟨rfl, k, hk, ⟨rfl, hR⟩ | ⟨rfl, hR⟩ | ⟨rfl, hR⟩ | ⟨rfl, hR⟩ | ⟨rfl, hR⟩, hF⟩ hfind
    · cases hfind
      revert hF
      revert a'
      refine Fr.all ?_
      intro u6 u7 u8 u9 u10 u11 u12 u13 u14 u15 u16 u17 u18 u19 u20 u21 u22 u23 u24 u25 u26 u27 u28 u29 u30 u31 u32 u33 u34 u35 u36 u37 u38 u39 u40 u41 u42 u43 u44 u45 u46 u47 u48 u49 u50 u51 u52 u53 u54 u55 u56 u57 u58 u59 u60 u61 u62 u63 u64 u65 u66 u67 u68 u69 u70 u71 u72 u73
      have HP := hide hR
      clear hR
      have z0 : digB 0 = false := by decide
      go_wp2_with fail
      refine (byteAt_any s (k + 1) _ hs).mono ?_
      rintro e w' ⟨rfl, rfl⟩
      cases hd : digB (bat s (k + 1))
      · have HE : Hid (runN digB s (k + 1) = k + 1) := by
          by_cases hlt : k + 1 < s.size
          · exact runN_no hlt hd
          · exact runN_end (by omega)
        have hd' : inB (bat s (k + 1)) 48 57 = _ := hd
        go_wp2_with (go_at_call 30; refine (isDigit_any _ _).mono ?_; rintro e w' ⟨rfl, rfl⟩)
        refine jumps_ret ?_
        go_returns
        exact ⟨(ret_kind (by rw [← HP.out, HE.out]) HR.out), rfl⟩
      · have hlt : k + 1 < s.size := in_of (fun e => by rw [e, z0] at hd; cases hd)
        have HE := hide (runN_yes (P := digB) hlt hd)
        have hd' : inB (bat s (k + 1)) 48 57 = _ := hd
        go_wp2_with (go_at_call 30; refine (isDigit_any _ _).mono ?_; rintro e w' ⟨rfl, rfl⟩)
        go_step3
        exact ⟨⟨rfl, k + 1, hlt, .inl ⟨rfl, by rw [← HE.out]; exact HP.out⟩, _, _, _, _, _, _, _, _, _, _, _, _, _, _, _, _, _, _, _, _, _, _, _, _, _, _, _, _, _, _, _, _, _, _, _, _, _, _, _, _, _, _, _, _, _, _, _, _, _, _, _, _, _, _, _, _, _, _, _, _, _, _, _, _, _, _, _, _, rfl⟩, by simp [intOf]; omega⟩
    · cases hfind
      revert hF
      revert a'
      refine Fr.all ?_
      intro u6 u7 u8 u9 u10 u11 u12 u13 u14 u15 u16 u17 u18 u19 u20 u21 u22 u23 u24 u25 u26 u27 u28 u29 u30 u31 u32 u33 u34 u35 u36 u37 u38 u39 u40 u41 u42 u43 u44 u45 u46 u47 u48 u49 u50 u51 u52 u53 u54 u55 u56 u57 u58 u59 u60 u61 u62 u63 u64 u65 u66 u67 u68 u69 u70 u71 u72 u73
      have HP := hide hR
      clear hR
      have z0 : wordB 0 = false := by decide
      go_wp2_with fail
      refine (byteAt_any s (k + 1) _ hs).mono ?_
      rintro e w' ⟨rfl, rfl⟩
      cases hd : wordB (bat s (k + 1))
      · have HE : Hid (runN wordB s (k + 1) = k + 1) := by
          by_cases hlt : k + 1 < s.size
          · exact runN_no hlt hd
          · exact runN_end (by omega)
        have hd' := hd
        go_wp2_with (go_at_call 33; refine (isWordByte_any _ _).mono ?_; rintro e w' ⟨rfl, rfl⟩)
        refine jumps_ret ?_
        go_returns
        exact ⟨(ret_kind (by rw [← HP.out, HE.out]) HR.out), rfl⟩
      · have hlt : k + 1 < s.size := in_of (fun e => by rw [e, z0] at hd; cases hd)
        have HE := hide (runN_yes (P := wordB) hlt hd)
        have hd' := hd
        go_wp2_with (go_at_call 33; refine (isWordByte_any _ _).mono ?_; rintro e w' ⟨rfl, rfl⟩)
        go_step3
        exact ⟨⟨rfl, k + 1, hlt, .inr (.inl ⟨rfl, by rw [← HE.out]; exact HP.out⟩), _, _, _, _, _, _, _, _, _, _, _, _, _, _, _, _, _, _, _, _, _, _, _, _, _, _, _, _, _, _, _, _, _, _, _, _, _, _, _, _, _, _, _, _, _, _, _, _, _, _, _, _, _, _, _, _, _, _, _, _, _, _, _, _, _, _, _, _, rfl⟩, by simp [intOf]; omega⟩
    · cases hfind
      revert hF
      revert a'
      refine Fr.all ?_
      intro u6 u7 u8 u9 u10 u11 u12 u13 u14 u15 u16 u17 u18 u19 u20 u21 u22 u23 u24 u25 u26 u27 u28 u29 u30 u31 u32 u33 u34 u35 u36 u37 u38 u39 u40 u41 u42 u43 u44 u45 u46 u47 u48 u49 u50 u51 u52 u53 u54 u55 u56 u57 u58 u59 u60 u61 u62 u63 u64 u65 u66 u67 u68 u69 u70 u71 u72 u73
      have HP := hide hR
      clear hR
      have z0 : varByteB 0 = false := by decide
      go_wp2_with fail
      refine (byteAt_any s (k + 1) _ hs).mono ?_
      rintro e w' ⟨rfl, rfl⟩
      cases hd : varByteB (bat s (k + 1))
      · have HE : Hid (runN varByteB s (k + 1) = k + 1) := by
          by_cases hlt : k + 1 < s.size
          · exact runN_no hlt hd
          · exact runN_end (by omega)
        have hd' := hd
        go_wp2_with (go_at_call 34; refine (isVarByte_any _ _).mono ?_; rintro e w' ⟨rfl, rfl⟩)
        refine jumps_ret ?_
        go_returns
        exact ⟨(ret_kind (by rw [← HP.out, HE.out]) HR.out), rfl⟩
      · have hlt : k + 1 < s.size := in_of (fun e => by rw [e, z0] at hd; cases hd)
        have HE := hide (runN_yes (P := varByteB) hlt hd)
        have hd' := hd
        go_wp2_with (go_at_call 34; refine (isVarByte_any _ _).mono ?_; rintro e w' ⟨rfl, rfl⟩)
        go_step3
        exact ⟨⟨rfl, k + 1, hlt, .inr (.inr (.inl ⟨rfl, by rw [← HE.out]; exact HP.out⟩)), _, _, _, _, _, _, _, _, _, _, _, _, _, _, _, _, _, _, _, _, _, _, _, _, _, _, _, _, _, _, _, _, _, _, _, _, _, _, _, _, _, _, _, _, _, _, _, _, _, _, _, _, _, _, _, _, _, _, _, _, _, _, _, _, _, _, _, _, rfl⟩, by simp [intOf]; omega⟩
    · cases hfind
      revert hF
      revert a'
      refine Fr.all ?_
      intro u6 u7 u8 u9 u10 u11 u12 u13 u14 u15 u16 u17 u18 u19 u20 u21 u22 u23 u24 u25 u26 u27 u28 u29 u30 u31 u32 u33 u34 u35 u36 u37 u38 u39 u40 u41 u42 u43 u44 u45 u46 u47 u48 u49 u50 u51 u52 u53 u54 u55 u56 u57 u58 u59 u60 u61 u62 u63 u64 u65 u66 u67 u68 u69 u70 u71 u72 u73
      have HP := hide hR
      clear hR
      by_cases hlt : k + 1 < s.size
      · have hlt' : ((k : Int) + 1) < (s.size : Int) := by omega
        have HB := hide (bat_in hlt)
        by_cases h39 : bat s (k + 1) = 39
        · have hq : (((s[k + 1]'hlt).toNat : Int) != 39) = false := by rw [← HB.out, h39]; rfl
          have HE := hide (runN_no (P := notQ) hlt (by rw [h39]; rfl))
          have hm : min ((k : Int) + 1 + 1) (s.size : Int) = ((k + 2 : Nat) : Int) := by omega
          clear h39
          go_wp2
          refine jumps_ret ?_
          go_returns
          exact ⟨(ret_kind (by rw [← HP.out, HE.out, show min (k + 1 + 1) s.size = k + 2 by omega]) HR.out), rfl⟩
        · have hq : (((s[k + 1]'hlt).toNat : Int) != 39) = true := by rw [← HB.out]; simpa using h39
          have HE := hide (runN_yes (P := notQ) hlt (by unfold notQ; simpa using h39))
          clear h39
          go_wp2
          go_step3
          exact ⟨⟨rfl, k + 1, hlt, .inr (.inr (.inr (.inl ⟨rfl, by rw [← HE.out]; exact HP.out⟩))), _, _, _, _, _, _, _, _, _, _, _, _, _, _, _, _, _, _, _, _, _, _, _, _, _, _, _, _, _, _, _, _, _, _, _, _, _, _, _, _, _, _, _, _, _, _, _, _, _, _, _, _, _, _, _, _, _, _, _, _, _, _, _, _, _, _, _, _, rfl⟩, by simp [intOf]; omega⟩
      · have hlt' : ¬ (((k : Int) + 1) < (s.size : Int)) := by omega
        have HE := hide (runN_end (P := notQ) (s := s) (k := k + 1) (by omega))
        have hm : min ((k : Int) + 1 + 1) (s.size : Int) = (s.size : Int) := by omega
        go_wp2
        refine jumps_ret ?_
        go_returns
        exact ⟨(ret_kind (by rw [← HP.out, HE.out, show min (k + 1 + 1) s.size = s.size by omega]) HR.out), rfl⟩
    · cases hfind
      revert hF
      revert a'
      refine Fr.all ?_
      intro u6 u7 u8 u9 u10 u11 u12 u13 u14 u15 u16 u17 u18 u19 u20 u21 u22 u23 u24 u25 u26 u27 u28 u29 u30 u31 u32 u33 u34 u35 u36 u37 u38 u39 u40 u41 u42 u43 u44 u45 u46 u47 u48 u49 u50 u51 u52 u53 u54 u55 u56 u57 u58 u59 u60 u61 u62 u63 u64 u65 u66 u67 u68 u69 u70 u71 u72 u73
      have HP := hide hR
      clear hR
      go_wp2_with fail
      refine (byteAt_any s (k + 1) _ hs).mono ?_
      rintro e w' ⟨rfl, rfl⟩
      by_cases h62 : bat s (k + 1) = 62
      · have hq : (bat s (k + 1) == 62) = true := by simpa using h62
        rw [if_pos h62] at HP
        clear h62
        go_wp2
        refine jumps_ret ?_
        go_returns
        exact ⟨(ret_kind HP.out HR.out), rfl⟩
      · have hq : (bat s (k + 1) == 62) = false := by simpa using h62
        rw [if_neg h62] at HP
        clear h62
        go_wp2
        refine jumps_ret ?_
        go_returns
        exact ⟨(ret_kind HP.out HR.out), rfl⟩
end Go.Proofs.YtfgcflfnpeapaaaGreatDoor
