/-
  What the functions on an argument's rightness answer: argB, the tested one and the model alike.
-/
import Derived.Test.YtaflokfgbmlmaaaJTokI
import Derived.Test.YtaflokfgbmlmaaaJTokS
import Derived.Test.YtaflokfgbmlmaaaJVal
import Derived.Test.YtaflokfgbmlmaaaJoined1
import Derived.Laws.StructEq
import Derived.ChangeKeysEq
namespace Go.Proofs.Ytaflokfgbmlmaaa
open Go.RowKit
set_option linter.unusedVariables false
set_option maxRecDepth 100000

def zV : V3 := ⟨0, 0, ⟨#[]⟩⟩
/-- is an argument right? -/
def argB (K : Int) (S : ByteArray) (V : V3) : Bool :=
  if K = 1 then varB S && decide (V = zV) else if K = 2 then valB V.K V.N V.S && decide (S.size = 0) else if K = 3 then decide (S.size = 0) && decide (V = zV) else false
def A5.ok (x : A5) : Bool := argB x.K x.S x.V

theorem eqVs (v u : V3) (w : World) (d : Nat) : (Op.equalIn (d + 3) 78 (.agg #[.int .i64 v.K, .int .i64 v.N, .string v.S]) (.agg #[.int .i64 u.K, .int .i64 u.N, .string u.S])).run Try.prog w = .ok (decide (v = u)) w := by
  rcases v3_cases v u with rfl | ⟨hne, hv⟩
  · have k1 : (v.K == v.K) = true := by simp
    have k2 : (v.N == v.N) = true := by simp
    have k3 : (v.S.toList == v.S.toList) = true := by simp
    rw [decide_eq_true rfl]
    go_simp
  · rw [decide_eq_false hne]
    clear hne
    rcases hv with k1 | ⟨k1, k2⟩ | ⟨k1, k2, k3⟩ <;> go_simp
theorem eqA (K K' : Int) (S S' : ByteArray) (v u : V3) (w : World) (d : Nat) : (Op.equalIn (d + 5) 80 (.agg #[.int .i64 K, .string S, .int .i64 v.K, .int .i64 v.N, .string v.S]) (.agg #[.int .i64 K', .string S', .int .i64 u.K, .int .i64 u.N, .string u.S])).run Try.prog w = .ok (decide (K = K') && decide (S = S') && decide (v = u)) w := by
  have hv := fun w => eqVs v u w (d + 1)
  by_cases h1 : K = K'
  · subst h1
    have k1 : (K == K) = true := by simp
    by_cases h2 : S = S'
    · subst h2
      have k2 : (S.toList == S.toList) = true := by simp
      simp only [decide_true, Bool.true_and]
      generalize decide (v = u) = r at hv ⊢
      cases r <;> go_simp
    · have k2 : (S.toList == S'.toList) = false := by
        simp only [beq_eq_false_iff_ne, ne_eq]
        exact fun e => h2 (toList_inj e)
      simp only [decide_true, decide_eq_false h2, Bool.and_false, Bool.false_and]
      clear h2
      go_simp
  · have k1 : (K == K') = false := by simpa using h1
    simp only [decide_eq_false h1, Bool.false_and]
    clear h1
    go_simp
theorem eqA9 (K K' : Int) (S S' : ByteArray) (VK VN : Int) (VS : ByteArray) (UK UN : Int) (US : ByteArray) (b : Bool) (hb : (decide (K = K') && decide (S = S') && decide ((⟨VK, VN, VS⟩ : V3) = ⟨UK, UN, US⟩)) = b) (w : World) :
    (Op.equalIn 9999 80 (.agg #[.int .i64 K, .string S, .int .i64 VK, .int .i64 VN, .string VS]) (.agg #[.int .i64 K', .string S', .int .i64 UK, .int .i64 UN, .string US])).run Try.prog w = .ok b w := by
  rw [← hb]; exact eqA K K' S S' ⟨VK, VN, VS⟩ ⟨UK, UN, US⟩ w 9994
theorem eqV9 (VK VN : Int) (VS : ByteArray) (UK UN : Int) (US : ByteArray) (b : Bool) (hb : decide ((⟨VK, VN, VS⟩ : V3) = ⟨UK, UN, US⟩) = b) (w : World) :
    (Op.equalIn 9999 78 (.agg #[.int .i64 VK, .int .i64 VN, .string VS]) (.agg #[.int .i64 UK, .int .i64 UN, .string US])).run Try.prog w = .ok b w := by
  rw [← hb]; exact eqVs ⟨VK, VN, VS⟩ ⟨UK, UN, US⟩ w 9996
theorem below_gn' {w w' : World} (h : w.grownBy w' none) : Below w.heap.size w w' := (Below.refl _ _).grown h (Nat.le_refl _) (fun k hk => by cases hk)
theorem cell_gn {w w' : World} (h : w.grownBy w' none) {a : Addr} {v : Value} (hc : w.cell? a = some v) : w'.cell? a = some v := h.cell hc (by simp)
theorem dec_empty (S : ByteArray) : decide (S = (⟨#[]⟩ : ByteArray)) = decide (S.size = 0) := by
  rw [decide_eq_decide]
  exact ⟨fun h => by rw [h]; rfl, empty_of_size⟩
/-- a value is none, or it parts from none at its kind, its number or its text -/
theorem v_cases (VK VN : Int) (VS : ByteArray) : (VK = 0 ∧ VN = 0 ∧ VS = ⟨#[]⟩) ∨ (VK == 0) = false ∨ (VK = 0 ∧ (VN == 0) = false) ∨ (VK = 0 ∧ VN = 0 ∧ VS.size ≠ 0) := by
  by_cases h1 : VK = 0
  · by_cases h2 : VN = 0
    · by_cases h3 : VS.size = 0
      · exact .inl ⟨h1, h2, empty_of_size h3⟩
      · exact .inr (.inr (.inr ⟨h1, h2, h3⟩))
    · exact .inr (.inr (.inl ⟨h1, by simpa using h2⟩))
  · exact .inr (.inl (by simpa using h1))
theorem argB1 (S : ByteArray) (V : V3) : argB 1 S V = (varB S && decide (V = zV)) := by simp [argB]
theorem argB2 (S : ByteArray) (V : V3) : argB 2 S V = (valB V.K V.N V.S && decide (S.size = 0)) := by simp [argB]
theorem argB3 (S : ByteArray) (V : V3) : argB 3 S V = (decide (S.size = 0) && decide (V = zV)) := by simp [argB]
theorem argB_no {K : Int} (S : ByteArray) (V : V3) (h1 : K ≠ 1) (h2 : K ≠ 2) (h3 : K ≠ 3) : argB K S V = false := by simp [argB, h1, h2, h3]
theorem zV_K {VK VN : Int} {VS : ByteArray} (h : (VK == 0) = false) : decide ((⟨VK, VN, VS⟩ : V3) = zV) = false := by
  simp only [zV, V3.mk.injEq, decide_eq_false_iff_not]; intro e; simp [e.1] at h
theorem zV_N {VN : Int} {VS : ByteArray} (h : (VN == 0) = false) : decide ((⟨0, VN, VS⟩ : V3) = zV) = false := by
  simp only [zV, V3.mk.injEq, decide_eq_false_iff_not]; intro e; simp [e.2.1] at h
theorem zV_S {VS : ByteArray} (h : VS.size ≠ 0) : decide ((⟨0, 0, VS⟩ : V3) = zV) = false := by
  simp only [zV, V3.mk.injEq, decide_eq_false_iff_not]; intro e; rw [e.2.2] at h; exact h rfl
theorem zV_z : decide ((⟨0, 0, ⟨#[]⟩⟩ : V3) = zV) = true := by simp [zV]

set_option maxHeartbeats 3200000 in
theorem implArgOk_any (K : Int) (S : ByteArray) (VK VN : Int) (VS : ByteArray) (w : World) (hs : S.size ≤ maxLen) (hv : VS.size ≤ maxLen) :
    Calls Try.prog 55 #[.agg #[.int .i64 K, .string S, .int .i64 VK, .int .i64 VN, .string VS]] w fun e w' => e = .returned (.bool (argB K S ⟨VK, VN, VS⟩)) ∧ Below w.heap.size w w' := by
  have b0 := below_al w (.cells #[.int .i64 K, .string S, .int .i64 VK, .int .i64 VN, .string VS] 80)
  have e1 : (S.toList == S.toList) = true := by simp
  have e2 : (VS.toList == VS.toList) = true := by simp
  have e3 : (VK == VK) = true := by simp
  have e4 : (VN == VN) = true := by simp
  by_cases h1 : K = 1
  · subst h1
    rcases v_cases VK VN VS with ⟨rfl, rfl, rfl⟩ | kz | ⟨rfl, kz⟩ | ⟨rfl, rfl, kz⟩
    · have HR := hide (argB1 S ⟨0, 0, ⟨#[]⟩⟩)
      rw [zV_z] at HR
      go_enter Try.func55, Try.ntmps55
      go_wp2_with (go_at_call 74; refine (isVar_any _ _ hs).mono ?_; rintro e w' ⟨rfl, rfl⟩)
      go_ret
      exact ⟨ret_bool (by rw [HR.out]; simp), b0⟩
    · have HR := hide (argB1 S ⟨VK, VN, VS⟩)
      rw [(zV_K kz)] at HR
      go_enter Try.func55, Try.ntmps55
      go_wp2
      go_ret
      exact ⟨ret_bool (by rw [HR.out]; simp), b0⟩
    · have HR := hide (argB1 S ⟨0, VN, VS⟩)
      rw [(zV_N kz)] at HR
      go_enter Try.func55, Try.ntmps55
      go_wp2
      go_ret
      exact ⟨ret_bool (by rw [HR.out]; simp), b0⟩
    · have HR := hide (argB1 S ⟨0, 0, VS⟩)
      rw [(zV_S kz)] at HR
      have ke := isEmpty_false kz
      clear kz
      go_enter Try.func55, Try.ntmps55
      go_wp2
      go_ret
      exact ⟨ret_bool (by rw [HR.out]; simp), b0⟩
  · have k1 : (K == 1) = false := by simpa using h1
    by_cases h2 : K = 2
    · subst h2
      by_cases hz : S.size = 0
      · obtain rfl := empty_of_size hz
        have HR := hide (argB2 ⟨#[]⟩ ⟨VK, VN, VS⟩)
        go_enter Try.func55, Try.ntmps55
        go_wp2_with fail
        refine (implValOk_any _ _ _ _ hv).mono ?_
        rintro e w1 ⟨rfl, hb⟩
        have B1 : Below w.heap.size w w1 := b0.trans (hb.mono b0.size)
        go_wp2
        go_ret
        exact ⟨ret_bool (by rw [HR.out, decide_eq_true (show (⟨#[]⟩ : ByteArray).size = 0 from rfl)]; simp), B1⟩
      · have HR := hide (argB2 S ⟨VK, VN, VS⟩)
        rw [decide_eq_false hz] at HR
        have hE := isEmpty_false hz
        clear hz
        go_enter Try.func55, Try.ntmps55
        go_wp2
        go_ret
        exact ⟨ret_bool (by rw [HR.out]; simp), b0⟩
    · have k2 : (K == 2) = false := by simpa using h2
      by_cases h3 : K = 3
      · subst h3
        clear h1 h2 k1 k2
        by_cases hz : S.size = 0
        · obtain rfl := empty_of_size hz
          rcases v_cases VK VN VS with ⟨rfl, rfl, rfl⟩ | kz | ⟨rfl, kz⟩ | ⟨rfl, rfl, kz⟩
          · have HR := hide (argB3 ⟨#[]⟩ ⟨0, 0, ⟨#[]⟩⟩)
            rw [zV_z] at HR
            go_enter Try.func55, Try.ntmps55
            go_wp2
            go_ret
            exact ⟨ret_bool (by rw [HR.out, decide_eq_true (show (⟨#[]⟩ : ByteArray).size = 0 from rfl)]; rfl), b0⟩
          · have HR := hide (argB3 ⟨#[]⟩ ⟨VK, VN, VS⟩)
            rw [(zV_K kz)] at HR
            go_enter Try.func55, Try.ntmps55
            go_wp2
            go_ret
            exact ⟨ret_bool (by rw [HR.out, decide_eq_true (show (⟨#[]⟩ : ByteArray).size = 0 from rfl)]; rfl), b0⟩
          · have HR := hide (argB3 ⟨#[]⟩ ⟨0, VN, VS⟩)
            rw [(zV_N kz)] at HR
            go_enter Try.func55, Try.ntmps55
            go_wp2
            go_ret
            exact ⟨ret_bool (by rw [HR.out, decide_eq_true (show (⟨#[]⟩ : ByteArray).size = 0 from rfl)]; rfl), b0⟩
          · have HR := hide (argB3 ⟨#[]⟩ ⟨0, 0, VS⟩)
            rw [(zV_S kz)] at HR
            have ke := isEmpty_false kz
            clear kz
            go_enter Try.func55, Try.ntmps55
            go_wp2
            go_ret
            exact ⟨ret_bool (by rw [HR.out, decide_eq_true (show (⟨#[]⟩ : ByteArray).size = 0 from rfl)]; rfl), b0⟩
        · have HR := hide (argB3 S ⟨VK, VN, VS⟩)
          rw [decide_eq_false hz] at HR
          have hE := isEmpty_false hz
          clear hz
          go_enter Try.func55, Try.ntmps55
          go_wp2
          go_ret
          exact ⟨ret_bool (by rw [HR.out]; simp), b0⟩
      · have HR := hide (argB_no S ⟨VK, VN, VS⟩ h1 h2 h3)
        have k3 : (K == 3) = false := by simpa using h3
        clear h1 h2 h3
        go_enter Try.func55, Try.ntmps55
        go_wp2
        go_ret
        exact ⟨ret_bool HR.out.symm, b0⟩

set_option maxHeartbeats 3200000 in
theorem specArgOk_any (K : Int) (S : ByteArray) (VK VN : Int) (VS : ByteArray) (w : World) (hs : S.size ≤ maxLen) (hv : VS.size ≤ maxLen) :
    Calls Try.prog 52 #[.agg #[.int .i64 K, .string S, .int .i64 VK, .int .i64 VN, .string VS]] w fun e w' => e = .returned (.bool (argB K S ⟨VK, VN, VS⟩)) ∧ Below w.heap.size w w' := by
  have b0 := below_al w (.cells #[.int .i64 K, .string S, .int .i64 VK, .int .i64 VN, .string VS] 80)
  have e1 : (S.toList == S.toList) = true := by simp
  have e2 : (VS.toList == VS.toList) = true := by simp
  have e3 : (VK == VK) = true := by simp
  have e4 : (VN == VN) = true := by simp
  by_cases h1 : K = 1
  · subst h1
    rcases v_cases VK VN VS with ⟨rfl, rfl, rfl⟩ | kz | ⟨rfl, kz⟩ | ⟨rfl, rfl, kz⟩
    · have HR := hide (argB1 S ⟨0, 0, ⟨#[]⟩⟩)
      rw [zV_z] at HR
      cases hb : varB S
      all_goals
        go_enter Try.func52, Try.ntmps52
        go_wp2_with (go_at_call 68; refine (l5VarOk_any _ _ hs).mono ?_; rintro e w' ⟨rfl, rfl⟩; rw [hb])
        go_ret
        exact ⟨ret_bool (by rw [HR.out, hb]; rfl), b0⟩
    · have HR := hide (argB1 S ⟨VK, VN, VS⟩)
      rw [(zV_K kz)] at HR
      cases hb : varB S
      all_goals
        go_enter Try.func52, Try.ntmps52
        go_wp2_with (go_at_call 68; refine (l5VarOk_any _ _ hs).mono ?_; rintro e w' ⟨rfl, rfl⟩; rw [hb])
        go_ret
        exact ⟨ret_bool (by rw [HR.out, hb]; rfl), b0⟩
    · have HR := hide (argB1 S ⟨0, VN, VS⟩)
      rw [(zV_N kz)] at HR
      cases hb : varB S
      all_goals
        go_enter Try.func52, Try.ntmps52
        go_wp2_with (go_at_call 68; refine (l5VarOk_any _ _ hs).mono ?_; rintro e w' ⟨rfl, rfl⟩; rw [hb])
        go_ret
        exact ⟨ret_bool (by rw [HR.out, hb]; rfl), b0⟩
    · have HR := hide (argB1 S ⟨0, 0, VS⟩)
      rw [(zV_S kz)] at HR
      have ke := isEmpty_false kz
      clear kz
      cases hb : varB S
      all_goals
        go_enter Try.func52, Try.ntmps52
        go_wp2_with (go_at_call 68; refine (l5VarOk_any _ _ hs).mono ?_; rintro e w' ⟨rfl, rfl⟩; rw [hb])
        go_ret
        exact ⟨ret_bool (by rw [HR.out, hb]; rfl), b0⟩
  · have k1 : (K == 1) = false := by simpa using h1
    by_cases h2 : K = 2
    · subst h2
      have HR := hide (argB2 S ⟨VK, VN, VS⟩)
      obtain ⟨s0, hs0⟩ : ∃ s0, s0 = decide (S.size = 0) := ⟨_, rfl⟩
      have hE : S.toList.isEmpty = s0 := by
        rw [hs0]
        by_cases h : S.size = 0
        · rw [decide_eq_true h, empty_of_size h, ByteArray.toList_eq]; rfl
        · rw [isEmpty_false h, decide_eq_false h]
      rw [← hs0] at HR
      clear hs0 h1 k1
      rcases v_cases VK VN VS with ⟨rfl, rfl, rfl⟩ | kz | ⟨rfl, kz⟩ | ⟨rfl, rfl, kz⟩
      · cases hb : valB 0 0 ⟨#[]⟩
        all_goals
          go_enter Try.func52, Try.ntmps52
          go_wp2_with fail
          refine (specValOk_any _ _ _ _ hv).mono ?_
          rintro e w1 ⟨rfl, g1⟩
          rw [hb]
          have B1 : Below w.heap.size w w1 := b0.trans ((below_gn' g1).mono b0.size)
          have c1 := cell_gn g1 (boxk_cell (boxk_new w #[.int .i64 2, .string S, .int .i64 0, .int .i64 0, .string ⟨#[]⟩] 80) 1 _ rfl)
          go_wp2
          go_ret
          exact ⟨ret_bool (by rw [HR.out]; simp only [hb]; rfl), B1⟩
      · cases hb : valB VK VN VS
        all_goals
          go_enter Try.func52, Try.ntmps52
          go_wp2_with fail
          refine (specValOk_any _ _ _ _ hv).mono ?_
          rintro e w1 ⟨rfl, g1⟩
          rw [hb]
          have B1 : Below w.heap.size w w1 := b0.trans ((below_gn' g1).mono b0.size)
          have c1 := cell_gn g1 (boxk_cell (boxk_new w #[.int .i64 2, .string S, .int .i64 VK, .int .i64 VN, .string VS] 80) 1 _ rfl)
          go_wp2
          go_ret
          exact ⟨ret_bool (by rw [HR.out]; simp only [hb]; rfl), B1⟩
      · cases hb : valB 0 VN VS
        all_goals
          go_enter Try.func52, Try.ntmps52
          go_wp2_with fail
          refine (specValOk_any _ _ _ _ hv).mono ?_
          rintro e w1 ⟨rfl, g1⟩
          rw [hb]
          have B1 : Below w.heap.size w w1 := b0.trans ((below_gn' g1).mono b0.size)
          have c1 := cell_gn g1 (boxk_cell (boxk_new w #[.int .i64 2, .string S, .int .i64 0, .int .i64 VN, .string VS] 80) 1 _ rfl)
          go_wp2
          go_ret
          exact ⟨ret_bool (by rw [HR.out]; simp only [hb]; rfl), B1⟩
      · cases hb : valB 0 0 VS
        all_goals
          have ke := isEmpty_false kz
          go_enter Try.func52, Try.ntmps52
          go_wp2_with fail
          refine (specValOk_any _ _ _ _ hv).mono ?_
          rintro e w1 ⟨rfl, g1⟩
          rw [hb]
          have B1 : Below w.heap.size w w1 := b0.trans ((below_gn' g1).mono b0.size)
          have c1 := cell_gn g1 (boxk_cell (boxk_new w #[.int .i64 2, .string S, .int .i64 0, .int .i64 0, .string VS] 80) 1 _ rfl)
          go_wp2
          go_ret
          exact ⟨ret_bool (by rw [HR.out]; simp only [hb]; rfl), B1⟩
    · have k2 : (K == 2) = false := by simpa using h2
      by_cases h3 : K = 3
      · subst h3
        have HR := hide (argB3 S ⟨VK, VN, VS⟩)
        clear h1 h2 k1 k2
        by_cases hz : S.size = 0
        · obtain rfl := empty_of_size hz
          rcases v_cases VK VN VS with ⟨rfl, rfl, rfl⟩ | kz | ⟨rfl, kz⟩ | ⟨rfl, rfl, kz⟩
          · rw [zV_z] at HR
            go_enter Try.func52, Try.ntmps52
            go_wp2
            go_ret
            exact ⟨ret_bool (by rw [HR.out]; rfl), b0⟩
          · rw [(zV_K kz)] at HR
            go_enter Try.func52, Try.ntmps52
            go_wp2
            go_ret
            exact ⟨ret_bool (by rw [HR.out]; rfl), b0⟩
          · rw [(zV_N kz)] at HR
            go_enter Try.func52, Try.ntmps52
            go_wp2
            go_ret
            exact ⟨ret_bool (by rw [HR.out]; rfl), b0⟩
          · rw [(zV_S kz)] at HR
            have ke := isEmpty_false kz
            clear kz
            go_enter Try.func52, Try.ntmps52
            go_wp2
            go_ret
            exact ⟨ret_bool (by rw [HR.out]; rfl), b0⟩
        · rw [decide_eq_false hz] at HR
          have hE := isEmpty_false hz
          clear hz
          rcases v_cases VK VN VS with ⟨rfl, rfl, rfl⟩ | kz | ⟨rfl, kz⟩ | ⟨rfl, rfl, kz⟩
          · rw [zV_z] at HR
            go_enter Try.func52, Try.ntmps52
            go_wp2
            go_ret
            exact ⟨ret_bool (by rw [HR.out]; rfl), b0⟩
          · rw [(zV_K kz)] at HR
            go_enter Try.func52, Try.ntmps52
            go_wp2
            go_ret
            exact ⟨ret_bool (by rw [HR.out]; rfl), b0⟩
          · rw [(zV_N kz)] at HR
            go_enter Try.func52, Try.ntmps52
            go_wp2
            go_ret
            exact ⟨ret_bool (by rw [HR.out]; rfl), b0⟩
          · rw [(zV_S kz)] at HR
            have ke := isEmpty_false kz
            clear kz
            go_enter Try.func52, Try.ntmps52
            go_wp2
            go_ret
            exact ⟨ret_bool (by rw [HR.out]; rfl), b0⟩
      · have HR := hide (argB_no S ⟨VK, VN, VS⟩ h1 h2 h3)
        have k3 : (K == 3) = false := by simpa using h3
        clear h1 h2 h3
        rcases v_cases VK VN VS with ⟨rfl, rfl, rfl⟩ | kz | ⟨rfl, kz⟩ | ⟨rfl, rfl, kz⟩
        · go_enter Try.func52, Try.ntmps52
          go_wp2
          go_ret
          exact ⟨ret_bool HR.out.symm, b0⟩
        · go_enter Try.func52, Try.ntmps52
          go_wp2
          go_ret
          exact ⟨ret_bool HR.out.symm, b0⟩
        · go_enter Try.func52, Try.ntmps52
          go_wp2
          go_ret
          exact ⟨ret_bool HR.out.symm, b0⟩
        · have ke := isEmpty_false kz
          clear kz
          go_enter Try.func52, Try.ntmps52
          go_wp2
          go_ret
          exact ⟨ret_bool HR.out.symm, b0⟩
end Go.Proofs.Ytaflokfgbmlmaaa
