/-
  The map by texts tells the Id that a fact has in a store that is right: what the tested Assert asks it.
-/
import Derived.Test.YtaflokfgbmlmaadDoorJByText
namespace Go.Proofs.YtaflokfgbmlmaadDoor
open Go.RowKit
set_option linter.unusedVariables false

theorem map_id {nx : Int} {J : List It} {kd : ByteArray} {M : List V3} {D : DataW Unit} (hs : storeB nx J = true) (hf : factB kd M = true) (hm : MapOf J J.length D) :
    (Maps.has D (.string (factT kd M).data.toList) = true ∧ 0 < idP (J.map It.pl) kd M ∧ ∀ z, D.atKey (.string (factT kd M).data.toList) z = .lit (.int .i64 (idP (J.map It.pl) kd M))) ∨
    (Maps.has D (.string (factT kd M).data.toList) = false ∧ idP (J.map It.pl) kd M = 0) := by
  obtain ⟨-, hok, hd⟩ := storeB_iff.1 hs
  have hT := (texts_dist (fun k hk => (hok k hk).2.2)).2 hd
  cases hh : Maps.has D (.string (factT kd M).data.toList)
  · refine .inr ⟨rfl, idP_none (fun j hj => ?_)⟩
    cases e : (iAt J j).same kd M
    · rfl
    · exfalso
      unfold It.same at e
      rw [sameF_text (hok j hj).2.2 hf, decide_eq_true_iff] at e
      have := (hm.has (factT kd M).data.toList).2 ⟨j, hj, by unfold It.tx; rw [e]⟩
      rw [hh] at this
      cases this
  · obtain ⟨j, hj, e⟩ := (hm.has _).1 hh
    have e2 := factT_inj (hok j hj).2.2 hf (ByteArray.ext (Array.toList_inj.1 e))
    have e3 := idP_own hd hj
    rw [e2.1, e2.2] at e3
    refine .inl ⟨rfl, ?_, fun z => ?_⟩
    · rw [e3]
      have := (ids_up (Nat.le_refl _) hok).1 j hj
      omega
    · rw [e3, ← e]
      exact hm.idAt hT j hj z
theorem rI_shape {v : Value} {y : DataW Unit × List MemPlace} (h : rI v = some y) : ∃ id s a l c, v = .agg #[.int .i64 id, .string s, .slice a l c] := by
  unfold rI at h
  split at h
  · rename_i cs
    split at h
    · rename_i id' s a l c e
      exact ⟨id', s, a, l, c, by rw [← Array.toList_inj.1 (show cs.toList = (#[.int .i64 id', .string s, .slice a l c] : Array Value).toList from e)]⟩
    · cases h
  · cases h
/-- 'there, ok := m[text]': what comes back, and the world stays -/
theorem look_text {W : World} {B n : Nat} {nx : Int} {J : List It} {kd : ByteArray} {M : List V3} {D : DataW Unit} (hz : (zeroValue 54).run Tryd.prog W = .ok (.agg #[.int .i64 0, .string ⟨#[]⟩, .slice none 0 0]) W) (hs : storeB nx J = true) (hf : factB kd M = true) (hm : MapOf J J.length D) (ho : W.ownsMap Tryd.prog 9 rI B n D) :
    (0 < idP (J.map It.pl) kd M ∧ ∃ s a l c, (Instr.lookup 73 (.map (some B)) (.string (factT kd M)) true).run Tryd.prog W = .ok (.tuple #[.agg #[.int .i64 (idP (J.map It.pl) kd M), .string s, .slice a l c], .bool true]) W) ∨
    (idP (J.map It.pl) kd M = 0 ∧ ∃ id s a l c, (Instr.lookup 73 (.map (some B)) (.string (factT kd M)) true).run Tryd.prog W = .ok (.tuple #[.agg #[.int .i64 id, .string s, .slice a l c], .bool false]) W) := by
  obtain ⟨v, ps, hrun, hv⟩ := ho.look_ok (t := 73) lawT Tryd.underlying73 hz (rI_mk 0 ⟨#[]⟩ none 0 0) (Go.WideMaps.keyOf_string_mk Tryd.underlying9 (s := factT kd M) (by have := tx_len hf; unfold maxLen; omega))
  rcases map_id hs hf hm with ⟨h1, h2, h3⟩ | ⟨h1, h2⟩
  · rw [h3] at hv
    obtain ⟨s, a, l, c, rfl⟩ := rI_inv hv
    rw [h1] at hrun
    exact .inl ⟨h2, s, a, l, c, hrun⟩
  · rw [h1] at hrun
    refine .inr ⟨h2, ?_⟩
    obtain ⟨id, s, a, l, c, rfl⟩ : ∃ id s a l c, v = .agg #[.int .i64 id, .string s, .slice a l c] := rI_shape hv
    exact ⟨id, s, a, l, c, hrun⟩
end Go.Proofs.YtaflokfgbmlmaadDoor
