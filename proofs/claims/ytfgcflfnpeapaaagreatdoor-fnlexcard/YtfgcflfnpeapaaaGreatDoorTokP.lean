/-
  The text of a token, plainly; rows of bytes that are kept; an append of a text in a region that draws its order; a row of bytes turned into a text.
-/
import Derived.Test.YtfgcflfnpeapaaaGreatDoorTok
import Derived.Test.YtfgcflfnpeapaaaGreatDoorBytes
import Derived.Test.YtfgcflfnpeapaaaGreatDoorKeep6
import Derived.Lib.AppendIntMem
import Derived.Lib.AppendStr
import Derived.Lib.ItoaLen
import Derived.Deep.AppendLies
import Derived.Laws.IdiomStrings
namespace Go.Proofs.YtfgcflfnpeapaaaGreatDoor
open Go.RowKit
set_option linter.unusedVariables false

/-- the bytes of a token's text -/
def tokL (K N : Int) (S : ByteArray) : List UInt8 :=
  if tokB K N S = true then (if K = 1 then Lib.itoa N else if K = 4 then 39 :: S.data.toList ++ [39] else S.data.toList) else []
theorem tokL_no {K N : Int} {S : ByteArray} (h : tokB K N S = false) : tokL K N S = [] := by simp [tokL, h]
theorem tokL_num {N : Int} {S : ByteArray} (h : tokB 1 N S = true) : tokL 1 N S = Lib.itoa N := by simp [tokL, h]
theorem tokL_text {N : Int} {S : ByteArray} (h : tokB 4 N S = true) : tokL 4 N S = 39 :: S.data.toList ++ [39] := by simp [tokL, h]
theorem tokL_word {K N : Int} {S : ByteArray} (h : tokB K N S = true) (h1 : K ≠ 1) (h4 : K ≠ 4) : tokL K N S = S.data.toList := by simp [tokL, h, h1, h4]
theorem tokB_range {N : Int} {S : ByteArray} (h : tokB 1 N S = true) : 0 ≤ N ∧ N ≤ 1000000000 := by
  rw [tokB_num] at h
  simp only [inB, Bool.and_eq_true, decide_eq_true_eq] at h
  exact h.1
theorem tokB_le {K N : Int} {S : ByteArray} (h : tokB K N S = true) : S.size ≤ 20 := by
  by_cases hK : K = 1
  · subst hK
    rw [tokB_num] at h
    simp only [Bool.and_eq_true, decide_eq_true_eq] at h
    omega
  · rw [tokB_or S hK] at h
    simp only [Bool.and_eq_true] at h
    exact wordOfB_le h.2
theorem tokL_le (K N : Int) (S : ByteArray) : (tokL K N S).length ≤ 22 := by
  cases h : tokB K N S
  · rw [tokL_no h]; simp
  · have hS := tokB_le h
    have e : S.data.toList.length = S.size := by rw [Array.length_toList]; rfl
    by_cases h1 : K = 1
    · subst h1
      rw [tokL_num h]
      have := tokB_range h
      have := Lib.itoa_length_le N (by omega) (by omega)
      omega
    · by_cases h4 : K = 4
      · subst h4
        rw [tokL_text h]; simp; omega
      · rw [tokL_word h h1 h4]; omega

theorem rows_below {w w' : World} {base n size : Nat} {e : TypeId} {v : Value} {xs : List Value} (h : w.ownsRow base e size v n xs) (hb : Below w.heap.size w w') : w'.ownsRow base e size v n xs := by
  refine ⟨h.1, ?_⟩
  rcases h.2 with h2 | ⟨g, cap, cur, h1, hb', hh, rest⟩
  · exact .inl h2
  · exact .inr ⟨g, cap, cur, h1, hb', by rw [hb.block g (Array.getElem?_eq_some_iff.1 hh).1]; exact hh, rest⟩

/-- append(b, s...) at a step of a region that draws its order -/
theorem step_append_str {P : Program} (w : World) {ops : Array Oper} {o : Oper} {a : Act} {K : Act → World → Prop} {Q : Exit → Act → World → Prop} {E : Prop} (hgd : o.guard = none) (sl x : Operand) (t u : TypeId)
    (ho : o.op = .call { callee := .builtin .append, args := #[sl, x], argTypes := #[t, u] })
    (base : Nat) (e : TypeId) (i : TypeInfo) (ht : P.underlying t = some (.slice e)) (hu : P.underlying u = some .string) (hi : P.info? e = some i) (hz : i.zero = some (.int .u8 0))
    (hsize : i.size = 1) (hby : i.bytes = 1)
    (v : Value) (n : Nat) (xs : List Value) (hs : a.eval sl = v) (hown : w.ownsRow base e 1 v n xs) (s : ByteArray) (hx : a.eval x = .string s)
    (h63 : n + s.size ≤ maxLen) (hbytes : n + s.size ≤ 140737488355328) (hbase : base ≤ w.heap.size)
    (h : ∀ v' w', w'.ownsRow base e 1 v' (n + s.size) (xs ++ Lib.strCells s) → w.grownBy w' v.ownBlock → K (a.put o.dst v') w') :
    if Region.wanted o (yielded ops a.tmps) = true then Oper.wp P o a w K Q else E := by
  have hw : Region.wanted o (yielded ops a.tmps) = true := by simp [Region.wanted, hgd]
  rw [if_pos hw]
  obtain ⟨v', w', hr, h2, h3, h4⟩ := Lib.run_append_own_string (P := P) w base t u o.type e i ht hu hi hz hsize hby v n xs hown s h63 hbytes hbase
  unfold Oper.wp execOp
  simp only [ho, resolve, invoke, builtin, Sem.run_bind, Sem.run_pure, Result.andThen_ok, List.map_toArray, List.map_cons, List.map_nil, hs, hx, hr]
  exact h v' w' h2 h3

/-- a row of bytes of the call's own, turned into a text -/
theorem conv_row {w : World} {base n : Nat} {v : Value} {bs : List UInt8} (h : w.ownsRow base 5 1 v n (vals bs)) :
    (convert 22 9 v).run Tryz.prog w = .ok (.string ⟨bs.toArray⟩) w := by
  have hn : n = bs.length := by have := h.1; rw [vals_length] at this; omega
  subst hn
  rcases h.2 with ⟨rfl, h0⟩ | ⟨g, cap, cur, rfl, hb, rest⟩
  · have : bs = [] := List.eq_nil_of_length_eq_zero h0
    subst this
    exact (show (convert 22 9 (.slice none 0 0)).run Tryz.prog w = .ok (.string ⟨#[]⟩) w by simp [convert, run_underlying Tryz.underlying22, run_underlying Tryz.underlying9, run_underlying Tryz.underlying5]; rfl)
  · have hc : ∀ i, i < bs.length → w.cell? ⟨g, i, none⟩ = some (.int .u8 (byteAt bs i)) := fun i hi => by
      have := h.cellAt i (by omega)
      rw [this]; exact vals_get hi
    exact run_convert_bytes_back (P := Tryz.prog) w 22 9 5 ⟨g, 0, none⟩ cap bs Tryz.underlying22 Tryz.underlying5 Tryz.underlying9 (fun j hj => by
      rw [Addr.add_lit, Nat.zero_add, hc j hj]
      unfold byteAt
      simp [List.getD, hj])
end Go.Proofs.YtfgcflfnpeapaaaGreatDoor
