/-
  The contracts of the laws' own helpers on rows of values and on facts.
-/
import Derived.Test.YtcfhpcbkdpgboaaValRow
import Derived.Test.YtcfhpcbkdpgboaaLawVal
import Derived.Test.YtcfhpcbkdpgboaaLawEq
import Derived.Test.YtcfhpcbkdpgboaaKeep6
import Derived.Deep.RegionHeld3
namespace Go.Proofs.Ytcfhpcbkdpgboaa
open Go.RowKit
set_option linter.unusedVariables false

theorem Try.info75 : (Try.prog.info? 75).map (fun i => (i.zero, i.size, i.bytes)) = some (some (.agg #[.int .i64 0, .int .i64 0, .string ⟨#[]⟩]), 3, 32) := by kernel_rfl

/-- the first k values copied, the rest still zero -/
def partV (L : List V3) (k : Nat) : List V3 := L.take k ++ List.replicate (L.length - k) ⟨0, 0, ⟨#[]⟩⟩
theorem partV_length {L : List V3} {k : Nat} (h : k ≤ L.length) : (partV L k).length = L.length := by simp [partV]; omega
theorem partV_zero (L : List V3) : partV L 0 = List.replicate L.length ⟨0, 0, ⟨#[]⟩⟩ := by simp [partV]
theorem partV_end (L : List V3) : partV L L.length = L := by simp [partV]
theorem cells3_set (L M : List V3) (v : V3) (x : V3) :
    (((cells3 (L ++ x :: M)).set (L.length * 3) (.int .i64 v.K)).set (L.length * 3 + 1) (.int .i64 v.N)).set (L.length * 3 + 2) (.string v.S) = cells3 (L ++ v :: M) := by
  have e : ∀ y : V3, cells3 (L ++ y :: M) = cells3 L ++ (.int .i64 y.K :: .int .i64 y.N :: .string y.S :: cells3 M) := fun y => by simp [cells3]
  have hl := cells3_length L
  rw [e, e, List.set_append_right _ _ (by omega), hl, Nat.sub_self, List.set_append_right _ _ (by omega), hl, List.set_append_right _ _ (by omega), hl]
  simp
theorem partV_set {L : List V3} {k : Nat} (h : k < L.length) :
    (((cells3 (partV L k)).set (k * 3) (.int .i64 (vAt L k).K)).set (k * 3 + 1) (.int .i64 (vAt L k).N)).set (k * 3 + 2) (.string (vAt L k).S) = cells3 (partV L (k + 1)) := by
  have h1 : partV L k = L.take k ++ ⟨0, 0, ⟨#[]⟩⟩ :: List.replicate (L.length - (k + 1)) ⟨0, 0, ⟨#[]⟩⟩ := by
    unfold partV; rw [show L.length - k = (L.length - (k + 1)) + 1 by omega, List.replicate_succ]
  have h2 : partV L (k + 1) = L.take k ++ vAt L k :: List.replicate (L.length - (k + 1)) ⟨0, 0, ⟨#[]⟩⟩ := by
    unfold partV; rw [List.take_succ_eq_append_getElem h, vAt_in h, List.append_assoc]; rfl
  have := cells3_set (L.take k) (List.replicate (L.length - (k + 1)) ⟨0, 0, ⟨#[]⟩⟩) (vAt L k) ⟨0, 0, ⟨#[]⟩⟩
  rw [List.length_take, Nat.min_eq_left (by omega)] at this
  rw [h1, h2]; exact this
theorem made3 (n : Nat) : (madeCells #[Value.int .i64 0, .int .i64 0, .string ⟨#[]⟩] (n * 3)).toList = cells3 (List.replicate n ⟨0, 0, ⟨#[]⟩⟩) := by
  have hl : (madeCells #[Value.int .i64 0, .int .i64 0, .string ⟨#[]⟩] (n * 3)).toList.length = n * 3 := by simp [madeCells]
  apply List.ext_getElem?
  intro j
  by_cases hj : j < n * 3
  · obtain ⟨i, r, rfl, hr⟩ : ∃ i r, j = i * 3 + r ∧ r < 3 := ⟨j / 3, j % 3, by omega, by omega⟩
    have hi : i < (List.replicate n (⟨0, 0, ⟨#[]⟩⟩ : V3)).length := by simp; omega
    obtain ⟨g0, g1, g2⟩ := cells3_get (List.replicate n ⟨0, 0, ⟨#[]⟩⟩) i hi
    have ev : vAt (List.replicate n (⟨0, 0, ⟨#[]⟩⟩ : V3)) i = ⟨0, 0, ⟨#[]⟩⟩ := by rw [vAt_in hi]; simp
    rw [ev] at g0 g1 g2
    match r, hr with
    | 0, _ => rw [Nat.add_zero, g0]; simp [madeCells, show i * 3 < n * 3 by omega]
    | 1, _ => rw [g1]; simp [madeCells, show i * 3 + 1 < n * 3 by omega, show (i * 3 + 1) % 3 = 1 by omega]
    | 2, _ => rw [g2]; simp [madeCells, show i * 3 + 2 < n * 3 by omega, show (i * 3 + 2) % 3 = 2 by omega]
  · rw [List.getElem?_eq_none (by omega), List.getElem?_eq_none (by rw [cells3_length]; simp; omega)]

theorem ownsRow_below {w w' : World} {base n size : Nat} {e : TypeId} {v : Value} {xs : List Value} (h : w.ownsRow base e size v n xs) (hb : Below w.heap.size w w') : w'.ownsRow base e size v n xs := by
  refine ⟨h.1, ?_⟩
  rcases h.2 with h2 | ⟨g, cap, cur, h1, hb', hh, rest⟩
  · exact .inl h2
  · exact .inr ⟨g, cap, cur, h1, hb', by rw [hb.block g (Array.getElem?_eq_some_iff.1 hh).1]; exact hh, rest⟩

def szL (L : List V3) : Nat := L.length + (L.map fun v => v.S.size).sum
def sumS (L : List V3) (k : Nat) : Nat := ((L.take k).map fun v => v.S.size).sum
theorem sumS_step {L : List V3} {k : Nat} (h : k < L.length) : sumS L (k + 1) = sumS L k + (vAt L k).S.size := by
  unfold sumS; rw [List.take_succ_eq_append_getElem h, vAt_in h, List.map_append, List.sum_append]; simp only [List.map_cons, List.map_nil, List.sum_cons, List.sum_nil, Nat.add_zero]
theorem sumS_end (L : List V3) : sumS L L.length = (L.map fun v => v.S.size).sum := by unfold sumS; rw [List.take_length]
theorem mem_sum : ∀ {l : List Nat} {x : Nat}, x ∈ l → x ≤ l.sum
  | y :: r, x, h => by
    rw [List.sum_cons]
    rcases List.mem_cons.1 h with rfl | h
    · omega
    · have := mem_sum h; omega
theorem szL_mem {L : List V3} {v : V3} (h : v ∈ L) : v.S.size + L.length ≤ szL L := by
  unfold szL
  have : v.S.size ≤ (L.map fun v => v.S.size).sum := mem_sum (List.mem_map.2 ⟨v, h, rfl⟩)
  omega

theorem eqVal_any (K N : Int) (S : ByteArray) (w : World) (B : Nat) (h : w.heap.size = B) :
    Calls Try.prog 107 #[.agg #[.int .i64 K, .int .i64 N, .string S], .agg #[.int .i64 K, .int .i64 N, .string S]] w fun e w' =>
      e = .returned (.bool true) ∧ Below B w w' := by subst h; exact eqVal_same K N S w
end Go.Proofs.Ytcfhpcbkdpgboaa
