/-
  What the readers of a fact's values answer, the tested one and the model's alike.
-/
import Derived.Test.YtaflokfgbmlmaabFactR
import Derived.Test.YtaflokfgbmlmaabGetValS
import Derived.Test.YtaflokfgbmlmaabGetValI
import Derived.Test.YtaflokfgbmlmaabLawFact
import Derived.Deep.AppendLies
namespace Go.Proofs.Ytaflokfgbmlmaab
open Go.RowKit
set_option linter.unusedVariables false

theorem app3 (L : List V3) (u : V3) : cells3 L ++ [.int .i64 u.K, .int .i64 u.N, .string u.S] = cells3 (L ++ [u]) := by simp [cells3]
theorem news_src (W : World) (u : V3) : ∀ j x, ([.int .i64 u.K, .int .i64 u.N, .string u.S] : List Value)[j]? = some x → (W.alloc (.cells #[.int .i64 u.K, .int .i64 u.N, .string u.S] 63)).cell? ((⟨W.heap.size, 0, none⟩ : Addr).add j) = some x := by
  obtain ⟨h0, h1, h2, -, -, -⟩ := box_cell (box_new W (.int .i64 u.K) (.int .i64 u.N) (.string u.S) 63)
  intro j x hj
  rw [Addr.add_lit, Nat.zero_add]
  match j, hj with
  | 0, hj => rw [h0]; simpa using hj
  | 1, hj => rw [h1]; simpa using hj
  | 2, hj => rw [h2]; simpa using hj
theorem news_one (u : V3) : ∀ x ∈ ([.int .i64 u.K, .int .i64 u.N, .string u.S] : List Value), x.oneCell' = true := by
  intro x hx
  simp only [List.mem_cons, List.not_mem_nil, or_false] at hx
  rcases hx with rfl | rfl | rfl <;> rfl

set_option maxRecDepth 100000 in
set_option maxHeartbeats 3200000 in
theorem getFields_any (a : Option Addr) (cap : Nat) (x : Int) (bs : List UInt8) (w : World) (hr : Rd w a bs) (hn : bs.length ≤ 1048580) (hcap : bs.length ≤ cap) (ha : a = none → bs.length = 0 ∧ cap = 0) :
    Calls Try.prog 58 #[.slice a bs.length cap, .int .i64 x] w fun e w' => GetsV bs x w.heap.size e w' ∧ Below w.heap.size w w' := by
  obtain ⟨i0, hi, hz0, hz1, hz2⟩ := info_parts Try.info63
  obtain ⟨n, p, ok, hnum⟩ : ∃ n p ok, numR bs x = (n, p, ok) := ⟨_, _, _, rfl⟩
  have HNum := hide hnum
  have HNone : Hid (fieldsR bs x = none → ∀ W : World, GetsV bs x w.heap.size (.returned (.tuple #[.slice none 0 0, .int .i64 0, .bool false])) W) := fun h W => ⟨_, _, _, [], rfl, World.ownsRow_nil _ _ _ _, by simp, by simp, h⟩
  cases ok
  · have HF := hide (HNone.out (fieldsR_no hnum))
    clear hnum
    go_enter Try.func58, Try.ntmps58
    go_wp2_with fail
    refine (implGetNum_any a cap x bs _ hr hn hcap ha).mono ?_
    rw [HNum.out]
    rintro e w1 ⟨rfl, rfl⟩
    go_wp2
    go_ret3
    exact ⟨HF.out _, Below.refl _ _⟩
  cases hin : inB n 0 5
  · have HF := hide (HNone.out (fieldsR_out hnum hin))
    have hout : ¬ (0 ≤ n ∧ n ≤ 5) := fun h => by rw [inB_t h] at hin; cases hin
    clear hnum hin
    by_cases hneg : n < 0
    · go_enter Try.func58, Try.ntmps58
      go_wp2_with fail
      refine (implGetNum_any a cap x bs _ hr hn hcap ha).mono ?_
      rw [HNum.out]
      rintro e w1 ⟨rfl, rfl⟩
      go_wp2
      go_ret3
      exact ⟨HF.out _, Below.refl _ _⟩
    · have hbig : (5 : Int) < n := by omega
      go_enter Try.func58, Try.ntmps58
      go_wp2_with fail
      refine (implGetNum_any a cap x bs _ hr hn hcap ha).mono ?_
      rw [HNum.out]
      rintro e w1 ⟨rfl, rfl⟩
      go_wp2
      go_ret3
      exact ⟨HF.out _, Below.refl _ _⟩
  have h05 : 0 ≤ n ∧ n ≤ 5 := by unfold inB at hin; simpa using hin
  obtain ⟨m, rfl⟩ := Int.eq_ofNat_of_zero_le h05.1
  have hm5 : m ≤ 5 := by omega
  have HFY : Hid (fieldsR bs x = valsR bs m p) := fieldsR_yes hnum hin
  clear hnum hin h05
  go_enter Try.func58, Try.ntmps58
  go_wp2_with fail
  refine (implGetNum_any a cap x bs _ hr hn hcap ha).mono ?_
  rw [HNum.out]
  rintro e w1 ⟨rfl, rfl⟩
  go_wp2
  go_loopw [8, 10, 32] (fun y v i wr => ∃ (q : Int) (L : List V3), L.length ≤ m ∧ i = .int .i64 (L.length : Int) ∧ y = .int .i64 q ∧ wr.ownsRow w1.heap.size 63 3 v L.length (cells3 L) ∧ Going bs m p L q ∧ (∀ u ∈ L, u.S.size ≤ bs.length) ∧ Below w1.heap.size w1 wr) (fun _ _ i _ => m - (intOf i).toNat)
  case atStart => exact ⟨p, [], Nat.zero_le _, rfl, rfl, World.ownsRow_nil _ _ _ _, going_0 bs m p, by simp, Below.refl _ _⟩
  case round =>
    obtain ⟨q, L, hL, rfl, rfl, hown, hgo, hsz, hbel⟩ := hrel
    have HGo := hide hgo
    have HSz := hide hsz
    clear hgo hsz
    obtain ⟨g, c, e0, -, -, -, -⟩ := rdV_owns hown
    by_cases hlt : L.length < m
    · obtain ⟨K, N, S, q2, b, hv⟩ : ∃ K N S q2 b, valR bs q = (K, N, S, q2, b) := ⟨_, _, _, _, _, rfl⟩
      have HV := hide hv
      have HS : Hid (S.size ≤ bs.length) := by have := valR_S bs q; rw [hv] at this; exact this
      clear hv
      subst e0
      go_wp2_with fail
      refine (implGetVal_any a cap q bs _ (hr.below hbel) hn hcap ha).mono ?_
      rw [HV.out]
      unfold valT
      rintro e w3 ⟨rfl, hb3⟩
      have hbel3 : Below w1.heap.size w1 w3 := hbel.trans (hb3.mono hbel.size)
      have hown3 := ownsRow_below hown hb3
      clear hb3 hbel hown
      cases b
      · have HF := hide (HNone.out (HFY.out.trans (going_no HGo.out hlt HV.out)))
        go_wp2
        go_ret3
        exact ⟨HF.out _, hbel3.alloc hbel3.size _⟩
      · have HG2 := hide (going_step HGo.out hlt HV.out)
        have hown4 := (hown3.alloc (.cells #[.int .i64 K, .int .i64 N, .string S] 63)).alloc (.cells #[.int .i64 K, .int .i64 N, .string S] 63)
        have HO4 := hide hown4
        have hsrc := news_src (w3.alloc (.cells #[.int .i64 K, .int .i64 N, .string S] 63)) ⟨K, N, S⟩
        have HSrc := hide hsrc
        have HB4 := hide ((hbel3.alloc hbel3.size (.cells #[.int .i64 K, .int .i64 N, .string S] 63)).alloc (by have := hbel3.size; simp; omega) (.cells #[.int .i64 K, .int .i64 N, .string S] 63))
        clear hown3 hown4 hsrc hbel3
        go_wp2_with (at_builtin; refine wpList_append_lies _ rfl (.tmp 43) (.tmp 45) 27 rfl w1.heap.size 63 i0 (.agg #[.int .i64 0, .int .i64 0, .string ⟨#[]⟩]) 3 32 Try.underlying27 hi hz0 hz1 hz2 rfl (by omega) (.slice g L.length c) L.length (cells3 L) rfl HO4.out ⟨(w3.alloc (.cells #[.int .i64 K, .int .i64 N, .string S] 63)).heap.size, 0, none⟩ 1 1 [.int .i64 K, .int .i64 N, .string S] ?hx rfl HSrc.out (news_one ⟨K, N, S⟩) (by omega) (by unfold maxLen; omega) (by omega) HB4.out.size _ rfl ?_)
        case hx => simp [Act.eval]
        intro g5 c5 w5 ho5 hg5 hat5 hlt5
        have HO5 : Hid (w5.ownsRow w1.heap.size 63 3 (.slice (some ⟨g5, 0, none⟩) (L.length + 1) c5) (L ++ [(⟨K, N, S⟩ : V3)]).length (cells3 (L ++ [⟨K, N, S⟩]))) := by
          unfold Hid
          rw [← app3, List.length_append]
          exact ho5
        have HB5 := hide (HB4.out.grown hg5 HB4.out.size (fun k hk => (HO4.out.lt k hk).1))
        have HSz5 : Hid (∀ u ∈ L ++ [(⟨K, N, S⟩ : V3)], u.S.size ≤ bs.length) := fun u hu => by
          rcases List.mem_append.1 hu with hu | hu
          · exact HSz.out u hu
          · simp only [List.mem_cons, List.not_mem_nil, or_false] at hu
            rw [hu]; exact HS.out
        clear ho5 hg5 hat5 hlt5 HO4 HSrc HB4 HSz
        go_wp2
        go_roundw
        case rel => exact ⟨q2, L ++ [⟨K, N, S⟩], by simp; omega, by simp, rfl, HO5.out, HG2.out, HSz5.out, HB5.out⟩
        case measure => simp [intOf]; omega
    · obtain hLm : L.length = m := by omega
      have HF : Hid (GetsV bs x w1.heap.size (.returned (.tuple #[.slice g L.length c, .int .i64 q, .bool true])) wr) := ⟨_, _, _, L, rfl, by rw [← e0]; exact hown, by omega, HSz.out, HFY.out.trans (going_end HGo.out hLm)⟩
      subst e0
      go_wp2
      go_ret3
      exact ⟨HF.out, hbel⟩
end Go.Proofs.Ytaflokfgbmlmaab
