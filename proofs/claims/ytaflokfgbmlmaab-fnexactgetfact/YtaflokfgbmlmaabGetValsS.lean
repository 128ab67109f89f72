/-
  What the model's reader of a fact's values answers.
-/
import Derived.Test.YtaflokfgbmlmaabGetVals
namespace Go.Proofs.Ytaflokfgbmlmaab
open Go.RowKit
set_option linter.unusedVariables false

set_option maxRecDepth 100000 in
set_option maxHeartbeats 3200000 in
theorem l3GetVals_any (a : Option Addr) (cap : Nat) (x : Int) (bs : List UInt8) (w : World) (hr : Rd w a bs) (hn : bs.length ≤ 1048580) (hcap : bs.length ≤ cap) :
    Calls Try.prog 56 #[.slice a bs.length cap, .int .i64 x] w fun e w' => GetsV bs x w.heap.size e w' ∧ Below w.heap.size w w' := by
  obtain ⟨i0, hi, hz0, hz1, hz2⟩ := info_parts Try.info63
  obtain ⟨n, p, ok, hnum⟩ : ∃ n p ok, numR bs x = (n, p, ok) := ⟨_, _, _, rfl⟩
  have HNum := hide hnum
  have b0 := (Below.refl w.heap.size w).alloc (Nat.le_refl _) (.cells #[] 63)
  have r0 : (w.alloc (.cells #[] 63)).ownsRow w.heap.size 63 3 (.slice (some ⟨w.heap.size, 0, none⟩) 0 0) ([] : List V3).length (cells3 []) := World.ownsRow_lit w #[] 0 (Nat.le_refl _) (Nat.zero_le _) rfl
  have hr0 := hr.below b0
  have HNone : Hid (∀ (W : World) (v : Value) (L : List V3), fieldsR bs x = none → W.ownsRow w.heap.size 63 3 v L.length (cells3 L) → L.length ≤ 5 → (∀ u ∈ L, u.S.size ≤ bs.length) → GetsV bs x w.heap.size (.returned (.tuple #[v, .int .i64 0, .bool false])) W) := fun W v L h ho hl hs => ⟨_, _, _, L, rfl, ho, hl, hs, h⟩
  cases ok
  · have HF := hide (HNone.out _ _ [] (fieldsR_no hnum) r0 (by simp) (by simp))
    have HB := hide b0
    clear hnum r0
    go_enter Try.func56, Try.ntmps56
    go_wp2_with fail
    refine (specGetNum_any a cap x bs _ hr0 hn).mono ?_
    rw [HNum.out]
    rintro e w1 ⟨rfl, rfl⟩
    go_wp2
    go_ret3
    exact ⟨HF.out, HB.out⟩
  cases hin : inB n 0 5
  · have HF := hide (HNone.out _ _ [] (fieldsR_out hnum hin) r0 (by simp) (by simp))
    have HB := hide b0
    clear hnum r0
    go_enter Try.func56, Try.ntmps56
    go_wp2_with fail
    refine (specGetNum_any a cap x bs _ hr0 hn).mono ?_
    rw [HNum.out]
    rintro e w1 ⟨rfl, rfl⟩
    go_wp2_with (go_at_call 48; refine (l1In_any _ _ _ _).mono ?_; rw [hin]; rintro e w' ⟨rfl, rfl⟩)
    go_ret3
    exact ⟨HF.out, HB.out⟩
  have h05 : 0 ≤ n ∧ n ≤ 5 := by unfold inB at hin; simpa using hin
  obtain ⟨m, rfl⟩ := Int.eq_ofNat_of_zero_le h05.1
  have hm5 : m ≤ 5 := by omega
  have HFY : Hid (fieldsR bs x = valsR bs m p) := fieldsR_yes hnum hin
  have HIn := hide hin
  clear hnum h05 hin
  go_enter Try.func56, Try.ntmps56
  go_wp2_with fail
  refine (specGetNum_any a cap x bs _ hr0 hn).mono ?_
  rw [HNum.out]
  rintro e w1 ⟨rfl, hw1⟩
  subst hw1
  go_wp2_with fail
  refine (l1In_any _ _ _ _).mono ?_
  rw [HIn.out]
  rintro e w' ⟨rfl, hw1⟩
  subst hw1
  go_wp2
  generalize w.alloc (.cells #[] 63) = w1 at b0 r0 hr0 ⊢
  go_loopw [9, 7, 11] (fun y v i wr => ∃ (q : Int) (L : List V3), L.length ≤ m ∧ i = .int .i64 (L.length : Int) ∧ y = .int .i64 q ∧ wr.ownsRow w.heap.size 63 3 v L.length (cells3 L) ∧ Going bs m p L q ∧ (∀ u ∈ L, u.S.size ≤ bs.length) ∧ Below w.heap.size w wr) (fun _ _ i _ => m - (intOf i).toNat)
  case atStart => exact ⟨p, [], Nat.zero_le _, rfl, rfl, r0, going_0 bs m p, by simp, b0⟩
  case round =>
    obtain ⟨q, L, hL, rfl, rfl, hown, hgo, hsz, hbel⟩ := hrel
    have HGo := hide hgo
    have HSz := hide hsz
    clear hgo hsz b0 r0 hr0
    obtain ⟨g, c, e0, -, -, -, -⟩ := rdV_owns hown
    by_cases hlt : L.length < m
    · obtain ⟨K, N, S, q2, b, hv⟩ : ∃ K N S q2 b, valR bs q = (K, N, S, q2, b) := ⟨_, _, _, _, _, rfl⟩
      have HV := hide hv
      have HS : Hid (S.size ≤ bs.length) := by have := valR_S bs q; rw [hv] at this; exact this
      clear hv
      subst e0
      go_wp2_with fail
      refine (specGetVal_any a cap q bs _ (hr.below hbel) hn hcap).mono ?_
      rw [HV.out]
      unfold valT
      rintro e w3 ⟨rfl, hb3⟩
      have hbel3 : Below w.heap.size w w3 := hbel.trans (hb3.mono hbel.size)
      have hown3 := ownsRow_below hown hb3
      clear hb3 hbel hown
      cases b
      · have HF := hide (HNone.out _ _ L (HFY.out.trans (going_no HGo.out hlt HV.out)) (hown3.alloc (.cells #[.int .i64 K, .int .i64 N, .string S] 63)) (by omega) HSz.out)
        clear hown3
        go_wp2
        go_ret3
        exact ⟨HF.out, hbel3.alloc hbel3.size _⟩
      · have HG2 := hide (going_step HGo.out hlt HV.out)
        have hown4 := (hown3.alloc (.cells #[.int .i64 K, .int .i64 N, .string S] 63)).alloc (.cells #[.int .i64 K, .int .i64 N, .string S] 63)
        have HO4 := hide hown4
        have hsrc := news_src (w3.alloc (.cells #[.int .i64 K, .int .i64 N, .string S] 63)) ⟨K, N, S⟩
        have HSrc := hide hsrc
        have HB4 := hide ((hbel3.alloc hbel3.size (.cells #[.int .i64 K, .int .i64 N, .string S] 63)).alloc (by have := hbel3.size; simp; omega) (.cells #[.int .i64 K, .int .i64 N, .string S] 63))
        clear hown3 hown4 hsrc hbel3
        go_wp2_with (at_builtin; refine wpList_append_lies _ rfl (.tmp 46) (.tmp 48) 27 rfl w.heap.size 63 i0 (.agg #[.int .i64 0, .int .i64 0, .string ⟨#[]⟩]) 3 32 Try.underlying27 hi hz0 hz1 hz2 rfl (by omega) (.slice g L.length c) L.length (cells3 L) rfl HO4.out ⟨(w3.alloc (.cells #[.int .i64 K, .int .i64 N, .string S] 63)).heap.size, 0, none⟩ 1 1 [.int .i64 K, .int .i64 N, .string S] ?hx rfl HSrc.out (news_one ⟨K, N, S⟩) (by omega) (by unfold maxLen; omega) (by omega) HB4.out.size _ rfl ?_)
        case hx => simp [Act.eval]
        intro g5 c5 w5 ho5 hg5 hat5 hlt5
        have HO5 : Hid (w5.ownsRow w.heap.size 63 3 (.slice (some ⟨g5, 0, none⟩) (L.length + 1) c5) (L ++ [(⟨K, N, S⟩ : V3)]).length (cells3 (L ++ [⟨K, N, S⟩]))) := by
          unfold Hid
          rw [← app3, List.length_append]
          exact ho5
        have HB5 := hide (HB4.out.grown hg5 HB4.out.size (fun k hk => (HO4.out.lt k hk).1))
        have HSz5 : Hid (∀ u ∈ L ++ [(⟨K, N, S⟩ : V3)], u.S.size ≤ bs.length) := fun u hu => by
          rcases List.mem_append.1 hu with hu | hu
          · exact HSz.out u hu
          · simp only [List.mem_cons, List.not_mem_nil, or_false] at hu
            rw [hu]; exact HS.out
        clear ho5 hg5 hat5 hlt5 HO4 HSrc HB4 HSz
        go_wp2
        go_roundw
        case rel => exact ⟨q2, L ++ [⟨K, N, S⟩], by simp; omega, by simp, rfl, HO5.out, HG2.out, HSz5.out, HB5.out⟩
        case measure => simp [intOf]; omega
    · obtain hLm : L.length = m := by omega
      have HF : Hid (GetsV bs x w.heap.size (.returned (.tuple #[.slice g L.length c, .int .i64 q, .bool true])) wr) := ⟨_, _, _, L, rfl, by rw [← e0]; exact hown, by omega, HSz.out, HFY.out.trans (going_end HGo.out hLm)⟩
      subst e0
      go_wp2
      go_ret3
      exact ⟨HF.out, hbel⟩
end Go.Proofs.Ytaflokfgbmlmaab
