/-
  What both ArgVals answer: argV (the value, or what is bound to the variable).
-/
import Derived.Test.YtbellpalomiokaaBindOf
import Derived.Test.YtbellpalomiokaaArgRow
namespace Go.Proofs.Ytbellpalomiokaa
open Go.RowKit
set_option linter.unusedVariables false

/-- an argument's value, where there is one -/
def argV (K : Int) (S : ByteArray) (V : V3) (L : List B4) : Option V3 := if K = 1 then bindO L S else if K = 2 then some V else none
theorem argV1 (S : ByteArray) (V : V3) (L : List B4) : argV 1 S V L = bindO L S := by simp [argV]
theorem argV2 (S : ByteArray) (V : V3) (L : List B4) : argV 2 S V L = some V := by simp [argV]
theorem argV_no {K : Int} (S : ByteArray) (V : V3) (L : List B4) (h1 : K ≠ 1) (h2 : K ≠ 2) : argV K S V L = none := by simp [argV, h1, h2]
theorem boxv2 (w : World) (c1 : Array Value) (T1 : TypeId) (c2 : Array Value) (T2 : TypeId) : ((w.alloc (.cells c1 T1)).alloc (.cells c2 T2)).heap[w.heap.size + 1]? = some (.cells c2 T2 (0, 0)) ∧ Below w.heap.size w ((w.alloc (.cells c1 T1)).alloc (.cells c2 T2)) ∧ w.heap.size + 1 < ((w.alloc (.cells c1 T1)).alloc (.cells c2 T2)).heap.size := by
  have b0 := below_al w (.cells c1 T1)
  have b1 := b0.alloc b0.size (.cells c2 T2)
  have hX := boxk_new (w.alloc (.cells c1 T1)) c2 T2
  simp only [World.size_alloc] at hX
  exact ⟨hX, b1, by simp⟩

set_option maxRecDepth 100000 in
set_option maxHeartbeats 1600000 in
theorem specArgVal_any (K : Int) (S : ByteArray) (VK VN : Int) (VS : ByteArray) (a : Option Addr) (cap : Nat) (L : List B4) (w : World) (hr : RdBind w a L) (hm : L.length ≤ 2097152) :
    Calls Try.prog 49 #[.agg #[.int .i64 K, .string S, .int .i64 VK, .int .i64 VN, .string VS], .slice a L.length cap] w fun e w' => e = .returned (bindA (argV K S ⟨VK, VN, VS⟩ L)) ∧ Below w.heap.size w w' := by
  obtain ⟨hX, b1, hz⟩ := boxv2 w #[.int .i64 K, .string S, .int .i64 VK, .int .i64 VN, .string VS] 32 #[.int .i64 0, .int .i64 0, .string ⟨#[]⟩] 30
  by_cases h2 : K = 2
  · subst h2
    have HV := hide (argV2 S ⟨VK, VN, VS⟩ L)
    clear hX b1 hz
    go_enter Try.func49, Try.ntmps49
    go_wp2
    rw [HV.out]
    go_returns
    exact ⟨rfl, by go_grown⟩
  · by_cases h1 : K = 1
    · subst h1
      have HV := hide (argV1 S ⟨VK, VN, VS⟩ L)
      have r1 := hr.below b1
      go_enter Try.func49, Try.ntmps49
      go_wp2_with fail
      refine (specBindOf_any _ _ L S _ r1 hm).mono ?_
      rintro e w1 ⟨rfl, hb⟩
      have HX := hide (box_below hX hb hz)
      have hB : Below w.heap.size w w1 := b1.trans (hb.mono b1.size)
      clear hb hX b1 hz r1
      obtain ⟨K', N', S', bb, hA⟩ := bindA_form (bindO L S)
      rw [hA]
      have HA := hide hA
      clear hA
      obtain ⟨r0, rr1, rr2, rf0, rf1, rf2⟩ := box_cell HX.out
      go_wp2
      refine box_post HX.out (fun w4 h4 gr => ?_)
      obtain ⟨d0, d1, d2, -, -, -⟩ := box_cell h4
      exact bodyPost_ret (v := .tuple #[.agg #[.int .i64 K', .int .i64 N', .string S'], .bool bb]) (by simp [results, Try.results49, go_sem, d0, d1, d2]) rfl ⟨by rw [HV.out, HA.out], below_set hB gr (by omega)⟩
    · have HV := hide (argV_no S ⟨VK, VN, VS⟩ L h1 h2)
      clear hX b1 hz
      have k1 : (K == 1) = false := by simpa using h1
      have k2 : (K == 2) = false := by simpa using h2
      go_enter Try.func49, Try.ntmps49
      go_wp2
      rw [HV.out]
      go_returns
      exact ⟨rfl, by go_grown⟩

set_option maxRecDepth 100000 in
set_option maxHeartbeats 1600000 in
theorem implArgVal_any (K : Int) (S : ByteArray) (VK VN : Int) (VS : ByteArray) (a : Option Addr) (cap : Nat) (L : List B4) (w : World) (hv : VS.size ≤ 1048576) (hr : RdBind w a L) (hs : ∀ x ∈ L, x.small) (hm : L.length ≤ 2097152) :
    Calls Try.prog 53 #[.agg #[.int .i64 K, .string S, .int .i64 VK, .int .i64 VN, .string VS], .slice a L.length cap] w fun e w' => e = .returned (bindA (argV K S ⟨VK, VN, VS⟩ L)) ∧ Below w.heap.size w w' := by
  obtain ⟨hX, b1, hz⟩ := boxv2 w #[.int .i64 K, .string S, .int .i64 VK, .int .i64 VN, .string VS] 32 #[.int .i64 0, .int .i64 0, .string ⟨#[]⟩] 30
  by_cases h2 : K = 2
  · subst h2
    have HV := hide (argV2 S ⟨VK, VN, VS⟩ L)
    go_enter Try.func53, Try.ntmps53
    go_wp2_with fail
    refine (copyVal_any VK VN VS _ (by omega)).mono ?_
    rintro e w1 ⟨rfl, hb⟩
    have HX := hide (box_below hX hb hz)
    have hB : Below w.heap.size w w1 := b1.trans (hb.mono b1.size)
    clear hb hX b1 hz
    obtain ⟨r0, rr1, rr2, rf0, rf1, rf2⟩ := box_cell HX.out
    go_wp2
    refine box_post HX.out (fun w4 h4 gr => ?_)
    obtain ⟨d0, d1, d2, -, -, -⟩ := box_cell h4
    exact bodyPost_ret (v := bindA (some ⟨VK, VN, VS⟩)) (by simp [bindA, results, Try.results53, go_sem, d0, d1, d2]) rfl ⟨by rw [HV.out], below_set hB gr (by omega)⟩
  · by_cases h1 : K = 1
    · subst h1
      have HV := hide (argV1 S ⟨VK, VN, VS⟩ L)
      have r1 := hr.below b1
      have HS := hide hs
      clear hs
      go_enter Try.func53, Try.ntmps53
      go_wp2_with fail
      refine (implBindOf_any _ _ L S _ r1 HS.out hm).mono ?_
      rintro e w1 ⟨rfl, hb⟩
      have HX := hide (box_below hX hb hz)
      have hB : Below w.heap.size w w1 := b1.trans (hb.mono b1.size)
      clear hb hX b1 hz r1
      obtain ⟨K', N', S', bb, hA⟩ := bindA_form (bindO L S)
      rw [hA]
      have HA := hide hA
      clear hA
      obtain ⟨r0, rr1, rr2, rf0, rf1, rf2⟩ := box_cell HX.out
      go_wp2
      refine box_post HX.out (fun w4 h4 gr => ?_)
      obtain ⟨d0, d1, d2, -, -, -⟩ := box_cell h4
      exact bodyPost_ret (v := .tuple #[.agg #[.int .i64 K', .int .i64 N', .string S'], .bool bb]) (by simp [results, Try.results53, go_sem, d0, d1, d2]) rfl ⟨by rw [HV.out, HA.out], below_set hB gr (by omega)⟩
    · have HV := hide (argV_no S ⟨VK, VN, VS⟩ L h1 h2)
      clear hX b1 hz
      have k1 : (K == 1) = false := by simpa using h1
      have k2 : (K == 2) = false := by simpa using h2
      go_enter Try.func53, Try.ntmps53
      go_wp2
      rw [HV.out]
      go_returns
      exact ⟨rfl, by go_grown⟩
end Go.Proofs.Ytbellpalomiokaa
