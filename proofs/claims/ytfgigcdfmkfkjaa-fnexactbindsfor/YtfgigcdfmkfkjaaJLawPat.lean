/-
  The contracts of the laws' own helpers on patterns: toPat copies, szPat counts off, eqPat finds a pattern the same as itself.
-/
import Derived.Test.YtfgigcdfmkfkjaaJLawArg
namespace Go.Proofs.Ytfgigcdfmkfkjaa
open Go.RowKit
set_option linter.unusedVariables false

set_option maxRecDepth 100000 in
set_option maxHeartbeats 1600000 in
theorem toPat_any (kd : ByteArray) (a : Option Addr) (cap : Nat) (L : List A5) (nt : Bool) (w : World) (hr : RdArg w a L) (hn : L.length ≤ 1048576) :
    Calls Try.prog 94 #[.agg #[.string kd, .slice a L.length cap, .bool nt]] w fun e w' =>
      ∃ g, e = .returned (.agg #[.string kd, .slice (some ⟨g, 0, none⟩) L.length L.length, .bool nt]) ∧ w.heap.size ≤ g ∧ OwnArg w' g L.length L ∧ Below w.heap.size w w' := by
  go_enter Try.func94, Try.ntmps94
  go_wp2_with fail
  have b0 := below_al w (.cells #[.string kd, .slice a L.length cap, .bool nt] 139)
  have b1 := b0.alloc b0.size (.cells #[.string ⟨#[]⟩, .slice none 0 0, .bool false] 79)
  have b2 := b1.alloc b1.size (.cells #[.string kd, .slice none 0 0, .bool false] 79)
  have hP := box_old (box_old (boxk_new w #[.string kd, .slice a L.length cap, .bool nt] 139) (by simp) (.cells #[.string ⟨#[]⟩, .slice none 0 0, .bool false] 79)) (by simp; omega) (.cells #[.string kd, .slice none 0 0, .bool false] 79)
  have hR := box_old (boxk_new (w.alloc (.cells #[.string kd, .slice a L.length cap, .bool nt] 139)) #[.string ⟨#[]⟩, .slice none 0 0, .bool false] 79) (by simp) (.cells #[.string kd, .slice none 0 0, .bool false] 79)
  have hX := boxk_new ((w.alloc (.cells #[.string kd, .slice a L.length cap, .bool nt] 139)).alloc (.cells #[.string ⟨#[]⟩, .slice none 0 0, .bool false] 79)) #[.string kd, .slice none 0 0, .bool false] 79
  simp only [World.size_alloc] at hR hX
  refine (toArgS_at a cap L _ (hr.below b2) hn).mono ?_
  rintro e w1 ⟨rfl, ho, hb⟩
  have HP := hide (box_below hP hb (by simp; omega))
  have HR := hide (box_below hR hb (by simp))
  have HX := hide (box_below hX hb (by simp))
  have hB : Below w.heap.size w w1 := b2.trans (hb.mono b2.size)
  have hO : OwnArg w1 _ _ L := OwnK.of A5.len (by decide) ho
  clear ho hb hR hX hP b0 b1 b2
  simp only [World.size_alloc] at hO ⊢
  have p2 := boxk_cell HP.out 2 _ rfl
  have x0 := boxk_cell HX.out 0 _ rfl
  have x1 := boxk_cell HX.out 1 _ rfl
  have x2 := boxk_cell HX.out 2 _ rfl
  have xf1 := boxk_frozen HX.out 1
  have xf2 := boxk_frozen HX.out 2
  obtain ⟨r0, r1, r2, rf0, rf1, rf2⟩ := box_cell HR.out
  have HX2 := hide (boxk_set HX.out 1 (.slice (some ⟨w.heap.size + 1 + 1 + 1, 0, none⟩) L.length L.length))
  have HX3 := hide (boxk_set HX2.out.1 2 (.bool nt))
  have HR2 := hide (box_gr (box_gr HR.out HX2.out.2 (by omega)) HX3.out.2 (by omega))
  have HB2 := hide (below_set (below_set hB HX2.out.2 (by omega)) HX3.out.2 (by omega))
  have hz := hO.lt
  have HO2 := hide ((hO.grown HX2.out.2 (by omega)).grown HX3.out.2 (by omega))
  clear hO hB
  go_wp2
  refine box_post HR2.out (fun w4 h4 gr => ?_)
  clear x0 x1 x2 xf1 xf2 r0 r1 r2 rf0 rf1 rf2 p2
  obtain ⟨c0, c1, c2, -, -, -⟩ := box_cell h4
  exact bodyPost_ret (v := .agg #[.string kd, .slice (some ⟨w.heap.size + 1 + 1 + 1, 0, none⟩) L.length L.length, .bool nt]) (by simp [results, Try.results94, go_sem, c0, c1, c2]) rfl
    ⟨_, rfl, by omega, HO2.out.grown gr (by omega), below_set HB2.out gr (by omega)⟩

set_option maxRecDepth 100000 in
set_option maxHeartbeats 1600000 in
theorem szPat_any (kd : ByteArray) (a : Option Addr) (cap : Nat) (L : List A5) (nt : Bool) (left : Int) (w : World) (hkd : kd.size ≤ maxLen) (hr : RdArg w a L) (hs : ∀ x ∈ L, x.fits) (hm : L.length ≤ maxLen) (h0 : 0 ≤ left) (h1 : left ≤ 1048576) :
    Calls Try.prog 88 #[.agg #[.string kd, .slice a L.length cap, .bool nt], .int .i64 left] w fun e w' =>
      (∃ r, e = .returned (.int .i64 r) ∧ (r = -1 ∨ (0 ≤ r ∧ r + (kd.size : Int) + (L.length : Int) ≤ left ∧ ∀ x ∈ L, x.small))) ∧ Below w.heap.size w w' := by
  unfold maxLen at hkd
  by_cases h2 : left - (kd.size : Int) < 0
  · go_enter Try.func88, Try.ntmps88
    go_wp2
    go_ret
    exact ⟨⟨-1, rfl, .inl rfl⟩, by go_grown⟩
  · go_enter Try.func88, Try.ntmps88
    go_wp2_with fail
    have b0 := below_al w (.cells #[.string kd, .slice a L.length cap, .bool nt] 139)
    refine (szArgS_any a cap L (left - kd.size) _ (hr.below b0) hs hm (by omega) (by omega)).mono ?_
    rintro e w1 ⟨⟨r, rfl, hr1⟩, hb1⟩
    have hB1 : Below w.heap.size w w1 := b0.trans (hb1.mono b0.size)
    clear hb1
    rcases hr1 with rfl | ⟨hr2, hr3, hsm⟩
    · go_wp2
      go_ret
      exact ⟨⟨-1, rfl, .inl rfl⟩, hB1⟩
    · have HSm := hide hsm
      clear hsm
      go_wp2
      go_ret
      exact ⟨⟨r, rfl, .inr ⟨hr2, by omega, HSm.out⟩⟩, hB1⟩

set_option maxRecDepth 100000 in
set_option maxHeartbeats 1600000 in
theorem eqPat_same (kd : ByteArray) (a b : Option Addr) (ca cb : Nat) (L : List A5) (nt : Bool) (w : World) (hr : RdArg w a L) (hq : RdArg w b L) (hn : L.length ≤ 1048580) :
    Calls Try.prog 104 #[.agg #[.string kd, .slice a L.length ca, .bool nt], .agg #[.string kd, .slice b L.length cb, .bool nt]] w fun e w' =>
      e = .returned (.bool true) ∧ Below w.heap.size w w' := by
  have k1 : (kd.toList == kd.toList) = true := by simp
  have k2 : (nt != nt) = false := by simp
  go_enter Try.func104, Try.ntmps104
  go_wp2_with fail
  have b0 := below_al w (.cells #[.string kd, .slice a L.length ca, .bool nt] 79)
  have b1 := b0.alloc b0.size (.cells #[.string kd, .slice b L.length cb, .bool nt] 79)
  have hP := box_old (boxk_new w #[.string kd, .slice a L.length ca, .bool nt] 79) (by simp) (.cells #[.string kd, .slice b L.length cb, .bool nt] 79)
  have hQ := boxk_new (w.alloc (.cells #[.string kd, .slice a L.length ca, .bool nt] 79)) #[.string kd, .slice b L.length cb, .bool nt] 79
  simp only [World.size_alloc] at hQ
  refine (eqArgS_same a b ca cb L _ (hr.below b1) (hq.below b1) (by omega)).mono ?_
  rintro e w1 ⟨rfl, hb⟩
  have hB : Below w.heap.size w w1 := b1.trans (hb.mono b1.size)
  have p2 := boxk_cell (box_below hP hb (by simp; omega)) 2 _ rfl
  have q2 := boxk_cell (box_below hQ hb (by simp)) 2 _ rfl
  clear hP hQ hb
  go_wp2
  go_ret
  exact ⟨rfl, hB⟩
end Go.Proofs.Ytfgigcdfmkfkjaa
