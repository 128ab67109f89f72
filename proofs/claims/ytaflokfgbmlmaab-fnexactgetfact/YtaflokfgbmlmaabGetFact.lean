/-
  What the readers of facts answer, the tested one and the model's alike: factR.
-/
import Derived.Test.YtaflokfgbmlmaabGetValsS
import Derived.Test.YtaflokfgbmlmaabGetTextS
import Derived.Test.YtaflokfgbmlmaabGetTextI
import Derived.Test.YtaflokfgbmlmaabKeep6
namespace Go.Proofs.Ytaflokfgbmlmaab
open Go.RowKit
set_option linter.unusedVariables false

/-- the fact that a reader answers, or none -/
def GetsF (bs : List UInt8) (x : Int) (base : Nat) (e : Ending) (w : World) : Prop :=
  (∃ (kd : ByteArray) (L : List V3) (q : Int) (v : Value), e = .returned (.tuple #[.agg #[.string kd, v], .int .i64 q, .bool true]) ∧ factR bs x = some (kd, L, q) ∧ w.ownsRow base 63 3 v L.length (cells3 L) ∧ L.length ≤ 5 ∧ ∀ u ∈ L, u.S.size ≤ bs.length) ∨
  (e = .returned (.tuple #[.agg #[.string ⟨#[]⟩, .slice none 0 0], .int .i64 0, .bool false]) ∧ factR bs x = none)
theorem owns_baseG {w : World} {base base' n size : Nat} {e : TypeId} {v : Value} {xs : List Value} (h : w.ownsRow base e size v n xs) (hb : base' ≤ base) : w.ownsRow base' e size v n xs := by
  refine ⟨h.1, ?_⟩
  rcases h.2 with h2 | ⟨g, cap, cur, h1, hb', rest⟩
  · exact .inl h2
  · exact .inr ⟨g, cap, cur, h1, by omega, rest⟩

set_option maxRecDepth 100000 in
set_option maxHeartbeats 3200000 in
theorem specGetFact_any (a : Option Addr) (cap : Nat) (x : Int) (bs : List UInt8) (w : World) (hr : Rd w a bs) (hn : bs.length ≤ 1048580) (hcap : bs.length ≤ cap) :
    Calls Try.prog 18 #[.slice a bs.length cap, .int .i64 x] w fun e w' => GetsF bs x w.heap.size e w' ∧ Below w.heap.size w w' := by
  obtain ⟨kd, p, ok, htx⟩ : ∃ kd p ok, textR bs x = (kd, p, ok) := ⟨_, _, _, rfl⟩
  have HTx := hide htx
  have hkd : kd.size ≤ maxLen := by
    have h1 : kd.size ≤ bs.length := by have := textR_size bs x; rw [htx] at this; exact this
    unfold maxLen; omega
  clear htx
  have b0 := below_al w (.cells #[.string ⟨#[]⟩, .slice none 0 0] 29)
  have hR0 := box2_new w (.string ⟨#[]⟩) (.slice none 0 0) 29
  have hr0 := hr.below b0
  go_enter Try.func18, Try.ntmps18
  go_wp2_with fail
  generalize w.alloc (.cells #[.string ⟨#[]⟩, .slice none 0 0] 29) = w0 at b0 hR0 hr0 ⊢
  refine (specGetText_any a cap x bs _ hr0 hn hcap).mono ?_
  rw [HTx.out]
  rintro e w1 ⟨rfl, rfl⟩
  go_wp2_with fail
  refine (l3GetVals_any a cap p bs _ hr0 hn hcap).mono ?_
  rintro e w2 ⟨⟨v, q, b, L, rfl, ho2, hl2, hs2, hf2⟩, hb2⟩
  have b2 : Below w.heap.size w w2 := b0.trans (hb2.mono b0.size)
  have hz1 := (Array.getElem?_eq_some_iff.1 hR0).1
  have hR2 := box_step hR0 hb2
  have hz2 : w.heap.size < w2.heap.size := (Array.getElem?_eq_some_iff.1 hR2).1
  obtain ⟨g, c, e0, hrd, -, -, -⟩ := rdV_owns ho2
  subst e0
  have HF2 := hide hf2
  have hs2' : ∀ u ∈ L, u.S.size ≤ maxLen := fun u hu => by have := hs2 u hu; unfold maxLen; omega
  have HS2 := hide hs2
  obtain ⟨s0, s1, s2, s3⟩ := box2_cell hR2
  have hne : w.heap.size ≠ w2.heap.size := by omega
  clear hb2 hR0 b0 hr0 hf2 hs2
  have ba := below_al w2 (.cells #[.string kd, .slice g L.length c] 29)
  have HR2 := hide (box_step hR2 ba)
  have HX2 := hide (box2_new w2 (.string kd) (.slice g L.length c) 29)
  have HB2 := hide (b2.trans (ba.mono b2.size))
  have HO2 := hide (ownsRow_below ho2 ba)
  have HRd := hide (hrd.below ba)
  obtain ⟨r0, r1, f0, f1⟩ := box2_cell HR2.out
  obtain ⟨x0, x1, -, -⟩ := box2_cell HX2.out
  have HRw := hide hR2
  have Hb2 := hide b2
  clear hR2 ba b2 ho2 hrd
  cases ok
  · have HN : Hid (factR bs x = none) := factR_text HTx.out
    go_wp2
    have h9 := box2_set HRw.out (.string ⟨#[]⟩) (.slice none 0 0)
    clear r0 r1 f0 f1 x0 x1 s0 s1 s2 s3
    generalize (w2.setCell ⟨w.heap.size, 0, none⟩ (.string ⟨#[]⟩)).setCell ⟨w.heap.size, 1, none⟩ (.slice none 0 0) = w4 at h9 ⊢
    obtain ⟨c0, c1, -, -⟩ := box2_cell (box_old h9.1 (Array.getElem?_eq_some_iff.1 h9.1).1 (.cells #[.string kd, .slice g L.length c] 29))
    have b9 := below_set Hb2.out h9.2 (Nat.le_refl _)
    exact bodyPost_ret (v := .tuple #[.agg #[.string ⟨#[]⟩, .slice none 0 0], .int .i64 0, .bool false]) (by simp [results, Try.results18, go_sem, c0, c1]) rfl ⟨.inr ⟨rfl, HN.out⟩, b9.alloc b9.size _⟩
  cases b
  · have HN : Hid (factR bs x = none) := factR_none HTx.out HF2.out
    go_wp2
    have h9 := box2_set HRw.out (.string ⟨#[]⟩) (.slice none 0 0)
    clear r0 r1 f0 f1 x0 x1 s0 s1 s2 s3
    generalize (w2.setCell ⟨w.heap.size, 0, none⟩ (.string ⟨#[]⟩)).setCell ⟨w.heap.size, 1, none⟩ (.slice none 0 0) = w4 at h9 ⊢
    obtain ⟨c0, c1, -, -⟩ := box2_cell (box_old h9.1 (Array.getElem?_eq_some_iff.1 h9.1).1 (.cells #[.string kd, .slice g L.length c] 29))
    have b9 := below_set Hb2.out h9.2 (Nat.le_refl _)
    exact bodyPost_ret (v := .tuple #[.agg #[.string ⟨#[]⟩, .slice none 0 0], .int .i64 0, .bool false]) (by simp [results, Try.results18, go_sem, c0, c1]) rfl ⟨.inr ⟨rfl, HN.out⟩, b9.alloc b9.size _⟩
  have HF3 : Hid (fieldsR bs p = some (L, q)) := HF2.out
  go_wp2_with fail
  generalize w2.alloc (.cells #[.string kd, .slice g L.length c] 29) = w3 at r0 r1 f0 f1 x0 x1 HR2 HX2 HB2 HO2 HRd ⊢
  refine (specFactOk_any kd g c L _ hkd HRd.out hs2' (by omega)).mono ?_
  rintro e w5 ⟨rfl, hb5⟩
  have HR5 := hide (box_step HR2.out hb5)
  have HX5 := hide (box_step HX2.out hb5)
  have HB5 := hide (HB2.out.trans (hb5.mono HB2.out.size))
  have HO5 := hide (ownsRow_below HO2.out hb5)
  clear hb5 r0 r1 f0 f1 x0 x1 s0 s1 s2 s3 HR2 HX2 HB2 HO2 HRd
  obtain ⟨r0, r1, f0, f1⟩ := box2_cell HR5.out
  obtain ⟨x0, x1, -, -⟩ := box2_cell HX5.out
  cases hfb : factB kd L
  · have HN := hide (factR_bad HTx.out HF3.out hfb)
    clear hfb
    go_wp2
    refine box2_post HR5.out (fun w4 h4 gr => ?_)
    clear r0 r1 f0 f1 x0 x1
    obtain ⟨c0, c1, -, -⟩ := box2_cell h4
    exact bodyPost_ret (v := .tuple #[.agg #[.string ⟨#[]⟩, .slice none 0 0], .int .i64 0, .bool false]) (by simp [results, Try.results18, go_sem, c0, c1]) rfl ⟨.inr ⟨rfl, HN.out⟩, below_set HB5.out gr (by omega)⟩
  · have HY := hide (factR_yes HTx.out HF3.out hfb)
    clear hfb
    go_wp2
    refine box2_post HR5.out (fun w4 h4 gr => ?_)
    clear r0 r1 f0 f1 x0 x1
    obtain ⟨c0, c1, -, -⟩ := box2_cell h4
    exact bodyPost_ret (v := .tuple #[.agg #[.string kd, .slice g L.length c], .int .i64 q, .bool true]) (by simp [results, Try.results18, go_sem, c0, c1]) rfl ⟨.inl ⟨kd, L, q, _, rfl, HY.out, owns_baseG (HO5.out.kept gr (by
      cases hv2 : Value.ownBlock (.slice g L.length c) with
      | none => exact .inl rfl
      | some k => right; intro e; have := (HO5.out.lt k hv2).1; cases e; omega)) (by omega), hl2, HS2.out⟩, below_set HB5.out gr (by omega)⟩

set_option maxRecDepth 100000 in
set_option maxHeartbeats 3200000 in
theorem implGetFact_any (a : Option Addr) (cap : Nat) (x : Int) (bs : List UInt8) (w : World) (hr : Rd w a bs) (hn : bs.length ≤ 1048580) (hcap : bs.length ≤ cap) (ha : a = none → bs.length = 0 ∧ cap = 0) :
    Calls Try.prog 20 #[.slice a bs.length cap, .int .i64 x] w fun e w' => GetsF bs x w.heap.size e w' ∧ Below w.heap.size w w' := by
  obtain ⟨kd, p, ok, htx⟩ : ∃ kd p ok, textR bs x = (kd, p, ok) := ⟨_, _, _, rfl⟩
  have HTx := hide htx
  have hkd : kd.size ≤ maxLen := by
    have h1 : kd.size ≤ bs.length := by have := textR_size bs x; rw [htx] at this; exact this
    unfold maxLen; omega
  clear htx
  have b0 := below_al w (.cells #[.string ⟨#[]⟩, .slice none 0 0] 29)
  have hR0 := box2_new w (.string ⟨#[]⟩) (.slice none 0 0) 29
  have hr0 := hr.below b0
  go_enter Try.func20, Try.ntmps20
  go_wp2_with fail
  generalize w.alloc (.cells #[.string ⟨#[]⟩, .slice none 0 0] 29) = w0 at b0 hR0 hr0 ⊢
  refine (implGetText_any a cap x bs _ hr0 hn hcap ha).mono ?_
  rw [HTx.out]
  rintro e w1 ⟨rfl, rfl⟩
  cases ok
  · have HN : Hid (factR bs x = none) := factR_text HTx.out
    obtain ⟨r0, r1, f0, f1⟩ := box2_cell hR0
    go_wp2
    refine box2_post hR0 (fun w4 h4 gr => ?_)
    clear r0 r1 f0 f1
    obtain ⟨c0, c1, -, -⟩ := box2_cell h4
    exact bodyPost_ret (v := .tuple #[.agg #[.string ⟨#[]⟩, .slice none 0 0], .int .i64 0, .bool false]) (by simp [results, Try.results20, go_sem, c0, c1]) rfl ⟨.inr ⟨rfl, HN.out⟩, below_set b0 gr (by omega)⟩
  go_wp2_with fail
  refine (getFields_any a cap p bs _ hr0 hn hcap ha).mono ?_
  rintro e w2 ⟨⟨v, q, b, L, rfl, ho2, hl2, hs2, hf2⟩, hb2⟩
  have b2 : Below w.heap.size w w2 := b0.trans (hb2.mono b0.size)
  have hz1 := (Array.getElem?_eq_some_iff.1 hR0).1
  have hR2 := box_step hR0 hb2
  have hz2 : w.heap.size < w2.heap.size := (Array.getElem?_eq_some_iff.1 hR2).1
  obtain ⟨g, c, e0, hrd, -, -, -⟩ := rdV_owns ho2
  subst e0
  have HF2 := hide hf2
  have hs2' : ∀ u ∈ L, u.S.size ≤ maxLen := fun u hu => by have := hs2 u hu; unfold maxLen; omega
  have HS2 := hide hs2
  obtain ⟨s0, s1, s2, s3⟩ := box2_cell hR2
  have hne : w.heap.size ≠ w2.heap.size := by omega
  clear hb2 hR0 b0 hr0 hf2 hs2
  have ba := below_al w2 (.cells #[.string kd, .slice g L.length c] 29)
  have HR2 := hide (box_step hR2 ba)
  have HX2 := hide (box2_new w2 (.string kd) (.slice g L.length c) 29)
  have HB2 := hide (b2.trans (ba.mono b2.size))
  have HO2 := hide (ownsRow_below ho2 ba)
  have HRd := hide (hrd.below ba)
  obtain ⟨r0, r1, f0, f1⟩ := box2_cell HR2.out
  obtain ⟨x0, x1, -, -⟩ := box2_cell HX2.out
  have HRw := hide hR2
  have Hb2 := hide b2
  clear hR2 ba b2 ho2 hrd
  cases b
  · have HN : Hid (factR bs x = none) := factR_none HTx.out HF2.out
    go_wp2
    have h9 := box2_set HRw.out (.string ⟨#[]⟩) (.slice none 0 0)
    clear r0 r1 f0 f1 x0 x1 s0 s1 s2 s3
    generalize (w2.setCell ⟨w.heap.size, 0, none⟩ (.string ⟨#[]⟩)).setCell ⟨w.heap.size, 1, none⟩ (.slice none 0 0) = w4 at h9 ⊢
    obtain ⟨c0, c1, -, -⟩ := box2_cell (box_old h9.1 (Array.getElem?_eq_some_iff.1 h9.1).1 (.cells #[.string kd, .slice g L.length c] 29))
    have b9 := below_set Hb2.out h9.2 (Nat.le_refl _)
    exact bodyPost_ret (v := .tuple #[.agg #[.string ⟨#[]⟩, .slice none 0 0], .int .i64 0, .bool false]) (by simp [results, Try.results20, go_sem, c0, c1]) rfl ⟨.inr ⟨rfl, HN.out⟩, b9.alloc b9.size _⟩
  have HF3 : Hid (fieldsR bs p = some (L, q)) := HF2.out
  go_wp2_with fail
  generalize w2.alloc (.cells #[.string kd, .slice g L.length c] 29) = w3 at r0 r1 f0 f1 x0 x1 HR2 HX2 HB2 HO2 HRd ⊢
  refine (implFactOk_any kd g c L _ hkd HRd.out hs2' (by omega)).mono ?_
  rintro e w5 ⟨rfl, hb5⟩
  have HR5 := hide (box_step HR2.out hb5)
  have HX5 := hide (box_step HX2.out hb5)
  have HB5 := hide (HB2.out.trans (hb5.mono HB2.out.size))
  have HO5 := hide (ownsRow_below HO2.out hb5)
  clear hb5 r0 r1 f0 f1 x0 x1 s0 s1 s2 s3 HR2 HX2 HB2 HO2 HRd
  obtain ⟨r0, r1, f0, f1⟩ := box2_cell HR5.out
  obtain ⟨x0, x1, -, -⟩ := box2_cell HX5.out
  cases hfb : factB kd L
  · have HN := hide (factR_bad HTx.out HF3.out hfb)
    clear hfb
    go_wp2
    refine box2_post HR5.out (fun w4 h4 gr => ?_)
    clear r0 r1 f0 f1 x0 x1
    obtain ⟨c0, c1, -, -⟩ := box2_cell h4
    exact bodyPost_ret (v := .tuple #[.agg #[.string ⟨#[]⟩, .slice none 0 0], .int .i64 0, .bool false]) (by simp [results, Try.results20, go_sem, c0, c1]) rfl ⟨.inr ⟨rfl, HN.out⟩, below_set HB5.out gr (by omega)⟩
  · have HY := hide (factR_yes HTx.out HF3.out hfb)
    clear hfb
    go_wp2
    refine box2_post HR5.out (fun w4 h4 gr => ?_)
    clear r0 r1 f0 f1 x0 x1
    obtain ⟨c0, c1, -, -⟩ := box2_cell h4
    exact bodyPost_ret (v := .tuple #[.agg #[.string kd, .slice g L.length c], .int .i64 q, .bool true]) (by simp [results, Try.results20, go_sem, c0, c1]) rfl ⟨.inl ⟨kd, L, q, _, rfl, HY.out, owns_baseG (HO5.out.kept gr (by
      cases hv2 : Value.ownBlock (.slice g L.length c) with
      | none => exact .inl rfl
      | some k => right; intro e; have := (HO5.out.lt k hv2).1; cases e; omega)) (by omega), hl2, HS2.out⟩, below_set HB5.out gr (by omega)⟩
end Go.Proofs.Ytaflokfgbmlmaab
