/-
  The contracts of the laws' own copies of items and stores: what is copied lies in blocks of its own, no two lists in one.
-/
import Derived.Test.YtjiopefdfkjfkaaDoorLawStore
namespace Go.Proofs.YtjiopefdfkjfkaaDoor
open Go.RowKit
set_option linter.unusedVariables false

theorem box_set12 {w : World} {q : Nat} {c0 c1 c2 : Value} {T : TypeId} (h : w.heap[q]? = some (.cells #[c0, c1, c2] T (0, 0))) (b c : Value) :
    ((w.setCell ⟨q, 1, none⟩ b).setCell ⟨q, 2, none⟩ c).heap[q]? = some (.cells #[c0, b, c] T (0, 0)) ∧ w.grownBy ((w.setCell ⟨q, 1, none⟩ b).setCell ⟨q, 2, none⟩ c) (some q) := by
  have h2 : (w.setCell ⟨q, 1, none⟩ b).heap[q]? = some (.cells #[c0, b, c2] T (0, 0)) := by rw [heap_setCell_same w q 1 _ T b h]; rfl
  refine ⟨by rw [heap_setCell_same _ q 2 _ T c h2]; rfl, ⟨rfl, rfl, rfl, by simp [World.setCell], fun k _ hk => ?_⟩⟩
  rw [heap_setCell_other _ ⟨q, 2, none⟩ k c (fun e => hk (by simp [e])), heap_setCell_other w ⟨q, 1, none⟩ k b (fun e => hk (by simp [e]))]

set_option maxRecDepth 100000 in
set_option maxHeartbeats 1600000 in
theorem toItem_any (id : Int) (kd : ByteArray) (a : Option Addr) (cap : Nat) (L : List V3) (w : World) (hr : RdV w a L) (hn : L.length ≤ 1048576) :
    Calls Tryd.prog 116 #[.agg #[.int .i64 id, .string kd, .slice a L.length cap]] w fun e w' =>
      ∃ g, e = .returned (.agg #[.int .i64 id, .string kd, .slice (some ⟨g, 0, none⟩) L.length L.length]) ∧ w.heap.size ≤ g ∧ OwnV w' g L.length L ∧ Below w.heap.size w w' := by
  go_enter Tryd.func116, Tryd.ntmps116
  go_wp2_with fail
  have b0 := below_al w (.cells #[.int .i64 id, .string kd, .slice a L.length cap] 146)
  have b1 := b0.alloc b0.size (.cells #[.int .i64 0, .string ⟨#[]⟩, .slice none 0 0] 51)
  have b2 := b1.alloc b1.size (.cells #[.int .i64 id, .string ⟨#[]⟩, .slice none 0 0] 51)
  have hR := box_old (box_new (w.alloc (.cells #[.int .i64 id, .string kd, .slice a L.length cap] 146)) (.int .i64 0) (.string ⟨#[]⟩) (.slice none 0 0) 51) (by simp) (.cells #[.int .i64 id, .string ⟨#[]⟩, .slice none 0 0] 51)
  have hX := box_new ((w.alloc (.cells #[.int .i64 id, .string kd, .slice a L.length cap] 146)).alloc (.cells #[.int .i64 0, .string ⟨#[]⟩, .slice none 0 0] 51)) (.int .i64 id) (.string ⟨#[]⟩) (.slice none 0 0) 51
  simp only [World.size_alloc] at hR hX
  refine (toFact_any kd a cap L _ (hr.below b2) hn).mono ?_
  rintro e w1 ⟨g, rfl, hg, hO, hb⟩
  have HR := hide (box_below hR hb (by simp))
  have HX := hide (box_below hX hb (by simp))
  have hB : Below w.heap.size w w1 := b2.trans (hb.mono b2.size)
  clear hb hR hX b0 b1 b2
  simp only [World.size_alloc] at hg
  obtain ⟨x0, x1, x2, xf0, xf1, xf2⟩ := box_cell HX.out
  obtain ⟨r0, r1, r2, rf0, rf1, rf2⟩ := box_cell HR.out
  have HX2 := hide (box_set12 HX.out (.string kd) (.slice (some ⟨g, 0, none⟩) L.length L.length))
  have HR2 := hide (box_gr HR.out HX2.out.2 (by omega))
  go_wp2
  refine box_post HR2.out (fun w4 h4 gr => ?_)
  clear x0 x1 x2 xf0 xf1 xf2 r0 r1 r2 rf0 rf1 rf2
  obtain ⟨c0, c1, c2, -, -, -⟩ := box_cell h4
  have hz := hO.lt
  exact bodyPost_ret (v := .agg #[.int .i64 id, .string kd, .slice (some ⟨g, 0, none⟩) L.length L.length]) (by simp [results, Tryd.results116, go_sem, c0, c1, c2]) rfl
    ⟨_, rfl, by omega, (hO.grown HX2.out.2 (by omega)).grown gr (by omega), below_set (hB.grown HX2.out.2 hB.size (fun k hk => by cases hk; omega)) gr (by omega)⟩

/-- a list of values in memory, or none -/
def LieV (a : Option Addr) (n cap : Nat) : Prop := (a = none ∧ n = 0 ∧ cap = 0) ∨ ∃ b off, a = some ⟨b, off, none⟩ ∧ n ≤ cap ∧ cap ≤ maxLen
theorem OwnV.lies {w : World} {g cap : Nat} {L : List V3} (h : OwnV w g cap L) : LieV (some ⟨g, 0, none⟩) L.length cap := by
  refine .inr ⟨g, 0, rfl, h.cap, ?_⟩
  rcases h.2 with ⟨h1, _⟩ | ⟨g', cap', cur, h1, hb', hh, hnc, hcm, _⟩
  · simp at h1
  · simp only [Value.slice.injEq] at h1
    omega
theorem LieV.nil : LieV none 0 0 := .inl ⟨rfl, rfl, rfl⟩
/-- block g holds the items K, at its head; the values of each item that has any lie in a block of their own -/
structure HoldsI (w : World) (lo g cp : Nat) (K : List It) : Prop where
  own : w.ownsRow 0 51 3 (.slice (some ⟨g, 0, none⟩) K.length cp) K.length (rowOf It.cells K)
  low : lo ≤ g
  vals : ∀ i, i < K.length → (iAt K i).L ≠ [] → ∃ q, (iAt K i).a = some ⟨q, 0, none⟩ ∧ lo ≤ q ∧ q ≠ g ∧ OwnV w q (iAt K i).cap (iAt K i).L
  apart : ∀ i j, i < j → j < K.length → (iAt K i).L ≠ [] → (iAt K j).L ≠ [] → (iAt K i).a ≠ (iAt K j).a
  lies : ∀ i, i < K.length → LieV (iAt K i).a (iAt K i).L.length (iAt K i).cap
theorem HoldsI.rd {w : World} {lo g cp : Nat} {K : List It} (h : HoldsI w lo g cp K) : RdI w (some ⟨g, 0, none⟩) K :=
  (rdI_owns h.own (fun i hi => by
    by_cases e : (iAt K i).L = []
    · rw [e]; exact RdV.nil _ _
    · obtain ⟨q, e, -, -, o⟩ := h.vals i hi e; rw [e]; exact o.rd)).1
theorem HoldsI.later {w w' : World} {lo g cp : Nat} {K : List It} (h : HoldsI w lo g cp K) (hb : Below w.heap.size w w') : HoldsI w' lo g cp K :=
  ⟨ownsRow_below h.own hb, h.low, fun i hi hne => by obtain ⟨q, e, h1, h2, o⟩ := h.vals i hi hne; exact ⟨q, e, h1, h2, o.later hb⟩, h.apart, h.lies⟩
theorem HoldsI.lt {w : World} {lo g cp : Nat} {K : List It} (h : HoldsI w lo g cp K) : g < w.heap.size := (World.ownsRow.lt h.own g rfl).2
theorem HoldsI.grown {w w' : World} {lo g cp q : Nat} {K : List It} (h : HoldsI w lo g cp K) (hg : w.grownBy w' (some q)) (hlo : q < lo) : HoldsI w' lo g cp K := by
  refine ⟨World.ownsRow.kept h.own hg (.inr ?_), h.low, fun i hi hne => ?_, h.apart, h.lies⟩
  · have := h.low
    simp [Value.ownBlock]; omega
  · obtain ⟨p, e, h1, h2, o⟩ := h.vals i hi hne
    exact ⟨p, e, h1, h2, o.grown hg (by omega)⟩
theorem HoldsI.weaken {w : World} {lo lo' g cp : Nat} {K : List It} (h : HoldsI w lo g cp K) (hl : lo' ≤ lo) : HoldsI w lo' g cp K :=
  ⟨h.own, Nat.le_trans hl h.low, fun i hi hne => by obtain ⟨p, e, h1, h2, o⟩ := h.vals i hi hne; exact ⟨p, e, Nat.le_trans hl h1, h2, o⟩, h.apart, h.lies⟩
theorem grown_tr {a b c : World} {row : Option Nat} (h : a.grownBy b row) (k : b.grownBy c row) : a.grownBy c row :=
  ⟨k.os.trans h.os, k.tape.trans h.tape, k.output.trans h.output, Nat.le_trans h.size k.size, fun i hi hne => (k.block i (Nat.lt_of_lt_of_le hi h.size) hne).trans (h.block i hi hne)⟩

/-- the first k items are copied -/
def Copied (w : World) (lo g : Nat) (J K : List It) (k : Nat) : Prop :=
  (∀ i, i < k → (iAt K i).pl = (iAt J i).pl ∧ ((iAt K i).L ≠ [] → ∃ q, (iAt K i).a = some ⟨q, 0, none⟩ ∧ lo ≤ q ∧ q ≠ g ∧ OwnV w q (iAt K i).cap (iAt K i).L) ∧ LieV (iAt K i).a (iAt K i).L.length (iAt K i).cap) ∧ ∀ i j, i < j → j < k → (iAt K i).L ≠ [] → (iAt K j).L ≠ [] → (iAt K i).a ≠ (iAt K j).a
theorem Copied.zero (w : World) (lo g : Nat) (J K : List It) : Copied w lo g J K 0 := ⟨fun i hi => absurd hi (Nat.not_lt_zero _), fun i j _ hj => absurd hj (Nat.not_lt_zero _)⟩
/-- one item more: its values are none, or lie in a block that is new -/
theorem Copied.more {w w1 w2 : World} {lo g : Nat} {J K K' : List It} {k : Nat} {x : It} (h : Copied w lo g J K k) (hb : Below w.heap.size w w1) (hg : w1.grownBy w2 (some g)) (hsame : ∀ i, i < k → iAt K' i = iAt K i) (hnew : iAt K' k = x) (hx : x.pl = (iAt J k).pl)
    (hq : x.L ≠ [] → ∃ q, x.a = some ⟨q, 0, none⟩ ∧ w.heap.size ≤ q ∧ OwnV w1 q x.cap x.L) (hli : LieV x.a x.L.length x.cap) (hlo : lo ≤ w.heap.size) (hgl : g < w.heap.size) : Copied w2 lo g J K' (k + 1) := by
  refine ⟨fun i hi => ?_, fun i j hij hj => ?_⟩
  · by_cases e : i = k
    · rw [e, hnew]
      exact ⟨hx, fun hne => by obtain ⟨q, h1, h2, o⟩ := hq hne; exact ⟨q, h1, by omega, by omega, o.grown hg (by omega)⟩, hli⟩
    · rw [hsame i (by omega)]
      obtain ⟨h2, h3, h4⟩ := h.1 i (by omega)
      exact ⟨h2, fun hne => by obtain ⟨p, h5, h6, h7, h8⟩ := h3 hne; exact ⟨p, h5, h6, h7, (h8.later hb).grown hg h7⟩, h4⟩
  · rw [hsame i (by omega)]
    intro hne
    by_cases e : j = k
    · rw [e, hnew]
      intro hne2
      obtain ⟨q, h1, h2, -⟩ := hq hne2
      obtain ⟨p, h3, -, -, h6⟩ := (h.1 i (by omega)).2.1 hne
      rw [h3, h1]
      have := h6.lt
      intro he
      simp only [Option.some.injEq, Addr.mk.injEq, and_true] at he
      omega
    · rw [hsame j (by omega)]
      exact h.2 i j hij (by omega) hne
theorem Copied.step {w w1 w2 : World} {lo g : Nat} {J K : List It} {k q : Nat} {x : It} (h : Copied w lo g J K k) (hb : Below w.heap.size w w1) (hg : w1.grownBy w2 (some g)) (hk : k < K.length) (hx : x.pl = (iAt J k).pl)
    (hq : x.a = some ⟨q, 0, none⟩) (h1 : w.heap.size ≤ q) (hlo : lo ≤ w.heap.size) (hgl : g < w.heap.size) (o : OwnV w1 q x.cap x.L) : Copied w2 lo g J (K.set k x) (k + 1) :=
  h.more hb hg (fun i hi => by rw [iAt_set hk, if_neg (by omega)]) (by rw [iAt_set hk, if_pos rfl]) hx (fun _ => ⟨q, hq, h1, o⟩) (by rw [hq]; exact o.lies) hlo hgl
theorem Copied.done {w : World} {lo g cp : Nat} {J K : List It} (h : Copied w lo g J K K.length) (hl : K.length = J.length) (hlo : lo ≤ g) (o : w.ownsRow lo 51 3 (.slice (some ⟨g, 0, none⟩) K.length cp) K.length (rowOf It.cells K)) : HoldsI w lo g cp K ∧ K.map It.pl = J.map It.pl := by
  refine ⟨⟨?_, hlo, fun i hi => (h.1 i hi).2.1, h.2, fun i hi => (h.1 i hi).2.2⟩, pl_ext hl (fun i hi => (h.1 i hi).1)⟩
  refine ⟨o.1, ?_⟩
  rcases o.2 with h2 | ⟨g, cap, cur, h1, hb, rest⟩
  · exact .inl h2
  · exact .inr ⟨g, cap, cur, h1, Nat.zero_le _, rest⟩

theorem Tryd.info51 : (Tryd.prog.info? 51).map (fun i => (i.zero, i.size, i.bytes)) = some (some (.agg #[.int .i64 0, .string ⟨#[]⟩, .slice none 0 0]), 3, 48) := by kernel_rfl
theorem It.zero_cells : It.cells ⟨0, ⟨#[]⟩, none, 0, []⟩ = [.int .i64 0, .string ⟨#[]⟩, .slice none 0 0] := rfl

set_option maxRecDepth 100000 in
set_option maxHeartbeats 3200000 in
theorem toItemS_any (a : Option Addr) (cap : Nat) (J : List It) (w : World) (hr : RdI w a J) (hn : J.length ≤ 1048576) (hl : ∀ i, i < J.length → (iAt J i).L.length ≤ 1048576) :
    Calls Tryd.prog 83 #[.slice a J.length cap] w fun e w' =>
      ∃ K g, e = .returned (.slice (some ⟨g, 0, none⟩) J.length J.length) ∧ HoldsI w' w.heap.size g J.length K ∧ K.map It.pl = J.map It.pl ∧ Below w.heap.size w w' := by
  obtain ⟨i0, hi, hz0, hz1, hz2⟩ := info_parts Tryd.info51
  obtain ⟨n, hN⟩ : ∃ n, n = J.length := ⟨_, rfl⟩
  rw [← hN] at hn ⊢
  have HN := hide hN
  have HL := hide hl
  clear hN hl
  go_enter Tryd.func83, Tryd.ntmps83
  go_wp2_with (at_make; refine wpList_make_full _ rfl _ _ 37 rfl w.heap.size 51 i0 (.agg #[.int .i64 0, .string ⟨#[]⟩, .slice none 0 0]) 3 Tryd.underlying37 hi hz0 hz1 _ _ _ _ n rfl rfl (by omega) (by omega) ?b2 ?b3 (Nat.le_refl _) ?_)
  case b2 => rw [hz2]; omega
  case b3 => unfold maxLen; omega
  intro w0 hown0 hgrow0
  rw [rowOf_replicate It.zero_cells] at hown0
  have hs0 : w.heap.size < w0.heap.size := (hown0.lt w.heap.size rfl).2
  have hb0 : Below w.heap.size w w0 := (Below.refl _ _).grown hgrow0 (Nat.le_refl _) (fun k h => by cases h)
  go_wp2
  go_loopw [4] (fun i wr => ∃ (k : Nat) (K : List It), k ≤ n ∧ i = .int .i64 k ∧ K.length = n ∧ wr.ownsRow w.heap.size 51 3 (.slice (some ⟨w.heap.size, 0, none⟩) n n) n (rowOf It.cells K) ∧ Copied wr w.heap.size w.heap.size J K k ∧ Below w.heap.size w wr ∧ w.heap.size < wr.heap.size)
    (fun i _ => n - (intOf i).toNat)
  case atStart => exact ⟨0, List.replicate n ⟨0, ⟨#[]⟩, none, 0, []⟩, Nat.zero_le _, rfl, by simp, hown0, Copied.zero _ _ _ _ _, hb0, hs0⟩
  case round =>
    clear hown0 hgrow0 hb0 hs0
    obtain ⟨k, K, hk, rfl, hKn, hown, hcop, hbel, hsz⟩ := hrel
    have HKn := hide hKn
    have HCop := hide hcop
    clear hKn hcop
    by_cases hlt : k < n
    · obtain ⟨b, off, hab, hbw, hc⟩ := hr.open (by rw [← HN.out]; omega)
      obtain ⟨c0, c1, c2, hv⟩ := hc k (by rw [← HN.out]; exact hlt)
      have HV := hide (hv.below hbel)
      clear hc hv
      subst hab
      rw [← hbel.cell (p := ⟨b, off + k * 3, none⟩) hbw] at c0
      rw [← hbel.cell (p := ⟨b, off + k * 3 + 1, none⟩) hbw] at c1
      rw [← hbel.cell (p := ⟨b, off + k * 3 + 2, none⟩) hbw] at c2
      have HK := hide (HL.out k (by rw [← HN.out]; exact hlt))
      obtain ⟨x, hx⟩ : ∃ x, x = iAt J k := ⟨_, rfl⟩
      rw [← hx] at c0 c1 c2 HV HK
      have HX := hide hx
      clear hx
      obtain ⟨id, kd, va, vc, L⟩ := x
      simp only at c0 c1 c2 HV HK
      go_wp2_with fail
      refine (toItem_any id kd va vc L _ HV.out HK.out).mono ?_
      rintro e w2 ⟨g, rfl, hg, o, hb2⟩
      have hown2 : w2.ownsRow w.heap.size 51 3 (.slice (some ⟨w.heap.size, 0, none⟩) n n) n (rowOf It.cells K) := ownsRow_below hown hb2
      have hbel2 : Below w.heap.size w w2 := hbel.trans (hb2.mono hbel.size)
      have hlen : (rowOf It.cells K).length = n * 3 := by rw [rowOf_length It.cells_length, HKn.out]
      have hmem : ∀ j, j < 3 → ∃ u, w2.cell? ⟨w.heap.size, k * 3 + j, none⟩ = some u := fun j hj => by
        rw [hown2.cellAt (k * 3 + j) (by omega), List.getElem?_eq_getElem (by omega)]
        exact ⟨_, rfl⟩
      obtain ⟨u0, m0⟩ := hmem 0 (by omega)
      obtain ⟨u1, m1⟩ := hmem 1 (by omega)
      obtain ⟨u2, m2⟩ := hmem 2 (by omega)
      rw [Nat.add_zero] at m0
      have f0 := hown2.frozenAt (k * 3)
      have f1 := hown2.frozenAt (k * 3 + 1)
      have f2 := hown2.frozenAt (k * 3 + 2)
      have s1 := hown2.stored (k * 3) (.int .i64 id)
      have s2 := s1.1.stored (k * 3 + 1) (.string kd)
      have s3 := s2.1.stored (k * 3 + 2) (.slice (some ⟨g, 0, none⟩) L.length L.length)
      have HO := hide s3.1
      have hset := rowOf_set3 It.cells_length ⟨id, kd, some ⟨g, 0, none⟩, L.length, L⟩ (.int .i64 id) (.string kd) (.slice (some ⟨g, 0, none⟩) L.length L.length) rfl K k (by rw [HKn.out]; exact hlt)
      rw [hset] at HO
      have HC := hide (HCop.out.step (x := ⟨id, kd, some ⟨g, 0, none⟩, L.length, L⟩) hb2 (grown_tr (grown_tr s1.2 s2.2) s3.2) (by rw [HKn.out]; exact hlt) (by rw [← HX.out]; rfl) rfl hg (Nat.le_of_lt hsz) hsz o)
      have HB : Hid (Below w.heap.size w (((w2.setCell ⟨w.heap.size, k * 3, none⟩ (.int .i64 id)).setCell ⟨w.heap.size, k * 3 + 1, none⟩ (.string kd)).setCell ⟨w.heap.size, k * 3 + 2, none⟩ (.slice (some ⟨g, 0, none⟩) L.length L.length))) := ((hbel2.setCell (Nat.le_refl _) _).setCell (Nat.le_refl _) _).setCell (Nat.le_refl _) _
      have HZ : Hid (w.heap.size < (((w2.setCell ⟨w.heap.size, k * 3, none⟩ (.int .i64 id)).setCell ⟨w.heap.size, k * 3 + 1, none⟩ (.string kd)).setCell ⟨w.heap.size, k * 3 + 2, none⟩ (.slice (some ⟨g, 0, none⟩) L.length L.length)).heap.size) := by
        have h1 := hb2.size
        have h2 := (grown_tr (grown_tr s1.2 s2.2) s3.2).size
        exact Nat.lt_of_lt_of_le (Nat.lt_of_lt_of_le hsz h1) h2
      have HLen : Hid ((K.set k ⟨id, kd, some ⟨g, 0, none⟩, L.length, L⟩).length = n) := by unfold Hid; rw [List.length_set, HKn.out]
      clear hmem hlen c0 c1 c2 hown hbel hb2 s1 s2 s3 hset hown2 hbel2 o HV HK HCop
      go_wp2
      go_roundw
      case rel => exact ⟨k + 1, _, by omega, by go_num, HLen.out, HO.out, HC.out, HB.out, HZ.out⟩
      case measure => simp [intOf]; omega
    · have hkn : k = K.length := by rw [HKn.out]; omega
      have HR : Hid (HoldsI wr w.heap.size w.heap.size n K ∧ K.map It.pl = J.map It.pl) := by
        refine Copied.done (hkn ▸ HCop.out) (by rw [HKn.out, HN.out]) (Nat.le_refl _) ?_
        rw [HKn.out]; exact hown
      clear hkn hown
      go_wp2
      go_ret
      exact ⟨K, _, rfl, HR.out.1, HR.out.2, hbel⟩

set_option maxRecDepth 100000 in
set_option maxHeartbeats 1600000 in
theorem toStore_any (a : Option Addr) (cap : Nat) (J : List It) (nx : Int) (w : World) (hr : RdI w a J) (hn : J.length ≤ 1048576) (hl : ∀ i, i < J.length → (iAt J i).L.length ≤ 1048576) :
    Calls Tryd.prog 37 #[.agg #[.slice a J.length cap, .int .i64 nx]] w fun e w' =>
      ∃ K g, e = .returned (.agg #[.slice (some ⟨g, 0, none⟩) J.length J.length, .int .i64 nx]) ∧ HoldsI w' w.heap.size g J.length K ∧ K.map It.pl = J.map It.pl ∧ Below w.heap.size w w' := by
  go_enter Tryd.func37, Tryd.ntmps37
  go_wp2_with fail
  have b0 := below_al w (.cells #[.slice a J.length cap, .int .i64 nx] 65)
  have b1 := b0.alloc b0.size (.cells #[.slice none 0 0, .int .i64 0] 39)
  have b2 := b1.alloc b1.size (.cells #[.slice none 0 0, .int .i64 0] 39)
  have hA := box_old (box_old (box2_new w (.slice a J.length cap) (.int .i64 nx) 65) (by simp) (.cells #[.slice none 0 0, .int .i64 0] 39)) (by simp; omega) (.cells #[.slice none 0 0, .int .i64 0] 39)
  have hR := box_old (box2_new (w.alloc (.cells #[.slice a J.length cap, .int .i64 nx] 65)) (.slice none 0 0) (.int .i64 0) 39) (by simp) (.cells #[.slice none 0 0, .int .i64 0] 39)
  have hX := box2_new ((w.alloc (.cells #[.slice a J.length cap, .int .i64 nx] 65)).alloc (.cells #[.slice none 0 0, .int .i64 0] 39)) (.slice none 0 0) (.int .i64 0) 39
  simp only [World.size_alloc] at hA hR hX
  refine (toItemS_any a cap J _ (hr.below b2) hn hl).mono ?_
  rintro e w1 ⟨K, g, rfl, hH, hpl, hb⟩
  have HA := hide (box_below hA hb (by simp; omega))
  have HR := hide (box_below hR hb (by simp))
  have HX := hide (box_below hX hb (by simp))
  have hB : Below w.heap.size w w1 := b2.trans (hb.mono b2.size)
  have hz : w.heap.size + 1 + 1 + 1 ≤ g := by have := hH.low; simp only [World.size_alloc] at this; exact this
  have HP := hide hpl
  have HH := hide hH
  clear hb hA hR hX b0 b1 b2 hpl hH
  obtain ⟨x0, x1, xf0, xf1⟩ := box2_cell HX.out
  obtain ⟨r0, r1, rf0, rf1⟩ := box2_cell HR.out
  obtain ⟨a0, a1, -, -⟩ := box2_cell HA.out
  have HX2 := hide (box2_set HX.out (.slice (some ⟨g, 0, none⟩) J.length J.length) (.int .i64 nx))
  have HR2 := hide (box_gr HR.out HX2.out.2 (by omega))
  go_wp2
  refine box2_post HR2.out (fun w4 h4 gr => ?_)
  clear x0 x1 xf0 xf1 r0 r1 rf0 rf1 a0 a1
  obtain ⟨c0, c1, -, -⟩ := box2_cell h4
  refine bodyPost_ret (v := .agg #[.slice (some ⟨g, 0, none⟩) J.length J.length, .int .i64 nx]) (by simp [results, Tryd.results37, go_sem, c0, c1]) rfl
    ⟨K, g, rfl, ?_, HP.out, below_set (hB.grown HX2.out.2 hB.size (fun k hk => by cases hk; omega)) gr (by omega)⟩
  have h1 := HH.out.grown HX2.out.2 (by simp)
  have h2 := h1.grown gr (by simp)
  exact h2.weaken (by simp; omega)
end Go.Proofs.YtjiopefdfkjfkaaDoor
