/-
  Proved: for every rule, store and list of binds, the law on Blocked answers true (the tested function answers as its model, and writes into no argument), and all that was there reads as it did. No condition.
-/
import Derived.Test.YtfgigcdfmkfkjaaJoined3
import Derived.Test.YtfgigcdfmkfkjaaJoined4
import Derived.Test.YtfgigcdfmkfkjaaJoined1
import Derived.Test.YtfgigcdfmkfkjaaJKeepR
import Derived.Test.YtfgigcdfmkfkjaaJKeepS
import Derived.Test.YtfgigcdfmkfkjaaJMarkBind
import Derived.Test.YtfgigcdfmkfkjaaJMarkSx
import Derived.Test.YtfgigcdfmkfkjaaJStoreN
import Derived.Test.YtfgigcdfmkfkjaaRows
import Derived.ProofKit
import Derived.OpenShut
import Derived.ShutString
import Derived.ChangeOld
import Derived.Below
import Derived.Lib.SmallJoins
import Derived.Deep.RegionHeld3
namespace Go.Proofs.Ytfgigcdfmkfkjaa.ExBlocked
open Go.ChangeShapes Go.WideShapes Go.ChangeAt Go.RowKit Go.Joins
open Go.ChangeMaps (open_string shut_string)
set_option linter.unusedVariables false
set_option maxRecDepth 100000

/-- all that was there is -/
def InW (w : World) (W : World) : Prop := Below w.heap.size w W ∧ w.heap.size ≤ W.heap.size
theorem InW.drew {w W : World} (h : InW w W) : InW w W.drew := ⟨h.1.drew, h.2⟩
theorem keep7w {w W w' : World} {p0 p1 p2 p3 p4 p5 p6 : Addr} {v0 v1 v2 v3 v4 v5 v6 : Value} (hb : Below W.heap.size W w') (h : W.cell? p0 = some v0 ∧ W.cell? p1 = some v1 ∧ W.cell? p2 = some v2 ∧ W.cell? p3 = some v3 ∧ W.cell? p4 = some v4 ∧ W.cell? p5 = some v5 ∧ W.cell? p6 = some v6 ∧ InW w W) : w'.cell? p0 = some v0 ∧ w'.cell? p1 = some v1 ∧ w'.cell? p2 = some v2 ∧ w'.cell? p3 = some v3 ∧ w'.cell? p4 = some v4 ∧ w'.cell? p5 = some v5 ∧ w'.cell? p6 = some v6 ∧ InW w w' := by
  obtain ⟨h0, h1, h2, h3, h4, h5, h6, h7⟩ := h
  have k : ∀ {a : Addr} {v : Value}, W.cell? a = some v → w'.cell? a = some v := fun {a v} h => by rw [hb.cell (World.block_lt_of_cell? W _ h)]; exact h
  exact ⟨k h0, k h1, k h2, k h3, k h4, k h5, k h6, h7.1.trans (hb.mono h7.2), Nat.le_trans h7.2 hb.size⟩
theorem in7 {w W : World} {p0 p1 p2 p3 p4 p5 p6 : Addr} {v0 v1 v2 v3 v4 v5 v6 : Value} (h : W.cell? p0 = some v0 ∧ W.cell? p1 = some v1 ∧ W.cell? p2 = some v2 ∧ W.cell? p3 = some v3 ∧ W.cell? p4 = some v4 ∧ W.cell? p5 = some v5 ∧ W.cell? p6 = some v6 ∧ InW w W) : Below w.heap.size w W := h.2.2.2.2.2.2.2.1
theorem takes_pl {K J : List It} (e : K.map It.pl = J.map It.pl) {kd : ByteArray} {L : List A5} {M : List B4} (h : TakesI kd L M K) : TakesI kd L M J := by
  obtain ⟨k, hk, h1⟩ := h
  obtain ⟨-, e2, e3⟩ := pl_at e hk
  exact ⟨k, by rw [← pl_len e]; exact hk, by rw [← e2, ← e3]; exact h1⟩
theorem pe_pl {P Q : List PE} (e : P.map PE.pl = Q.map PE.pl) {p : PE} (hp : p ∈ P) : ∃ q ∈ Q, q.kd = p.kd ∧ q.L = p.L ∧ q.nt = p.nt := by
  have : PE.pl p ∈ Q.map PE.pl := by rw [← e]; exact List.mem_map.2 ⟨p, hp, rfl⟩
  obtain ⟨q, hq, e1⟩ := List.mem_map.1 this
  refine ⟨q, hq, ?_⟩
  exact PE.pl_inj e1
theorem blk_pl {P Q : List PE} {K J : List It} {M : List B4} (e : P.map PE.pl = Q.map PE.pl) (e2 : K.map It.pl = J.map It.pl) (h : ∃ p ∈ P, p.nt = true ∧ TakesI p.kd p.L M K) : ∃ p ∈ Q, p.nt = true ∧ TakesI p.kd p.L M J := by
  obtain ⟨p, hp, h1, h2⟩ := h
  obtain ⟨q, hq, a, b, c⟩ := pe_pl e hp
  exact ⟨q, hq, by rw [c]; exact h1, by rw [a, b]; exact takes_pl e2 h2⟩
theorem left_mem {P : List PE} {p : PE} (h : p ∈ P) : p.L.length ≤ leftL P := by
  unfold leftL
  induction P with
  | nil => cases h
  | cons q r ih =>
    simp only [List.map_cons, List.sum_cons]
    rcases List.mem_cons.1 h with rfl | h
    · omega
    · have := ih h; omega
/-- what came in, in its boxes, the model's answer, and all that was there -/
structure St (w : World) (x : RE) (a : Option Addr) (n cap : Nat) (nx : Int) (lo : Nat) (W : World) : Prop where
  bel : Below w.heap.size w W
  bR : W.heap[w.heap.size]? = some (.cells #[.string x.nm, .int .i64 x.sal, .slice x.aP x.nP x.cP, .slice x.aC x.nC x.cC, .slice x.aA x.nA x.cA] 37 (0, 0))
  bS : W.heap[w.heap.size + 1]? = some (.cells #[.slice a n cap, .int .i64 nx] 40 (0, 0))
  sz : lo ≤ W.heap.size
  sl : w.heap.size + 1 < lo
theorem St.keepB {w W W' : World} {x : RE} {a : Option Addr} {n cap : Nat} {nx : Int} {lo : Nat} (h : St w x a n cap nx lo W) (hb : Below lo W W') : St w x a n cap nx lo W' :=
  ⟨h.bel.trans (hb.mono (by have := h.sl; omega)), box_below h.bR hb (by have := h.sl; omega), box_below h.bS hb h.sl, Nat.le_trans h.sz hb.size, h.sl⟩
theorem St.keep {w W W' : World} {x : RE} {a : Option Addr} {n cap : Nat} {nx : Int} {lo : Nat} (h : St w x a n cap nx lo W) (hb : Below W.heap.size W W') : St w x a n cap nx lo W' := h.keepB (hb.mono h.sz)
set_option maxHeartbeats 12800000 in
theorem walk (x : RE) (a : Option Addr) (len cap : Nat) (J : List It) (nx : Int) (aZ : Option Addr) (nZ cZ : Nat) (zs : List B4) (w : World) (hr : RdRule w x) (hs : x.ok) (hI : IsItems w a len cap J) (hZ : IsBinds w aZ nZ cZ zs) :
    Calls Try.prog 6 #[.agg #[.string x.nm, .int .i64 x.sal, .slice x.aP x.nP x.cP, .slice x.aC x.nC x.cC, .slice x.aA x.nA x.cA], .agg #[.slice a len cap, .int .i64 nx], .slice aZ nZ cZ] w fun e w' => e = .returned (.bool true) ∧ Below w.heap.size w w' := by
  obtain ⟨n, hN⟩ : ∃ n, n = len := ⟨_, rfl⟩
  subst hN
  obtain ⟨hJn, hm, hrI, hsI⟩ := hI
  obtain ⟨hzl, hzm, hrz, hzf⟩ := hZ
  subst hzl
  have HZF := hide hzf
  have hzm0 := hzm
  have HJn := hide hJn
  unfold maxLen at hzm
  obtain ⟨hA, hB0, b1⟩ := boxes2 w #[.string x.nm, .int .i64 x.sal, .slice x.aP x.nP x.cP, .slice x.aC x.nC x.cC, .slice x.aA x.nA x.cA] #[.slice a n cap, .int .i64 nx] 37 40
  have HRR : Hid (∀ W, Below w.heap.size w W → RdRule W x) := fun W h => hr.below h
  have HRI : Hid (∀ W, Below w.heap.size w W → RdI W a J) := fun W h => hrI.below h
  have HRZ : Hid (∀ W, Below w.heap.size w W → RdBind W aZ zs) := fun W h => hrz.below h
  have r0 := boxk_cell hA 0 _ rfl
  have r1 := boxk_cell hA 1 _ rfl
  have r2 := boxk_cell hA 2 _ rfl
  have r3 := boxk_cell hA 3 _ rfl
  have r4 := boxk_cell hA 4 _ rfl
  clear hJn hr hrI hrz hzf
  go_enter Try.func6, Try.ntmps6
  go_wp2_with fail
  generalize (w.alloc (.cells #[.string x.nm, .int .i64 x.sal, .slice x.aP x.nP x.cP, .slice x.aC x.nC x.cC, .slice x.aA x.nA x.cA] 37)).alloc (.cells #[.slice a n cap, .int .i64 nx] 40) = u0 at b1 hA hB0 r0 r1 r2 r3 r4 ⊢
  refine (szRule_any x 1048576 _ (HRR.out _ b1) hs (by omega) (by omega)).mono ?_
  rintro e u1 ⟨⟨r, rfl, hr1⟩, hb1⟩
  replace hA := box_step hA hb1
  replace hB0 := box_step hB0 hb1
  replace b1 : Below w.heap.size w u1 := b1.trans (hb1.mono b1.size)
  clear hb1 r0 r1 r2 r3 r4
  rcases hr1 with rfl | ⟨hr2, hr3, hsm⟩
  · go_wp2
    go_ret
    exact ⟨rfl, b1⟩
  have hrm : r ≤ 1048576 := by omega
  have HSm := hide hsm
  clear hsm
  have s0 := boxk_cell hB0 0 _ rfl
  have s1 := boxk_cell hB0 1 _ rfl
  go_wp2_with fail
  refine (szStore_n a n cap J nx r _ HJn.out (HRI.out _ b1) hsI hm hr2 hrm).mono ?_
  rintro e u2 ⟨⟨r', rfl, hr1'⟩, hb2⟩
  replace hA := box_step hA hb2
  replace hB0 := box_step hB0 hb2
  replace b1 : Below w.heap.size w u2 := b1.trans (hb2.mono b1.size)
  clear hb2 s0 s1
  rcases hr1' with rfl | ⟨hr2', hr3'⟩
  · go_wp2
    go_ret
    exact ⟨rfl, b1⟩
  have hTot : szSt J ≤ 1048576 := by omega
  have hn : n ≤ 1048576 := by rw [← HJn.out]; unfold szSt at hTot; omega
  have HL : Hid (∀ i, i < J.length → (iAt J i).L.length ≤ 1048576) := fun i hi => by
    have := szSt_mem hi
    unfold szI szL at this
    omega
  have HLS : Hid (∀ i, i < J.length → ∀ v ∈ (iAt J i).L, v.S.size ≤ 1048576) := fun i hi v hv => by
    have h1 := szSt_mem hi
    have h2 := mem_szL hv
    unfold szI at h1
    omega
  have HTot := hide hTot
  have h5 : ¬ (r' < 0) := by omega
  clear hTot
  go_wp2_with fail
  refine (szBindS_any aZ cZ zs r' _ (HRZ.out _ b1) HZF.out hzm0 hr2' (by omega)).mono ?_
  rintro e u3 ⟨⟨r'', rfl, hr1''⟩, hb3⟩
  replace hA := box_step hA hb3
  replace hB0 := box_step hB0 hb3
  replace b1 : Below w.heap.size w u3 := b1.trans (hb3.mono b1.size)
  clear hb3
  rcases hr1'' with rfl | ⟨hr2'', hr3'', hzs⟩
  · go_wp2
    go_ret
    exact ⟨rfl, b1⟩
  have h6 : ¬ (r'' < 0) := by omega
  have hzx : x.sz + zs.length ≤ 1048576 := by omega
  have HZS := hide hzs
  clear hr3 hr3' hr3'' hzs
  -- what both answer
  have hsx := HSm.out.1
  have hlx : leftL x.P ≤ 1048576 := by have := leftL_le x.P; unfold RE.sz at hsx; omega
  have hnx : x.P.length ≤ 1048576 := by unfold RE.sz at hsx; omega
  have HPy : Hid (∀ (y : RE) (W : World), RdRule W y → y.pl = x.pl → y.nP ≤ 1048576 ∧ leftL y.P ≤ 1048576 ∧ y.small) := fun y W hy e => by
    have hsy := RE.small_of HSm.out e
    have h1 := hsy.1
    have h2 := leftL_le y.P
    unfold RE.sz at h1
    exact ⟨by rw [← hy.np]; omega, by omega, hsy⟩
  obtain ⟨Rb, hRb⟩ : ∃ Rb : Prop, Hid ((∃ p ∈ x.P, p.nt = true ∧ TakesI p.kd p.L zs J) ↔ Rb) := ⟨_, Iff.rfl⟩
  have HE : Hid (∀ (y : RE) (K : List It), y.pl = x.pl → K.map It.pl = J.map It.pl → ((∃ p ∈ y.P, p.nt = true ∧ TakesI p.kd p.L zs K) ↔ Rb)) := fun y K e1 e2 => by
    rw [← hRb.out]
    exact ⟨blk_pl (RE.pl_inj e1).2.2.1 e2, blk_pl (RE.pl_inj e1).2.2.1.symm e2.symm⟩
  have HPl : Hid (∀ (y : RE), y.pl = x.pl → ∀ p ∈ y.P, p.L.length + zs.length ≤ 1048576) := fun y e p hp => by
    obtain ⟨q, hq, -, e2, -⟩ := pe_pl (RE.pl_inj e).2.2.1 hp
    have h1 := left_mem hq
    have h2 := leftL_le x.P
    rw [e2] at h1
    unfold RE.sz at hzx
    omega
  have HLk : Hid (∀ K : List It, K.map It.pl = J.map It.pl → K.length = n ∧ (∀ i, i < K.length → (iAt K i).L.length ≤ 1048576) ∧ ∀ i, i < K.length → ∀ v ∈ (iAt K i).L, v.S.size ≤ 1048576) := fun K e => by
    refine ⟨by rw [pl_len e]; exact HJn.out, fun i hi => ?_, fun i hi => ?_⟩
    · rw [(pl_at e hi).2.2]; exact HL.out i (by rw [← pl_len e]; exact hi)
    · rw [(pl_at e hi).2.2]; exact HLS.out i (by rw [← pl_len e]; exact hi)
  have HSp : Hid (∀ (W : World) (y : RE) (K : List It) (g : Nat) (aq : Option Addr), RdRule W y → y.pl = x.pl → RdI W (some ⟨g, 0, none⟩) K → K.map It.pl = J.map It.pl → RdBind W aq zs → Calls Try.prog 33 #[.agg #[.string y.nm, .int .i64 y.sal, .slice y.aP y.nP y.cP, .slice y.aC y.nC y.cC, .slice y.aA y.nA y.cA], .agg #[.slice (some ⟨g, 0, none⟩) n n, .int .i64 nx], .slice aq zs.length zs.length] W fun e w' => (∃ b, e = .returned (.bool b) ∧ (b = true ↔ Rb)) ∧ Below W.heap.size W w') := fun W y K g aq h1 h2 h3 h4 h5 => by
    refine (specBlocked_any y _ n n nx K aq zs.length zs W h1 (HPy.out y W h1 h2).2.2 h3 h5 (HLk.out K h4).1 (by omega) (HPl.out y h2) (HLk.out K h4).2.1).mono ?_
    rintro e w' ⟨⟨b, he, hb⟩, hB⟩
    exact ⟨⟨b, he, hb.trans (HE.out y K h2 h4)⟩, hB⟩
  have HIm : Hid (∀ (W : World) (y : RE) (K : List It) (lo g : Nat) (aq : Option Addr), RdRule W y → y.pl = x.pl → HoldsI W lo g n K → K.map It.pl = J.map It.pl → RdBind W aq zs → Calls Try.prog 35 #[.agg #[.string y.nm, .int .i64 y.sal, .slice y.aP y.nP y.cP, .slice y.aC y.nC y.cC, .slice y.aA y.nA y.cA], .agg #[.slice (some ⟨g, 0, none⟩) n n, .int .i64 nx], .slice aq zs.length zs.length] W fun e w' => (∃ b, e = .returned (.bool b) ∧ (b = true ↔ Rb)) ∧ Below W.heap.size W w') := fun W y K lo g aq h1 h2 h3 h4 h5 => by
    refine (implBlocked_any y _ n n nx K aq zs.length zs W h1 (HPy.out y W h1 h2).2.2 h3.rd h5 (HLk.out K h4).1 (by omega) (Nat.le_refl _) (HLk.out K h4).2.2 HZS.out (HPl.out y h2) (HLk.out K h4).2.1).mono ?_
    rintro e w' ⟨⟨b, he, hb⟩, hB⟩
    exact ⟨⟨b, he, hb.trans (HE.out y K h2 h4)⟩, hB⟩
  clear hsx hlx hnx
  have r0 := boxk_cell hA 0 _ rfl
  have r1 := boxk_cell hA 1 _ rfl
  have r2 := boxk_cell hA 2 _ rfl
  have r3 := boxk_cell hA 3 _ rfl
  have r4 := boxk_cell hA 4 _ rfl
  have s0 := boxk_cell hB0 0 _ rfl
  have s1 := boxk_cell hB0 1 _ rfl
  have I2 : InW w u3 := ⟨b1, b1.size⟩
  have hz9 : zs.length ≤ 1048576 := by omega
  go_wp2_with fail
  go_region_held3 (fun W => W.cell? ⟨w.heap.size, 0, none⟩ = some (.string x.nm) ∧ W.cell? ⟨w.heap.size, 1, none⟩ = some (.int .i64 x.sal) ∧ W.cell? ⟨w.heap.size, 2, none⟩ = some (.slice x.aP x.nP x.cP) ∧ W.cell? ⟨w.heap.size, 3, none⟩ = some (.slice x.aC x.nC x.cC) ∧ W.cell? ⟨w.heap.size, 4, none⟩ = some (.slice x.aA x.nA x.cA) ∧ W.cell? ⟨w.heap.size + 1, 0, none⟩ = some (.slice a n cap) ∧ W.cell? ⟨w.heap.size + 1, 1, none⟩ = some (.int .i64 nx) ∧ InW w W) (first | exact ⟨r0, r1, r2, r3, r4, s0, s1, I2.drew⟩ | exact keep7w (by assumption) (by assumption))
    (first | (go_at_call 19; refine (toRule_any x _ (HRR.out _ (in7 (by assumption))) HSm.out).mono ?_; rintro e w4 ⟨y4, rfl, o4, e4, hb4⟩) | (go_at_call 20; refine (toStore_n a n cap J nx _ HJn.out (HRI.out _ (in7 (by assumption))) hn HL.out).mono ?_; rintro e w5 ⟨K5, g5, rfl, hH5, hpl5, hb5⟩) | (go_at_call 34; refine (toBindS_ex aZ cZ zs _ (HRZ.out _ (in7 (by assumption))) hz9).mono ?_; rintro e w6 ⟨g6, rfl, hg6, oz6, hb6⟩) | (go_at_call 33; refine (HSp.out _ y4 K5 g5 _ ((o4.later hb5).later hb6).rd e4 (hH5.later hb6).rd hpl5 (rdOwnBind oz6)).mono ?_; rintro e w7 ⟨⟨bw, rfl, hbw⟩, hb7⟩))
  have B7 := below_step (below_step (below_step (below_dr hb4) hb5) hb6) hb7
  have S7 : St w x a n cap nx w7.heap.size w7 := ⟨b1.trans (B7.mono b1.size), box_step hA B7, box_step hB0 B7, Nat.le_refl _, (Array.getElem?_eq_some_iff.1 (box_step hB0 B7)).1⟩
  clear hb4 hb5 hb6 hb7 B7 o4 hH5 oz6 hg6 e4 hpl5 hA hB0 b1 I2 r0 r1 r2 r3 r4 s0 s1 HSp
  obtain ⟨lo, HLo⟩ : ∃ lo, Hid (w7.heap.size = lo) := ⟨_, rfl⟩
  rw [HLo.out] at S7
  have r0 := boxk_cell S7.bR 0 _ rfl
  have r1 := boxk_cell S7.bR 1 _ rfl
  have r2 := boxk_cell S7.bR 2 _ rfl
  have r3 := boxk_cell S7.bR 3 _ rfl
  have r4 := boxk_cell S7.bR 4 _ rfl
  have s0 := boxk_cell S7.bS 0 _ rfl
  have s1 := boxk_cell S7.bS 1 _ rfl
  go_wp2_with fail
  refine (toRule_any x _ (HRR.out _ S7.bel) HSm.out).mono ?_
  rintro e v1 ⟨y, rfl, oy, ey, hb1⟩
  rw [HLo.out] at oy
  have hlh := oy.lohi
  have EY := hide ey
  have HSy := hide (RE.small_of HSm.out ey)
  have S8 := S7.keep hb1
  have ba := below_al v1 (.cells #[.string y.nm, .int .i64 y.sal, .slice y.aP y.nP y.cP, .slice y.aC y.nC y.cC, .slice y.aA y.nA y.cA] 49)
  have HXR := hide (boxk_new v1 #[.string y.nm, .int .i64 y.sal, .slice y.aP y.nP y.cP, .slice y.aC y.nC y.cC, .slice y.aA y.nA y.cA] 49)
  have S9 := S8.keep ba
  have oy9 := oy.later ba
  have z9 : v1.heap.size < (v1.alloc (.cells #[.string y.nm, .int .i64 y.sal, .slice y.aP y.nP y.cP, .slice y.aC y.nC y.cC, .slice y.aA y.nA y.cA] 49)).heap.size := by simp
  obtain ⟨R1, HR1⟩ : ∃ R1, Hid (v1.heap.size = R1) := ⟨_, rfl⟩
  rw [HR1.out] at HXR z9 oy9 hlh
  clear S7 S8 hb1 ba oy ey HLo r0 r1 r2 r3 r4 s0 s1
  have r0 := boxk_cell S9.bR 0 _ rfl
  have r1 := boxk_cell S9.bR 1 _ rfl
  have r2 := boxk_cell S9.bR 2 _ rfl
  have r3 := boxk_cell S9.bR 3 _ rfl
  have r4 := boxk_cell S9.bR 4 _ rfl
  have s0 := boxk_cell S9.bS 0 _ rfl
  have s1 := boxk_cell S9.bS 1 _ rfl
  go_wp2_with fail
  rw [HR1.out]
  generalize v1.alloc (.cells #[.string y.nm, .int .i64 y.sal, .slice y.aP y.nP y.cP, .slice y.aC y.nC y.cC, .slice y.aA y.nA y.cA] 49) = v2 at HXR S9 oy9 z9 r0 r1 r2 r3 r4 s0 s1 ⊢
  clear HR1
  refine (toStore_n a n cap J nx _ HJn.out (HRI.out _ S9.bel) hn HL.out).mono ?_
  rintro e v3 ⟨K2, g2, rfl, hH2, hpl2, hb3⟩
  have HP2 := hide hpl2
  have hz3 := hb3.size
  have HAp : Hid (∀ k, v3.heap.size ≤ k → Apart K2 g2 k) := fun k hk => hH2.apart_hi hk
  have S10 := S9.keep hb3
  have HXR3 := hide (box_step HXR.out hb3)
  have oy10 := oy9.later hb3
  clear hb3 S9 HXR oy9 hpl2 r0 r1 r2 r3 r4 s0 s1
  have ba := below_al v3 (.cells #[.slice (some ⟨g2, 0, none⟩) n n, .int .i64 nx] 53)
  have HXS := hide (boxk_new v3 #[.slice (some ⟨g2, 0, none⟩) n n, .int .i64 nx] 53)
  have S11 := S10.keep ba
  have HXR4 := hide (box_step HXR3.out ba)
  have oy11 := oy10.later ba
  have hH11 := hH2.later ba
  have z11 : v3.heap.size < (v3.alloc (.cells #[.slice (some ⟨g2, 0, none⟩) n n, .int .i64 nx] 53)).heap.size := by simp
  obtain ⟨X, HX⟩ : ∃ X, Hid (v3.heap.size = X) := ⟨_, rfl⟩
  obtain ⟨S0, HS0⟩ : ∃ S0, Hid (v2.heap.size = S0) := ⟨_, rfl⟩
  rw [HX.out] at HXS z11 HAp hz3
  rw [HS0.out] at hz3 hH11 z9
  clear S10 HXR3 oy10 hH2 ba HS0
  go_wp2_with fail
  rw [HX.out]
  generalize v3.alloc (.cells #[.slice (some ⟨g2, 0, none⟩) n n, .int .i64 nx] 53) = v4 at HXS S11 HXR4 oy11 hH11 z11 ⊢
  clear HX
  refine (toBindS_ex aZ cZ zs _ (HRZ.out _ S11.bel) hz9).mono ?_
  rintro e v5 ⟨gZ, rfl, hgZ, oz0, hb5⟩
  have oz := rdOwnBind oz0
  clear oz0 hgZ
  have S12 := S11.keep hb5
  have HXR5 := hide (box_step HXR4.out hb5)
  have HXS5 := hide (box_step HXS.out hb5)
  have oy12 := oy11.later hb5
  have hH12 := hH11.later hb5
  have hz5 := hb5.size
  clear hb5 S11 HXR4 HXS oy11 hH11
  have x0 := boxk_cell HXR5.out 0 _ rfl
  have x1 := boxk_cell HXR5.out 1 _ rfl
  have x2 := boxk_cell HXR5.out 2 _ rfl
  have x3 := boxk_cell HXR5.out 3 _ rfl
  have x4 := boxk_cell HXR5.out 4 _ rfl
  have t0 := boxk_cell HXS5.out 0 _ rfl
  have t1 := boxk_cell HXS5.out 1 _ rfl
  go_wp2_with fail
  refine (HIm.out _ y K2 _ g2 _ oy12.rd EY.out hH12 HP2.out oz).mono ?_
  rintro e v6 ⟨⟨bg, rfl, hbg⟩, hb6⟩
  have S13 := S12.keep hb6
  have HXR6 := hide (box_step HXR5.out hb6)
  have HXS6 := hide (box_step HXS5.out hb6)
  have oy13 := oy12.later hb6
  have hH13 := hH12.later hb6
  have oz13 := oz.below hb6
  clear hb6 S12 HXR5 HXS5 oy12 hH12 oz x0 x1 x2 x3 x4 t0 t1
  obtain rfl : bg = bw := Bool.eq_iff_iff.2 (hbg.trans hbw.symm)
  have hbb : (bg != bg) = false := by simp
  clear hbg hbw
  have S14 := S13
  have HXR7 := HXR6
  have HXS7 := HXS6
  have oy14 := oy13
  have hH14 := hH13
  have oz14 := oz13
  clear S13 HXR6 HXS6 oy13 hH13 oz13
  have r0 := boxk_cell S14.bR 0 _ rfl
  have r1 := boxk_cell S14.bR 1 _ rfl
  have r2 := boxk_cell S14.bR 2 _ rfl
  have r3 := boxk_cell S14.bR 3 _ rfl
  have r4 := boxk_cell S14.bR 4 _ rfl
  have s0 := boxk_cell S14.bS 0 _ rfl
  have s1 := boxk_cell S14.bS 1 _ rfl
  have x0 := boxk_cell HXR7.out 0 _ rfl
  have x1 := boxk_cell HXR7.out 1 _ rfl
  have x2 := boxk_cell HXR7.out 2 _ rfl
  have x3 := boxk_cell HXR7.out 3 _ rfl
  have x4 := boxk_cell HXR7.out 4 _ rfl
  have T6 : TwoR w w.heap.size x y v6 := ⟨HRR.out _ S14.bel, oy14.rd, S14.bel, S14.bel.size⟩
  go_wp2_with fail
  go_region_held3 (fun W => W.cell? ⟨w.heap.size, 0, none⟩ = some (.string x.nm) ∧ W.cell? ⟨w.heap.size, 1, none⟩ = some (.int .i64 x.sal) ∧ W.cell? ⟨w.heap.size, 2, none⟩ = some (.slice x.aP x.nP x.cP) ∧ W.cell? ⟨w.heap.size, 3, none⟩ = some (.slice x.aC x.nC x.cC) ∧ W.cell? ⟨w.heap.size, 4, none⟩ = some (.slice x.aA x.nA x.cA) ∧ W.cell? ⟨R1, 0, none⟩ = some (.string y.nm) ∧ W.cell? ⟨R1, 1, none⟩ = some (.int .i64 y.sal) ∧ W.cell? ⟨R1, 2, none⟩ = some (.slice y.aP y.nP y.cP) ∧ W.cell? ⟨R1, 3, none⟩ = some (.slice y.aC y.nC y.cC) ∧ W.cell? ⟨R1, 4, none⟩ = some (.slice y.aA y.nA y.cA) ∧ TwoR w w.heap.size x y W) (first | exact ⟨r0, r1, r2, r3, r4, x0, x1, x2, x3, x4, T6.drew⟩ | exact keepR (by assumption) (by assumption))
    (first | (go_at_call 19; refine (toRule_any x _ (rdRA (by assumption)) HSm.out).mono ?_; rintro e w8 ⟨y8, rfl, o8, e8, hb8⟩) | (go_at_call 24; refine (eqRule_same y y8 _ (rdRB (by assumption)) o8.rd (EY.out.trans e8.symm) HSy.out).mono ?_; rintro e w9 ⟨rfl, hb9⟩))
  have B9 : Below v6.heap.size v6 w9 := below_step (below_dr hb8) hb9
  have S15 := S14.keep B9
  have HXR8 := hide (box_step HXR7.out B9)
  have HXS8 := hide (box_step HXS7.out B9)
  have oy15 := oy14.later B9
  have hH15 := hH14.later B9
  have oz15 := oz14.below B9
  have hz8 := B9.size
  clear B9 hb8 hb9 S14 HXR7 HXS7 oy14 hH14 oz14 T6 o8 e8 x0 x1 x2 x3 x4 r0 r1 r2 r3 r4 s0 s1
  have s0 := boxk_cell S15.bS 0 _ rfl
  have s1 := boxk_cell S15.bS 1 _ rfl
  have t0 := boxk_cell HXS8.out 0 _ rfl
  have t1 := boxk_cell HXS8.out 1 _ rfl
  have C7 : SC w a S0 g2 n J K2 w9 := ⟨HRI.out _ S15.bel, hH15, S15.bel⟩
  have HL2 : Hid (∀ i, i < K2.length → (iAt K2 i).L.length ≤ 1048580) := fun i hi => by have := (HLk.out K2 HP2.out).2.1 i hi; omega
  go_wp2_with fail
  go_region_held3 (fun W => W.cell? ⟨w.heap.size + 1, 0, none⟩ = some (.slice a n cap) ∧ W.cell? ⟨w.heap.size + 1, 1, none⟩ = some (.int .i64 nx) ∧ W.cell? ⟨X, 0, none⟩ = some (.slice (some ⟨g2, 0, none⟩) n n) ∧ W.cell? ⟨X, 1, none⟩ = some (.int .i64 nx) ∧ SC w a S0 g2 n J K2 W) (first | exact ⟨s0, s1, t0, t1, C7.drew⟩ | exact keep4 SC.keep (by assumption) (by assumption))
    (first | (go_at_call 20; refine (toStore_n a n cap J nx _ HJn.out (SC.rdi (by assumption)) hn HL.out).mono ?_; rintro e w10 ⟨K3, g7, rfl, hH3, hpl3, hb10⟩) | (go_at_call 25; refine (eqStore_same _ _ _ _ _ _ K2 K3 _ (SC.cp (by assumption)) hH3.rd (HLk.out K2 HP2.out).1 (HP2.out.trans hpl3.symm) (by omega) HL2.out).mono ?_; rintro e w11 ⟨rfl, hb11⟩))
  all_goals
    have B11 : Below w9.heap.size w9 w11 := below_step (below_dr hb10) hb11
    have S16 := S15.keep B11
    have HXR9 := hide (box_step HXR8.out B11)
    have HXS9 := hide (box_step HXS8.out B11)
    have oy16 := oy15.later B11
    have hH16 := hH15.later B11
    have oz16 := oz15.below B11
    have hz9' := B11.size
    clear B11 hb10 hb11 S15 HXR8 HXS8 oy15 hH15 oz15 C7 hH3 hpl3 s0 s1 t0 t1
    go_wp2_with fail
    refine (toBindS_ex aZ cZ zs _ (HRZ.out _ S16.bel) hz9).mono ?_
    rintro e w12 ⟨g12, rfl, hg12, oz120, hb12⟩
    have oz12 := rdOwnBind oz120
    clear oz120 hg12
    have S17 := S16.keep hb12
    have HXR10 := hide (box_step HXR9.out hb12)
    have HXS10 := hide (box_step HXS9.out hb12)
    have oy17 := oy16.later hb12
    have hH17 := hH16.later hb12
    have oz17 := oz16.below hb12
    have hz10 := hb12.size
    clear hb12 S16 HXR9 HXS9 oy16 hH16 oz16
    go_wp2_with fail
    refine (eqBindS_same _ _ _ _ zs _ oz17 oz12 (by omega)).mono ?_
    rintro e w13 ⟨rfl, hb13⟩
    have S18 := S17.keep hb13
    go_wp2
    go_ret
    exact ⟨rfl, S18.bel⟩

theorem own : ownKnob Try.prog.godebug = none := by kernel_rfl
theorem laidOut : laidOutB Try.prog = true := by kernel_rfl

set_option maxRecDepth 100000 in
theorem lifted (os : Os) (started : os.Started) (H : Type) (enc : TypeId × Value → H) :
    ReturnsInHanded {} Try.checked os 6 .any (Rows.fnExactBlockedSpec.pre6 enc Try.prog Try.f6 Rows.fnExactBlockedRow.domain false) (Rows.fnExactBlockedSpec.post enc Try.prog Try.f6 false true false false) := by
  refine returnsInHanded_of_change (C := Try.checked) own started (by kernel_rfl) Try.func6
    (ChangeSpec.witness6 (enc := enc) (C := Try.checked) false ⟨#[], #[.agg #[.string ByteArray.empty, .int .i64 0, .slice none 0 0, .slice none 0 0, .slice none 0 0], .agg #[.slice none 0 0, .int .i64 0], .slice none 0 0], []⟩ 8 (by kernel_rfl) (by kernel_rfl) (by kernel_rfl) (by kernel_rfl)) ?_
  intro W base args ds gs before hval0 hW hcnd _
  have hval : ∀ (j : Nat) t v, Try.f6.params[j]? = some t → args[j]? = some v → Value.okWide Try.prog W .any base t v := hval0
  have hW' := hW
  obtain ⟨p, q, hA0, hV, rfl, hfz, hnd⟩ := hW
  have hA : DataW.TrodAll enc Try.prog W 0 (fun _ => true) true Try.f6.params.toList args.toList ds p := hA0
  rw [Try.params6] at hA hval
  obtain ⟨v0, vs0, d0, ds0, p0, q0, hargs, rfl, rfl, h0, r0⟩ := trodAll_cons hA
  obtain ⟨v1, vs1, d1, ds1, p1, q1, rfl, rfl, rfl, h1, r1⟩ := trodAll_cons r0
  obtain ⟨v2, vs2, d2, ds2, p2, q2, rfl, rfl, rfl, h2, r2⟩ := trodAll_cons r1
  obtain ⟨rfl, rfl, rfl⟩ := trodAll_nil r2
  obtain rfl : args = #[v0, v1, v2] := by cases args; simp_all
  obtain ⟨rfl, rfl⟩ := trodVars_none hV
  have k0 := h0
  have lt0 : ∀ x ∈ p0, x.block < W.heap.size := by obtain ⟨m, hm⟩ := k0; exact DataW.trod_lt m _ _ _ hm
  obtain ⟨X0, rfl, hR0, w0⟩ := rule_in (hval 0 37 v0 rfl rfl) h0
  have k1 := h1
  have lt1 : ∀ x ∈ p1, x.block < W.heap.size := by obtain ⟨m, hm⟩ := k1; exact DataW.trod_lt m _ _ _ hm
  obtain ⟨c1a, c1b, y1a, y1b, m1, rfl, _, _, hy1a, hy1b⟩ := open_agg2 Try.underlying40 (by kernel_rfl) (by kernel_rfl) (hval 1 40 v1 rfl rfl) h1
  obtain ⟨N1, eN1, _, _⟩ := DataW.trod_int Try.underlying3 hy1b
  simp only [List.cons.injEq, and_true] at eN1
  subst eN1
  obtain ⟨a1, len1, cap1, J1, rfl, w1⟩ := items_in hy1a
  obtain ⟨a2, len2, cap2, rfl⟩ := okWide_slice Try.underlying23 (hval 2 23 v2 rfl rfl)
  have k2 := h2
  have lt2 : ∀ x ∈ p2, x.block < W.heap.size := by obtain ⟨m, hm⟩ := k2; exact DataW.trod_lt m _ _ _ hm
  obtain ⟨b2, m2, c2, L2, e2, w2⟩ : ∃ a len cap L, Value.slice a2 len2 cap2 = .slice a len cap ∧ IsBinds W a len cap L := by
    obtain ⟨fuel, hf⟩ := h2
    exact binds_in hf
  rw [e2] at hW' ⊢
  clear hA0 hval0
  refine (walk X0 a1 len1 cap1 J1 N1 b2 m2 c2 L2 W hR0 w0 w1 w2).mono fun e W' ⟨he, bel⟩ => ?_
  subst he
  exact ⟨_, rfl, _, _, _, [], _, [], hW', trodAll_mk1 (shut_bool Try.underlying4 _), (trodAll_cons_mk (Below.trod laidOut (by kernel_rfl) (of_decide_eq_true (by kernel_rfl)) k0 bel lt0) (trodAll_cons_mk (Below.trod laidOut (by kernel_rfl) (of_decide_eq_true (by kernel_rfl)) k1 bel lt1) (trodAll_cons_mk (by rw [← e2]; exact Below.trod laidOut (by kernel_rfl) (of_decide_eq_true (by kernel_rfl)) k2 bel lt2) trodAll_mk0))), rfl, bel.frame _, fun h => by cases h⟩

theorem over : Rows.fnExactBlockedRow.holds Try.pinned (OpenSpec.ofChange Rows.fnExactBlockedSpec) :=
  OpenClaim.holds_of_wide 6 Try.f6 rfl rfl rfl rfl rfl rfl rfl ⟨rfl, rfl, rfl, rfl, rfl⟩ rfl rfl rfl rfl rfl (by kernel_rfl) Try.func6 (by kernel_rfl)
    (of_decide_eq_true (by kernel_rfl)) (by unfold Func.isWrapper; first | (rw [if_pos (by decide +kernel)]; kernel_rfl) | (rw [if_neg (by decide +kernel)]; exact ⟨rfl, rfl⟩))
    (fun os started H enc _ => lifted os started H enc)
end Go.Proofs.Ytfgigcdfmkfkjaa.ExBlocked
namespace Go.Proofs.Ytfgigcdfmkfkjaa
theorem fnExactBlocked_holds : Rows.FnExactBlockedSaid := ExBlocked.over
#print axioms fnExactBlocked_holds
end Go.Proofs.Ytfgigcdfmkfkjaa
