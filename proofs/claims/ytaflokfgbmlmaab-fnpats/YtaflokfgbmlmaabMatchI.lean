/-
  What the tested functions that hold an argument against a value answer: stepM.
-/
import Derived.Test.YtaflokfgbmlmaabMatchP
import Derived.Test.YtaflokfgbmlmaabBindOf
import Derived.Test.YtaflokfgbmlmaabLawBind
import Derived.Test.YtaflokfgbmlmaabSrc4
import Derived.Test.YtaflokfgbmlmaabValE
import Derived.ArgAppend
import Derived.Deep.AppendLies
import Derived.OwnWalk
namespace Go.Proofs.Ytaflokfgbmlmaab
open Go.RowKit
set_option linter.unusedVariables false

theorem below_2boxN (w : World) (o p : Obj) (n : Nat) : Below w.heap.size w (((w.alloc o).alloc p).drewN n) :=
  (((Below.refl w.heap.size w).alloc (Nat.le_refl _) o).alloc (by simp) p).trans ⟨rfl, rfl, rfl, Nat.le_refl _, fun _ _ => rfl⟩

set_option maxRecDepth 100000 in
theorem clip_any (a : Option Addr) (cap : Nat) (M : List B4) (w : World) (hr : RdBind w a M) (hc : M.length ≤ cap) (hm : M.length ≤ 2097152) :
    Calls Try.prog 101 #[.slice a M.length cap] w fun e w' => (∃ a', e = .returned (.slice a' M.length M.length) ∧ RdBind w a' M) ∧ w' = w := by
  go_enter Try.func101, Try.ntmps101
  go_wp2
  go_ret
  exact ⟨⟨a, rfl, hr⟩, rfl⟩

/-- the list of binds on the way: the caller's own, without spare room, or one of the call's own -/
def BL (base : Nat) (W : World) (a : Option Addr) (cap : Nat) (M : List B4) : Prop :=
  RdBind W a M ∧ (cap = M.length ∧ (a = none → M.length = 0) ∨ W.ownsRow base 104 4 (.slice a M.length cap) M.length (rowOf B4.cs M))
theorem BL.below {base : Nat} {W W' : World} {a : Option Addr} {cap : Nat} {M : List B4} (h : BL base W a cap M) (hb : Below W.heap.size W W') : BL base W' a cap M :=
  ⟨h.1.below hb, h.2.imp id (fun h => ownsRow_below' h hb)⟩

set_option maxRecDepth 100000 in
set_option maxHeartbeats 1600000 in
theorem matchAny_any (K : Int) (S : ByteArray) (V u : V3) (v : Value) (w : World) :
    Calls Try.prog 123 #[.agg #[.int .i64 K, .string S, .int .i64 V.K, .int .i64 V.N, .string V.S], .agg #[.int .i64 u.K, .int .i64 u.N, .string u.S], v] w fun e w' =>
      e = .returned (.tuple #[v, .bool true]) ∧ Below w.heap.size w w' := by
  go_enter Try.func123, Try.ntmps123
  go_wp2
  go_returns
  exact ⟨rfl, by go_grown⟩

set_option maxRecDepth 100000 in
set_option maxHeartbeats 1600000 in
theorem matchVal_any (K : Int) (S : ByteArray) (V u : V3) (v : Value) (w : World) :
    Calls Try.prog 122 #[.agg #[.int .i64 K, .string S, .int .i64 V.K, .int .i64 V.N, .string V.S], .agg #[.int .i64 u.K, .int .i64 u.N, .string u.S], v] w fun e w' =>
      e = .returned (.tuple #[v, .bool (decide (V = u))]) ∧ Below w.heap.size w w' := by
  rcases v3_cases V u with rfl | ⟨hne, hv⟩
  · have k1 : (V.K == V.K) = true := by simp
    have k2 : (V.N == V.N) = true := by simp
    have k3 : (V.S.toList == V.S.toList) = true := by simp
    rw [decide_eq_true rfl]
    go_enter Try.func122, Try.ntmps122
    go_wp2
    go_quiet (fail)
    go_wp2
    go_returns
    exact ⟨rfl, below_2boxN _ _ _ _⟩
  · rw [decide_eq_false hne]
    clear hne
    rcases hv with k1 | ⟨k1, k2⟩ | ⟨k1, k2, k3⟩
    all_goals
      go_enter Try.func122, Try.ntmps122
      go_wp2
      go_quiet (fail)
      go_wp2
      go_returns
      exact ⟨rfl, below_2boxN _ _ _ _⟩

theorem ownsRow_lowK {w : World} {base base' size n : Nat} {e : TypeId} {v : Value} {xs : List Value} (h : w.ownsRow base e size v n xs) (hb : base' ≤ base) : w.ownsRow base' e size v n xs := by
  refine ⟨h.1, ?_⟩
  rcases h.2 with h2 | ⟨g, cap, cur, h1, hb', rest⟩
  · exact .inl h2
  · exact .inr ⟨g, cap, cur, h1, Nat.le_trans hb hb', rest⟩
def GivesM (e : Ending) (w' : World) (base : Nat) (w : World) (r : List B4 × Bool) : Prop := ∃ a' cap', e = .returned (.tuple #[.slice a' r.1.length cap', .bool r.2]) ∧ BL base w' a' cap' r.1 ∧ Below base w w'
theorem rdK_src {α : Type} [Inhabited α] {f : α → List Value} {k : Nat} (hk : ∀ x, (f x).length = k) (hp : 0 < k) {w : World} {b : Addr} {L : List α} (h : RdK f k w (some b) L) : ∀ j u, (rowOf f L)[j]? = some u → w.cell? (b.add j) = some u := by
  intro j u hj
  have hl : j < L.length * k := by rw [← rowOf_length hk]; exact (List.getElem?_eq_some_iff.1 hj).1
  have hi : j / k < L.length := (Nat.div_lt_iff_lt_mul hp).2 hl
  have hr : j % k < k := Nat.mod_lt _ hp
  have ej : j = (j / k) * k + j % k := (Nat.div_add_mod' j k).symm
  obtain ⟨b', off, e, hc⟩ := h (j / k) hi
  simp only [Option.some.injEq] at e
  subst e
  rw [ej, rowOf_get hk L (j / k) (j % k) hi hr, ← eAt_in hi] at hj
  have := hc (j % k) u hj
  rw [Addr.add_lit]
  rw [Nat.add_assoc, ← ej] at this
  exact this
set_option maxRecDepth 100000 in
set_option maxHeartbeats 3200000 in
theorem matchVar_any (S : ByteArray) (V u : V3) (a : Option Addr) (cap base : Nat) (M : List B4) (w : World) (hbase : base ≤ w.heap.size) (h : BL base w a cap M) (hs : ∀ x ∈ M, x.small) (hm : M.length ≤ 2000000) :
    Calls Try.prog 121 #[.agg #[.int .i64 1, .string S, .int .i64 V.K, .int .i64 V.N, .string V.S], .agg #[.int .i64 u.K, .int .i64 u.N, .string u.S], .slice a M.length cap] w fun e w' =>
      GivesM e w' base w (stepM M ⟨1, S, V⟩ u) := by
  obtain ⟨i0, hi, hz0, hz1, hz2⟩ := info_parts Try.info104
  have b0 := below_al w (.cells #[.int .i64 1, .string S, .int .i64 V.K, .int .i64 V.N, .string V.S] 67)
  have b1 := b0.alloc b0.size (.cells #[.int .i64 u.K, .int .i64 u.N, .string u.S] 63)
  have hA := box_old (boxk_new w #[.int .i64 1, .string S, .int .i64 V.K, .int .i64 V.N, .string V.S] 67) (by simp) (.cells #[.int .i64 u.K, .int .i64 u.N, .string u.S] 63)
  have hU := boxk_new (w.alloc (.cells #[.int .i64 1, .string S, .int .i64 V.K, .int .i64 V.N, .string V.S] 67)) #[.int .i64 u.K, .int .i64 u.N, .string u.S] 63
  simp only [World.size_alloc] at hU
  have h1 := h.below b1
  have hz : w.heap.size + 2 ≤ ((w.alloc (.cells #[.int .i64 1, .string S, .int .i64 V.K, .int .i64 V.N, .string V.S] 67)).alloc (.cells #[.int .i64 u.K, .int .i64 u.N, .string u.S] 63)).heap.size := by simp
  obtain ⟨n, hN⟩ : ∃ n, n = M.length := ⟨_, rfl⟩
  have HBO := hide (fun W (h : RdBind W a M) => implBindOf_any a cap M S W h hs (by omega))
  rw [← hN] at HBO hm ⊢
  have HN := hide hN
  clear hN hs h
  cases hb : bindO M S with
  | some v =>
    rw [hb] at HBO
    rw [stepM_K1 hb]
    clear hb
    simp only [bindA] at HBO
    obtain ⟨r, hr⟩ : ∃ r : Bool, r = decide (v = u) := ⟨_, rfl⟩
    rw [← hr]
    go_enter Try.func121, Try.ntmps121
    go_wp2_with fail
    refine (HBO.out _ h1.1).mono ?_
    generalize (w.alloc (.cells #[.int .i64 1, .string S, .int .i64 V.K, .int .i64 V.N, .string V.S] 67)).alloc (.cells #[.int .i64 u.K, .int .i64 u.N, .string u.S] 63) = w1 at b1 hA hU h1 hz
    rintro e w2 ⟨rfl, hb2⟩
    have HA := hide (box_below hA hb2 (by omega))
    have HU := hide (box_below hU hb2 (by omega))
    have h2 := h1.below hb2
    have hB2 : Below w.heap.size w w2 := b1.trans (hb2.mono b1.size)
    have hz2' : w.heap.size + 2 ≤ w2.heap.size := Nat.le_trans hz hb2.size
    clear hA hU h1 hb2 b0 b1 HBO
    obtain ⟨u0, u1, u2, -, -, -⟩ := box_cell (box_old HU.out (by omega) (.cells #[.int .i64 v.K, .int .i64 v.N, .string v.S] 63))
    obtain ⟨x0, x1, x2, -, -, -⟩ := box_cell (boxk_new w2 #[.int .i64 v.K, .int .i64 v.N, .string v.S] 63)
    have b3 := hB2.alloc hB2.size (.cells #[.int .i64 v.K, .int .i64 v.N, .string v.S] 63)
    have h3 := h2.below (below_al w2 (.cells #[.int .i64 v.K, .int .i64 v.N, .string v.S] 63))
    have HG : Hid (∀ n', GivesM (.returned (.tuple #[.slice a n cap, .bool r])) ((w2.alloc (.cells #[.int .i64 v.K, .int .i64 v.N, .string v.S] 63)).drewN n') base w (M, r)) := fun n' =>
      ⟨a, cap, by rw [HN.out], ⟨h3.1.heap rfl, h3.2⟩, (b3.mono hbase).trans ⟨rfl, rfl, rfl, Nat.le_refl _, fun _ _ => rfl⟩⟩
    clear h2 hB2
    rcases v3_cases v u with he | ⟨hne, hv⟩
    · obtain rfl : r = true := by rw [hr]; simpa using he
      subst he
      clear hr
      have k1 : (v.K == v.K) = true := by simp
      have k2 : (v.N == v.N) = true := by simp
      have k3 : (v.S.toList == v.S.toList) = true := by simp
      go_wp2
      go_quiet (fail)
      go_wp2
      go_returns
      exact HG.out _
    · obtain rfl : r = false := by rw [hr]; simpa using hne
      clear hr hne
      rcases hv with k1 | ⟨k1, k2⟩ | ⟨k1, k2, k3⟩
      all_goals
        go_wp2
        go_quiet (fail)
        go_wp2
        go_returns
        exact HG.out _
  | none =>
    rw [hb] at HBO
    rw [stepM_K1n hb]
    clear hb
    simp only [bindA] at HBO
    go_enter Try.func121, Try.ntmps121
    go_wp2_with fail
    refine (HBO.out _ h1.1).mono ?_
    generalize (w.alloc (.cells #[.int .i64 1, .string S, .int .i64 V.K, .int .i64 V.N, .string V.S] 67)).alloc (.cells #[.int .i64 u.K, .int .i64 u.N, .string u.S] 63) = w1 at b1 hA hU h1 hz
    rintro e w2 ⟨rfl, hb2⟩
    have HA := hide (box_below hA hb2 (by omega))
    have HU := hide (box_below hU hb2 (by omega))
    have h2 := h1.below hb2
    have hB2 : Below w.heap.size w w2 := b1.trans (hb2.mono b1.size)
    have hz2' : w.heap.size + 2 ≤ w2.heap.size := Nat.le_trans hz hb2.size
    clear hA hU h1 hb2 b0 b1 HBO
    have b3 := hB2.alloc hB2.size (.cells #[.int .i64 0, .int .i64 0, .string ⟨#[]⟩] 63)
    have hz3 : w.heap.size + 2 ≤ (w2.alloc (.cells #[.int .i64 0, .int .i64 0, .string ⟨#[]⟩] 63)).heap.size := by simp; omega
    have h3 := h2.below (below_al w2 (.cells #[.int .i64 0, .int .i64 0, .string ⟨#[]⟩] 63))
    have s1 := boxk_cell (box_old HA.out (by omega) (.cells #[.int .i64 0, .int .i64 0, .string ⟨#[]⟩] 63)) 1 _ rfl
    obtain ⟨u0, u1, u2, -, -, -⟩ := box_cell (box_old HU.out (by omega) (.cells #[.int .i64 0, .int .i64 0, .string ⟨#[]⟩] 63))
    have HZ0 := hide (by exact (rfl : w2.alloc (.cells #[.int .i64 0, .int .i64 0, .string ⟨#[]⟩] 63) = w2.alloc (.cells #[.int .i64 0, .int .i64 0, .string ⟨#[]⟩] 63)))
    obtain ⟨w3, hw3⟩ : ∃ w3, w3 = w2.alloc (.cells #[.int .i64 0, .int .i64 0, .string ⟨#[]⟩] 63) := ⟨_, rfl⟩
    have b4 := b3.alloc b3.size (.cells #[.string S, .int .i64 u.K, .int .i64 u.N, .string u.S] 104)
    have h4 := h3.below (below_al (w2.alloc (.cells #[.int .i64 0, .int .i64 0, .string ⟨#[]⟩] 63)) (.cells #[.string S, .int .i64 u.K, .int .i64 u.N, .string u.S] 104))
    have HSrc := hide (src4 (w2.alloc (.cells #[.int .i64 0, .int .i64 0, .string ⟨#[]⟩] 63)) ⟨S, u⟩)
    have HL : Hid ((rowOf B4.cs M).length = n * 4) := by unfold Hid; rw [rowOf_length B4.len, HN.out]
    have HApp : Hid (rowOf B4.cs M ++ B4.cs ⟨S, u⟩ = rowOf B4.cs (M ++ [⟨S, u⟩])) := by unfold Hid; rw [rowOf_append]; simp [rowOf]
    clear h2 hB2 h3 HZ0 hw3
    have hz5 : w.heap.size ≤ ((w2.alloc (.cells #[.int .i64 0, .int .i64 0, .string ⟨#[]⟩] 63)).alloc (.cells #[.string S, .int .i64 u.K, .int .i64 u.N, .string u.S] 104)).heap.size := b4.size
    rcases h4 with ⟨rd4, hcap | ho4⟩
    · obtain ⟨hc1, hc2⟩ := hcap
      have HNone : Hid (a = none → n = 0 ∧ cap = 0) := fun e => by have := hc2 e; rw [HN.out, hc1]; exact ⟨this, this⟩
      have hcn : cap = n := by rw [hc1, HN.out]
      subst hcn
      have HOld : Hid (∀ b, a = some b → ∀ j x, (rowOf B4.cs M)[j]? = some x → ((w2.alloc (.cells #[.int .i64 0, .int .i64 0, .string ⟨#[]⟩] 63)).alloc (.cells #[.string S, .int .i64 u.K, .int .i64 u.N, .string u.S] 104)).cell? (b.add j) = some x) := fun b e => by subst e; exact rdK_src B4.len (by decide) rd4
      clear hc1 hc2 rd4
      go_wp2_with (at_builtin; refine wpList_append_grows _ rfl (.tmp 22) (.tmp 27) 56 rfl 104 i0 (.agg #[.string ⟨#[]⟩, .int .i64 0, .int .i64 0, .string ⟨#[]⟩]) 4 48 Try.underlying56 hi hz0 hz1 hz2 rfl (by omega) a cap cap (rowOf B4.cs M) rfl HNone.out HL.out HOld.out ⟨(w2.alloc (.cells #[.int .i64 0, .int .i64 0, .string ⟨#[]⟩] 63)).heap.size, 0, none⟩ 1 1 (B4.cs ⟨S, u⟩) ?hx rfl HSrc.out (one4 _) (by omega) (by unfold maxLen; omega) (by omega) ?_)
      case hx => simp [Act.eval]
      intro v' w5 ho5 hg5
      rw [HApp.out] at ho5
      obtain ⟨a5, c5, rfl, rd5, hn5, -, -⟩ := rdK_owns B4.len (by decide) ho5
      have HG : Hid (GivesM (.returned (.tuple #[.slice a5 (M ++ [(⟨S, u⟩ : B4)]).length c5, .bool true])) w5 base w (M ++ [(⟨S, u⟩ : B4)], true)) := by
        refine ⟨a5, c5, rfl, ⟨rd5, .inr ?_⟩, (b4.mono hbase).grown hg5 (by omega) (fun k hk => by cases hk)⟩
        rw [hn5] at ho5
        exact ownsRow_lowK ho5 (by omega)
      clear ho5 hg5 rd5 hn5
      go_wp2
      go_returns
      exact HG.out
    · have HO4 := hide ho4
      have hn4 : (Value.slice a M.length cap) = .slice a n cap := by rw [HN.out]
      rw [hn4, ← HN.out] at HO4
      clear ho4 rd4 hn4
      go_wp2_with (at_builtin; refine wpList_append_lies _ rfl (.tmp 22) (.tmp 27) 56 rfl base 104 i0 (.agg #[.string ⟨#[]⟩, .int .i64 0, .int .i64 0, .string ⟨#[]⟩]) 4 48 Try.underlying56 hi hz0 hz1 hz2 rfl (by omega) (.slice a n cap) n (rowOf B4.cs M) rfl HO4.out ⟨(w2.alloc (.cells #[.int .i64 0, .int .i64 0, .string ⟨#[]⟩] 63)).heap.size, 0, none⟩ 1 1 (B4.cs ⟨S, u⟩) ?hx rfl HSrc.out (one4 _) (by omega) (by unfold maxLen; omega) (by omega) (by omega) _ rfl ?_)
      case hx => simp [Act.eval]
      intro g5 c5 w5 ho5 hg5 hat5 hlt5
      rw [HApp.out] at ho5
      obtain ⟨a5, c6, e5, rd5, hn5, -, -⟩ := rdK_owns B4.len (by decide) ho5
      simp only [Value.slice.injEq] at e5
      obtain ⟨rfl, e6, rfl⟩ := e5
      have HG : Hid (GivesM (.returned (.tuple #[.slice (some ⟨g5, 0, none⟩) (n + 1) c5, .bool true])) w5 base w (M ++ [(⟨S, u⟩ : B4)], true)) := by
        refine ⟨some ⟨g5, 0, none⟩, c5, by rw [hn5], ⟨rd5, .inr ?_⟩, (b4.mono hbase).grown hg5 (by omega) (fun k hk => (HO4.out.lt k hk).1)⟩
        rw [hn5] at ho5
        exact ho5
      clear ho5 hg5 rd5 hn5 e6 HO4 hat5 hlt5
      go_wp2
      go_returns
      exact HG.out
end Go.Proofs.Ytaflokfgbmlmaab
