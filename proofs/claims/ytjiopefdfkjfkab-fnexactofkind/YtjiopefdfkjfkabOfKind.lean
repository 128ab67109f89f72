/-
  What OfKind answers, the tested one and the model's alike: the Ids of the items of this kind, as they stand, in a row of its own.
-/
import Derived.Test.YtjiopefdfkjfkabItemRow
import Derived.Test.YtjiopefdfkjfkabIntRow
import Derived.Test.YtjiopefdfkjfkabToStore
import Derived.OwnWalk
import Derived.Deep.AppendLies
namespace Go.Proofs.Ytjiopefdfkjfkab
open Go.RowKit
set_option linter.unusedVariables false

theorem infoN : (Try.prog.info? 3).map (fun i => (i.zero, i.size, i.bytes)) = some (some (.int .i64 0), 1, 8) := by kernel_rfl
def kindP (P : List P4) (kind : ByteArray) : List Int := (P.filter fun p => p.kd.toList == kind.toList).map P4.id
def kindK (J : List It) (kind : ByteArray) (k : Nat) : List Int := kindP ((J.map It.pl).take k) kind
theorem kindK_zero (J : List It) (kind : ByteArray) : kindK J kind 0 = [] := by simp [kindK, kindP]
theorem kindK_end (J : List It) (kind : ByteArray) : kindK J kind J.length = kindP (J.map It.pl) kind := by
  unfold kindK; rw [show J.length = (J.map It.pl).length by simp, List.take_length]
theorem kindK_step {J : List It} {kind : ByteArray} {k : Nat} (h : k < J.length) : kindK J kind (k + 1) = if (iAt J k).kd.toList == kind.toList then kindK J kind k ++ [(iAt J k).id] else kindK J kind k := by
  unfold kindK kindP
  rw [List.take_succ_eq_append_getElem (by simpa using h), List.filter_append, List.map_append, iAt_in h]
  simp only [List.getElem_map]
  cases e : ((J[k]).kd.toList == kind.toList)
  · rw [List.filter_cons_of_neg (by simpa [It.pl] using e)]; simp
  · rw [List.filter_cons_of_pos (by simpa [It.pl] using e)]; simp [It.pl]
theorem kindK_len (J : List It) (kind : ByteArray) : ∀ k, (kindK J kind k).length ≤ k := fun k => by
  unfold kindK kindP
  rw [List.length_map]
  exact Nat.le_trans (List.length_filter_le _ _) (by rw [List.length_take]; omega)
theorem srcN (W : World) (z : Int) : ∀ j u, ([.int .i64 z] : List Value)[j]? = some u → (W.alloc (.cells #[.int .i64 z] 3)).cell? ((⟨W.heap.size, 0, none⟩ : Addr).add j) = some u := by
  intro j u hj
  rw [Addr.add_lit, Nat.zero_add]
  have hb : (W.alloc (.cells #[.int .i64 z] 3)).heap[W.heap.size]? = some (.cells #[.int .i64 z] 3 (0, 0)) := by rw [heap_alloc_new]
  match j, hj with
  | 0, hj => rw [cell_of_row _ _ 0 _ _ (0, 0) hb]; simpa using hj
theorem oneN (z : Int) : ∀ u ∈ ([.int .i64 z] : List Value), u.oneCell' = true := by
  intro u hu
  simp only [List.mem_cons, List.not_mem_nil, or_false] at hu
  rw [hu]; rfl
theorem valsN_snoc (zs : List Int) (z : Int) : valsN zs ++ [.int .i64 z] = valsN (zs ++ [z]) := by simp [valsN]
theorem ownsRow_low {w : World} {base base' n size : Nat} {e : TypeId} {v : Value} {xs : List Value} (h : w.ownsRow base e size v n xs) (hb : base' ≤ base) : w.ownsRow base' e size v n xs := by
  refine ⟨h.1, ?_⟩
  rcases h.2 with h2 | ⟨g, cap, cur, h1, hb', rest⟩
  · exact .inl h2
  · exact .inr ⟨g, cap, cur, h1, by omega, rest⟩
/-- a row of these numbers is answered -/
def GivesN (e : Ending) (w : World) (base : Nat) (zs : List Int) : Prop := ∃ v, e = .returned v ∧ w.ownsRow base 3 1 v zs.length (valsN zs)

set_option maxRecDepth 100000 in
set_option maxHeartbeats 3200000 in
theorem specOfKind_any (a : Option Addr) (n cap : Nat) (nx : Int) (kind : ByteArray) (J : List It) (w : World) (hr : RdI w a J) (hJ : J.length = n) (hn : n ≤ 1048580) :
    Calls Try.prog 19 #[.agg #[.slice a n cap, .int .i64 nx], .string kind] w fun e w' => GivesN e w' w.heap.size (kindP (J.map It.pl) kind) ∧ Below w.heap.size w w' := by
  obtain ⟨i0, hi, hz0, hz1, hz2⟩ := info_parts infoN
  have HJ := hide hJ
  have HE : Hid (kindK J kind n = kindP (J.map It.pl) kind) := by unfold Hid; rw [← hJ]; exact kindK_end J kind
  clear hJ
  have b0 := below_al w (.cells #[.slice a n cap, .int .i64 nx] 33)
  have b1 := b0.alloc b0.size (.cells #[] 3)
  have hA := box_old (box2_new w (.slice a n cap) (.int .i64 nx) 33) (by simp) (.cells #[] 3)
  have r0 : ((w.alloc (.cells #[.slice a n cap, .int .i64 nx] 33)).alloc (.cells #[] 3)).ownsRow (w.heap.size + 1) 3 1 (.slice (some ⟨(w.alloc (.cells #[.slice a n cap, .int .i64 nx] 33)).heap.size, 0, none⟩) 0 0) ([] : List Int).length (valsN []) := World.ownsRow_lit _ #[] 0 (by simp) (Nat.zero_le _) rfl
  simp only [World.size_alloc] at hA r0
  obtain ⟨x0, -, -, -⟩ := box2_cell hA
  have hsz : w.heap.size + 1 ≤ ((w.alloc (.cells #[.slice a n cap, .int .i64 nx] 33)).alloc (.cells #[] 3)).heap.size := by simp
  go_enter Try.func19, Try.ntmps19
  go_wp2
  generalize (w.alloc (.cells #[.slice a n cap, .int .i64 nx] 33)).alloc (.cells #[] 3) = w1 at b1 x0 r0 hsz ⊢
  clear b0 hA
  go_loopw [5, 6] (fun v i wr => ∃ (k : Nat), k ≤ n ∧ i = .int .i64 k ∧ wr.ownsRow (w.heap.size + 1) 3 1 v (kindK J kind k).length (valsN (kindK J kind k)) ∧ Below (w.heap.size + 1) w1 wr) (fun _ i _ => n - (intOf i).toNat)
  case atStart => exact ⟨0, Nat.zero_le _, rfl, by rw [kindK_zero]; exact r0, Below.refl _ _⟩
  case round =>
    clear r0
    obtain ⟨k, hk, rfl, hown, hbel⟩ := hrel
    obtain ⟨va, vc, e0, -, -⟩ := rdN_owns hown
    have hB : Below w.heap.size w wr := b1.trans (hbel.mono (Nat.le_succ _))
    have hws : w.heap.size + 1 ≤ wr.heap.size := Nat.le_trans hsz hbel.size
    rw [← hbel.cell (p := ⟨w.heap.size, 0, none⟩) (Nat.lt_succ_self _)] at x0
    by_cases hlt : k < n
    · obtain ⟨b2, o2, e2, hbw2, hc2⟩ := (hr.below hB).open (by rw [HJ.out]; omega)
      obtain ⟨c0, c1, c2, hv⟩ := hc2 k (by rw [HJ.out]; exact hlt)
      have HSt := hide (kindK_step (kind := kind) (k := k) (J := J) (by rw [HJ.out]; exact hlt))
      have hkl := kindK_len J kind k
      clear hc2 hv
      subst e2 e0
      generalize (iAt J k).id = id at c0 HSt
      generalize (iAt J k).kd = kd' at c1 HSt
      cases hs : (kd'.toList == kind.toList)
      · have HS : Hid (kindK J kind (k + 1) = kindK J kind k) := by unfold Hid; rw [HSt.out, hs]; rfl
        have HO := hide hown
        clear hown HSt
        go_wp2
        go_roundw
        case rel => exact ⟨k + 1, by omega, by go_num, by rw [HS.out]; exact HO.out, hbel⟩
        case measure => simp [intOf]; omega
      · have HS : Hid (kindK J kind (k + 1) = kindK J kind k ++ [id]) := by unfold Hid; rw [HSt.out, hs]; rfl
        have HO4 := hide (hown.alloc (.cells #[.int .i64 id] 3))
        have HB4 := hide (hbel.alloc hws (.cells #[.int .i64 id] 3))
        have HSrc := hide (srcN wr id)
        have HZ4 : Hid (w.heap.size + 1 ≤ (wr.alloc (.cells #[.int .i64 id] 3)).heap.size) := by unfold Hid; simp; omega
        clear hown HSt hB
        go_wp2_with (at_builtin; refine wpList_append_lies _ rfl (.tmp 24) (.tmp 31) 47 rfl (w.heap.size + 1) 3 i0 (.int .i64 0) 1 8 Try.underlying47 hi hz0 hz1 hz2 rfl (by omega) (.slice va (kindK J kind k).length vc) (kindK J kind k).length (valsN (kindK J kind k)) rfl HO4.out ⟨wr.heap.size, 0, none⟩ 1 1 [.int .i64 id] ?hx rfl HSrc.out (oneN id) (by omega) (by unfold maxLen; omega) (by omega) HZ4.out _ rfl ?_)
        case hx => simp [Act.eval]
        intro g5 c5 w5 ho5 hg5 hat5 hlt5
        have HL5 : Hid ((kindK J kind (k + 1)).length = (kindK J kind k).length + 1) := by unfold Hid; rw [HS.out, List.length_append]; rfl
        have HO5 : Hid (w5.ownsRow (w.heap.size + 1) 3 1 (.slice (some ⟨g5, 0, none⟩) ((kindK J kind k).length + 1) c5) (kindK J kind (k + 1)).length (valsN (kindK J kind (k + 1)))) := by
          unfold Hid
          rw [HL5.out, HS.out, ← valsN_snoc]
          exact ho5
        have HB5 := hide (HB4.out.grown hg5 HZ4.out (fun k hk => (HO4.out.lt k hk).1))
        clear ho5 hg5 hat5 hlt5 HO4 HSrc HB4
        go_wp2
        go_roundw
        case rel => exact ⟨k + 1, by omega, by go_num, HO5.out, HB5.out⟩
        case measure => simp [intOf]; omega
    · obtain rfl : k = n := by omega
      have HF : Hid (GivesN (.returned (.slice va (kindK J kind k).length vc)) wr w.heap.size (kindP (J.map It.pl) kind)) := by
        refine ⟨_, rfl, ?_⟩
        rw [← HE.out]
        subst e0
        exact ownsRow_low hown (Nat.le_succ _)
      subst e0
      go_wp2
      go_ret
      exact ⟨HF.out, hB⟩

set_option maxRecDepth 100000 in
set_option maxHeartbeats 3200000 in
theorem implOfKind_any (a : Option Addr) (n cap : Nat) (nx : Int) (kind : ByteArray) (J : List It) (w : World) (hr : RdI w a J) (hJ : J.length = n) (hn : n ≤ 1048580) :
    Calls Try.prog 20 #[.agg #[.slice a n cap, .int .i64 nx], .string kind] w fun e w' => GivesN e w' w.heap.size (kindP (J.map It.pl) kind) ∧ Below w.heap.size w w' := by
  obtain ⟨i0, hi, hz0, hz1, hz2⟩ := info_parts infoN
  have HJ := hide hJ
  have HE : Hid (kindK J kind n = kindP (J.map It.pl) kind) := by unfold Hid; rw [← hJ]; exact kindK_end J kind
  clear hJ
  have b1 := below_al w (.cells #[.slice a n cap, .int .i64 nx] 33)
  have hsz : w.heap.size + 1 ≤ (w.alloc (.cells #[.slice a n cap, .int .i64 nx] 33)).heap.size := by simp
  go_enter Try.func20, Try.ntmps20
  go_wp2
  generalize w.alloc (.cells #[.slice a n cap, .int .i64 nx] 33) = w1 at b1 hsz ⊢
  go_loopw [5, 11] (fun v i wr => ∃ (k : Nat), k ≤ n ∧ i = .int .i64 k ∧ wr.ownsRow (w.heap.size + 1) 3 1 v (kindK J kind k).length (valsN (kindK J kind k)) ∧ Below (w.heap.size + 1) w1 wr) (fun _ i _ => n - (intOf i).toNat)
  case atStart => exact ⟨0, Nat.zero_le _, rfl, by rw [kindK_zero]; exact World.ownsRow_nil _ _ _ _, Below.refl _ _⟩
  case round =>
    obtain ⟨k, hk, rfl, hown, hbel⟩ := hrel
    obtain ⟨va, vc, e0, -, -⟩ := rdN_owns hown
    have hB : Below w.heap.size w wr := b1.trans (hbel.mono (Nat.le_succ _))
    have hws : w.heap.size + 1 ≤ wr.heap.size := Nat.le_trans hsz hbel.size
    by_cases hlt : k < n
    · obtain ⟨b2, o2, e2, hbw2, hc2⟩ := (hr.below hB).open (by rw [HJ.out]; omega)
      obtain ⟨c0, c1, c2, hv⟩ := hc2 k (by rw [HJ.out]; exact hlt)
      have HSt := hide (kindK_step (kind := kind) (k := k) (J := J) (by rw [HJ.out]; exact hlt))
      have hkl := kindK_len J kind k
      clear hc2 hv
      subst e2 e0
      generalize (iAt J k).id = id at c0 HSt
      generalize (iAt J k).kd = kd' at c1 HSt
      generalize (iAt J k).a = xa at c2
      generalize (iAt J k).L.length = xl at c2
      generalize (iAt J k).cap = xc at c2
      have HO3 := hide (hown.alloc (.cells #[.int .i64 id, .string kd', .slice xa xl xc] 54))
      have HB3 := hide (hbel.alloc hws (.cells #[.int .i64 id, .string kd', .slice xa xl xc] 54))
      cases hs : (kd'.toList == kind.toList)
      · have HS : Hid (kindK J kind (k + 1) = kindK J kind k) := by unfold Hid; rw [HSt.out, hs]; rfl
        clear hown HSt hB hbel
        go_wp2
        go_roundw
        case rel => exact ⟨k + 1, by omega, by go_num, by rw [HS.out]; exact HO3.out, HB3.out⟩
        case measure => simp [intOf]; omega
      · have HS : Hid (kindK J kind (k + 1) = kindK J kind k ++ [id]) := by unfold Hid; rw [HSt.out, hs]; rfl
        have HO4 := hide (HO3.out.alloc (.cells #[.int .i64 id] 3))
        have hz3 : w.heap.size + 1 ≤ (wr.alloc (.cells #[.int .i64 id, .string kd', .slice xa xl xc] 54)).heap.size := by simp; omega
        have HB4 := hide (HB3.out.alloc hz3 (.cells #[.int .i64 id] 3))
        have HSrc := hide (srcN (wr.alloc (.cells #[.int .i64 id, .string kd', .slice xa xl xc] 54)) id)
        have HZ4 : Hid (w.heap.size + 1 ≤ ((wr.alloc (.cells #[.int .i64 id, .string kd', .slice xa xl xc] 54)).alloc (.cells #[.int .i64 id] 3)).heap.size) := by unfold Hid; simp; omega
        clear hown HSt hB HO3 HB3 hbel
        go_wp2_with (at_builtin; refine wpList_append_lies _ rfl (.tmp 20) (.tmp 23) 47 rfl (w.heap.size + 1) 3 i0 (.int .i64 0) 1 8 Try.underlying47 hi hz0 hz1 hz2 rfl (by omega) (.slice va (kindK J kind k).length vc) (kindK J kind k).length (valsN (kindK J kind k)) rfl HO4.out ⟨(wr.alloc (.cells #[.int .i64 id, .string kd', .slice xa xl xc] 54)).heap.size, 0, none⟩ 1 1 [.int .i64 id] ?hx rfl HSrc.out (oneN id) (by omega) (by unfold maxLen; omega) (by omega) HZ4.out _ rfl ?_)
        case hx => simp [Act.eval]
        intro g5 c5 w5 ho5 hg5 hat5 hlt5
        have HL5 : Hid ((kindK J kind (k + 1)).length = (kindK J kind k).length + 1) := by unfold Hid; rw [HS.out, List.length_append]; rfl
        have HO5 : Hid (w5.ownsRow (w.heap.size + 1) 3 1 (.slice (some ⟨g5, 0, none⟩) ((kindK J kind k).length + 1) c5) (kindK J kind (k + 1)).length (valsN (kindK J kind (k + 1)))) := by
          unfold Hid
          rw [HL5.out, HS.out, ← valsN_snoc]
          exact ho5
        have HB5 := hide (HB4.out.grown hg5 HZ4.out (fun k hk => (HO4.out.lt k hk).1))
        clear ho5 hg5 hat5 hlt5 HO4 HSrc HB4
        go_wp2
        go_roundw
        case rel => exact ⟨k + 1, by omega, by go_num, HO5.out, HB5.out⟩
        case measure => simp [intOf]; omega
    · obtain rfl : k = n := by omega
      have HF : Hid (GivesN (.returned (.slice va (kindK J kind k).length vc)) wr w.heap.size (kindP (J.map It.pl) kind)) := by
        refine ⟨_, rfl, ?_⟩
        rw [← HE.out]
        subst e0
        exact ownsRow_low hown (Nat.le_succ _)
      subst e0
      go_wp2
      go_ret
      exact ⟨HF.out, hB⟩
end Go.Proofs.Ytjiopefdfkjfkab
