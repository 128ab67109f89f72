/-
  What both VarsOfs answer: varsL, in a row of the call's own.
-/
import Derived.Test.YtaflokfgbmlmaaaVarsP
import Derived.Test.YtaflokfgbmlmaaaClone
import Derived.Deep.AppendLies
import Derived.OwnWalk
namespace Go.Proofs.Ytaflokfgbmlmaaa
open Go.RowKit
set_option linter.unusedVariables false

theorem infoStr : (Try.prog.info? 9).map (fun i => (i.zero, i.size, i.bytes)) = some (some (.string ⟨#[]⟩), 1, 16) := by kernel_rfl
theorem srcS (W : World) (x : ByteArray) : ∀ j u, ([.string x] : List Value)[j]? = some u → (W.alloc (.cells #[.string x] 9)).cell? ((⟨W.heap.size, 0, none⟩ : Addr).add j) = some u := by
  intro j u hj
  rw [Addr.add_lit, Nat.zero_add]
  have hb : (W.alloc (.cells #[.string x] 9)).heap[W.heap.size]? = some (.cells #[.string x] 9 (0, 0)) := by rw [heap_alloc_new]
  match j, hj with
  | 0, hj => rw [cell_of_row _ _ 0 _ _ (0, 0) hb]; simpa using hj
theorem oneS (x : ByteArray) : ∀ u ∈ ([.string x] : List Value), u.oneCell' = true := by
  intro u hu
  simp only [List.mem_cons, List.not_mem_nil, or_false] at hu
  rw [hu]; rfl

theorem ownsRow_lowS {w : World} {base base' size n : Nat} {e : TypeId} {v : Value} {xs : List Value} (h : w.ownsRow base e size v n xs) (hb : base' ≤ base) : w.ownsRow base' e size v n xs := by
  refine ⟨h.1, ?_⟩
  rcases h.2 with h2 | ⟨g, cap, cur, h1, hb', rest⟩
  · exact .inl h2
  · exact .inr ⟨g, cap, cur, h1, Nat.le_trans hb hb', rest⟩
/-- a row of texts of the call's own -/
def GivesS (e : Ending) (w' : World) (base : Nat) (l : List ByteArray) : Prop := ∃ v, e = .returned v ∧ w'.ownsRow base 9 1 v l.length (valsS l)

/-- a text that is there once -/
def addS (l : List ByteArray) (s : ByteArray) : List ByteArray := if hasS l s = true then l else l ++ [s]
theorem addS_yes {l : List ByteArray} {s : ByteArray} (h : hasS l s = true) : addS l s = l := by unfold addS; rw [if_pos h]
theorem addS_no {l : List ByteArray} {s : ByteArray} (h : hasS l s = false) : addS l s = l ++ [s] := by unfold addS; rw [h]; rfl
theorem addS_len (l : List ByteArray) (s : ByteArray) : (addS l s).length ≤ l.length + 1 := by unfold addS; split <;> simp
theorem varStep_add {l : List ByteArray} {x : A5} (h : x.K = 1) : varStep l x = addS l x.S := by
  unfold varStep addS
  cases hasS l x.S <;> simp [h]
/-- the variables of these arguments behind those that are there -/
def varsF (l : List ByteArray) (L : List A5) : List ByteArray := L.foldl varStep l
theorem varsF_nil (L : List A5) : varsF [] L = varsL L := rfl
theorem varsF_take {l : List ByteArray} {L : List A5} {k : Nat} (h : k < L.length) : varsF l (L.take (k + 1)) = varStep (varsF l (L.take k)) (eAt L k) := by
  unfold varsF
  rw [List.take_succ_eq_append_getElem h, List.foldl_append, eAt_in h]
  rfl
theorem varsF_len (l : List ByteArray) (L : List A5) : ∀ k, k ≤ L.length → (varsF l (L.take k)).length ≤ l.length + k
  | 0, _ => by simp [varsF]
  | k + 1, h => by
    rw [varsF_take (by omega)]
    have := varStep_len (varsF l (L.take k)) (eAt L k)
    have := varsF_len l L k (by omega)
    omega
/-- a row of texts at or behind a world's end, where all that was in that world is left -/
def RowS (w0 : World) (v : Value) (l : List ByteArray) (w : World) : Prop := w.ownsRow w0.heap.size 9 1 v l.length (valsS l) ∧ Below w0.heap.size w0 w
theorem RowS.nil (w : World) : RowS w (.slice none 0 0) [] w := ⟨World.ownsRow_nil _ _ _ _, Below.refl _ _⟩
theorem RowS.alloc {w0 w : World} {v : Value} {l : List ByteArray} (h : RowS w0 v l w) (o : Obj) : RowS w0 v l (w.alloc o) := ⟨h.1.alloc o, h.2.alloc h.2.size o⟩
theorem RowS.later {w0 w w' : World} {v : Value} {l : List ByteArray} (h : RowS w0 v l w) (hb : Below w.heap.size w w') : RowS w0 v l w' := ⟨ownsRow_below' h.1 hb, h.2.trans (hb.mono h.2.size)⟩
theorem RowS.from {w1 w0 w : World} {v : Value} {l : List ByteArray} (h : RowS w0 v l w) (hb : Below w1.heap.size w1 w0) : RowS w1 v l w := ⟨ownsRow_lowS h.1 hb.size, hb.trans (h.2.mono hb.size)⟩

set_option maxRecDepth 100000 in
set_option maxHeartbeats 3200000 in
theorem withText_any (w0 : World) (v : Value) (l : List ByteArray) (s : ByteArray) (w : World) (h : RowS w0 v l w) (hs : s.size ≤ 1048580) (hl : l.length ≤ 1048579) :
    Calls Try.prog 46 #[v, .string s] w fun e w' => ∃ v', e = .returned v' ∧ RowS w0 v' (addS l s) w' := by
  obtain ⟨i0, hi, hz0, hz1, hz2⟩ := info_parts infoStr
  obtain ⟨va, vc, e0, r3, -⟩ := rdS_owns h.1
  subst e0
  have HH := hide h
  cases hh : hasS l s
  · have HA := hide (addS_no hh)
    clear h
    go_enter Try.func46, Try.ntmps46
    go_wp2_with fail
    refine (containsS_any va l.length vc l s _ rfl r3 (by omega)).mono ?_
    rintro e w3 ⟨rfl, rfl⟩
    rw [hh]
    go_wp2_with fail
    refine (cloneS_any s _ (by omega)).mono ?_
    rintro e w3 ⟨rfl, hb3⟩
    have H4 := hide ((HH.out.later hb3).alloc (.cells #[.string s] 9))
    have HSrc := hide (srcS w3 s)
    have HZ4 := H4.out.2.size
    clear HH r3 hb3
    go_wp2_with (at_builtin; refine wpList_append_lies _ rfl (.tmp 9) (.tmp 12) 37 rfl w0.heap.size 9 i0 (.string ⟨#[]⟩) 1 16 Try.underlying37 hi hz0 hz1 hz2 rfl (by omega) (.slice va l.length vc) l.length (valsS l) rfl H4.out.1 ⟨w3.heap.size, 0, none⟩ 1 1 [.string s] ?hx rfl HSrc.out (oneS s) (by omega) (by unfold maxLen; omega) (by omega) HZ4 _ rfl ?_)
    case hx => simp [Act.eval]
    intro g5 c5 w5 ho5 hg5 hat5 hlt5
    have HF : Hid (RowS w0 (.slice (some ⟨g5, 0, none⟩) (l.length + 1) c5) (addS l s) w5) := by
      refine ⟨?_, H4.out.2.grown hg5 HZ4 (fun k hk => (H4.out.1.lt k hk).1)⟩
      rw [HA.out, ← valsS_snoc, List.length_append]
      exact ho5
    clear ho5 hg5 hat5 hlt5 HSrc H4 HZ4
    go_wp2
    go_ret
    exact ⟨_, rfl, HF.out⟩
  · have HA := hide (addS_yes hh)
    clear h
    go_enter Try.func46, Try.ntmps46
    go_wp2_with fail
    refine (containsS_any va l.length vc l s _ rfl r3 (by omega)).mono ?_
    rintro e w3 ⟨rfl, rfl⟩
    rw [hh]
    go_wp2
    go_ret
    exact ⟨_, rfl, by rw [HA.out]; exact HH.out⟩

set_option maxRecDepth 100000 in
set_option maxHeartbeats 3200000 in
theorem withVars_any (w0 : World) (v : Value) (l : List ByteArray) (kd : ByteArray) (a : Option Addr) (cap : Nat) (L : List A5) (nt : Bool) (w : World) (h : RowS w0 v l w) (hr : RdArg w0 a L) (hs : ∀ x ∈ L, x.small) (hm : l.length + L.length ≤ 1048579) :
    Calls Try.prog 49 #[v, .agg #[.string kd, .slice a L.length cap, .bool nt]] w fun e w' => ∃ v', e = .returned v' ∧ RowS w0 v' (varsF l L) w' := by
  obtain ⟨n, hN⟩ : ∃ n, n = L.length := ⟨_, rfl⟩
  rw [← hN] at hm ⊢
  have HN := hide hN
  have HS := hide hs
  have HE : Hid (varsF l (L.take n) = varsF l L) := by unfold Hid; rw [hN, List.take_length]
  have h1 := h.alloc (.cells #[.string kd, .slice a n cap, .bool nt] 49)
  clear hN hs h
  go_enter Try.func49, Try.ntmps49
  go_wp2
  generalize w.alloc (.cells #[.string kd, .slice a n cap, .bool nt] 49) = w1 at h1
  go_loopw [0, 10] (fun v i wr => ∃ (k : Nat), k ≤ n ∧ i = .int .i64 k ∧ RowS w0 v (varsF l (L.take k)) wr) (fun _ i _ => n - (intOf i).toNat)
  case atStart => exact ⟨0, Nat.zero_le _, rfl, h1⟩
  case round =>
    clear h1
    obtain ⟨k, hk, rfl, hrow⟩ := hrel
    have HR := hide hrow
    clear hrow
    by_cases hlt : k < n
    · have hlL : k < L.length := by rw [← HN.out]; exact hlt
      obtain ⟨b, off, hab, hbw, hc⟩ := RdArg.cells (hr.below HR.out.2) (by omega)
      obtain ⟨c0, c1, c2, c3, c4⟩ := hc k hlL
      clear hc
      have hS : (eAt L k).small := by rw [eAt_in hlL]; exact HS.out _ (List.getElem_mem _)
      have hS1 := hS.1
      have HT := hide (varsF_take (l := l) hlL)
      have hvl := varsF_len l L k (by omega)
      subst hab
      obtain ⟨x, hx⟩ : ∃ x, x = eAt L k := ⟨_, rfl⟩
      rw [← hx] at c0 c1 c2 c3 c4 HT hS1
      obtain ⟨K, S, VK, VN, VS⟩ := x
      clear hx hS hlL
      simp only at c0 c1 c2 c3 c4 hS1
      generalize varsF l (L.take k) = l2 at HR HT hvl
      have H2 := HR.out.alloc (.cells #[.int .i64 K, .string S, .int .i64 VK, .int .i64 VN, .string VS] 80)
      by_cases h1 : K = 1
      · subst h1
        rw [varStep_add rfl] at HT
        go_wp2_with fail
        refine (withText_any w0 _ l2 S _ H2 (by omega) (by omega)).mono ?_
        rintro e w3 ⟨v', rfl, h3⟩
        have H3 := hide h3
        clear h3 H2 HR c0 c1 c2 c3 c4
        go_wp2
        go_roundw
        case rel => exact ⟨k + 1, by omega, by go_num, by rw [HT.out]; exact H3.out⟩
        case measure => simp [intOf]; omega
      · rw [varStep_no h1] at HT
        have k1 : (K == 1) = false := by simpa using h1
        have H3 := hide H2
        clear h1 H2 HR
        go_wp2
        go_roundw
        case rel => exact ⟨k + 1, by omega, by go_num, by rw [HT.out]; exact H3.out⟩
        case measure => simp [intOf]; omega
    · obtain rfl : k = n := by omega
      go_wp2
      go_ret
      exact ⟨_, rfl, by rw [← HE.out]; exact HR.out⟩

set_option maxRecDepth 100000 in
set_option maxHeartbeats 3200000 in
theorem implVarsOf_any (kd : ByteArray) (a : Option Addr) (cap : Nat) (L : List A5) (nt : Bool) (w : World) (hr : RdArg w a L) (hs : ∀ x ∈ L, x.small) (hm : L.length ≤ 1048576) :
    Calls Try.prog 24 #[.agg #[.string kd, .slice a L.length cap, .bool nt]] w fun e w' => GivesS e w' w.heap.size (varsL L) ∧ Below w.heap.size w w' := by
  have b1 := below_al w (.cells #[.string kd, .slice a L.length cap, .bool nt] 49)
  go_enter Try.func24, Try.ntmps24
  go_wp2_with fail
  refine (withVars_any (w.alloc (.cells #[.string kd, .slice a L.length cap, .bool nt] 49)) _ [] kd a cap L nt _ (RowS.nil _) (hr.below b1) hs (by simp; omega)).mono ?_
  rintro e w1 ⟨v', rfl, h⟩
  have H := hide (h.from b1)
  clear h
  go_wp2
  go_ret
  exact ⟨⟨_, rfl, H.out.1⟩, H.out.2⟩

set_option maxRecDepth 100000 in
set_option maxHeartbeats 3200000 in
theorem specVarsOf_any (kd : ByteArray) (a : Option Addr) (cap : Nat) (L : List A5) (nt : Bool) (w : World) (hr : RdArg w a L) (hs : ∀ x ∈ L, x.small) (hm : L.length ≤ 1048576) :
    Calls Try.prog 22 #[.agg #[.string kd, .slice a L.length cap, .bool nt]] w fun e w' => GivesS e w' w.heap.size (varsL L) ∧ Below w.heap.size w w' := by
  obtain ⟨i0, hi, hz0, hz1, hz2⟩ := info_parts infoStr
  obtain ⟨n, hN⟩ : ∃ n, n = L.length := ⟨_, rfl⟩
  rw [← hN] at hm ⊢
  have b1 := below_al w (.cells #[.string kd, .slice a n cap, .bool nt] 49)
  have hP := boxk_new w #[.string kd, .slice a n cap, .bool nt] 49
  have hsz : w.heap.size + 1 ≤ (w.alloc (.cells #[.string kd, .slice a n cap, .bool nt] 49)).heap.size := by simp
  have HN := hide hN
  have HS := hide hs
  have HE : Hid (varsL (L.take n) = varsL L) := by unfold Hid; rw [hN, List.take_length]
  clear hN hs
  go_enter Try.func22, Try.ntmps22
  go_wp2
  have ho0 : ((w.alloc (.cells #[.string kd, .slice a n cap, .bool nt] 49)).alloc (.cells #[] 9)).ownsRow (w.heap.size + 1) 9 1 (.slice (some ⟨w.heap.size + 1, 0, none⟩) 0 0) 0 [] := by
    have := World.ownsRow_lit (base := w.heap.size + 1) (e := 9) (size := 1) (w.alloc (.cells #[.string kd, .slice a n cap, .bool nt] 49)) #[] 0 hsz (by unfold maxLen; omega) rfl
    rw [World.size_alloc] at this
    exact this
  have b2 := b1.alloc (by omega) (.cells #[] 9)
  have hP2 := box_old hP (by omega) (.cells #[] 9)
  have hsz2 : w.heap.size + 1 ≤ ((w.alloc (.cells #[.string kd, .slice a n cap, .bool nt] 49)).alloc (.cells #[] 9)).heap.size := by simp
  generalize (w.alloc (.cells #[.string kd, .slice a n cap, .bool nt] 49)).alloc (.cells #[] 9) = w1 at b2 hsz2 hP2 ho0
  have HP := hide hP2
  clear hP hP2 hsz b1
  go_loopw [3, 4] (fun v i wr => ∃ (k : Nat), k ≤ n ∧ i = .int .i64 k ∧ wr.ownsRow (w.heap.size + 1) 9 1 v (varsL (L.take k)).length (valsS (varsL (L.take k))) ∧ Below (w.heap.size + 1) w1 wr) (fun _ i _ => n - (intOf i).toNat)
  case atStart => exact ⟨0, Nat.zero_le _, rfl, ho0, Below.refl _ _⟩
  case round =>
    clear ho0
    obtain ⟨k, hk, rfl, hown, hbel⟩ := hrel
    obtain ⟨va, vc, e0, -, -⟩ := rdS_owns hown
    have hB : Below w.heap.size w wr := b2.trans (hbel.mono (Nat.le_succ _))
    have hws : w.heap.size + 1 ≤ wr.heap.size := Nat.le_trans hsz2 hbel.size
    have p1 := boxk_cell (box_below HP.out hbel (by omega)) 1 _ rfl
    by_cases hlt : k < n
    · have hlL : k < L.length := by rw [← HN.out]; exact hlt
      obtain ⟨b, off, hab, hbw, hc⟩ := RdArg.cells (hr.below hB) (by omega)
      obtain ⟨c0, c1, c2, c3, c4⟩ := hc k hlL
      clear hc c2 c3 c4
      have HT := hide (varsL_take hlL)
      have hvl := varsL_len L k (by omega)
      subst hab e0
      obtain ⟨x, hx⟩ : ∃ x, x = eAt L k := ⟨_, rfl⟩
      rw [← hx] at c0 c1 HT
      obtain ⟨K, S, VK, VN, VS⟩ := x
      clear hx hlL
      simp only at c0 c1
      generalize varsL (L.take k) = l at hown HT hvl
      by_cases h1 : K = 1
      · subst h1
        have r3 := rdS_of hown
        have HO3 := hide hown
        have HB3 := hide hbel
        cases hh : hasS l S
        · rw [varStep_yes rfl hh] at HT
          have HO4 := hide (HO3.out.alloc (.cells #[.string S] 9))
          have HB4 := hide (HB3.out.alloc hws (.cells #[.string S] 9))
          have HSrc := hide (srcS wr S)
          have HZ4 : Hid (w.heap.size + 1 ≤ (wr.alloc (.cells #[.string S] 9)).heap.size) := by unfold Hid; simp; omega
          clear hown hB hbel
          go_wp2_with fail
          refine (l6Has_any va l.length vc l S _ rfl r3 (by omega)).mono ?_
          rintro e w3 ⟨rfl, rfl⟩
          rw [hh]
          clear HO3 HB3 r3
          go_wp2_with (at_builtin; refine wpList_append_lies _ rfl (.tmp 31) (.tmp 38) 37 rfl (w.heap.size + 1) 9 i0 (.string ⟨#[]⟩) 1 16 Try.underlying37 hi hz0 hz1 hz2 rfl (by omega) (.slice va l.length vc) l.length (valsS l) rfl HO4.out ⟨w3.heap.size, 0, none⟩ 1 1 [.string S] ?hx rfl HSrc.out (oneS S) (by omega) (by unfold maxLen; omega) (by omega) HZ4.out _ rfl ?_)
          case hx => simp [Act.eval]
          intro g5 c5 w5 ho5 hg5 hat5 hlt5
          have HL5 : Hid ((varsL (L.take (k + 1))).length = l.length + 1) := by unfold Hid; rw [HT.out, List.length_append]; rfl
          have HO5 : Hid (w5.ownsRow (w.heap.size + 1) 9 1 (.slice (some ⟨g5, 0, none⟩) (l.length + 1) c5) (varsL (L.take (k + 1))).length (valsS (varsL (L.take (k + 1))))) := by
            unfold Hid
            rw [HL5.out, HT.out, ← valsS_snoc]
            exact ho5
          have HB5 := hide (HB4.out.grown hg5 HZ4.out (fun k hk => (HO4.out.lt k hk).1))
          clear ho5 hg5 hat5 hlt5 HO4 HSrc HB4
          go_wp2
          go_roundw
          case rel => exact ⟨k + 1, by omega, by go_num, HO5.out, HB5.out⟩
          case measure => simp [intOf]; omega
        · rw [varStep_has hh] at HT
          clear hown hB hbel
          go_wp2_with fail
          refine (l6Has_any va l.length vc l S _ rfl r3 (by omega)).mono ?_
          rintro e w3 ⟨rfl, rfl⟩
          rw [hh]
          go_wp2
          go_roundw
          case rel => exact ⟨k + 1, by omega, by go_num, by rw [HT.out]; exact HO3.out, HB3.out⟩
          case measure => simp [intOf]; omega
      · rw [varStep_no h1] at HT
        have k1 : (K == 1) = false := by simpa using h1
        have HO3 := hide hown
        have HB3 := hide hbel
        clear hown hB hbel h1
        go_wp2
        go_roundw
        case rel => exact ⟨k + 1, by omega, by go_num, by rw [HT.out]; exact HO3.out, HB3.out⟩
        case measure => simp [intOf]; omega
    · obtain rfl : k = n := by omega
      have HF : Hid (GivesS (.returned (.slice va (varsL (L.take k)).length vc)) wr w.heap.size (varsL L)) := by
        refine ⟨_, rfl, ?_⟩
        rw [← HE.out]
        subst e0
        exact ownsRow_lowS hown (Nat.le_succ _)
      subst e0
      go_wp2
      go_ret
      exact ⟨HF.out, hB⟩
end Go.Proofs.Ytaflokfgbmlmaaa
