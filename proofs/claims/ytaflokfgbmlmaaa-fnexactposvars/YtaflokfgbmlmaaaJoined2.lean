/-
  Texts of this claim joined into one: VarsOf, PosP, ExprRow, ActRow, ActsRow, CondRow, RuleRow, Box11, PosI, PosS, LawPat, LawPatS, LawExpr.
-/
import Derived.Test.YtaflokfgbmlmaaaJoined1
import Derived.Deep.AppendLies
import Derived.OwnWalk
import Derived.Lib.SmallJoins
import Derived.Deep.RegionHeld3
import Derived.Handy
import Derived.Deep.DeepCutAuto
/-
  What both VarsOfs answer: varsL, in a row of the call's own.
-/
namespace Go.Proofs.Ytaflokfgbmlmaaa
open Go.RowKit
set_option linter.unusedVariables false

theorem infoStr : (Try.prog.info? 9).map (fun i => (i.zero, i.size, i.bytes)) = some (some (.string ⟨#[]⟩), 1, 16) := by kernel_rfl
theorem srcS (W : World) (x : ByteArray) : ∀ j u, ([.string x] : List Value)[j]? = some u → (W.alloc (.cells #[.string x] 9)).cell? ((⟨W.heap.size, 0, none⟩ : Addr).add j) = some u := by
  intro j u hj
  rw [Addr.add_lit, Nat.zero_add]
  have hb : (W.alloc (.cells #[.string x] 9)).heap[W.heap.size]? = some (.cells #[.string x] 9 (0, 0)) := by rw [heap_alloc_new]
  match j, hj with
  | 0, hj => rw [cell_of_row _ _ 0 _ _ (0, 0) hb]; simpa using hj
theorem oneS (x : ByteArray) : ∀ u ∈ ([.string x] : List Value), u.oneCell' = true := by
  intro u hu
  simp only [List.mem_cons, List.not_mem_nil, or_false] at hu
  rw [hu]; rfl

theorem ownsRow_lowS {w : World} {base base' size n : Nat} {e : TypeId} {v : Value} {xs : List Value} (h : w.ownsRow base e size v n xs) (hb : base' ≤ base) : w.ownsRow base' e size v n xs := by
  refine ⟨h.1, ?_⟩
  rcases h.2 with h2 | ⟨g, cap, cur, h1, hb', rest⟩
  · exact .inl h2
  · exact .inr ⟨g, cap, cur, h1, Nat.le_trans hb hb', rest⟩
/-- a row of texts of the call's own -/
def GivesS (e : Ending) (w' : World) (base : Nat) (l : List ByteArray) : Prop := ∃ v, e = .returned v ∧ w'.ownsRow base 9 1 v l.length (valsS l)

/-- a text that is there once -/
def addS (l : List ByteArray) (s : ByteArray) : List ByteArray := if hasS l s = true then l else l ++ [s]
theorem addS_yes {l : List ByteArray} {s : ByteArray} (h : hasS l s = true) : addS l s = l := by unfold addS; rw [if_pos h]
theorem addS_no {l : List ByteArray} {s : ByteArray} (h : hasS l s = false) : addS l s = l ++ [s] := by unfold addS; rw [h]; rfl
theorem addS_len (l : List ByteArray) (s : ByteArray) : (addS l s).length ≤ l.length + 1 := by unfold addS; split <;> simp
theorem varStep_add {l : List ByteArray} {x : A5} (h : x.K = 1) : varStep l x = addS l x.S := by
  unfold varStep addS
  cases hasS l x.S <;> simp [h]
/-- the variables of these arguments behind those that are there -/
def varsF (l : List ByteArray) (L : List A5) : List ByteArray := L.foldl varStep l
theorem varsF_nil (L : List A5) : varsF [] L = varsL L := rfl
theorem varsF_take {l : List ByteArray} {L : List A5} {k : Nat} (h : k < L.length) : varsF l (L.take (k + 1)) = varStep (varsF l (L.take k)) (eAt L k) := by
  unfold varsF
  rw [List.take_succ_eq_append_getElem h, List.foldl_append, eAt_in h]
  rfl
theorem varsF_len (l : List ByteArray) (L : List A5) : ∀ k, k ≤ L.length → (varsF l (L.take k)).length ≤ l.length + k
  | 0, _ => by simp [varsF]
  | k + 1, h => by
    rw [varsF_take (by omega)]
    have := varStep_len (varsF l (L.take k)) (eAt L k)
    have := varsF_len l L k (by omega)
    omega
/-- a row of texts at or behind a world's end, where all that was in that world is left -/
def RowS (w0 : World) (v : Value) (l : List ByteArray) (w : World) : Prop := w.ownsRow w0.heap.size 9 1 v l.length (valsS l) ∧ Below w0.heap.size w0 w
theorem RowS.nil (w : World) : RowS w (.slice none 0 0) [] w := ⟨World.ownsRow_nil _ _ _ _, Below.refl _ _⟩
theorem RowS.alloc {w0 w : World} {v : Value} {l : List ByteArray} (h : RowS w0 v l w) (o : Obj) : RowS w0 v l (w.alloc o) := ⟨h.1.alloc o, h.2.alloc h.2.size o⟩
theorem RowS.later {w0 w w' : World} {v : Value} {l : List ByteArray} (h : RowS w0 v l w) (hb : Below w.heap.size w w') : RowS w0 v l w' := ⟨ownsRow_below' h.1 hb, h.2.trans (hb.mono h.2.size)⟩
theorem RowS.from {w1 w0 w : World} {v : Value} {l : List ByteArray} (h : RowS w0 v l w) (hb : Below w1.heap.size w1 w0) : RowS w1 v l w := ⟨ownsRow_lowS h.1 hb.size, hb.trans (h.2.mono hb.size)⟩

set_option maxRecDepth 100000 in
set_option maxHeartbeats 3200000 in
theorem withText_any (w0 : World) (v : Value) (l : List ByteArray) (s : ByteArray) (w : World) (h : RowS w0 v l w) (hs : s.size ≤ 1048580) (hl : l.length ≤ 1048579) :
    Calls Try.prog 46 #[v, .string s] w fun e w' => ∃ v', e = .returned v' ∧ RowS w0 v' (addS l s) w' := by
  obtain ⟨i0, hi, hz0, hz1, hz2⟩ := info_parts infoStr
  obtain ⟨va, vc, e0, r3, -⟩ := rdS_owns h.1
  subst e0
  have HH := hide h
  cases hh : hasS l s
  · have HA := hide (addS_no hh)
    clear h
    go_enter Try.func46, Try.ntmps46
    go_wp2_with fail
    refine (containsS_any va l.length vc l s _ rfl r3 (by omega)).mono ?_
    rintro e w3 ⟨rfl, rfl⟩
    rw [hh]
    go_wp2_with fail
    refine (cloneS_any s _ (by omega)).mono ?_
    rintro e w3 ⟨rfl, hb3⟩
    have H4 := hide ((HH.out.later hb3).alloc (.cells #[.string s] 9))
    have HSrc := hide (srcS w3 s)
    have HZ4 := H4.out.2.size
    clear HH r3 hb3
    go_wp2_with (at_builtin; refine wpList_append_lies _ rfl (.tmp 9) (.tmp 12) 37 rfl w0.heap.size 9 i0 (.string ⟨#[]⟩) 1 16 Try.underlying37 hi hz0 hz1 hz2 rfl (by omega) (.slice va l.length vc) l.length (valsS l) rfl H4.out.1 ⟨w3.heap.size, 0, none⟩ 1 1 [.string s] ?hx rfl HSrc.out (oneS s) (by omega) (by unfold maxLen; omega) (by omega) HZ4 _ rfl ?_)
    case hx => simp [Act.eval]
    intro g5 c5 w5 ho5 hg5 hat5 hlt5
    have HF : Hid (RowS w0 (.slice (some ⟨g5, 0, none⟩) (l.length + 1) c5) (addS l s) w5) := by
      refine ⟨?_, H4.out.2.grown hg5 HZ4 (fun k hk => (H4.out.1.lt k hk).1)⟩
      rw [HA.out, ← valsS_snoc, List.length_append]
      exact ho5
    clear ho5 hg5 hat5 hlt5 HSrc H4 HZ4
    go_wp2
    go_ret
    exact ⟨_, rfl, HF.out⟩
  · have HA := hide (addS_yes hh)
    clear h
    go_enter Try.func46, Try.ntmps46
    go_wp2_with fail
    refine (containsS_any va l.length vc l s _ rfl r3 (by omega)).mono ?_
    rintro e w3 ⟨rfl, rfl⟩
    rw [hh]
    go_wp2
    go_ret
    exact ⟨_, rfl, by rw [HA.out]; exact HH.out⟩

set_option maxRecDepth 100000 in
set_option maxHeartbeats 3200000 in
theorem withVars_any (w0 : World) (v : Value) (l : List ByteArray) (kd : ByteArray) (a : Option Addr) (cap : Nat) (L : List A5) (nt : Bool) (w : World) (h : RowS w0 v l w) (hr : RdArg w0 a L) (hs : ∀ x ∈ L, x.small) (hm : l.length + L.length ≤ 1048579) :
    Calls Try.prog 49 #[v, .agg #[.string kd, .slice a L.length cap, .bool nt]] w fun e w' => ∃ v', e = .returned v' ∧ RowS w0 v' (varsF l L) w' := by
  obtain ⟨n, hN⟩ : ∃ n, n = L.length := ⟨_, rfl⟩
  rw [← hN] at hm ⊢
  have HN := hide hN
  have HS := hide hs
  have HE : Hid (varsF l (L.take n) = varsF l L) := by unfold Hid; rw [hN, List.take_length]
  have h1 := h.alloc (.cells #[.string kd, .slice a n cap, .bool nt] 49)
  clear hN hs h
  go_enter Try.func49, Try.ntmps49
  go_wp2
  generalize w.alloc (.cells #[.string kd, .slice a n cap, .bool nt] 49) = w1 at h1
  go_loopw [0, 10] (fun v i wr => ∃ (k : Nat), k ≤ n ∧ i = .int .i64 k ∧ RowS w0 v (varsF l (L.take k)) wr) (fun _ i _ => n - (intOf i).toNat)
  case atStart => exact ⟨0, Nat.zero_le _, rfl, h1⟩
  case round =>
    clear h1
    obtain ⟨k, hk, rfl, hrow⟩ := hrel
    have HR := hide hrow
    clear hrow
    by_cases hlt : k < n
    · have hlL : k < L.length := by rw [← HN.out]; exact hlt
      obtain ⟨b, off, hab, hbw, hc⟩ := RdArg.cells (hr.below HR.out.2) (by omega)
      obtain ⟨c0, c1, c2, c3, c4⟩ := hc k hlL
      clear hc
      have hS : (eAt L k).small := by rw [eAt_in hlL]; exact HS.out _ (List.getElem_mem _)
      have hS1 := hS.1
      have HT := hide (varsF_take (l := l) hlL)
      have hvl := varsF_len l L k (by omega)
      subst hab
      obtain ⟨x, hx⟩ : ∃ x, x = eAt L k := ⟨_, rfl⟩
      rw [← hx] at c0 c1 c2 c3 c4 HT hS1
      obtain ⟨K, S, VK, VN, VS⟩ := x
      clear hx hS hlL
      simp only at c0 c1 c2 c3 c4 hS1
      generalize varsF l (L.take k) = l2 at HR HT hvl
      have H2 := HR.out.alloc (.cells #[.int .i64 K, .string S, .int .i64 VK, .int .i64 VN, .string VS] 80)
      by_cases h1 : K = 1
      · subst h1
        rw [varStep_add rfl] at HT
        go_wp2_with fail
        refine (withText_any w0 _ l2 S _ H2 (by omega) (by omega)).mono ?_
        rintro e w3 ⟨v', rfl, h3⟩
        have H3 := hide h3
        clear h3 H2 HR c0 c1 c2 c3 c4
        go_wp2
        go_roundw
        case rel => exact ⟨k + 1, by omega, by go_num, by rw [HT.out]; exact H3.out⟩
        case measure => simp [intOf]; omega
      · rw [varStep_no h1] at HT
        have k1 : (K == 1) = false := by simpa using h1
        have H3 := hide H2
        clear h1 H2 HR
        go_wp2
        go_roundw
        case rel => exact ⟨k + 1, by omega, by go_num, by rw [HT.out]; exact H3.out⟩
        case measure => simp [intOf]; omega
    · obtain rfl : k = n := by omega
      go_wp2
      go_ret
      exact ⟨_, rfl, by rw [← HE.out]; exact HR.out⟩

set_option maxRecDepth 100000 in
set_option maxHeartbeats 3200000 in
theorem implVarsOf_any (kd : ByteArray) (a : Option Addr) (cap : Nat) (L : List A5) (nt : Bool) (w : World) (hr : RdArg w a L) (hs : ∀ x ∈ L, x.small) (hm : L.length ≤ 1048576) :
    Calls Try.prog 24 #[.agg #[.string kd, .slice a L.length cap, .bool nt]] w fun e w' => GivesS e w' w.heap.size (varsL L) ∧ Below w.heap.size w w' := by
  have b1 := below_al w (.cells #[.string kd, .slice a L.length cap, .bool nt] 49)
  go_enter Try.func24, Try.ntmps24
  go_wp2_with fail
  refine (withVars_any (w.alloc (.cells #[.string kd, .slice a L.length cap, .bool nt] 49)) _ [] kd a cap L nt _ (RowS.nil _) (hr.below b1) hs (by simp; omega)).mono ?_
  rintro e w1 ⟨v', rfl, h⟩
  have H := hide (h.from b1)
  clear h
  go_wp2
  go_ret
  exact ⟨⟨_, rfl, H.out.1⟩, H.out.2⟩

set_option maxRecDepth 100000 in
set_option maxHeartbeats 3200000 in
theorem specVarsOf_any (kd : ByteArray) (a : Option Addr) (cap : Nat) (L : List A5) (nt : Bool) (w : World) (hr : RdArg w a L) (hs : ∀ x ∈ L, x.small) (hm : L.length ≤ 1048576) :
    Calls Try.prog 22 #[.agg #[.string kd, .slice a L.length cap, .bool nt]] w fun e w' => GivesS e w' w.heap.size (varsL L) ∧ Below w.heap.size w w' := by
  obtain ⟨i0, hi, hz0, hz1, hz2⟩ := info_parts infoStr
  obtain ⟨n, hN⟩ : ∃ n, n = L.length := ⟨_, rfl⟩
  rw [← hN] at hm ⊢
  have b1 := below_al w (.cells #[.string kd, .slice a n cap, .bool nt] 49)
  have hP := boxk_new w #[.string kd, .slice a n cap, .bool nt] 49
  have hsz : w.heap.size + 1 ≤ (w.alloc (.cells #[.string kd, .slice a n cap, .bool nt] 49)).heap.size := by simp
  have HN := hide hN
  have HS := hide hs
  have HE : Hid (varsL (L.take n) = varsL L) := by unfold Hid; rw [hN, List.take_length]
  clear hN hs
  go_enter Try.func22, Try.ntmps22
  go_wp2
  have ho0 : ((w.alloc (.cells #[.string kd, .slice a n cap, .bool nt] 49)).alloc (.cells #[] 9)).ownsRow (w.heap.size + 1) 9 1 (.slice (some ⟨w.heap.size + 1, 0, none⟩) 0 0) 0 [] := by
    have := World.ownsRow_lit (base := w.heap.size + 1) (e := 9) (size := 1) (w.alloc (.cells #[.string kd, .slice a n cap, .bool nt] 49)) #[] 0 hsz (by unfold maxLen; omega) rfl
    rw [World.size_alloc] at this
    exact this
  have b2 := b1.alloc (by omega) (.cells #[] 9)
  have hP2 := box_old hP (by omega) (.cells #[] 9)
  have hsz2 : w.heap.size + 1 ≤ ((w.alloc (.cells #[.string kd, .slice a n cap, .bool nt] 49)).alloc (.cells #[] 9)).heap.size := by simp
  generalize (w.alloc (.cells #[.string kd, .slice a n cap, .bool nt] 49)).alloc (.cells #[] 9) = w1 at b2 hsz2 hP2 ho0
  have HP := hide hP2
  clear hP hP2 hsz b1
  go_loopw [3, 4] (fun v i wr => ∃ (k : Nat), k ≤ n ∧ i = .int .i64 k ∧ wr.ownsRow (w.heap.size + 1) 9 1 v (varsL (L.take k)).length (valsS (varsL (L.take k))) ∧ Below (w.heap.size + 1) w1 wr) (fun _ i _ => n - (intOf i).toNat)
  case atStart => exact ⟨0, Nat.zero_le _, rfl, ho0, Below.refl _ _⟩
  case round =>
    clear ho0
    obtain ⟨k, hk, rfl, hown, hbel⟩ := hrel
    obtain ⟨va, vc, e0, -, -⟩ := rdS_owns hown
    have hB : Below w.heap.size w wr := b2.trans (hbel.mono (Nat.le_succ _))
    have hws : w.heap.size + 1 ≤ wr.heap.size := Nat.le_trans hsz2 hbel.size
    have p1 := boxk_cell (box_below HP.out hbel (by omega)) 1 _ rfl
    by_cases hlt : k < n
    · have hlL : k < L.length := by rw [← HN.out]; exact hlt
      obtain ⟨b, off, hab, hbw, hc⟩ := RdArg.cells (hr.below hB) (by omega)
      obtain ⟨c0, c1, c2, c3, c4⟩ := hc k hlL
      clear hc c2 c3 c4
      have HT := hide (varsL_take hlL)
      have hvl := varsL_len L k (by omega)
      subst hab e0
      obtain ⟨x, hx⟩ : ∃ x, x = eAt L k := ⟨_, rfl⟩
      rw [← hx] at c0 c1 HT
      obtain ⟨K, S, VK, VN, VS⟩ := x
      clear hx hlL
      simp only at c0 c1
      generalize varsL (L.take k) = l at hown HT hvl
      by_cases h1 : K = 1
      · subst h1
        have r3 := rdS_of hown
        have HO3 := hide hown
        have HB3 := hide hbel
        cases hh : hasS l S
        · rw [varStep_yes rfl hh] at HT
          have HO4 := hide (HO3.out.alloc (.cells #[.string S] 9))
          have HB4 := hide (HB3.out.alloc hws (.cells #[.string S] 9))
          have HSrc := hide (srcS wr S)
          have HZ4 : Hid (w.heap.size + 1 ≤ (wr.alloc (.cells #[.string S] 9)).heap.size) := by unfold Hid; simp; omega
          clear hown hB hbel
          go_wp2_with fail
          refine (l6Has_any va l.length vc l S _ rfl r3 (by omega)).mono ?_
          rintro e w3 ⟨rfl, rfl⟩
          rw [hh]
          clear HO3 HB3 r3
          go_wp2_with (at_builtin; refine wpList_append_lies _ rfl (.tmp 31) (.tmp 38) 37 rfl (w.heap.size + 1) 9 i0 (.string ⟨#[]⟩) 1 16 Try.underlying37 hi hz0 hz1 hz2 rfl (by omega) (.slice va l.length vc) l.length (valsS l) rfl HO4.out ⟨w3.heap.size, 0, none⟩ 1 1 [.string S] ?hx rfl HSrc.out (oneS S) (by omega) (by unfold maxLen; omega) (by omega) HZ4.out _ rfl ?_)
          case hx => simp [Act.eval]
          intro g5 c5 w5 ho5 hg5 hat5 hlt5
          have HL5 : Hid ((varsL (L.take (k + 1))).length = l.length + 1) := by unfold Hid; rw [HT.out, List.length_append]; rfl
          have HO5 : Hid (w5.ownsRow (w.heap.size + 1) 9 1 (.slice (some ⟨g5, 0, none⟩) (l.length + 1) c5) (varsL (L.take (k + 1))).length (valsS (varsL (L.take (k + 1))))) := by
            unfold Hid
            rw [HL5.out, HT.out, ← valsS_snoc]
            exact ho5
          have HB5 := hide (HB4.out.grown hg5 HZ4.out (fun k hk => (HO4.out.lt k hk).1))
          clear ho5 hg5 hat5 hlt5 HO4 HSrc HB4
          go_wp2
          go_roundw
          case rel => exact ⟨k + 1, by omega, by go_num, HO5.out, HB5.out⟩
          case measure => simp [intOf]; omega
        · rw [varStep_has hh] at HT
          clear hown hB hbel
          go_wp2_with fail
          refine (l6Has_any va l.length vc l S _ rfl r3 (by omega)).mono ?_
          rintro e w3 ⟨rfl, rfl⟩
          rw [hh]
          go_wp2
          go_roundw
          case rel => exact ⟨k + 1, by omega, by go_num, by rw [HT.out]; exact HO3.out, HB3.out⟩
          case measure => simp [intOf]; omega
      · rw [varStep_no h1] at HT
        have k1 : (K == 1) = false := by simpa using h1
        have HO3 := hide hown
        have HB3 := hide hbel
        clear hown hB hbel h1
        go_wp2
        go_roundw
        case rel => exact ⟨k + 1, by omega, by go_num, by rw [HT.out]; exact HO3.out, HB3.out⟩
        case measure => simp [intOf]; omega
    · obtain rfl : k = n := by omega
      have HF : Hid (GivesS (.returned (.slice va (varsL (L.take k)).length vc)) wr w.heap.size (varsL L)) := by
        refine ⟨_, rfl, ?_⟩
        rw [← HE.out]
        subst e0
        exact ownsRow_lowS hown (Nat.le_succ _)
      subst e0
      go_wp2
      go_ret
      exact ⟨HF.out, hB⟩
end Go.Proofs.Ytaflokfgbmlmaaa
/-
  What a rule's patterns bind, plainly: those that are not Not, their variables, all kinds.
-/
namespace Go.Proofs.Ytaflokfgbmlmaaa
open Go.RowKit
set_option linter.unusedVariables false

theorem foldl_snoc {α β : Type} [Inhabited α] (f : β → α → β) (b : β) {L : List α} {k : Nat} (h : k < L.length) : (L.take (k + 1)).foldl f b = f ((L.take k).foldl f b) (eAt L k) := by
  rw [List.take_succ_eq_append_getElem h, List.foldl_append, eAt_in h]; rfl
/-- the patterns that are not Not -/
def posB (J : List PE) : List PE := J.filter (fun p => !p.nt)
theorem posB_take {J : List PE} {k : Nat} (h : k < J.length) : posB (J.take (k + 1)) = posB (J.take k) ++ (if (eAt J k).nt = true then [] else [eAt J k]) := by
  unfold posB
  rw [List.take_succ_eq_append_getElem h, List.filter_append, eAt_in h]
  cases hh : J[k].nt <;> simp [hh]
theorem posB_len (J : List PE) : (posB J).length ≤ J.length := List.length_filter_le _ _
theorem posB_take_len (J : List PE) (k : Nat) : (posB (J.take k)).length ≤ J.length := Nat.le_trans (posB_len _) (by rw [List.length_take]; omega)
/-- their variables behind those that are there -/
def varsB (l : List ByteArray) (J : List PE) : List ByteArray := J.foldl (fun l p => varsF l p.L) l
def kindsL (l : List ByteArray) (J : List PE) : List ByteArray := J.foldl (fun l p => addS l p.kd) l
theorem varsF_len' (l : List ByteArray) (L : List A5) : (varsF l L).length ≤ l.length + L.length := by
  have := varsF_len l L L.length (Nat.le_refl _)
  rw [List.take_length] at this; exact this
theorem varsB_len (l : List ByteArray) : ∀ J : List PE, (varsB l J).length ≤ l.length + (J.map PE.sz).sum
  | [] => by simp [varsB]
  | x :: r => by
    have h1 := varsB_len (varsF l x.L) r
    have h2 := varsF_len' l x.L
    have h3 : varsB l (x :: r) = varsB (varsF l x.L) r := rfl
    rw [h3]
    simp only [List.map_cons, List.sum_cons]
    have h4 : x.sz = x.kd.size + x.L.length := rfl
    omega
theorem kindsL_len (l : List ByteArray) : ∀ J : List PE, (kindsL l J).length ≤ l.length + J.length
  | [] => by simp [kindsL]
  | x :: r => by
    have h1 := kindsL_len (addS l x.kd) r
    have h2 := addS_len l x.kd
    have h3 : kindsL l (x :: r) = kindsL (addS l x.kd) r := rfl
    rw [h3]
    simp only [List.length_cons]
    omega
theorem sum_sub {α : Type} (wt : α → Nat) (p : α → Bool) : ∀ L : List α, ((L.filter p).map wt).sum ≤ (L.map wt).sum
  | [] => by simp
  | x :: r => by
    have := sum_sub wt p r
    rw [List.filter_cons]
    by_cases h : p x = true
    · rw [if_pos h]; simp only [List.map_cons, List.sum_cons]; omega
    · rw [if_neg h]; simp only [List.map_cons, List.sum_cons]; omega
theorem sum_take {α : Type} (wt : α → Nat) (L : List α) (k : Nat) : ((L.take k).map wt).sum ≤ (L.map wt).sum := totW_le wt L k
/-- the same by what is plain -/
theorem posB_pl {K J : List PE} (h : K.map PE.pl = J.map PE.pl) : (posB K).map PE.pl = (posB J).map PE.pl := by
  have e : ∀ L : List PE, (posB L).map PE.pl = (L.map PE.pl).filter (fun p => !p.nt) := fun L => by
    unfold posB; rw [List.filter_map]; rfl
  rw [e, e, h]
theorem varsB_pl {K J : List PE} (h : K.map PE.pl = J.map PE.pl) (l : List ByteArray) : varsB l K = varsB l J := by
  have e : ∀ L : List PE, varsB l L = (L.map PE.pl).foldl (fun l p => varsF l p.L) l := fun L => by
    unfold varsB; rw [List.foldl_map]; rfl
  rw [e, e, h]
theorem kindsL_pl {K J : List PE} (h : K.map PE.pl = J.map PE.pl) (l : List ByteArray) : kindsL l K = kindsL l J := by
  have e : ∀ L : List PE, kindsL l L = (L.map PE.pl).foldl (fun l p => addS l p.kd) l := fun L => by
    unfold kindsL; rw [List.foldl_map]; rfl
  rw [e, e, h]

/-- texts added one by one -/
def adds (l s : List ByteArray) : List ByteArray := s.foldl addS l
theorem adds_snoc (l s : List ByteArray) (x : ByteArray) : adds l (s ++ [x]) = addS (adds l s) x := by unfold adds; rw [List.foldl_append]; rfl
theorem adds_app (l s t : List ByteArray) : adds l (s ++ t) = adds (adds l s) t := by unfold adds; rw [List.foldl_append]
theorem addS_keep {l : List ByteArray} {x y : ByteArray} (h : x ∈ l) : x ∈ addS l y := by unfold addS; split; exact h; exact List.mem_append_left _ h
theorem addS_mem (l : List ByteArray) (y : ByteArray) : y ∈ addS l y := by
  unfold addS
  by_cases h : hasS l y = true
  · rw [if_pos h]; exact hasS_mem.1 h
  · rw [if_neg h]; simp
theorem adds_keep {x : ByteArray} : ∀ (s l : List ByteArray), x ∈ l → x ∈ adds l s
  | [], l, h => h
  | y :: r, l, h => adds_keep r (addS l y) (addS_keep h)
theorem adds_mem {x : ByteArray} : ∀ (s l : List ByteArray), x ∈ s → x ∈ adds l s
  | y :: r, l, h => by
    rcases List.mem_cons.1 h with rfl | h
    · exact adds_keep r _ (addS_mem l x)
    · exact adds_mem r (addS l y) h
/-- what is there once already can be left out -/
theorem adds_once (l s : List ByteArray) : adds l (adds [] s) = adds l s := by
  have key : ∀ n (s : List ByteArray), s.length = n → adds l (adds [] s) = adds l s := by
    intro n
    induction n with
    | zero => intro s h; rw [List.eq_nil_of_length_eq_zero h]; rfl
    | succ n ih =>
      intro s h
      rcases List.eq_nil_or_concat s with rfl | ⟨r, x, hsx⟩
      · simp at h
      rw [List.concat_eq_append] at hsx
      subst hsx
      have hr : r.length = n := by simpa using h
      have ih := ih r hr
      rw [adds_snoc, adds_snoc, ← ih]
      by_cases hx : hasS (adds [] r) x = true
      · have h1 : x ∈ adds l (adds [] r) := adds_mem _ _ (hasS_mem.1 hx)
        rw [addS_yes hx, addS_yes (hasS_mem.2 h1)]
      · rw [addS_no (by simpa using hx), adds_snoc]
  exact key _ s rfl
/-- the variables' names, each as often as it is there -/
def namesOf (L : List A5) : List ByteArray := (L.filter (fun x => decide (x.K = 1))).map A5.S
theorem varsF_names : ∀ (L : List A5) (l : List ByteArray), varsF l L = adds l (namesOf L)
  | [], l => rfl
  | x :: r, l => by
    have h : varsF l (x :: r) = varsF (varStep l x) r := rfl
    rw [h, varsF_names r]
    by_cases h1 : x.K = 1
    · rw [varStep_add h1]; unfold namesOf; rw [List.filter_cons, if_pos (by simpa using h1)]; rfl
    · rw [varStep_no h1]; unfold namesOf; rw [List.filter_cons, if_neg (by simpa using h1)]
/-- the model adds a pattern's own variables -/
theorem varsF_of (l : List ByteArray) (L : List A5) : adds l (varsL L) = varsF l L := by rw [← varsF_nil, varsF_names, varsF_names, adds_once]
end Go.Proofs.Ytaflokfgbmlmaaa
/-
  Rows of Exprs: what a slice of them reads as, what came in.
-/
namespace Go.Proofs.Ytaflokfgbmlmaaa
open Go.ChangeShapes Go.WideShapes Go.ChangeAt Go.RowKit Go.Joins Go.Deep
set_option linter.unusedVariables false
set_option maxRecDepth 100000

structure X11 where
  Op : ByteArray
  L : A5
  R : A5
instance : Inhabited X11 := ⟨⟨⟨#[]⟩, default, default⟩⟩
def X11.cs (x : X11) : List Value := [.string x.Op, .int .i64 x.L.K, .string x.L.S, .int .i64 x.L.V.K, .int .i64 x.L.V.N, .string x.L.V.S, .int .i64 x.R.K, .string x.R.S, .int .i64 x.R.V.K, .int .i64 x.R.V.N, .string x.R.V.S]
theorem X11.len (x : X11) : x.cs.length = 11 := rfl
def X11.fits (x : X11) : Prop := x.Op.size ≤ maxLen ∧ x.L.fits ∧ x.R.fits
def X11.small (x : X11) : Prop := x.Op.size ≤ 1048576 ∧ x.L.small ∧ x.R.small
def X11.zero : X11 := ⟨⟨#[]⟩, A5.zero, A5.zero⟩
abbrev RdExpr (w : World) (a : Option Addr) (L : List X11) : Prop := RdK X11.cs 11 w a L
theorem RdExpr.cells {w : World} {a : Option Addr} {L : List X11} (h : RdExpr w a L) (hp : 0 < L.length) :
    ∃ b off, a = some ⟨b, off, none⟩ ∧ b < w.heap.size ∧ ∀ i, i < L.length → w.cell? ⟨b, off + i * 11, none⟩ = some (.string (eAt L i).Op) ∧ w.cell? ⟨b, off + i * 11 + 1, none⟩ = some (.int .i64 (eAt L i).L.K) ∧ w.cell? ⟨b, off + i * 11 + 2, none⟩ = some (.string (eAt L i).L.S) ∧ w.cell? ⟨b, off + i * 11 + 3, none⟩ = some (.int .i64 (eAt L i).L.V.K) ∧ w.cell? ⟨b, off + i * 11 + 4, none⟩ = some (.int .i64 (eAt L i).L.V.N) ∧ w.cell? ⟨b, off + i * 11 + 5, none⟩ = some (.string (eAt L i).L.V.S) ∧ w.cell? ⟨b, off + i * 11 + 6, none⟩ = some (.int .i64 (eAt L i).R.K) ∧ w.cell? ⟨b, off + i * 11 + 7, none⟩ = some (.string (eAt L i).R.S) ∧ w.cell? ⟨b, off + i * 11 + 8, none⟩ = some (.int .i64 (eAt L i).R.V.K) ∧ w.cell? ⟨b, off + i * 11 + 9, none⟩ = some (.int .i64 (eAt L i).R.V.N) ∧ w.cell? ⟨b, off + i * 11 + 10, none⟩ = some (.string (eAt L i).R.V.S) := by
  obtain ⟨b, off, e, hb, hc⟩ := RdK.open X11.len (by decide) h hp
  refine ⟨b, off, e, hb, fun i hi => ?_⟩
  have hc := hc i hi
  exact ⟨hc 0 _ rfl, hc 1 _ rfl, hc 2 _ rfl, hc 3 _ rfl, hc 4 _ rfl, hc 5 _ rfl, hc 6 _ rfl, hc 7 _ rfl, hc 8 _ rfl, hc 9 _ rfl, hc 10 _ rfl⟩
def IsExprs (w : World) (a : Option Addr) (len cap : Nat) (L : List X11) : Prop := L.length = len ∧ len ≤ maxLen ∧ RdExpr w a L ∧ ∀ x ∈ L, x.fits

theorem expr_cells {H : Type} {enc : TypeId × Value → H} {w : World} {base : Nat} {spare : Nat → Bool} {held : Bool} {n : Nat} {cs : List Value} {x : DataW H × List MemPlace}
    (h : DataW.trod enc Try.prog w base spare held n 132 cs = some x) : ∃ y : X11, cs = y.cs ∧ y.fits := by
  obtain ⟨y0, y1, y2, m, -, hl, h0, h1, h2⟩ := trod_struct3 Try.underlying132 h
  have hc : Try.prog.cellsOf 132 = 11 := by kernel_rfl
  have hi : Try.prog.cellsOf 9 = 1 := by kernel_rfl
  have ha : Try.prog.cellsOf 91 = 5 := by kernel_rfl
  rw [hc] at hl
  match cs, hl with
  | [c0, c1, c2, c3, c4, c5, c6, c7, c8, c9, c10], _ =>
    simp only [hi, ha, List.drop_zero, List.drop_succ_cons, List.take_succ_cons, List.take_zero] at h0 h1 h2
    obtain ⟨O, eO, _, wO⟩ := DataW.trod_string Try.underlying9 h0
    obtain ⟨l, el, fl⟩ := arg_cells h1
    obtain ⟨r, er, fr⟩ := arg_cells h2
    simp only [A5.cs, List.cons.injEq, and_true] at eO el er
    obtain ⟨e1, e2, e3, e4, e5⟩ := el
    obtain ⟨e6, e7, e8, e9, e10⟩ := er
    exact ⟨⟨O, l, r⟩, by rw [eO, e1, e2, e3, e4, e5, e6, e7, e8, e9, e10]; rfl, wO, fl, fr⟩

theorem expr_in {H : Type} {enc : TypeId × Value → H} {w : World} {base b0 : Nat} {spare : Nat → Bool} {held : Bool} {r : Reach} {v : Value} {d : DataW H} {p : List MemPlace}
    (hv : Value.okWide Try.prog w r b0 132 v) (h : DataW.Trod enc Try.prog w base spare held 132 v d p) : ∃ x : X11, v = .agg #[.string x.Op, .int .i64 x.L.K, .string x.L.S, .int .i64 x.L.V.K, .int .i64 x.L.V.N, .string x.L.V.S, .int .i64 x.R.K, .string x.R.S, .int .i64 x.R.V.K, .int .i64 x.R.V.N, .string x.R.V.S] ∧ x.fits := by
  obtain ⟨cs, rfl, hsz⟩ := okWide_struct Try.underlying132 hv
  obtain ⟨fuel, hf⟩ := h
  obtain ⟨y, e, hy⟩ := expr_cells hf
  refine ⟨y, ?_, hy⟩
  have e2 : cs.toList = y.cs := e
  rw [← Array.toArray_toList (xs := cs), e2]
  rfl
theorem exprs_in {H : Type} {enc : TypeId × Value → H} {w : World} {spare : Nat → Bool} {held : Bool} {n : Nat} {v : Value} {x : DataW H × List MemPlace}
    (h : DataW.trod enc Try.prog w 0 spare held n 95 [v] = some x) : ∃ a len cap L, v = .slice a len cap ∧ IsExprs w a len cap L := by
  have hc : Try.prog.cellsOf 132 = 11 := by kernel_rfl
  rcases open_slice Try.underlying95 h with ⟨h0, _⟩ | ⟨a, len, cap, m, n', D, Pl, h0, hb, hl, hm, hmm, _, hx⟩
  · simp only [List.cons.injEq, and_true] at h0
    exact ⟨none, 0, 0, [], h0, rfl, Nat.zero_le _, RdK.nil _ _ _ _, fun v hv => by cases hv⟩
  · simp only [List.cons.injEq, and_true] at h0
    have hlm : len ≤ m := by rw [hmm]; split <;> omega
    obtain ⟨F, hF⟩ := choose_lt (α := X11) (n := len) (p := fun i v => w.cells? 0 (a.add (i * 11)) 11 = some v.cs ∧ v.fits) (fun i hi => by
      obtain ⟨cs', h1, h2⟩ := hx i (by omega)
      rw [hc] at h1
      obtain ⟨y, rfl, hs⟩ := expr_cells h2
      exact ⟨y, h1, hs⟩)
    refine ⟨some a, len, cap, (List.range len).map F, h0, by simp, Nat.le_trans hl hm, fun i hi => ?_, fun v hv => ?_⟩
    · have hi2 : i < len := by simpa using hi
      obtain ⟨_, _, hcell⟩ := World.cells?_some (hF i hi2).1
      obtain ⟨b, off, spot⟩ := a
      have hs : spot = none := by
        obtain ⟨_, _, hcell0⟩ := World.cells?_some (hF 0 (by omega)).1
        have e := hcell0 0 (by omega)
        rw [add_add] at e
        simp only [X11.cs, List.getElem?_cons_zero] at e
        simpa [Addr.add] using World.cell?_spot e
      subst hs
      have ev : eAt ((List.range len).map F) i = F i := by rw [eAt_in hi]; simp
      rw [ev]
      refine ⟨b, off, rfl, fun j c hj => ?_⟩
      have hjk : j < 11 := by rw [← (F i).len]; exact (List.getElem?_eq_some_iff.1 hj).1
      have e := hcell j hjk
      rw [add_add, Addr.add_lit, hj] at e
      simpa [Nat.add_assoc] using e
    · obtain ⟨i, hi, rfl⟩ := List.mem_map.1 hv
      exact (hF i (List.mem_range.1 hi)).2
theorem rowOf_set_X11 (x : X11) : ∀ (L : List X11) (i : Nat), i < L.length →
    ((((((((((((rowOf X11.cs L).set (i * 11) (.string x.Op)).set (i * 11 + 1) (.int .i64 x.L.K)).set (i * 11 + 2) (.string x.L.S)).set (i * 11 + 3) (.int .i64 x.L.V.K)).set (i * 11 + 4) (.int .i64 x.L.V.N)).set (i * 11 + 5) (.string x.L.V.S)).set (i * 11 + 6) (.int .i64 x.R.K)).set (i * 11 + 7) (.string x.R.S)).set (i * 11 + 8) (.int .i64 x.R.V.K)).set (i * 11 + 9) (.int .i64 x.R.V.N)).set (i * 11 + 10) (.string x.R.V.S)) = rowOf X11.cs (L.set i x)
  | [], i, hi => absurd hi (Nat.not_lt_zero _)
  | y :: r, 0, hi => by
    rw [List.set_cons_zero, rowOf_cons, rowOf_cons]
    rfl
  | y :: r, i + 1, hi => by
    have ih := rowOf_set_X11 x r i (by simpa using hi)
    rw [List.set_cons_succ, rowOf_cons, rowOf_cons, ← ih]
    simp only [Nat.succ_mul, X11.cs]
    rfl
abbrev OwnExpr (w : World) (g cap : Nat) (L : List X11) : Prop := OwnK 121 X11.cs 11 w g cap L
theorem rdOwnExpr {w : World} {g cap : Nat} {L : List X11} (h : OwnExpr w g cap L) : RdExpr w (some ⟨g, 0, none⟩) L := OwnK.rd X11.len (by decide) h
end Go.Proofs.Ytaflokfgbmlmaaa
/-
  An act as it came in.
-/
namespace Go.Proofs.Ytaflokfgbmlmaaa
open Go.ChangeShapes Go.WideShapes Go.ChangeAt Go.RowKit Go.Joins Go.Deep
set_option linter.unusedVariables false
set_option maxRecDepth 100000

theorem array5 {α : Type} {cs : Array α} (h : cs.size = 5) : ∃ c0 c1 c2 c3 c4, cs = #[c0, c1, c2, c3, c4] := by
  obtain ⟨l⟩ := cs
  match l, h with
  | [c0, c1, c2, c3, c4], _ => exact ⟨c0, c1, c2, c3, c4, rfl⟩
theorem trod_struct5 {H : Type} {enc : TypeId × Value → H} {P : Program} {w : World} {base : Nat} {spare : Nat → Bool} {held : Bool} {t : TypeId} {f0 f1 f2 f3 f4 : Field} {fuel : Nat} {cs : List Value} {x : DataW H × List MemPlace} (ht : P.underlying t = some (.struct #[f0, f1, f2, f3, f4])) (h : DataW.trod enc P w base spare held fuel t cs = some x) :
    ∃ y0 y1 y2 y3 y4 n, cs.length = P.cellsOf t ∧ DataW.trod enc P w base spare held n f0.type ((cs.drop f0.offset).take (P.cellsOf f0.type)) = some y0 ∧
      DataW.trod enc P w base spare held n f1.type ((cs.drop f1.offset).take (P.cellsOf f1.type)) = some y1 ∧ DataW.trod enc P w base spare held n f2.type ((cs.drop f2.offset).take (P.cellsOf f2.type)) = some y2 ∧
      DataW.trod enc P w base spare held n f3.type ((cs.drop f3.offset).take (P.cellsOf f3.type)) = some y3 ∧ DataW.trod enc P w base spare held n f4.type ((cs.drop f4.offset).take (P.cellsOf f4.type)) = some y4 := by
  obtain ⟨xs, n, _, rfl, hl, hlen, hf⟩ := DataW.trod_struct ht h
  match xs, hlen with
  | [y0, y1, y2, y3, y4], _ => exact ⟨y0, y1, y2, y3, y4, n, hl, by simpa using hf 0 f0 rfl, by simpa using hf 1 f1 rfl, by simpa using hf 2 f2 rfl, by simpa using hf 3 f3 rfl, by simpa using hf 4 f4 rfl⟩
theorem act_in {H : Type} {enc : TypeId × Value → H} {w : World} {b0 : Nat} {spare : Nat → Bool} {held : Bool} {r : Reach} {v : Value} {d : DataW H} {p : List MemPlace}
    (hv : Value.okWide Try.prog w r b0 97 v) (h : DataW.Trod enc Try.prog w 0 spare held 97 v d p) :
    ∃ (K : Int) (nm : ByteArray) (a : Option Addr) (len cap : Nat) (L : List X11) (N : Int) (un : ByteArray), v = .agg #[.int .i64 K, .string nm, .slice a len cap, .int .i64 N, .string un] ∧ nm.size ≤ maxLen ∧ un.size ≤ maxLen ∧ IsExprs w a len cap L := by
  obtain ⟨cs, rfl, hsz⟩ := okWide_struct Try.underlying97 hv
  obtain ⟨c0, c1, c2, c3, c4, rfl⟩ := array5 (hsz.trans (by kernel_rfl))
  obtain ⟨fuel, hf⟩ := h
  obtain ⟨y0, y1, y2, y3, y4, n, _, h0, h1, h2, h3, h4⟩ := trod_struct5 Try.underlying97 hf
  have e0 : Try.prog.cellsOf 3 = 1 := by kernel_rfl
  have e1 : Try.prog.cellsOf 9 = 1 := by kernel_rfl
  have e2 : Try.prog.cellsOf 95 = 1 := by kernel_rfl
  simp only [e0, e1, e2, Value.cells, List.drop_zero, List.drop_succ_cons, List.take_succ_cons, List.take_zero] at h0 h1 h2 h3 h4
  obtain ⟨K, eK, _, _⟩ := DataW.trod_int Try.underlying3 h0
  obtain ⟨S, eS, _, wS⟩ := DataW.trod_string Try.underlying9 h1
  obtain ⟨N, eN, _, _⟩ := DataW.trod_int Try.underlying3 h3
  obtain ⟨U, eU, _, wU⟩ := DataW.trod_string Try.underlying9 h4
  obtain ⟨a, len, cap, L, eL, wL⟩ := exprs_in h2
  simp only [List.cons.injEq, and_true] at eK eS eN eU
  exact ⟨K, S, a, len, cap, L, N, U, by rw [eK, eS, eN, eU, eL], wS, wU, wL⟩
end Go.Proofs.Ytaflokfgbmlmaaa
/-
  Rows of Acts, each with a list of its own: what a slice of them reads as, what came in.
-/
namespace Go.Proofs.Ytaflokfgbmlmaaa
open Go.ChangeShapes Go.WideShapes Go.ChangeAt Go.RowKit Go.Joins Go.Deep
set_option linter.unusedVariables false

set_option maxRecDepth 100000

structure QE where
  K : Int
  nm : ByteArray
  a : Option Addr
  cap : Nat
  L : List X11
  N : Int
  un : ByteArray
instance : Inhabited QE := ⟨⟨0, ⟨#[]⟩, none, 0, [], 0, ⟨#[]⟩⟩⟩
def QE.zero : QE := ⟨0, ⟨#[]⟩, none, 0, [], 0, ⟨#[]⟩⟩
/-- the same, plainly -/
structure QP where
  K : Int
  nm : ByteArray
  L : List X11
  N : Int
  un : ByteArray
instance : Inhabited QP := ⟨⟨0, ⟨#[]⟩, [], 0, ⟨#[]⟩⟩⟩
def QE.pl (x : QE) : QP := ⟨x.K, x.nm, x.L, x.N, x.un⟩
theorem QE.pl_inj {x y : QE} (h : x.pl = y.pl) : x.K = y.K ∧ x.nm = y.nm ∧ x.L = y.L ∧ x.N = y.N ∧ x.un = y.un := by simpa [QE.pl] using h
def QE.cs (x : QE) : List Value := [.int .i64 x.K, .string x.nm, .slice x.a x.L.length x.cap, .int .i64 x.N, .string x.un]
theorem QE.len (x : QE) : x.cs.length = 5 := rfl
def QE.ok (x : QE) : Prop := x.nm.size ≤ maxLen ∧ x.un.size ≤ maxLen ∧ x.L.length ≤ maxLen ∧ ∀ v ∈ x.L, v.fits
/-- how great one is -/
def QE.sz (x : QE) : Nat := x.nm.size + x.L.length + x.un.size
def QE.small (x : QE) : Prop := x.nm.size ≤ 1048576 ∧ x.un.size ≤ 1048576 ∧ x.L.length ≤ 1048576 ∧ ∀ v ∈ x.L, v.small
theorem QE.small_of {x y : QE} (h : x.small) (e : y.pl = x.pl) : y.small := by
  obtain ⟨e0, e1, e2, e3, e4⟩ := QE.pl_inj e
  unfold QE.small at *
  rw [e1, e2, e4]; exact h
/-- what the slice at 'a' reads as -/
def RdActS (w : World) (a : Option Addr) (J : List QE) : Prop := RdK QE.cs 5 w a J ∧ ∀ i, i < J.length → RdExpr w (eAt J i).a (eAt J i).L
theorem RdActS.cells {w : World} {a : Option Addr} {J : List QE} (h : RdActS w a J) (hp : 0 < J.length) :
    ∃ b off, a = some ⟨b, off, none⟩ ∧ b < w.heap.size ∧ ∀ i, i < J.length → w.cell? ⟨b, off + i * 5, none⟩ = some (.int .i64 (eAt J i).K) ∧ w.cell? ⟨b, off + i * 5 + 1, none⟩ = some (.string (eAt J i).nm) ∧ w.cell? ⟨b, off + i * 5 + 2, none⟩ = some (.slice (eAt J i).a (eAt J i).L.length (eAt J i).cap) ∧ w.cell? ⟨b, off + i * 5 + 3, none⟩ = some (.int .i64 (eAt J i).N) ∧ w.cell? ⟨b, off + i * 5 + 4, none⟩ = some (.string (eAt J i).un) ∧ RdExpr w (eAt J i).a (eAt J i).L := by
  obtain ⟨b, off, e, hb, hc⟩ := RdK.open QE.len (by decide) h.1 hp
  refine ⟨b, off, e, hb, fun i hi => ?_⟩
  have hc := hc i hi
  exact ⟨hc 0 _ rfl, hc 1 _ rfl, hc 2 _ rfl, hc 3 _ rfl, hc 4 _ rfl, h.2 i hi⟩
theorem RdActS.below {w w' : World} {a : Option Addr} {J : List QE} (h : RdActS w a J) (hb : Below w.heap.size w w') : RdActS w' a J := ⟨h.1.below hb, fun i hi => (h.2 i hi).below hb⟩
theorem RdActS.heap {w w' : World} {a : Option Addr} {J : List QE} (h : RdActS w a J) (hb : w'.heap = w.heap) : RdActS w' a J := ⟨h.1.heap hb, fun i hi => (h.2 i hi).heap hb⟩
theorem RdActS.nil (w : World) (a : Option Addr) : RdActS w a [] := ⟨RdK.nil _ _ _ _, fun i hi => absurd hi (Nat.not_lt_zero _)⟩
def IsActS (w : World) (a : Option Addr) (len cap : Nat) (J : List QE) : Prop := J.length = len ∧ len ≤ maxLen ∧ RdActS w a J ∧ ∀ x ∈ J, x.ok
abbrev InAct : World → Nat → Nat → QE → Prop := InK 121 X11.cs 11 QE.a QE.cap QE.L
theorem innAct : Inn (InAct) := inn_K _ _ _ _ _ _
abbrev OwnActS (w : World) (lo hi g cp : Nat) (K : List QE) (m : Nat) : Prop := OwnD 103 QE.cs 5 InAct w lo hi g cp K m
theorem rdOwnActS {w : World} {lo hi g cp : Nat} {K : List QE} (h : OwnActS w lo hi g cp K K.length) : RdActS w (some ⟨g, 0, none⟩) K :=
  ⟨OwnK.rd QE.len (by decide) h.own, fun i hi => by obtain ⟨s, e, q, h1, -, -, h4⟩ := h.at hi; rw [h1]; exact rdOwnExpr h4⟩
theorem act_cells' {H : Type} {enc : TypeId × Value → H} {w : World} {spare : Nat → Bool} {held : Bool} {n : Nat} {cs : List Value} {x : DataW H × List MemPlace}
    (h : DataW.trod enc Try.prog w 0 spare held n 97 cs = some x) : ∃ y : QE, cs = y.cs ∧ RdExpr w y.a y.L ∧ y.ok := by
  obtain ⟨y0, y1, y2, y3, y4, m, hl, h0, h1, h2, h3, h4⟩ := trod_struct5 Try.underlying97 h
  have hc : Try.prog.cellsOf 97 = 5 := by kernel_rfl
  have e0 : Try.prog.cellsOf 3 = 1 := by kernel_rfl
  have e1 : Try.prog.cellsOf 9 = 1 := by kernel_rfl
  have e2 : Try.prog.cellsOf 95 = 1 := by kernel_rfl
  rw [hc] at hl
  match cs, hl with
  | [c0, c1, c2, c3, c4], _ =>
    simp only [e0, e1, e2, List.drop_zero, List.drop_succ_cons, List.take_succ_cons, List.take_zero] at h0 h1 h2 h3 h4
    obtain ⟨v0, q0, _, _⟩ := DataW.trod_int Try.underlying3 h0
    obtain ⟨v1, q1, _, w1⟩ := DataW.trod_string Try.underlying9 h1
    obtain ⟨aa, len, cap, L, qL, hlen, hm, hr, hf⟩ := exprs_in h2
    obtain ⟨v3, q3, _, _⟩ := DataW.trod_int Try.underlying3 h3
    obtain ⟨v4, q4, _, w4⟩ := DataW.trod_string Try.underlying9 h4
    simp only [List.cons.injEq, and_true] at q0 q1 q3 q4
    exact ⟨⟨v0, v1, aa, cap, L, v3, v4⟩, by rw [q0, q1, q3, q4, qL, ← hlen]; rfl, hr, w1, w4, by rw [hlen]; exact hm, hf⟩
theorem acts_in {H : Type} {enc : TypeId × Value → H} {w : World} {spare : Nat → Bool} {held : Bool} {n : Nat} {v : Value} {x : DataW H × List MemPlace}
    (h : DataW.trod enc Try.prog w 0 spare held n 24 [v] = some x) : ∃ a len cap J, v = .slice a len cap ∧ IsActS w a len cap J := by
  have hc : Try.prog.cellsOf 97 = 5 := by kernel_rfl
  rcases open_slice Try.underlying24 h with ⟨h0, _⟩ | ⟨a, len, cap, m, n', D, Pl, h0, hb, hl, hm, hmm, _, hx⟩
  · simp only [List.cons.injEq, and_true] at h0
    exact ⟨none, 0, 0, [], h0, rfl, Nat.zero_le _, RdActS.nil _ _, fun v hv => by cases hv⟩
  · simp only [List.cons.injEq, and_true] at h0
    have hlm : len ≤ m := by rw [hmm]; split <;> omega
    obtain ⟨F, hF⟩ := choose_lt (α := QE) (n := len) (p := fun i v => w.cells? 0 (a.add (i * 5)) 5 = some v.cs ∧ RdExpr w v.a v.L ∧ v.ok) (fun i hi => by
      obtain ⟨cs', h1, h2⟩ := hx i (by omega)
      rw [hc] at h1
      obtain ⟨y, rfl, hs⟩ := act_cells' h2
      exact ⟨y, h1, hs⟩)
    refine ⟨some a, len, cap, (List.range len).map F, h0, by simp, Nat.le_trans hl hm, ⟨fun i hi => ?_, fun i hi => ?_⟩, fun v hv => ?_⟩
    · have hi2 : i < len := by simpa using hi
      obtain ⟨_, _, hcell⟩ := World.cells?_some (hF i hi2).1
      obtain ⟨b, off, spot⟩ := a
      have hs : spot = none := by
        obtain ⟨_, _, hcell0⟩ := World.cells?_some (hF 0 (by omega)).1
        have e := hcell0 0 (by omega)
        rw [add_add] at e
        simp only [QE.cs, List.getElem?_cons_zero] at e
        simpa [Addr.add] using World.cell?_spot e
      subst hs
      have ev : eAt ((List.range len).map F) i = F i := by rw [eAt_in hi]; simp
      rw [ev]
      refine ⟨b, off, rfl, fun j c hj => ?_⟩
      have hjk : j < 5 := by rw [← (F i).len]; exact (List.getElem?_eq_some_iff.1 hj).1
      have e := hcell j hjk
      rw [add_add, Addr.add_lit, hj] at e
      simpa [Nat.add_assoc] using e
    · have ev : eAt ((List.range len).map F) i = F i := by rw [eAt_in hi]; simp
      rw [ev]
      exact (hF i (by simpa using hi)).2.1
    · obtain ⟨i, hi, rfl⟩ := List.mem_map.1 hv
      exact (hF i (List.mem_range.1 hi)).2.2
theorem rowOf_set_QE (x : QE) : ∀ (L : List QE) (i : Nat), i < L.length →
    ((((((rowOf QE.cs L).set (i * 5) (.int .i64 x.K)).set (i * 5 + 1) (.string x.nm)).set (i * 5 + 2) (.slice x.a x.L.length x.cap)).set (i * 5 + 3) (.int .i64 x.N)).set (i * 5 + 4) (.string x.un)) = rowOf QE.cs (L.set i x)
  | [], i, hi => absurd hi (Nat.not_lt_zero _)
  | y :: r, 0, hi => by
    rw [List.set_cons_zero, rowOf_cons, rowOf_cons]
    rfl
  | y :: r, i + 1, hi => by
    have ih := rowOf_set_QE x r i (by simpa using hi)
    rw [List.set_cons_succ, rowOf_cons, rowOf_cons, ← ih]
    simp only [Nat.succ_mul, QE.cs]
    rfl
theorem rowOf_set_QE_K (v : Int) : ∀ (L : List QE) (i : Nat), i < L.length → (rowOf QE.cs L).set (i * 5) (.int .i64 v) = rowOf QE.cs (L.set i { eAt L i with K := v })
  | [], i, hi => absurd hi (Nat.not_lt_zero _)
  | y :: r, 0, hi => by
    rw [List.set_cons_zero, rowOf_cons, rowOf_cons]
    rfl
  | y :: r, i + 1, hi => by
    have ih := rowOf_set_QE_K v r i (by simpa using hi)
    rw [List.set_cons_succ, rowOf_cons, rowOf_cons, show eAt (y :: r) (i + 1) = eAt r i from rfl, ← ih]
    simp only [Nat.succ_mul, QE.cs]
    rfl
theorem rowOf_set_QE_nm (v : ByteArray) : ∀ (L : List QE) (i : Nat), i < L.length → (rowOf QE.cs L).set (i * 5 + 1) (.string v) = rowOf QE.cs (L.set i { eAt L i with nm := v })
  | [], i, hi => absurd hi (Nat.not_lt_zero _)
  | y :: r, 0, hi => by
    rw [List.set_cons_zero, rowOf_cons, rowOf_cons]
    rfl
  | y :: r, i + 1, hi => by
    have ih := rowOf_set_QE_nm v r i (by simpa using hi)
    rw [List.set_cons_succ, rowOf_cons, rowOf_cons, show eAt (y :: r) (i + 1) = eAt r i from rfl, ← ih]
    simp only [Nat.succ_mul, QE.cs]
    rfl
theorem rowOf_set_QE_N (v : Int) : ∀ (L : List QE) (i : Nat), i < L.length → (rowOf QE.cs L).set (i * 5 + 3) (.int .i64 v) = rowOf QE.cs (L.set i { eAt L i with N := v })
  | [], i, hi => absurd hi (Nat.not_lt_zero _)
  | y :: r, 0, hi => by
    rw [List.set_cons_zero, rowOf_cons, rowOf_cons]
    rfl
  | y :: r, i + 1, hi => by
    have ih := rowOf_set_QE_N v r i (by simpa using hi)
    rw [List.set_cons_succ, rowOf_cons, rowOf_cons, show eAt (y :: r) (i + 1) = eAt r i from rfl, ← ih]
    simp only [Nat.succ_mul, QE.cs]
    rfl
theorem rowOf_set_QE_un (v : ByteArray) : ∀ (L : List QE) (i : Nat), i < L.length → (rowOf QE.cs L).set (i * 5 + 4) (.string v) = rowOf QE.cs (L.set i { eAt L i with un := v })
  | [], i, hi => absurd hi (Nat.not_lt_zero _)
  | y :: r, 0, hi => by
    rw [List.set_cons_zero, rowOf_cons, rowOf_cons]
    rfl
  | y :: r, i + 1, hi => by
    have ih := rowOf_set_QE_un v r i (by simpa using hi)
    rw [List.set_cons_succ, rowOf_cons, rowOf_cons, show eAt (y :: r) (i + 1) = eAt r i from rfl, ← ih]
    simp only [Nat.succ_mul, QE.cs]
    rfl
end Go.Proofs.Ytaflokfgbmlmaaa
/-
  Rows of Conds: what a slice of them reads as, what came in.
-/
namespace Go.Proofs.Ytaflokfgbmlmaaa
open Go.ChangeShapes Go.WideShapes Go.ChangeAt Go.RowKit Go.Joins Go.Deep
set_option linter.unusedVariables false
set_option maxRecDepth 100000

structure C11 where
  Op : Int
  L : A5
  R : A5
instance : Inhabited C11 := ⟨⟨0, default, default⟩⟩
def C11.cs (x : C11) : List Value := [.int .i64 x.Op, .int .i64 x.L.K, .string x.L.S, .int .i64 x.L.V.K, .int .i64 x.L.V.N, .string x.L.V.S, .int .i64 x.R.K, .string x.R.S, .int .i64 x.R.V.K, .int .i64 x.R.V.N, .string x.R.V.S]
theorem C11.len (x : C11) : x.cs.length = 11 := rfl
def C11.fits (x : C11) : Prop := x.L.fits ∧ x.R.fits
def C11.small (x : C11) : Prop := x.L.small ∧ x.R.small
def C11.zero : C11 := ⟨0, A5.zero, A5.zero⟩
abbrev RdCond (w : World) (a : Option Addr) (L : List C11) : Prop := RdK C11.cs 11 w a L
theorem RdCond.cells {w : World} {a : Option Addr} {L : List C11} (h : RdCond w a L) (hp : 0 < L.length) :
    ∃ b off, a = some ⟨b, off, none⟩ ∧ b < w.heap.size ∧ ∀ i, i < L.length → w.cell? ⟨b, off + i * 11, none⟩ = some (.int .i64 (eAt L i).Op) ∧ w.cell? ⟨b, off + i * 11 + 1, none⟩ = some (.int .i64 (eAt L i).L.K) ∧ w.cell? ⟨b, off + i * 11 + 2, none⟩ = some (.string (eAt L i).L.S) ∧ w.cell? ⟨b, off + i * 11 + 3, none⟩ = some (.int .i64 (eAt L i).L.V.K) ∧ w.cell? ⟨b, off + i * 11 + 4, none⟩ = some (.int .i64 (eAt L i).L.V.N) ∧ w.cell? ⟨b, off + i * 11 + 5, none⟩ = some (.string (eAt L i).L.V.S) ∧ w.cell? ⟨b, off + i * 11 + 6, none⟩ = some (.int .i64 (eAt L i).R.K) ∧ w.cell? ⟨b, off + i * 11 + 7, none⟩ = some (.string (eAt L i).R.S) ∧ w.cell? ⟨b, off + i * 11 + 8, none⟩ = some (.int .i64 (eAt L i).R.V.K) ∧ w.cell? ⟨b, off + i * 11 + 9, none⟩ = some (.int .i64 (eAt L i).R.V.N) ∧ w.cell? ⟨b, off + i * 11 + 10, none⟩ = some (.string (eAt L i).R.V.S) := by
  obtain ⟨b, off, e, hb, hc⟩ := RdK.open C11.len (by decide) h hp
  refine ⟨b, off, e, hb, fun i hi => ?_⟩
  have hc := hc i hi
  exact ⟨hc 0 _ rfl, hc 1 _ rfl, hc 2 _ rfl, hc 3 _ rfl, hc 4 _ rfl, hc 5 _ rfl, hc 6 _ rfl, hc 7 _ rfl, hc 8 _ rfl, hc 9 _ rfl, hc 10 _ rfl⟩
def IsConds (w : World) (a : Option Addr) (len cap : Nat) (L : List C11) : Prop := L.length = len ∧ len ≤ maxLen ∧ RdCond w a L ∧ ∀ x ∈ L, x.fits

theorem cond_cells {H : Type} {enc : TypeId × Value → H} {w : World} {base : Nat} {spare : Nat → Bool} {held : Bool} {n : Nat} {cs : List Value} {x : DataW H × List MemPlace}
    (h : DataW.trod enc Try.prog w base spare held n 93 cs = some x) : ∃ y : C11, cs = y.cs ∧ y.fits := by
  obtain ⟨y0, y1, y2, m, -, hl, h0, h1, h2⟩ := trod_struct3 Try.underlying93 h
  have hc : Try.prog.cellsOf 93 = 11 := by kernel_rfl
  have hi : Try.prog.cellsOf 3 = 1 := by kernel_rfl
  have ha : Try.prog.cellsOf 91 = 5 := by kernel_rfl
  rw [hc] at hl
  match cs, hl with
  | [c0, c1, c2, c3, c4, c5, c6, c7, c8, c9, c10], _ =>
    simp only [hi, ha, List.drop_zero, List.drop_succ_cons, List.take_succ_cons, List.take_zero] at h0 h1 h2
    obtain ⟨O, eO, _, _⟩ := DataW.trod_int Try.underlying3 h0
    obtain ⟨l, el, fl⟩ := arg_cells h1
    obtain ⟨r, er, fr⟩ := arg_cells h2
    simp only [A5.cs, List.cons.injEq, and_true] at eO el er
    obtain ⟨e1, e2, e3, e4, e5⟩ := el
    obtain ⟨e6, e7, e8, e9, e10⟩ := er
    exact ⟨⟨O, l, r⟩, by rw [eO, e1, e2, e3, e4, e5, e6, e7, e8, e9, e10]; rfl, fl, fr⟩

theorem cond_in {H : Type} {enc : TypeId × Value → H} {w : World} {base b0 : Nat} {spare : Nat → Bool} {held : Bool} {r : Reach} {v : Value} {d : DataW H} {p : List MemPlace}
    (hv : Value.okWide Try.prog w r b0 93 v) (h : DataW.Trod enc Try.prog w base spare held 93 v d p) : ∃ x : C11, v = .agg #[.int .i64 x.Op, .int .i64 x.L.K, .string x.L.S, .int .i64 x.L.V.K, .int .i64 x.L.V.N, .string x.L.V.S, .int .i64 x.R.K, .string x.R.S, .int .i64 x.R.V.K, .int .i64 x.R.V.N, .string x.R.V.S] ∧ x.fits := by
  obtain ⟨cs, rfl, hsz⟩ := okWide_struct Try.underlying93 hv
  obtain ⟨fuel, hf⟩ := h
  obtain ⟨y, e, hy⟩ := cond_cells hf
  refine ⟨y, ?_, hy⟩
  have e2 : cs.toList = y.cs := e
  rw [← Array.toArray_toList (xs := cs), e2]
  rfl
theorem conds_in {H : Type} {enc : TypeId × Value → H} {w : World} {spare : Nat → Bool} {held : Bool} {n : Nat} {v : Value} {x : DataW H × List MemPlace}
    (h : DataW.trod enc Try.prog w 0 spare held n 23 [v] = some x) : ∃ a len cap L, v = .slice a len cap ∧ IsConds w a len cap L := by
  have hc : Try.prog.cellsOf 93 = 11 := by kernel_rfl
  rcases open_slice Try.underlying23 h with ⟨h0, _⟩ | ⟨a, len, cap, m, n', D, Pl, h0, hb, hl, hm, hmm, _, hx⟩
  · simp only [List.cons.injEq, and_true] at h0
    exact ⟨none, 0, 0, [], h0, rfl, Nat.zero_le _, RdK.nil _ _ _ _, fun v hv => by cases hv⟩
  · simp only [List.cons.injEq, and_true] at h0
    have hlm : len ≤ m := by rw [hmm]; split <;> omega
    obtain ⟨F, hF⟩ := choose_lt (α := C11) (n := len) (p := fun i v => w.cells? 0 (a.add (i * 11)) 11 = some v.cs ∧ v.fits) (fun i hi => by
      obtain ⟨cs', h1, h2⟩ := hx i (by omega)
      rw [hc] at h1
      obtain ⟨y, rfl, hs⟩ := cond_cells h2
      exact ⟨y, h1, hs⟩)
    refine ⟨some a, len, cap, (List.range len).map F, h0, by simp, Nat.le_trans hl hm, fun i hi => ?_, fun v hv => ?_⟩
    · have hi2 : i < len := by simpa using hi
      obtain ⟨_, _, hcell⟩ := World.cells?_some (hF i hi2).1
      obtain ⟨b, off, spot⟩ := a
      have hs : spot = none := by
        obtain ⟨_, _, hcell0⟩ := World.cells?_some (hF 0 (by omega)).1
        have e := hcell0 0 (by omega)
        rw [add_add] at e
        simp only [C11.cs, List.getElem?_cons_zero] at e
        simpa [Addr.add] using World.cell?_spot e
      subst hs
      have ev : eAt ((List.range len).map F) i = F i := by rw [eAt_in hi]; simp
      rw [ev]
      refine ⟨b, off, rfl, fun j c hj => ?_⟩
      have hjk : j < 11 := by rw [← (F i).len]; exact (List.getElem?_eq_some_iff.1 hj).1
      have e := hcell j hjk
      rw [add_add, Addr.add_lit, hj] at e
      simpa [Nat.add_assoc] using e
    · obtain ⟨i, hi, rfl⟩ := List.mem_map.1 hv
      exact (hF i (List.mem_range.1 hi)).2
theorem rowOf_set_C11 (x : C11) : ∀ (L : List C11) (i : Nat), i < L.length →
    ((((((((((((rowOf C11.cs L).set (i * 11) (.int .i64 x.Op)).set (i * 11 + 1) (.int .i64 x.L.K)).set (i * 11 + 2) (.string x.L.S)).set (i * 11 + 3) (.int .i64 x.L.V.K)).set (i * 11 + 4) (.int .i64 x.L.V.N)).set (i * 11 + 5) (.string x.L.V.S)).set (i * 11 + 6) (.int .i64 x.R.K)).set (i * 11 + 7) (.string x.R.S)).set (i * 11 + 8) (.int .i64 x.R.V.K)).set (i * 11 + 9) (.int .i64 x.R.V.N)).set (i * 11 + 10) (.string x.R.V.S)) = rowOf C11.cs (L.set i x)
  | [], i, hi => absurd hi (Nat.not_lt_zero _)
  | y :: r, 0, hi => by
    rw [List.set_cons_zero, rowOf_cons, rowOf_cons]
    rfl
  | y :: r, i + 1, hi => by
    have ih := rowOf_set_C11 x r i (by simpa using hi)
    rw [List.set_cons_succ, rowOf_cons, rowOf_cons, ← ih]
    simp only [Nat.succ_mul, C11.cs]
    rfl
abbrev OwnCond (w : World) (g cap : Nat) (L : List C11) : Prop := OwnK 99 C11.cs 11 w g cap L
theorem rdOwnCond {w : World} {g cap : Nat} {L : List C11} (h : OwnCond w g cap L) : RdCond w (some ⟨g, 0, none⟩) L := OwnK.rd C11.len (by decide) h
end Go.Proofs.Ytaflokfgbmlmaaa
/-
  A rule as it lies in memory (RE), what it reads as, and a rule that came in.
-/
namespace Go.Proofs.Ytaflokfgbmlmaaa
open Go.ChangeShapes Go.WideShapes Go.ChangeAt Go.RowKit Go.Joins Go.Deep
set_option linter.unusedVariables false
set_option maxRecDepth 100000

structure RE where
  nm : ByteArray
  sal : Int
  aP : Option Addr
  nP : Nat
  cP : Nat
  P : List PE
  aC : Option Addr
  nC : Nat
  cC : Nat
  C : List C11
  aA : Option Addr
  nA : Nat
  cA : Nat
  A : List QE
/-- a rule, plainly -/
structure RP where
  nm : ByteArray
  sal : Int
  P : List PP
  C : List C11
  A : List QP
def RE.pl (x : RE) : RP := ⟨x.nm, x.sal, x.P.map PE.pl, x.C, x.A.map QE.pl⟩
theorem RE.pl_inj {x y : RE} (h : x.pl = y.pl) : x.nm = y.nm ∧ x.sal = y.sal ∧ x.P.map PE.pl = y.P.map PE.pl ∧ x.C = y.C ∧ x.A.map QE.pl = y.A.map QE.pl := by simpa [RE.pl] using h
def RE.arr (x : RE) : Array Value := #[.string x.nm, .int .i64 x.sal, .slice x.aP x.nP x.cP, .slice x.aC x.nC x.cC, .slice x.aA x.nA x.cA]
/-- what a rule reads as -/
structure RdRule (w : World) (x : RE) : Prop where
  p : RdPatS w x.aP x.P
  c : RdCond w x.aC x.C
  a : RdActS w x.aA x.A
  np : x.P.length = x.nP
  nc : x.C.length = x.nC
  na : x.A.length = x.nA
theorem RdRule.below {w w' : World} {x : RE} (h : RdRule w x) (hb : Below w.heap.size w w') : RdRule w' x := ⟨h.p.below hb, h.c.below hb, h.a.below hb, h.np, h.nc, h.na⟩
theorem RdRule.heap {w w' : World} {x : RE} (h : RdRule w x) (hb : w'.heap = w.heap) : RdRule w' x := ⟨h.p.heap hb, h.c.heap hb, h.a.heap hb, h.np, h.nc, h.na⟩
def RE.ok (x : RE) : Prop := x.nm.size ≤ maxLen ∧ x.nP ≤ maxLen ∧ (∀ p ∈ x.P, p.ok) ∧ x.nC ≤ maxLen ∧ (∀ c ∈ x.C, c.fits) ∧ x.nA ≤ maxLen ∧ ∀ a ∈ x.A, a.ok
/-- how great a rule is -/
def RE.sz (x : RE) : Nat := x.nm.size + (x.P.length + (x.P.map PE.sz).sum) + x.C.length + (x.A.length + (x.A.map QE.sz).sum)
def RE.small (x : RE) : Prop := x.sz ≤ 1048576 ∧ (∀ p ∈ x.P, p.small) ∧ (∀ c ∈ x.C, c.small) ∧ ∀ a ∈ x.A, a.small
theorem mem_eAt {α : Type} [Inhabited α] {L : List α} {x : α} (h : x ∈ L) : ∃ i, i < L.length ∧ eAt L i = x := by
  obtain ⟨i, hi, rfl⟩ := List.getElem_of_mem h
  exact ⟨i, hi, eAt_in hi⟩
theorem eAt_mem {α : Type} [Inhabited α] {L : List α} {i : Nat} (h : i < L.length) : eAt L i ∈ L := by rw [eAt_in h]; exact List.getElem_mem h
theorem small_pls {K J : List PE} (h : K.map PE.pl = J.map PE.pl) (hs : ∀ p ∈ J, p.small) : ∀ p ∈ K, p.small := fun p hp => by
  obtain ⟨i, hi, rfl⟩ := mem_eAt hp
  exact PE.small_of (hs _ (eAt_mem (by rw [← map_len h]; exact hi))) (map_at h hi)
theorem small_qls {K J : List QE} (h : K.map QE.pl = J.map QE.pl) (hs : ∀ p ∈ J, p.small) : ∀ p ∈ K, p.small := fun p hp => by
  obtain ⟨i, hi, rfl⟩ := mem_eAt hp
  exact QE.small_of (hs _ (eAt_mem (by rw [← map_len h]; exact hi))) (map_at h hi)
theorem RE.small_of {x y : RE} (h : x.small) (e : y.pl = x.pl) : y.small := by
  obtain ⟨e1, e2, e3, e4, e5⟩ := RE.pl_inj e
  obtain ⟨h1, h2, h3, h4⟩ := h
  have f1 := map_len e3
  have f2 := map_len e5
  have f3 := totW_pl (wt := PE.sz) (p := PE.pl) (v := fun x => x.kd.size + x.L.length) (fun _ => rfl) e3
  have f4 := totW_pl (wt := QE.sz) (p := QE.pl) (v := fun x => x.nm.size + x.L.length + x.un.size) (fun _ => rfl) e5
  refine ⟨?_, small_pls e3 h2, by rw [e4]; exact h3, small_qls e5 h4⟩
  unfold RE.sz at *
  rw [e1, f1, f3, e4, f2, f4]; exact h1
/-- a rule's lists lie in blocks of the calls' own, between two numbers -/
structure OwnRule (w : World) (lo hi : Nat) (x : RE) : Prop where
  own : ∃ gP gC gA m1 m2, x.aP = some ⟨gP, 0, none⟩ ∧ OwnPatS w lo m1 gP x.cP x.P x.P.length ∧ x.aC = some ⟨gC, 0, none⟩ ∧ OwnCond w gC x.cC x.C ∧ m1 ≤ gC ∧ gC < m2 ∧ x.aA = some ⟨gA, 0, none⟩ ∧ OwnActS w m2 hi gA x.cA x.A x.A.length
  np : x.P.length = x.nP
  nc : x.C.length = x.nC
  na : x.A.length = x.nA
theorem OwnRule.rd {w : World} {lo hi : Nat} {x : RE} (h : OwnRule w lo hi x) : RdRule w x := by
  obtain ⟨gP, gC, gA, m1, m2, e1, o1, e2, o2, -, -, e3, o3⟩ := h.own
  exact ⟨by rw [e1]; exact rdOwnPatS o1, by rw [e2]; exact rdOwnCond o2, by rw [e3]; exact rdOwnActS o3, h.np, h.nc, h.na⟩
theorem OwnRule.top {w : World} {lo hi : Nat} {x : RE} (h : OwnRule w lo hi x) : hi ≤ w.heap.size := by
  obtain ⟨gP, gC, gA, m1, m2, e1, o1, e2, o2, -, -, e3, o3⟩ := h.own
  exact o3.top
theorem OwnRule.lohi {w : World} {lo hi : Nat} {x : RE} (h : OwnRule w lo hi x) : lo < hi := by
  obtain ⟨gP, gC, gA, m1, m2, e1, o1, e2, o2, h1, h2, e3, o3⟩ := h.own
  have := o1.low
  have := o1.lth
  have := o3.low
  have := o3.lth
  omega
theorem OwnRule.keep {w w' : World} {lo hi : Nat} {x : RE} (h : OwnRule w lo hi x) (hsz : w.heap.size ≤ w'.heap.size) (hs : ∀ q, lo ≤ q → q < hi → w'.heap[q]? = w.heap[q]?) : OwnRule w' lo hi x := by
  obtain ⟨gP, gC, gA, m1, m2, e1, o1, e2, o2, h1, h2, e3, o3⟩ := h.own
  have a1 := o1.low
  have a2 := o1.lth
  have a3 := o3.low
  have a4 := o3.lth
  exact ⟨⟨gP, gC, gA, m1, m2, e1, o1.keep innPat hsz (fun q q1 q2 => hs q q1 (by omega)), e2, o2.same (hs gC (by omega) (by omega)), h1, h2, e3, o3.keep innAct hsz (fun q q1 q2 => hs q (by omega) q2)⟩, h.np, h.nc, h.na⟩
theorem OwnRule.later {w w' : World} {lo hi : Nat} {x : RE} (h : OwnRule w lo hi x) (hb : Below w.heap.size w w') : OwnRule w' lo hi x :=
  h.keep hb.size (fun q _ hq => hb.block q (Nat.lt_of_lt_of_le hq h.top))
theorem OwnRule.grown {w w' : World} {lo hi p : Nat} {x : RE} (h : OwnRule w lo hi x) (hg : w.grownBy w' (some p)) (hp : p < lo ∨ hi ≤ p) : OwnRule w' lo hi x :=
  h.keep hg.size (fun q h1 h2 => hg.block q (Nat.lt_of_lt_of_le h2 h.top) (by simp; omega))
theorem OwnRule.weaken {w : World} {lo lo' hi hi' : Nat} {x : RE} (h : OwnRule w lo hi x) (hl : lo' ≤ lo) (hh : hi ≤ hi') (ht : hi' ≤ w.heap.size) : OwnRule w lo' hi' x := by
  obtain ⟨gP, gC, gA, m1, m2, e1, o1, e2, o2, h1, h2, e3, o3⟩ := h.own
  have := o3.top
  have := o3.low
  have := o3.lth
  exact ⟨⟨gP, gC, gA, m1, m2, e1, o1.weaken hl (Nat.le_refl _) o1.top, e2, o2, h1, h2, e3, o3.weaken (Nat.le_refl _) hh ht⟩, h.np, h.nc, h.na⟩

theorem rule_cells {H : Type} {enc : TypeId × Value → H} {w : World} {spare : Nat → Bool} {held : Bool} {n : Nat} {cs : List Value} {x : DataW H × List MemPlace}
    (h : DataW.trod enc Try.prog w 0 spare held n 26 cs = some x) : ∃ y : RE, cs = y.arr.toList ∧ RdRule w y ∧ y.ok := by
  obtain ⟨y0, y1, y2, y3, y4, m, hl, h0, h1, h2, h3, h4⟩ := trod_struct5 Try.underlying26 h
  have hc : Try.prog.cellsOf 26 = 5 := by kernel_rfl
  have e0 : Try.prog.cellsOf 9 = 1 := by kernel_rfl
  have e1 : Try.prog.cellsOf 3 = 1 := by kernel_rfl
  have e2 : Try.prog.cellsOf 22 = 1 := by kernel_rfl
  have e3 : Try.prog.cellsOf 23 = 1 := by kernel_rfl
  have e4 : Try.prog.cellsOf 24 = 1 := by kernel_rfl
  rw [hc] at hl
  match cs, hl with
  | [c0, c1, c2, c3, c4], _ =>
    simp only [e0, e1, e2, e3, e4, List.drop_zero, List.drop_succ_cons, List.take_succ_cons, List.take_zero] at h0 h1 h2 h3 h4
    obtain ⟨v0, q0, _, w0⟩ := DataW.trod_string Try.underlying9 h0
    obtain ⟨v1, q1, _, _⟩ := DataW.trod_int Try.underlying3 h1
    obtain ⟨aP, nP, cP, P, qP, lP, mP, rP, okP⟩ := pats_in h2
    obtain ⟨aC, nC, cC, C, qC, lC, mC, rC, okC⟩ := conds_in h3
    obtain ⟨aA, nA, cA, A, qA, lA, mA, rA, okA⟩ := acts_in h4
    simp only [List.cons.injEq, and_true] at q0 q1
    exact ⟨⟨v0, v1, aP, nP, cP, P, aC, nC, cC, C, aA, nA, cA, A⟩, by rw [q0, q1, qP, qC, qA]; rfl, ⟨rP, rC, rA, lP, lC, lA⟩, w0, mP, okP, mC, okC, mA, okA⟩
theorem rule_in {H : Type} {enc : TypeId × Value → H} {w : World} {b0 : Nat} {spare : Nat → Bool} {held : Bool} {r : Reach} {v : Value} {d : DataW H} {p : List MemPlace}
    (hv : Value.okWide Try.prog w r b0 26 v) (h : DataW.Trod enc Try.prog w 0 spare held 26 v d p) : ∃ x : RE, v = .agg x.arr ∧ RdRule w x ∧ x.ok := by
  obtain ⟨cs, rfl, hsz⟩ := okWide_struct Try.underlying26 hv
  obtain ⟨fuel, hf⟩ := h
  obtain ⟨y, e, hr, hy⟩ := rule_cells hf
  refine ⟨y, ?_, hr, hy⟩
  have e2 : cs.toList = y.arr.toList := e
  rw [← Array.toArray_toList (xs := cs), e2]
end Go.Proofs.Ytaflokfgbmlmaaa
/-
  Boxes of eleven cells, and two or three boxes side by side: their cells set, what stands.
-/
namespace Go.Proofs.Ytaflokfgbmlmaaa
open Go.RowKit
set_option linter.unusedVariables false

theorem boxes3 (w : World) (c1 c2 c3 : Array Value) (T1 T2 T3 : TypeId) : (((w.alloc (.cells c1 T1)).alloc (.cells c2 T2)).alloc (.cells c3 T3)).heap[w.heap.size]? = some (.cells c1 T1 (0, 0)) ∧ (((w.alloc (.cells c1 T1)).alloc (.cells c2 T2)).alloc (.cells c3 T3)).heap[w.heap.size + 1]? = some (.cells c2 T2 (0, 0)) ∧ (((w.alloc (.cells c1 T1)).alloc (.cells c2 T2)).alloc (.cells c3 T3)).heap[w.heap.size + 1 + 1]? = some (.cells c3 T3 (0, 0)) ∧ Below w.heap.size w (((w.alloc (.cells c1 T1)).alloc (.cells c2 T2)).alloc (.cells c3 T3)) := by
  have b0 := below_al w (.cells c1 T1)
  have b1 := b0.alloc b0.size (.cells c2 T2)
  have b2 := b1.alloc b1.size (.cells c3 T3)
  have hA := box_old (box_old (boxk_new w c1 T1) (by simp) (.cells c2 T2)) (by simp; omega) (.cells c3 T3)
  have hR := box_old (boxk_new (w.alloc (.cells c1 T1)) c2 T2) (by simp) (.cells c3 T3)
  have hX := boxk_new ((w.alloc (.cells c1 T1)).alloc (.cells c2 T2)) c3 T3
  simp only [World.size_alloc] at hR hX
  exact ⟨hA, hR, hX, b2⟩
theorem boxes2 (w : World) (c1 c2 : Array Value) (T1 T2 : TypeId) : ((w.alloc (.cells c1 T1)).alloc (.cells c2 T2)).heap[w.heap.size]? = some (.cells c1 T1 (0, 0)) ∧ ((w.alloc (.cells c1 T1)).alloc (.cells c2 T2)).heap[w.heap.size + 1]? = some (.cells c2 T2 (0, 0)) ∧ Below w.heap.size w ((w.alloc (.cells c1 T1)).alloc (.cells c2 T2)) := by
  have b0 := below_al w (.cells c1 T1)
  have b1 := b0.alloc b0.size (.cells c2 T2)
  have hA := box_old (boxk_new w c1 T1) (by simp) (.cells c2 T2)
  have hX := boxk_new (w.alloc (.cells c1 T1)) c2 T2
  simp only [World.size_alloc] at hX
  exact ⟨hA, hX, b1⟩
theorem box11_set {w : World} {q : Nat} {c0 c1 c2 c3 c4 c5 c6 c7 c8 c9 c10 : Value} {T : TypeId} (h : w.heap[q]? = some (.cells #[c0, c1, c2, c3, c4, c5, c6, c7, c8, c9, c10] T (0, 0))) (v0 v1 v2 v3 v4 v5 v6 v7 v8 v9 v10 : Value) :
    (((((((((((w.setCell ⟨q, 0, none⟩ v0).setCell ⟨q, 1, none⟩ v1).setCell ⟨q, 2, none⟩ v2).setCell ⟨q, 3, none⟩ v3).setCell ⟨q, 4, none⟩ v4).setCell ⟨q, 5, none⟩ v5).setCell ⟨q, 6, none⟩ v6).setCell ⟨q, 7, none⟩ v7).setCell ⟨q, 8, none⟩ v8).setCell ⟨q, 9, none⟩ v9).setCell ⟨q, 10, none⟩ v10).heap[q]? = some (.cells #[v0, v1, v2, v3, v4, v5, v6, v7, v8, v9, v10] T (0, 0)) ∧ w.grownBy (((((((((((w.setCell ⟨q, 0, none⟩ v0).setCell ⟨q, 1, none⟩ v1).setCell ⟨q, 2, none⟩ v2).setCell ⟨q, 3, none⟩ v3).setCell ⟨q, 4, none⟩ v4).setCell ⟨q, 5, none⟩ v5).setCell ⟨q, 6, none⟩ v6).setCell ⟨q, 7, none⟩ v7).setCell ⟨q, 8, none⟩ v8).setCell ⟨q, 9, none⟩ v9).setCell ⟨q, 10, none⟩ v10) (some q) := by
  have g0 := (boxk_set h 0 v0).2
  have h0 : (w.setCell ⟨q, 0, none⟩ v0).heap[q]? = some (.cells #[v0, c1, c2, c3, c4, c5, c6, c7, c8, c9, c10] T (0, 0)) := (boxk_set h 0 v0).1
  have g1 := (boxk_set h0 1 v1).2
  have h1 : ((w.setCell ⟨q, 0, none⟩ v0).setCell ⟨q, 1, none⟩ v1).heap[q]? = some (.cells #[v0, v1, c2, c3, c4, c5, c6, c7, c8, c9, c10] T (0, 0)) := (boxk_set h0 1 v1).1
  have g2 := (boxk_set h1 2 v2).2
  have h2 : (((w.setCell ⟨q, 0, none⟩ v0).setCell ⟨q, 1, none⟩ v1).setCell ⟨q, 2, none⟩ v2).heap[q]? = some (.cells #[v0, v1, v2, c3, c4, c5, c6, c7, c8, c9, c10] T (0, 0)) := (boxk_set h1 2 v2).1
  have g3 := (boxk_set h2 3 v3).2
  have h3 : ((((w.setCell ⟨q, 0, none⟩ v0).setCell ⟨q, 1, none⟩ v1).setCell ⟨q, 2, none⟩ v2).setCell ⟨q, 3, none⟩ v3).heap[q]? = some (.cells #[v0, v1, v2, v3, c4, c5, c6, c7, c8, c9, c10] T (0, 0)) := (boxk_set h2 3 v3).1
  have g4 := (boxk_set h3 4 v4).2
  have h4 : (((((w.setCell ⟨q, 0, none⟩ v0).setCell ⟨q, 1, none⟩ v1).setCell ⟨q, 2, none⟩ v2).setCell ⟨q, 3, none⟩ v3).setCell ⟨q, 4, none⟩ v4).heap[q]? = some (.cells #[v0, v1, v2, v3, v4, c5, c6, c7, c8, c9, c10] T (0, 0)) := (boxk_set h3 4 v4).1
  have g5 := (boxk_set h4 5 v5).2
  have h5 : ((((((w.setCell ⟨q, 0, none⟩ v0).setCell ⟨q, 1, none⟩ v1).setCell ⟨q, 2, none⟩ v2).setCell ⟨q, 3, none⟩ v3).setCell ⟨q, 4, none⟩ v4).setCell ⟨q, 5, none⟩ v5).heap[q]? = some (.cells #[v0, v1, v2, v3, v4, v5, c6, c7, c8, c9, c10] T (0, 0)) := (boxk_set h4 5 v5).1
  have g6 := (boxk_set h5 6 v6).2
  have h6 : (((((((w.setCell ⟨q, 0, none⟩ v0).setCell ⟨q, 1, none⟩ v1).setCell ⟨q, 2, none⟩ v2).setCell ⟨q, 3, none⟩ v3).setCell ⟨q, 4, none⟩ v4).setCell ⟨q, 5, none⟩ v5).setCell ⟨q, 6, none⟩ v6).heap[q]? = some (.cells #[v0, v1, v2, v3, v4, v5, v6, c7, c8, c9, c10] T (0, 0)) := (boxk_set h5 6 v6).1
  have g7 := (boxk_set h6 7 v7).2
  have h7 : ((((((((w.setCell ⟨q, 0, none⟩ v0).setCell ⟨q, 1, none⟩ v1).setCell ⟨q, 2, none⟩ v2).setCell ⟨q, 3, none⟩ v3).setCell ⟨q, 4, none⟩ v4).setCell ⟨q, 5, none⟩ v5).setCell ⟨q, 6, none⟩ v6).setCell ⟨q, 7, none⟩ v7).heap[q]? = some (.cells #[v0, v1, v2, v3, v4, v5, v6, v7, c8, c9, c10] T (0, 0)) := (boxk_set h6 7 v7).1
  have g8 := (boxk_set h7 8 v8).2
  have h8 : (((((((((w.setCell ⟨q, 0, none⟩ v0).setCell ⟨q, 1, none⟩ v1).setCell ⟨q, 2, none⟩ v2).setCell ⟨q, 3, none⟩ v3).setCell ⟨q, 4, none⟩ v4).setCell ⟨q, 5, none⟩ v5).setCell ⟨q, 6, none⟩ v6).setCell ⟨q, 7, none⟩ v7).setCell ⟨q, 8, none⟩ v8).heap[q]? = some (.cells #[v0, v1, v2, v3, v4, v5, v6, v7, v8, c9, c10] T (0, 0)) := (boxk_set h7 8 v8).1
  have g9 := (boxk_set h8 9 v9).2
  have h9 : ((((((((((w.setCell ⟨q, 0, none⟩ v0).setCell ⟨q, 1, none⟩ v1).setCell ⟨q, 2, none⟩ v2).setCell ⟨q, 3, none⟩ v3).setCell ⟨q, 4, none⟩ v4).setCell ⟨q, 5, none⟩ v5).setCell ⟨q, 6, none⟩ v6).setCell ⟨q, 7, none⟩ v7).setCell ⟨q, 8, none⟩ v8).setCell ⟨q, 9, none⟩ v9).heap[q]? = some (.cells #[v0, v1, v2, v3, v4, v5, v6, v7, v8, v9, c10] T (0, 0)) := (boxk_set h8 9 v9).1
  have g10 := (boxk_set h9 10 v10).2
  have h10 : (((((((((((w.setCell ⟨q, 0, none⟩ v0).setCell ⟨q, 1, none⟩ v1).setCell ⟨q, 2, none⟩ v2).setCell ⟨q, 3, none⟩ v3).setCell ⟨q, 4, none⟩ v4).setCell ⟨q, 5, none⟩ v5).setCell ⟨q, 6, none⟩ v6).setCell ⟨q, 7, none⟩ v7).setCell ⟨q, 8, none⟩ v8).setCell ⟨q, 9, none⟩ v9).setCell ⟨q, 10, none⟩ v10).heap[q]? = some (.cells #[v0, v1, v2, v3, v4, v5, v6, v7, v8, v9, v10] T (0, 0)) := (boxk_set h9 10 v10).1
  exact ⟨h10, (grown_tt (grown_tt (grown_tt (grown_tt (grown_tt (grown_tt (grown_tt (grown_tt (grown_tt (grown_tt g0 g1) g2) g3) g4) g5) g6) g7) g8) g9) g10)⟩
theorem box11_setL {w : World} {q : Nat} {c0 c1 c2 c3 c4 c5 c6 c7 c8 c9 c10 : Value} {T : TypeId} (h : w.heap[q]? = some (.cells #[c0, c1, c2, c3, c4, c5, c6, c7, c8, c9, c10] T (0, 0))) (v1 v2 v3 v4 v5 : Value) :
    (((((w.setCell ⟨q, 1, none⟩ v1).setCell ⟨q, 2, none⟩ v2).setCell ⟨q, 3, none⟩ v3).setCell ⟨q, 4, none⟩ v4).setCell ⟨q, 5, none⟩ v5).heap[q]? = some (.cells #[c0, v1, v2, v3, v4, v5, c6, c7, c8, c9, c10] T (0, 0)) ∧ w.grownBy (((((w.setCell ⟨q, 1, none⟩ v1).setCell ⟨q, 2, none⟩ v2).setCell ⟨q, 3, none⟩ v3).setCell ⟨q, 4, none⟩ v4).setCell ⟨q, 5, none⟩ v5) (some q) := by
  have g1 := (boxk_set h 1 v1).2
  have h1 : (w.setCell ⟨q, 1, none⟩ v1).heap[q]? = some (.cells #[c0, v1, c2, c3, c4, c5, c6, c7, c8, c9, c10] T (0, 0)) := (boxk_set h 1 v1).1
  have g2 := (boxk_set h1 2 v2).2
  have h2 : ((w.setCell ⟨q, 1, none⟩ v1).setCell ⟨q, 2, none⟩ v2).heap[q]? = some (.cells #[c0, v1, v2, c3, c4, c5, c6, c7, c8, c9, c10] T (0, 0)) := (boxk_set h1 2 v2).1
  have g3 := (boxk_set h2 3 v3).2
  have h3 : (((w.setCell ⟨q, 1, none⟩ v1).setCell ⟨q, 2, none⟩ v2).setCell ⟨q, 3, none⟩ v3).heap[q]? = some (.cells #[c0, v1, v2, v3, c4, c5, c6, c7, c8, c9, c10] T (0, 0)) := (boxk_set h2 3 v3).1
  have g4 := (boxk_set h3 4 v4).2
  have h4 : ((((w.setCell ⟨q, 1, none⟩ v1).setCell ⟨q, 2, none⟩ v2).setCell ⟨q, 3, none⟩ v3).setCell ⟨q, 4, none⟩ v4).heap[q]? = some (.cells #[c0, v1, v2, v3, v4, c5, c6, c7, c8, c9, c10] T (0, 0)) := (boxk_set h3 4 v4).1
  have g5 := (boxk_set h4 5 v5).2
  have h5 : (((((w.setCell ⟨q, 1, none⟩ v1).setCell ⟨q, 2, none⟩ v2).setCell ⟨q, 3, none⟩ v3).setCell ⟨q, 4, none⟩ v4).setCell ⟨q, 5, none⟩ v5).heap[q]? = some (.cells #[c0, v1, v2, v3, v4, v5, c6, c7, c8, c9, c10] T (0, 0)) := (boxk_set h4 5 v5).1
  exact ⟨h5, (grown_tt (grown_tt (grown_tt (grown_tt g1 g2) g3) g4) g5)⟩
theorem box11_setR {w : World} {q : Nat} {c0 c1 c2 c3 c4 c5 c6 c7 c8 c9 c10 : Value} {T : TypeId} (h : w.heap[q]? = some (.cells #[c0, c1, c2, c3, c4, c5, c6, c7, c8, c9, c10] T (0, 0))) (v6 v7 v8 v9 v10 : Value) :
    (((((w.setCell ⟨q, 6, none⟩ v6).setCell ⟨q, 7, none⟩ v7).setCell ⟨q, 8, none⟩ v8).setCell ⟨q, 9, none⟩ v9).setCell ⟨q, 10, none⟩ v10).heap[q]? = some (.cells #[c0, c1, c2, c3, c4, c5, v6, v7, v8, v9, v10] T (0, 0)) ∧ w.grownBy (((((w.setCell ⟨q, 6, none⟩ v6).setCell ⟨q, 7, none⟩ v7).setCell ⟨q, 8, none⟩ v8).setCell ⟨q, 9, none⟩ v9).setCell ⟨q, 10, none⟩ v10) (some q) := by
  have g6 := (boxk_set h 6 v6).2
  have h6 : (w.setCell ⟨q, 6, none⟩ v6).heap[q]? = some (.cells #[c0, c1, c2, c3, c4, c5, v6, c7, c8, c9, c10] T (0, 0)) := (boxk_set h 6 v6).1
  have g7 := (boxk_set h6 7 v7).2
  have h7 : ((w.setCell ⟨q, 6, none⟩ v6).setCell ⟨q, 7, none⟩ v7).heap[q]? = some (.cells #[c0, c1, c2, c3, c4, c5, v6, v7, c8, c9, c10] T (0, 0)) := (boxk_set h6 7 v7).1
  have g8 := (boxk_set h7 8 v8).2
  have h8 : (((w.setCell ⟨q, 6, none⟩ v6).setCell ⟨q, 7, none⟩ v7).setCell ⟨q, 8, none⟩ v8).heap[q]? = some (.cells #[c0, c1, c2, c3, c4, c5, v6, v7, v8, c9, c10] T (0, 0)) := (boxk_set h7 8 v8).1
  have g9 := (boxk_set h8 9 v9).2
  have h9 : ((((w.setCell ⟨q, 6, none⟩ v6).setCell ⟨q, 7, none⟩ v7).setCell ⟨q, 8, none⟩ v8).setCell ⟨q, 9, none⟩ v9).heap[q]? = some (.cells #[c0, c1, c2, c3, c4, c5, v6, v7, v8, v9, c10] T (0, 0)) := (boxk_set h8 9 v9).1
  have g10 := (boxk_set h9 10 v10).2
  have h10 : (((((w.setCell ⟨q, 6, none⟩ v6).setCell ⟨q, 7, none⟩ v7).setCell ⟨q, 8, none⟩ v8).setCell ⟨q, 9, none⟩ v9).setCell ⟨q, 10, none⟩ v10).heap[q]? = some (.cells #[c0, c1, c2, c3, c4, c5, v6, v7, v8, v9, v10] T (0, 0)) := (boxk_set h9 10 v10).1
  exact ⟨h10, (grown_tt (grown_tt (grown_tt (grown_tt g6 g7) g8) g9) g10)⟩
theorem box11_post {P : Program} {f : Func} {Q : Ending → World → Prop} {x : Exit} {act : Act} {w : World} {q : Nat} {c0 c1 c2 c3 c4 c5 c6 c7 c8 c9 c10 v0 v1 v2 v3 v4 v5 v6 v7 v8 v9 v10 : Value} {T : TypeId} (h : w.heap[q]? = some (.cells #[c0, c1, c2, c3, c4, c5, c6, c7, c8, c9, c10] T (0, 0)))
    (k : ∀ w2, w2.heap[q]? = some (.cells #[v0, v1, v2, v3, v4, v5, v6, v7, v8, v9, v10] T (0, 0)) → w.grownBy w2 (some q) → bodyPost P f Q x act w2) : bodyPost P f Q x act (((((((((((w.setCell ⟨q, 0, none⟩ v0).setCell ⟨q, 1, none⟩ v1).setCell ⟨q, 2, none⟩ v2).setCell ⟨q, 3, none⟩ v3).setCell ⟨q, 4, none⟩ v4).setCell ⟨q, 5, none⟩ v5).setCell ⟨q, 6, none⟩ v6).setCell ⟨q, 7, none⟩ v7).setCell ⟨q, 8, none⟩ v8).setCell ⟨q, 9, none⟩ v9).setCell ⟨q, 10, none⟩ v10) :=
  k _ (box11_set h v0 v1 v2 v3 v4 v5 v6 v7 v8 v9 v10).1 (box11_set h v0 v1 v2 v3 v4 v5 v6 v7 v8 v9 v10).2
end Go.Proofs.Ytaflokfgbmlmaaa
/-
  What the tested functions answer: boundRuleOf has the patterns that are not Not, PosCount how many, PosVars their variables, KindsOf all kinds.
-/
namespace Go.Proofs.Ytaflokfgbmlmaaa
open Go.RowKit
set_option linter.unusedVariables false

theorem infoPat : (Try.prog.info? 49).map (fun i => (i.zero, i.size, i.bytes)) = some (some (.agg #[.string ⟨#[]⟩, .slice none 0 0, .bool false]), 3, 48) := by kernel_rfl
theorem srcPE (W : World) (x : PE) : ∀ j u, (x.cs)[j]? = some u → (W.alloc (.cells #[.string x.kd, .slice x.a x.L.length x.cap, .bool x.nt] 49)).cell? ((⟨W.heap.size, 0, none⟩ : Addr).add j) = some u := by
  intro j u hj
  rw [Addr.add_lit, Nat.zero_add]
  have hb : (W.alloc (.cells #[.string x.kd, .slice x.a x.L.length x.cap, .bool x.nt] 49)).heap[W.heap.size]? = some (.cells #[.string x.kd, .slice x.a x.L.length x.cap, .bool x.nt] 49 (0, 0)) := by rw [heap_alloc_new]
  rw [cell_of_row _ _ j _ _ (0, 0) hb, ← hj]
  simp [PE.cs]
theorem onePE (x : PE) : ∀ u ∈ x.cs, u.oneCell' = true := by
  intro u hu
  simp only [PE.cs, List.mem_cons, List.not_mem_nil, or_false] at hu
  rcases hu with rfl | rfl | rfl <;> rfl
theorem box6_set {w : World} {q : Nat} {c0 c1 c2 c3 c4 c5 : Value} {T : TypeId} (h : w.heap[q]? = some (.cells #[c0, c1, c2, c3, c4, c5] T (0, 0))) (v0 v1 v2 v3 v4 v5 : Value) :
    ((((((w.setCell ⟨q, 0, none⟩ v0).setCell ⟨q, 1, none⟩ v1).setCell ⟨q, 2, none⟩ v2).setCell ⟨q, 3, none⟩ v3).setCell ⟨q, 4, none⟩ v4).setCell ⟨q, 5, none⟩ v5).heap[q]? = some (.cells #[v0, v1, v2, v3, v4, v5] T (0, 0)) ∧ w.grownBy ((((((w.setCell ⟨q, 0, none⟩ v0).setCell ⟨q, 1, none⟩ v1).setCell ⟨q, 2, none⟩ v2).setCell ⟨q, 3, none⟩ v3).setCell ⟨q, 4, none⟩ v4).setCell ⟨q, 5, none⟩ v5) (some q) := by
  have h0 := boxk_set h 0 v0
  have h1 := boxk_set h0.1 1 v1
  have h2 := boxk_set h1.1 2 v2
  have h3 := boxk_set h2.1 3 v3
  have h4 := boxk_set h3.1 4 v4
  have h5 := boxk_set h4.1 5 v5
  exact ⟨h5.1, grown_tt (grown_tt (grown_tt (grown_tt (grown_tt h0.2 h1.2) h2.2) h3.2) h4.2) h5.2⟩
theorem box6_post {P : Program} {f : Func} {Q : Ending → World → Prop} {x : Exit} {act : Act} {w : World} {q : Nat} {c0 c1 c2 c3 c4 c5 v0 v1 v2 v3 v4 v5 : Value} {T : TypeId} (h : w.heap[q]? = some (.cells #[c0, c1, c2, c3, c4, c5] T (0, 0)))
    (k : ∀ w2, w2.heap[q]? = some (.cells #[v0, v1, v2, v3, v4, v5] T (0, 0)) → w.grownBy w2 (some q) → bodyPost P f Q x act w2) : bodyPost P f Q x act ((((((w.setCell ⟨q, 0, none⟩ v0).setCell ⟨q, 1, none⟩ v1).setCell ⟨q, 2, none⟩ v2).setCell ⟨q, 3, none⟩ v3).setCell ⟨q, 4, none⟩ v4).setCell ⟨q, 5, none⟩ v5) :=
  k _ (box6_set h v0 v1 v2 v3 v4 v5).1 (box6_set h v0 v1 v2 v3 v4 v5).2
theorem field_bound (c0 : ByteArray) (c1 : Int) (a1 a2 a3 a : Option Addr) (n1 n2 n3 n k1 k2 k3 k : Nat) (w : World) : (Instr.field 63 (.agg #[.string c0, .int .i64 c1, .slice a1 n1 k1, .slice a2 n2 k2, .slice a3 n3 k3, .slice a n k]) 1).run Try.prog w = .ok (.slice a n k) w := by kernel_rfl
/-- a row of patterns at or behind a world's end, where all that was in that world is left -/
def RowP (w0 : World) (v : Value) (l : List PE) (w : World) : Prop := w.ownsRow w0.heap.size 49 3 v l.length (rowOf PE.cs l) ∧ Below w0.heap.size w0 w
theorem RowP.nil (w : World) : RowP w (.slice none 0 0) [] w := ⟨World.ownsRow_nil _ _ _ _, Below.refl _ _⟩
theorem RowP.alloc {w0 w : World} {v : Value} {l : List PE} (h : RowP w0 v l w) (o : Obj) : RowP w0 v l (w.alloc o) := ⟨h.1.alloc o, h.2.alloc h.2.size o⟩
theorem RowP.later {w0 w w' : World} {v : Value} {l : List PE} (h : RowP w0 v l w) (hb : Below w.heap.size w w') : RowP w0 v l w' := ⟨ownsRow_below' h.1 hb, h.2.trans (hb.mono h.2.size)⟩
theorem RowP.grown {w0 w w' : World} {v : Value} {l : List PE} {q : Nat} (h : RowP w0 v l w) (hg : w.grownBy w' (some q)) (hq : q < w0.heap.size) : w'.ownsRow w0.heap.size 49 3 v l.length (rowOf PE.cs l) :=
  ownsRow_sameD h.1 (fun k hk => hg.block k (h.1.lt k hk).2 (by have := (h.1.lt k hk).1; simp; omega))
/-- what it reads as, its elements' lists lying where they lay at the head -/
theorem RowP.rd {w0 w : World} {a : Option Addr} {n cap : Nat} {l : List PE} (h : RowP w0 (.slice a n cap) l w) (hi : ∀ p ∈ l, RdArg w0 p.a p.L) : RdPatS w a l ∧ l.length = n := by
  obtain ⟨a', c', e, hr, -, -⟩ := rdK_owns PE.len (by decide) h.1
  simp only [Value.slice.injEq] at e
  obtain ⟨rfl, rfl, rfl⟩ := e
  exact ⟨⟨hr, fun i hi' => (hi _ (eAt_mem hi')).below h.2⟩, rfl⟩

set_option maxRecDepth 100000 in
set_option maxHeartbeats 3200000 in
theorem boundRuleOf_any (x : RE) (w : World) (hr : RdRule w x) (hn : x.nP ≤ 1048576) :
    Calls Try.prog 35 #[.agg #[.string x.nm, .int .i64 x.sal, .slice x.aP x.nP x.cP, .slice x.aC x.nC x.cC, .slice x.aA x.nA x.cA]] w fun e w' =>
      ∃ a cap, e = .returned (.agg #[.string x.nm, .int .i64 x.sal, .slice x.aP x.nP x.cP, .slice x.aC x.nC x.cC, .slice x.aA x.nA x.cA, .slice a (posB x.P).length cap]) ∧ RdPatS w' a (posB x.P) ∧ Below w.heap.size w w' := by
  obtain ⟨i0, hi, hz0, hz1, hz2⟩ := info_parts infoPat
  have HN := hide hr.np
  have HIn : Hid (∀ p ∈ posB x.P, RdArg w p.a p.L) := fun p hp => by
    obtain ⟨i, hi, rfl⟩ := mem_eAt (List.mem_filter.1 hp).1
    exact hr.p.2 i hi
  obtain ⟨hA, hR, b1⟩ := boxes2 w #[.string x.nm, .int .i64 x.sal, .slice x.aP x.nP x.cP, .slice x.aC x.nC x.cC, .slice x.aA x.nA x.cA] #[.string ⟨#[]⟩, .int .i64 0, .slice none 0 0, .slice none 0 0, .slice none 0 0, .slice none 0 0] 33 63
  have hz : w.heap.size + 1 < ((w.alloc (.cells #[.string x.nm, .int .i64 x.sal, .slice x.aP x.nP x.cP, .slice x.aC x.nC x.cC, .slice x.aA x.nA x.cA] 33)).alloc (.cells #[.string ⟨#[]⟩, .int .i64 0, .slice none 0 0, .slice none 0 0, .slice none 0 0, .slice none 0 0] 63)).heap.size := by simp
  go_enter Try.func35, Try.ntmps35
  go_wp2
  generalize ((w.alloc (.cells #[.string x.nm, .int .i64 x.sal, .slice x.aP x.nP x.cP, .slice x.aC x.nC x.cC, .slice x.aA x.nA x.cA] 33)).alloc (.cells #[.string ⟨#[]⟩, .int .i64 0, .slice none 0 0, .slice none 0 0, .slice none 0 0, .slice none 0 0] 63)) = w1 at hA hR b1 hz ⊢
  have HA := hide hA
  have HR := hide hR
  clear hA hR
  go_loopw [3, 9] (fun v i wr => ∃ (k : Nat), k ≤ x.nP ∧ i = .int .i64 k ∧ RowP w1 v (posB (x.P.take k)) wr) (fun _ i _ => x.nP - (intOf i).toNat)
  case atStart => exact ⟨0, Nat.zero_le _, rfl, RowP.nil _⟩
  case round =>
    obtain ⟨k, hk, rfl, hrow⟩ := hrel
    have HRow := hide hrow
    obtain ⟨va, vc, e0, -, -, -⟩ := rdK_owns PE.len (by decide) hrow.1
    clear hrow
    have hB : Below w.heap.size w wr := b1.trans (HRow.out.2.mono b1.size)
    by_cases hlt : k < x.nP
    · have hlL : k < x.P.length := by rw [HN.out]; exact hlt
      obtain ⟨b, off, hab, hbw, hc⟩ := (hr.p.below hB).cells (by omega)
      obtain ⟨c0, c1, c2, -⟩ := hc k hlL
      clear hc
      have HT := hide (posB_take hlL)
      have hpl := posB_take_len x.P k
      rw [HN.out] at hpl
      subst e0
      rw [hab]
      obtain ⟨y, hy⟩ : ∃ y, y = eAt x.P k := ⟨_, rfl⟩
      rw [← hy] at c0 c1 c2 HT
      clear hy hlL hab
      generalize posB (x.P.take k) = l at HRow HT hpl ⊢
      have H3 := hide (HRow.out.alloc (.cells #[.string y.kd, .slice y.a y.L.length y.cap, .bool y.nt] 49))
      cases hnt : y.nt
      · rw [hnt] at c2 HT H3
        have H4 := hide (H3.out.alloc (.cells #[.string y.kd, .slice y.a y.L.length y.cap, .bool false] 49))
        have HSrc := hide (srcPE (wr.alloc (.cells #[.string y.kd, .slice y.a y.L.length y.cap, .bool false] 49)) y)
        rw [hnt] at HSrc
        have HZ4 := H4.out.2.size
        clear HRow hB
        go_wp2_with (at_builtin; refine wpList_append_lies _ rfl (.tmp 16) (.tmp 18) 61 rfl w1.heap.size 49 i0 (.agg #[.string ⟨#[]⟩, .slice none 0 0, .bool false]) 3 48 Try.underlying61 hi hz0 hz1 hz2 rfl (by omega) (.slice va l.length vc) l.length (rowOf PE.cs l) rfl H4.out.1 ⟨wr.heap.size + 1, 0, none⟩ 1 1 (PE.cs y) ?hx rfl (by simpa using HSrc.out) (onePE y) (by omega) (by unfold maxLen; omega) (by omega) HZ4 _ rfl ?_)
        case hx => simp [Act.eval]
        intro g5 c5 w5 ho5 hg5 hat5 hlt5
        have HF : Hid (RowP w1 (.slice (some ⟨g5, 0, none⟩) (l.length + 1) c5) (posB (x.P.take (k + 1))) w5) := by
          refine ⟨?_, H4.out.2.grown hg5 HZ4 (fun k hk => (H4.out.1.lt k hk).1)⟩
          rw [HT.out, if_neg (by simp), rowOf_append, List.length_append, rowOf_cons, show rowOf PE.cs [] = [] from rfl, List.append_nil]
          exact ho5
        clear ho5 hg5 hat5 hlt5 HSrc H4 H3 HZ4 HT
        go_wp2
        go_roundw
        case rel => exact ⟨k + 1, by omega, by go_num, HF.out⟩
        case measure => simp [intOf]; omega
      · rw [hnt] at c2 HT H3
        have HF : Hid (RowP w1 (.slice va l.length vc) (posB (x.P.take (k + 1))) (wr.alloc (.cells #[.string y.kd, .slice y.a y.L.length y.cap, .bool true] 49))) := by
          unfold Hid
          rw [HT.out, if_pos rfl, List.append_nil]
          exact H3.out
        clear HRow hB H3 HT
        go_wp2
        go_roundw
        case rel => exact ⟨k + 1, by omega, by go_num, HF.out⟩
        case measure => simp [intOf]; omega
    · obtain rfl : k = x.nP := by omega
      have HR2 := hide (box_below HR.out HRow.out.2 hz)
      have HA2 := hide (box_below HA.out HRow.out.2 (by omega))
      subst e0
      have ht : x.P.take x.nP = x.P := by rw [← HN.out, List.take_length]
      rw [ht] at HRow ⊢
      have H2 := hide (box6_set HR2.out (.string x.nm) (.int .i64 x.sal) (.slice x.aP x.nP x.cP) (.slice x.aC x.nC x.cC) (.slice x.aA x.nA x.cA) (.slice va (posB x.P).length vc))
      have a0 := boxk_cell HA2.out 0 _ rfl
      have a1 := boxk_cell HA2.out 1 _ rfl
      have a2 := boxk_cell HA2.out 2 _ rfl
      have a3 := boxk_cell HA2.out 3 _ rfl
      have a4 := boxk_cell HA2.out 4 _ rfl
      have r0 := boxk_cell HR2.out 0 _ rfl
      have r1 := boxk_cell HR2.out 1 _ rfl
      have r2 := boxk_cell HR2.out 2 _ rfl
      have r3 := boxk_cell HR2.out 3 _ rfl
      have r4 := boxk_cell HR2.out 4 _ rfl
      have r5 := boxk_cell HR2.out 5 _ rfl
      have f0 := boxk_frozen HR2.out 0
      have f1 := boxk_frozen HR2.out 1
      have f2 := boxk_frozen HR2.out 2
      have f3 := boxk_frozen HR2.out 3
      have f4 := boxk_frozen HR2.out 4
      have f5 := boxk_frozen HR2.out 5
      go_wp2
      refine box6_post HR2.out (fun w4 h4 gr => ?_)
      clear a0 a1 a2 a3 a4 r0 r1 r2 r3 r4 r5 f0 f1 f2 f3 f4 f5
      have c0 := boxk_cell h4 0 _ rfl
      have c1 := boxk_cell h4 1 _ rfl
      have c2 := boxk_cell h4 2 _ rfl
      have c3 := boxk_cell h4 3 _ rfl
      have c4 := boxk_cell h4 4 _ rfl
      have c5 := boxk_cell h4 5 _ rfl
      have ho := HRow.out.grown gr hz
      have hB4 : Below w.heap.size w w4 := below_set hB gr (by omega)
      refine bodyPost_ret (v := .agg #[.string x.nm, .int .i64 x.sal, .slice x.aP x.nP x.cP, .slice x.aC x.nC x.cC, .slice x.aA x.nA x.cA, .slice va (posB x.P).length vc]) (by simp [results, Try.results35, go_sem, c0, c1, c2, c3, c4, c5]) rfl ⟨va, vc, rfl, ?_, hB4⟩
      obtain ⟨a', c', e, hr', -, -⟩ := rdK_owns PE.len (by decide) ho
      simp only [Value.slice.injEq] at e
      rw [e.1]
      exact ⟨hr', fun i hi' => (HIn.out _ (eAt_mem hi')).below hB4⟩

set_option maxRecDepth 100000 in
theorem count_any (a : Option Addr) (n cap : Nat) (w : World) (hn : n ≤ 1048576) : Calls Try.prog 36 #[.slice a n cap] w fun e w' => e = .returned (.int .i64 (n : Int)) ∧ w' = w := by
  go_enter Try.func36, Try.ntmps36
  go_wp2
  go_ret
  exact ⟨rfl, rfl⟩

set_option maxRecDepth 100000 in
set_option maxHeartbeats 3200000 in
theorem vars_any (a : Option Addr) (n cap : Nat) (J : List PE) (w : World) (hr : RdPatS w a J) (hn : J.length = n) (hs : ∀ p ∈ J, p.small) (hm : (J.map PE.sz).sum ≤ 1048576) (hl : n ≤ 1048576) :
    Calls Try.prog 41 #[.slice a n cap] w fun e w' => GivesS e w' w.heap.size (varsB [] J) ∧ Below w.heap.size w w' := by
  have HN := hide hn
  have HS := hide hs
  have HM := hide hm
  have HE : Hid (varsB [] (J.take n) = varsB [] J) := by unfold Hid; rw [← hn, List.take_length]
  clear hn hs hm
  go_enter Try.func41, Try.ntmps41
  go_wp2
  go_loopw [3, 8] (fun v i wr => ∃ (k : Nat), k ≤ n ∧ i = .int .i64 k ∧ RowS w v (varsB [] (J.take k)) wr) (fun _ i _ => n - (intOf i).toNat)
  case atStart => exact ⟨0, Nat.zero_le _, rfl, RowS.nil _⟩
  case round =>
    obtain ⟨k, hk, rfl, hrow⟩ := hrel
    have HRow := hide hrow
    clear hrow
    by_cases hlt : k < n
    · have hlL : k < J.length := by rw [HN.out]; exact hlt
      obtain ⟨b, off, hab, hbw, hc⟩ := (hr.below HRow.out.2).cells (by omega)
      obtain ⟨c0, c1, c2, -⟩ := hc k hlL
      clear hc
      have HI := hide (hr.2 k hlL)
      have HSk := hide (HS.out _ (eAt_mem hlL))
      have hlen : (varsB [] (J.take k)).length + (eAt J k).L.length ≤ 1048576 := by
        have h1 := varsB_len [] (J.take k)
        have h2 := totW_step (wt := PE.sz) hlL
        have h3 := totW_le PE.sz J (k + 1)
        have h4 : (eAt J k).sz = (eAt J k).kd.size + (eAt J k).L.length := rfl
        have h5 := HM.out
        unfold totW at h2 h3
        simp only [List.length_nil] at h1
        omega
      have HT : Hid (varsB [] (J.take (k + 1)) = varsF (varsB [] (J.take k)) (eAt J k).L) := foldl_snoc _ _ hlL
      subst hab
      obtain ⟨y, hy⟩ : ∃ y, y = eAt J k := ⟨_, rfl⟩
      rw [← hy] at c0 c1 c2 HT HI HSk hlen
      clear hy hlL
      obtain ⟨kd, ya, yc, L, nt⟩ := y
      simp only at c0 c1 c2 HT HI hlen
      generalize varsB [] (J.take k) = l at HRow HT hlen
      have H2 := HRow.out.alloc (.cells #[.string kd, .slice ya L.length yc, .bool nt] 49)
      go_wp2_with fail
      refine (withVars_any w _ l kd ya yc L nt _ H2 HI.out HSk.out.2.2 (by omega)).mono ?_
      rintro e w3 ⟨v', rfl, h3⟩
      have H3 := hide h3
      clear h3 H2 HRow c0 c1 c2
      go_wp2
      go_roundw
      case rel => exact ⟨k + 1, by omega, by go_num, by rw [HT.out]; exact H3.out⟩
      case measure => simp [intOf]; omega
    · obtain rfl : k = n := by omega
      rw [HE.out] at HRow
      go_wp2
      go_ret
      exact ⟨⟨_, rfl, HRow.out.1⟩, HRow.out.2⟩

set_option maxRecDepth 100000 in
set_option maxHeartbeats 1600000 in
theorem implPosCount_any (x : RE) (w : World) (hr : RdRule w x) (hn : x.nP ≤ 1048576) :
    Calls Try.prog 11 #[.agg #[.string x.nm, .int .i64 x.sal, .slice x.aP x.nP x.cP, .slice x.aC x.nC x.cC, .slice x.aA x.nA x.cA]] w fun e w' =>
      e = .returned (.int .i64 ((posB x.P).length : Int)) ∧ Below w.heap.size w w' := by
  have b0 := below_al w (.cells #[.string x.nm, .int .i64 x.sal, .slice x.aP x.nP x.cP, .slice x.aC x.nC x.cC, .slice x.aA x.nA x.cA] 33)
  have hl := posB_len x.P
  rw [hr.np] at hl
  obtain ⟨n, hnn⟩ : ∃ n, n = (posB x.P).length := ⟨_, rfl⟩
  rw [← hnn] at hl ⊢
  have HNN := hide hnn
  clear hnn
  go_enter Try.func11, Try.ntmps11
  go_wp2_with fail
  refine (boundRuleOf_any x _ (hr.below b0) hn).mono ?_
  rintro e w1 ⟨a, cap, rfl, -, hb⟩
  have hB : Below w.heap.size w w1 := b0.trans (hb.mono b0.size)
  clear hb b0
  rw [← HNN.out]
  have hf := field_bound x.nm x.sal x.aP x.aC x.aA a x.nP x.nC x.nA n x.cP x.cC x.cA cap w1
  go_wp2_with fail
  refine (count_any a n cap _ (by omega)).mono ?_
  rintro e w2 ⟨rfl, rfl⟩
  go_wp2
  go_ret
  exact ⟨rfl, hB⟩

set_option maxRecDepth 100000 in
set_option maxHeartbeats 1600000 in
theorem implPosVars_any (x : RE) (w : World) (hr : RdRule w x) (hs : x.small) :
    Calls Try.prog 14 #[.agg #[.string x.nm, .int .i64 x.sal, .slice x.aP x.nP x.cP, .slice x.aC x.nC x.cC, .slice x.aA x.nA x.cA]] w fun e w' =>
      GivesS e w' w.heap.size (varsB [] (posB x.P)) ∧ Below w.heap.size w w' := by
  have b0 := below_al w (.cells #[.string x.nm, .int .i64 x.sal, .slice x.aP x.nP x.cP, .slice x.aC x.nC x.cC, .slice x.aA x.nA x.cA] 33)
  obtain ⟨s1, s2, -, -⟩ := hs
  unfold RE.sz at s1
  have hl := posB_len x.P
  have hn : x.nP ≤ 1048576 := by rw [← hr.np]; omega
  have hsum : ((posB x.P).map PE.sz).sum ≤ 1048576 := by have := sum_sub PE.sz (fun p => !p.nt) x.P; unfold posB; omega
  have hl2 : (posB x.P).length ≤ 1048576 := by omega
  have HS : Hid (∀ p ∈ posB x.P, p.small) := fun p hp => s2 p (List.mem_filter.1 hp).1
  clear s1 s2
  go_enter Try.func14, Try.ntmps14
  go_wp2_with fail
  refine (boundRuleOf_any x _ (hr.below b0) hn).mono ?_
  rintro e w1 ⟨a, cap, rfl, hrd, hb⟩
  have hB : Below w.heap.size w w1 := b0.trans (hb.mono b0.size)
  have hsz := hB.size
  clear hb b0 hl
  obtain ⟨n, hnn⟩ : ∃ n, n = (posB x.P).length := ⟨_, rfl⟩
  rw [← hnn] at hl2 ⊢
  have HNN := hide hnn
  clear hnn
  have hf := field_bound x.nm x.sal x.aP x.aC x.aA a x.nP x.nC x.nA n x.cP x.cC x.cA cap w1
  go_wp2_with fail
  refine (vars_any a n cap (posB x.P) _ hrd HNN.out.symm HS.out hsum hl2).mono ?_
  rintro e w2 ⟨⟨v, rfl, ho⟩, hb⟩
  have HF : Hid (w2.ownsRow w.heap.size 9 1 v (varsB [] (posB x.P)).length (valsS (varsB [] (posB x.P))) ∧ Below w.heap.size w w2) := ⟨ownsRow_lowS ho hsz, hB.trans (hb.mono hsz)⟩
  clear ho hb hB
  go_wp2
  go_ret
  exact ⟨⟨_, rfl, HF.out.1⟩, HF.out.2⟩

set_option maxRecDepth 100000 in
set_option maxHeartbeats 3200000 in
theorem implKindsOf_any (x : RE) (w : World) (hr : RdRule w x) (hs : x.small) :
    Calls Try.prog 20 #[.agg #[.string x.nm, .int .i64 x.sal, .slice x.aP x.nP x.cP, .slice x.aC x.nC x.cC, .slice x.aA x.nA x.cA]] w fun e w' =>
      GivesS e w' w.heap.size (kindsL [] x.P) ∧ Below w.heap.size w w' := by
  have b0 := below_al w (.cells #[.string x.nm, .int .i64 x.sal, .slice x.aP x.nP x.cP, .slice x.aC x.nC x.cC, .slice x.aA x.nA x.cA] 33)
  obtain ⟨s1, s2, -, -⟩ := hs
  unfold RE.sz at s1
  have hn : x.nP ≤ 1048576 := by rw [← hr.np]; omega
  have HN := hide hr.np
  have HS := hide s2
  have HE : Hid (kindsL [] (x.P.take x.nP) = kindsL [] x.P) := by unfold Hid; rw [← hr.np, List.take_length]
  clear s1 s2
  go_enter Try.func20, Try.ntmps20
  go_wp2
  generalize w.alloc (.cells #[.string x.nm, .int .i64 x.sal, .slice x.aP x.nP x.cP, .slice x.aC x.nC x.cC, .slice x.aA x.nA x.cA] 33) = w1 at b0 ⊢
  go_loopw [3, 9] (fun v i wr => ∃ (k : Nat), k ≤ x.nP ∧ i = .int .i64 k ∧ RowS w1 v (kindsL [] (x.P.take k)) wr) (fun _ i _ => x.nP - (intOf i).toNat)
  case atStart => exact ⟨0, Nat.zero_le _, rfl, RowS.nil _⟩
  case round =>
    obtain ⟨k, hk, rfl, hrow⟩ := hrel
    have HRow := hide hrow
    clear hrow
    by_cases hlt : k < x.nP
    · have hlL : k < x.P.length := by rw [HN.out]; exact hlt
      obtain ⟨b, off, hab, hbw, hc⟩ := ((hr.p.below b0).below HRow.out.2).cells (by omega)
      obtain ⟨c0, c1, c2, -⟩ := hc k hlL
      clear hc
      have hS := (HS.out _ (eAt_mem hlL)).1
      have hlen : (kindsL [] (x.P.take k)).length ≤ k := by
        have h1 := kindsL_len [] (x.P.take k)
        rw [List.length_take] at h1
        simp only [List.length_nil] at h1
        omega
      have HT : Hid (kindsL [] (x.P.take (k + 1)) = addS (kindsL [] (x.P.take k)) (eAt x.P k).kd) := foldl_snoc _ _ hlL
      rw [hab]
      obtain ⟨y, hy⟩ : ∃ y, y = eAt x.P k := ⟨_, rfl⟩
      rw [← hy] at c0 c1 c2 HT hS
      clear hy hlL hab
      generalize kindsL [] (x.P.take k) = l at HRow HT hlen
      have H2 := HRow.out.alloc (.cells #[.string y.kd, .slice y.a y.L.length y.cap, .bool y.nt] 49)
      go_wp2_with fail
      refine (withText_any w1 _ l y.kd _ H2 (by omega) (by omega)).mono ?_
      rintro e w3 ⟨v', rfl, h3⟩
      have H3 := hide h3
      clear h3 H2 HRow c0 c1 c2
      go_wp2
      go_roundw
      case rel => exact ⟨k + 1, by omega, by go_num, by rw [HT.out]; exact H3.out⟩
      case measure => simp [intOf]; omega
    · obtain rfl : k = x.nP := by omega
      rw [HE.out] at HRow
      have HF := hide (HRow.out.from b0)
      clear HRow
      go_wp2
      go_ret
      exact ⟨⟨_, rfl, HF.out.1⟩, HF.out.2⟩
end Go.Proofs.Ytaflokfgbmlmaaa
/-
  What the model answers: PosCount, PosVars, KindsOf, plainly the same as the tested ones.
-/
namespace Go.Proofs.Ytaflokfgbmlmaaa
open Go.RowKit
set_option linter.unusedVariables false

theorem cell_same {w w' : World} {p : Addr} (h : w'.heap[p.block]? = w.heap[p.block]?) : w'.cell? p = w.cell? p := by simp [World.cell?, h]
theorem adds_len (l : List ByteArray) : ∀ s : List ByteArray, (adds l s).length ≤ l.length + s.length := fun s => by
  induction s generalizing l with
  | nil => simp [adds]
  | cons x r ih =>
    have h1 := ih (addS l x)
    have h2 := addS_len l x
    have h3 : adds l (x :: r) = adds (addS l x) r := rfl
    rw [h3]
    simp only [List.length_cons]; omega
theorem adds_take {l s : List ByteArray} {k : Nat} (h : k < s.length) : adds l (s.take (k + 1)) = addS (adds l (s.take k)) (sAt s k) := by
  rw [List.take_succ_eq_append_getElem h, adds_snoc, sAt_in h]
theorem count_step {J : List PE} {k : Nat} (h : k < J.length) : (posB (J.take (k + 1))).length = (posB (J.take k)).length + (if (eAt J k).nt = true then 0 else 1) := by
  rw [posB_take h, List.length_append]
  split <;> rfl

set_option maxRecDepth 100000 in
set_option maxHeartbeats 1600000 in
theorem specPosCount_any (x : RE) (w : World) (hr : RdRule w x) (hn : x.nP ≤ 1048576) :
    Calls Try.prog 9 #[.agg #[.string x.nm, .int .i64 x.sal, .slice x.aP x.nP x.cP, .slice x.aC x.nC x.cC, .slice x.aA x.nA x.cA]] w fun e w' =>
      e = .returned (.int .i64 ((posB x.P).length : Int)) ∧ Below w.heap.size w w' := by
  have b0 := below_al w (.cells #[.string x.nm, .int .i64 x.sal, .slice x.aP x.nP x.cP, .slice x.aC x.nC x.cC, .slice x.aA x.nA x.cA] 33)
  have hX := boxk_new w #[.string x.nm, .int .i64 x.sal, .slice x.aP x.nP x.cP, .slice x.aC x.nC x.cC, .slice x.aA x.nA x.cA] 33
  have HN := hide hr.np
  have HE : Hid ((posB (x.P.take x.nP)).length = (posB x.P).length) := by unfold Hid; rw [← hr.np, List.take_length]
  have hp := hr.p.below b0
  go_enter Try.func9, Try.ntmps9
  go_wp2
  generalize w.alloc (.cells #[.string x.nm, .int .i64 x.sal, .slice x.aP x.nP x.cP, .slice x.aC x.nC x.cC, .slice x.aA x.nA x.cA] 33) = w1 at b0 hX hp ⊢
  have HX := hide hX
  clear hX
  go_loopw [3, 4] (fun v i wr => ∃ (k m : Nat), k ≤ x.nP ∧ i = .int .i64 k ∧ v = .int .i64 (m : Int) ∧ m = (posB (x.P.take k)).length ∧ m ≤ k ∧ wr = w1) (fun _ i _ => x.nP - (intOf i).toNat)
  case atStart => exact ⟨0, 0, Nat.zero_le _, rfl, rfl, by simp [posB], Nat.le_refl _, rfl⟩
  case round =>
    obtain ⟨k, m, hk, rfl, rfl, hm, hmk, rfl⟩ := hrel
    have HM := hide hm
    clear hm
    have a2 := boxk_cell HX.out 2 _ rfl
    by_cases hlt : k < x.nP
    · have hlL : k < x.P.length := by rw [HN.out]; exact hlt
      obtain ⟨b, off, hab, hbw, hc⟩ := hp.cells (by omega)
      obtain ⟨-, -, c2, -⟩ := hc k hlL
      clear hc
      have HT := hide (count_step hlL)
      rw [hab] at a2
      rw [hab]
      generalize (eAt x.P k).nt = nt at c2 HT
      cases nt
      · have HR : Hid (m + 1 = (posB (x.P.take (k + 1))).length) := by unfold Hid; rw [HT.out, HM.out]; rfl
        clear HT
        go_wp2
        go_roundw
        case rel => exact ⟨k + 1, m + 1, by omega, by go_num, by go_num, HR.out, by omega, by first | rfl | trivial⟩
        case measure => simp [intOf]; omega
      · have HR : Hid (m = (posB (x.P.take (k + 1))).length) := by unfold Hid; rw [HT.out, HM.out]; rfl
        clear HT
        go_wp2
        go_roundw
        case rel => exact ⟨k + 1, m, by omega, by go_num, rfl, HR.out, by omega, by first | rfl | trivial⟩
        case measure => simp [intOf]; omega
    · obtain rfl : k = x.nP := by omega
      go_wp2
      go_ret
      exact ⟨by rw [HM.out, HE.out]; rfl, b0⟩

set_option maxRecDepth 100000 in
set_option maxHeartbeats 3200000 in
theorem specKindsOf_any (x : RE) (w : World) (hr : RdRule w x) (hs : x.small) :
    Calls Try.prog 19 #[.agg #[.string x.nm, .int .i64 x.sal, .slice x.aP x.nP x.cP, .slice x.aC x.nC x.cC, .slice x.aA x.nA x.cA]] w fun e w' =>
      GivesS e w' w.heap.size (kindsL [] x.P) ∧ Below w.heap.size w w' := by
  obtain ⟨i0, hi, hz0, hz1, hz2⟩ := info_parts infoStr
  have b0 := below_al w (.cells #[.string x.nm, .int .i64 x.sal, .slice x.aP x.nP x.cP, .slice x.aC x.nC x.cC, .slice x.aA x.nA x.cA] 33)
  have hX := boxk_new w #[.string x.nm, .int .i64 x.sal, .slice x.aP x.nP x.cP, .slice x.aC x.nC x.cC, .slice x.aA x.nA x.cA] 33
  have hw1 : (w.alloc (.cells #[.string x.nm, .int .i64 x.sal, .slice x.aP x.nP x.cP, .slice x.aC x.nC x.cC, .slice x.aA x.nA x.cA] 33)).heap.size = w.heap.size + 1 := by simp
  have HW1 := hide hw1
  clear hw1
  have hzz : w.heap.size < (w.alloc (.cells #[.string x.nm, .int .i64 x.sal, .slice x.aP x.nP x.cP, .slice x.aC x.nC x.cC, .slice x.aA x.nA x.cA] 33)).heap.size := by simp
  obtain ⟨s1, s2, -, -⟩ := hs
  unfold RE.sz at s1
  have hn : x.nP ≤ 1048576 := by rw [← hr.np]; omega
  have HN := hide hr.np
  have HS := hide s2
  have HE : Hid (kindsL [] (x.P.take x.nP) = kindsL [] x.P) := by unfold Hid; rw [← hr.np, List.take_length]
  clear s1 s2
  go_enter Try.func19, Try.ntmps19
  go_wp2
  generalize w.alloc (.cells #[.string x.nm, .int .i64 x.sal, .slice x.aP x.nP x.cP, .slice x.aC x.nC x.cC, .slice x.aA x.nA x.cA] 33) = w1 at b0 hX hzz HW1 ⊢
  have HX := hide hX
  clear hX
  have ho0 : RowS w1 (.slice (some ⟨w.heap.size + 1, 0, none⟩) 0 0) [] (w1.alloc (.cells #[] 9)) := by
    rw [← HW1.out]
    exact ⟨World.ownsRow_lit (base := w1.heap.size) (e := 9) (size := 1) w1 #[] 0 (Nat.le_refl _) (by unfold maxLen; omega) rfl, below_al _ _⟩
  go_loopw [3, 4] (fun v i wr => ∃ (k : Nat), k ≤ x.nP ∧ i = .int .i64 k ∧ RowS w1 v (kindsL [] (x.P.take k)) wr) (fun _ i _ => x.nP - (intOf i).toNat)
  case atStart => exact ⟨0, Nat.zero_le _, rfl, ho0⟩
  case round =>
    clear ho0
    obtain ⟨k, hk, rfl, hrow⟩ := hrel
    have HRow := hide hrow
    clear hrow
    have a2 := boxk_cell (box_below HX.out HRow.out.2 hzz) 2 _ rfl
    by_cases hlt : k < x.nP
    · have hlL : k < x.P.length := by rw [HN.out]; exact hlt
      obtain ⟨b, off, hab, hbw, hc⟩ := ((hr.p.below b0).below HRow.out.2).cells (by omega)
      obtain ⟨c0, -, -, -⟩ := hc k hlL
      clear hc
      have hS := (HS.out _ (eAt_mem hlL)).1
      have hlen : (kindsL [] (x.P.take k)).length ≤ k := by
        have h1 := kindsL_len [] (x.P.take k)
        rw [List.length_take] at h1
        simp only [List.length_nil] at h1
        omega
      have HT : Hid (kindsL [] (x.P.take (k + 1)) = addS (kindsL [] (x.P.take k)) (eAt x.P k).kd) := foldl_snoc _ _ hlL
      rw [hab] at a2
      rw [hab]
      clear hab hlL
      generalize (eAt x.P k).kd = s at c0 HT hS
      generalize kindsL [] (x.P.take k) = l at HRow HT hlen
      obtain ⟨va, vc, e0, r3, -⟩ := rdS_owns HRow.out.1
      subst e0
      cases hh : hasS l s
      · rw [addS_no hh] at HT
        have H4 := hide (HRow.out.alloc (.cells #[.string s] 9))
        have HSrc := hide (srcS wr s)
        have HZ4 := H4.out.2.size
        go_wp2_with fail
        refine (l6Has_any va l.length vc l s _ rfl r3 (by omega)).mono ?_
        rintro e w3 ⟨rfl, rfl⟩
        rw [hh]
        clear HRow r3
        go_wp2_with (at_builtin; refine wpList_append_lies _ rfl (.tmp 22) (.tmp 29) 37 rfl w1.heap.size 9 i0 (.string ⟨#[]⟩) 1 16 Try.underlying37 hi hz0 hz1 hz2 rfl (by omega) (.slice va l.length vc) l.length (valsS l) rfl H4.out.1 ⟨w3.heap.size, 0, none⟩ 1 1 [.string s] ?hx rfl HSrc.out (oneS s) (by omega) (by unfold maxLen; omega) (by omega) HZ4 _ rfl ?_)
        case hx => simp [Act.eval]
        intro g5 c5 w5 ho5 hg5 hat5 hlt5
        have HF : Hid (RowS w1 (.slice (some ⟨g5, 0, none⟩) (l.length + 1) c5) (kindsL [] (x.P.take (k + 1))) w5) := by
          refine ⟨?_, H4.out.2.grown hg5 HZ4 (fun k hk => (H4.out.1.lt k hk).1)⟩
          rw [HT.out, ← valsS_snoc, List.length_append]
          exact ho5
        clear ho5 hg5 hat5 hlt5 HSrc H4 HZ4 HT
        go_wp2
        go_roundw
        case rel => exact ⟨k + 1, by omega, by go_num, HF.out⟩
        case measure => simp [intOf]; omega
      · rw [addS_yes hh] at HT
        go_wp2_with fail
        refine (l6Has_any va l.length vc l s _ rfl r3 (by omega)).mono ?_
        rintro e w3 ⟨rfl, rfl⟩
        rw [hh]
        clear r3
        go_wp2
        go_roundw
        case rel => exact ⟨k + 1, by omega, by go_num, by rw [HT.out]; exact HRow.out⟩
        case measure => simp [intOf]; omega
    · obtain rfl : k = x.nP := by omega
      rw [HE.out] at HRow
      have HF := hide (HRow.out.from b0)
      clear HRow
      go_wp2
      go_ret
      exact ⟨⟨_, rfl, HF.out.1⟩, HF.out.2⟩

set_option maxRecDepth 100000 in
set_option maxHeartbeats 6400000 in
theorem specPosVars_any (x : RE) (w : World) (hr : RdRule w x) (hs : x.small) :
    Calls Try.prog 13 #[.agg #[.string x.nm, .int .i64 x.sal, .slice x.aP x.nP x.cP, .slice x.aC x.nC x.cC, .slice x.aA x.nA x.cA]] w fun e w' =>
      GivesS e w' w.heap.size (varsB [] (posB x.P)) ∧ Below w.heap.size w w' := by
  obtain ⟨i0, hi, hz0, hz1, hz2⟩ := info_parts infoStr
  have b0 := below_al w (.cells #[.string x.nm, .int .i64 x.sal, .slice x.aP x.nP x.cP, .slice x.aC x.nC x.cC, .slice x.aA x.nA x.cA] 33)
  have hX := boxk_new w #[.string x.nm, .int .i64 x.sal, .slice x.aP x.nP x.cP, .slice x.aC x.nC x.cC, .slice x.aA x.nA x.cA] 33
  have hw1 : (w.alloc (.cells #[.string x.nm, .int .i64 x.sal, .slice x.aP x.nP x.cP, .slice x.aC x.nC x.cC, .slice x.aA x.nA x.cA] 33)).heap.size = w.heap.size + 1 := by simp
  have HW1 := hide hw1
  clear hw1
  have hzz : w.heap.size < (w.alloc (.cells #[.string x.nm, .int .i64 x.sal, .slice x.aP x.nP x.cP, .slice x.aC x.nC x.cC, .slice x.aA x.nA x.cA] 33)).heap.size := by simp
  obtain ⟨s1, s2, -, -⟩ := hs
  unfold RE.sz at s1
  have hn : x.nP ≤ 1048576 := by rw [← hr.np]; omega
  have hM : (x.P.map PE.sz).sum ≤ 1048576 := by omega
  have HM := hide hM
  have HN := hide hr.np
  have HS := hide s2
  have HE : Hid (varsB [] (posB (x.P.take x.nP)) = varsB [] (posB x.P)) := by unfold Hid; rw [← hr.np, List.take_length]
  clear s1 s2 hM
  go_enter Try.func13, Try.ntmps13
  go_wp2
  generalize w.alloc (.cells #[.string x.nm, .int .i64 x.sal, .slice x.aP x.nP x.cP, .slice x.aC x.nC x.cC, .slice x.aA x.nA x.cA] 33) = w1 at b0 hX hzz HW1 ⊢
  have HX := hide hX
  clear hX
  have ho0 : RowS w1 (.slice (some ⟨w.heap.size + 1, 0, none⟩) 0 0) [] (w1.alloc (.cells #[] 9)) := by
    rw [← HW1.out]
    exact ⟨World.ownsRow_lit (base := w1.heap.size) (e := 9) (size := 1) w1 #[] 0 (Nat.le_refl _) (by unfold maxLen; omega) rfl, below_al _ _⟩
  go_loopw [3, 4] (fun v i wr => ∃ (k : Nat), k ≤ x.nP ∧ i = .int .i64 k ∧ RowS w1 v (varsB [] (posB (x.P.take k))) wr) (fun _ i _ => x.nP - (intOf i).toNat)
  case atStart => exact ⟨0, Nat.zero_le _, rfl, ho0⟩
  case round =>
    clear ho0
    obtain ⟨wo, hwo⟩ : ∃ wo : World, wo = wr := ⟨_, rfl⟩
    subst hwo
    obtain ⟨k, hk, rfl, hrow⟩ := hrel
    have HRow := hide hrow
    clear hrow
    have a2 := boxk_cell (box_below HX.out HRow.out.2 hzz) 2 _ rfl
    by_cases hlt : k < x.nP
    · have hlL : k < x.P.length := by rw [HN.out]; exact hlt
      obtain ⟨b, off, hab, hbw, hc⟩ := ((hr.p.below b0).below HRow.out.2).cells (by omega)
      obtain ⟨c0, c1, c2, hin⟩ := hc k hlL
      clear hc
      have HIn := hide hin
      have hS := HS.out _ (eAt_mem hlL)
      have hvl : (varsL (eAt x.P k).L).length ≤ (eAt x.P k).L.length := by
        have := varsL_len (eAt x.P k).L _ (Nat.le_refl _)
        rw [List.take_length] at this; exact this
      have hlen : (varsB [] (posB (x.P.take k))).length + (eAt x.P k).L.length ≤ 1048576 := by
        have h1 := varsB_len [] (posB (x.P.take k))
        have h0 := sum_sub PE.sz (fun p => !p.nt) (x.P.take k)
        have h2 := totW_step (wt := PE.sz) hlL
        have h3 := totW_le PE.sz x.P (k + 1)
        have h4 : (eAt x.P k).sz = (eAt x.P k).kd.size + (eAt x.P k).L.length := rfl
        have h5 := HM.out
        unfold totW at h2 h3
        simp only [List.length_nil] at h1
        unfold posB at h1 ⊢
        omega
      have HT : Hid (varsB [] (posB (x.P.take (k + 1))) = if (eAt x.P k).nt = true then varsB [] (posB (x.P.take k)) else adds (varsB [] (posB (x.P.take k))) (varsL (eAt x.P k).L)) := by
        unfold Hid
        rw [posB_take hlL]
        split
        · rw [List.append_nil]
        · rw [varsF_of]; unfold varsB; rw [List.foldl_append]; rfl
      have HAb := hide hab
      rw [hab] at a2
      rw [hab]
      clear hab hlL hin
      obtain ⟨y, hy⟩ : ∃ y, y = eAt x.P k := ⟨_, rfl⟩
      rw [← hy] at c0 c1 c2 HT HIn hS hlen hvl
      obtain ⟨kd, ya, yc, L, nt⟩ := y
      have HNt : Hid ((eAt x.P k).nt = nt) := by unfold Hid; rw [← hy]
      clear hy
      simp only at c0 c1 c2 HT HIn hlen hvl
      generalize varsB [] (posB (x.P.take k)) = out at HRow HT hlen
      obtain ⟨va, vc, e0, -, -⟩ := rdS_owns HRow.out.1
      subst e0
      have hLs : L.length ≤ 1048576 := hS.2.1
      have hsep := fun q hq => (HRow.out.1.lt q hq).2
      go_wp2_with fail
      refine (specVarsOf_any kd ya yc L nt _ HIn.out hS.2.2 hLs).mono ?_
      rintro e w3 ⟨⟨v3, rfl, ho3⟩, hb3⟩
      obtain ⟨al, cl, rfl, hrl, -⟩ := rdS_owns ho3
      have HRow3 := hide (HRow.out.later hb3)
      have HL3 := hide (fun q hq => ho3.lt q hq)
      have HRl := hide hrl
      have HSep := hide hsep
      have c2' : w3.cell? ⟨b, off + k * 3 + 2, none⟩ = some (.bool nt) := by rw [hb3.cell (World.block_lt_of_cell? wo _ c2)]; exact c2
      have a2' := boxk_cell (box_below HX.out HRow3.out.2 hzz) 2 _ rfl
      clear hb3 c0 c1 c2 a2 HRow HIn hS ho3 hrl hsep
      generalize varsL L = l at HT HRl HL3 hvl
      have hll : l.length ≤ 1048576 := by omega
      cases nt
      · rw [if_neg (by simp)] at HT
        have HEl : Hid (adds out (l.take l.length) = adds out l) := by unfold Hid; rw [List.take_length]
        go_wp2
        go_loopw [3, 6] (fun v i wi => ∃ (j : Nat), j ≤ l.length ∧ i = .int .i64 j ∧ RowS w1 v (adds out (l.take j)) wi ∧ (∀ q, v.ownBlock = some q → q < wo.heap.size ∨ w3.heap.size ≤ q) ∧ w3.heap.size ≤ wi.heap.size ∧ ∀ q, wo.heap.size ≤ q → q < w3.heap.size → wi.heap[q]? = w3.heap[q]?) (fun _ i _ => l.length - (intOf i).toNat)
        case atStart => exact ⟨0, Nat.zero_le _, rfl, HRow3.out, fun q hq => .inl (HSep.out q hq), Nat.le_refl _, fun q _ _ => rfl⟩
        case round =>
          obtain ⟨j, hj, rfl, hrow, hsep, hsz, hsame⟩ := hrel
          have HRw := hide hrow
          have HSp := hide hsep
          have HSm := hide hsame
          clear hrow hsep hsame
          have d2 := boxk_cell (box_below HX.out HRw.out.2 hzz) 2 _ rfl
          rw [HAb.out] at d2
          have d3 : wr.cell? ⟨b, off + k * 3 + 2, none⟩ = some (.bool false) := by
            have hp := ((hr.p.below b0).below HRw.out.2).cells (by have := HN.out; omega)
            obtain ⟨b', off', hab', -, hc'⟩ := hp
            obtain ⟨-, -, hc2, -⟩ := hc' k (by rw [HN.out]; exact hlt)
            rw [HAb.out] at hab'
            simp only [Option.some.injEq, Addr.mk.injEq, and_true] at hab'
            rw [← hab'.1, ← hab'.2, HNt.out] at hc2
            exact hc2
          by_cases hjl : j < l.length
          · obtain ⟨va2, vc2, e0, r3, -⟩ := rdS_owns HRw.out.1
            subst e0
            obtain ⟨bl, ol, hal, hblw, hcl⟩ := HRl.out.open (by omega)
            have hcl := hcl j hjl
            have hbl : wo.heap.size ≤ bl ∧ bl < w3.heap.size := HL3.out bl (by rw [hal]; rfl)
            rw [← cell_same (w := w3) (w' := wr) (p := ⟨bl, ol + j, none⟩) (HSm.out bl hbl.1 hbl.2)] at hcl
            rw [hal]
            have HTk := hide (adds_take (l := out) hjl)
            have hal2 := adds_len out (l.take j)
            rw [List.length_take] at hal2
            generalize sAt l j = s at hcl HTk
            generalize adds out (l.take j) = o2 at HRw HTk hal2 r3 HSp
            have HAl := hide hal
            clear hal
            cases hh : hasS o2 s
            · rw [addS_no hh] at HTk
              have H4 := hide (HRw.out.alloc (.cells #[.string s] 9))
              have HSrc := hide (srcS wr s)
              have HZ4 := H4.out.2.size
              go_wp2_with fail
              refine (l6Has_any va2 o2.length vc2 o2 s _ rfl r3 (by omega)).mono ?_
              rintro e w5 ⟨rfl, rfl⟩
              rw [hh]
              clear HRw r3
              go_wp2_with (at_builtin; refine wpList_append_lies _ rfl (.tmp 43) (.tmp 48) 37 rfl w1.heap.size 9 i0 (.string ⟨#[]⟩) 1 16 Try.underlying37 hi hz0 hz1 hz2 rfl (by omega) (.slice va2 o2.length vc2) o2.length (valsS o2) rfl H4.out.1 ⟨w5.heap.size, 0, none⟩ 1 1 [.string s] ?hx rfl HSrc.out (oneS s) (by omega) (by unfold maxLen; omega) (by omega) HZ4 _ rfl ?_)
              case hx => simp [Act.eval]
              intro g5 c5 w6 ho5 hg5 hat5 hlt5
              have HF : Hid (RowS w1 (.slice (some ⟨g5, 0, none⟩) (o2.length + 1) c5) (adds out (l.take (j + 1))) w6) := by
                refine ⟨?_, H4.out.2.grown hg5 HZ4 (fun k hk => (H4.out.1.lt k hk).1)⟩
                rw [HTk.out, ← valsS_snoc, List.length_append]
                exact ho5
              have HSp2 : Hid (∀ q, (Value.slice (some ⟨g5, 0, none⟩) (o2.length + 1) c5).ownBlock = some q → q < wo.heap.size ∨ w3.heap.size ≤ q) := fun q hq => by
                simp only [Value.ownBlock, Option.some.injEq] at hq
                subst hq
                rcases hat5 with h | h
                · exact HSp.out _ h
                · have hz := (below_al w5 (.cells #[.string s] 9)).size
                  right; omega
              have hsz6 : w3.heap.size ≤ w6.heap.size := by have := hg5.size; simp at this; omega
              have HSm6 : Hid (∀ q, wo.heap.size ≤ q → q < w3.heap.size → w6.heap[q]? = w3.heap[q]?) := fun q h1 h2 => by
                rw [hg5.block q (by simp; omega) (fun e => by rcases HSp.out q e.symm with h | h <;> omega)]
                rw [← HSm.out q h1 h2]
                exact (below_al w5 _).block q (by omega)
              clear ho5 hg5 hat5 hlt5 HSrc H4 HZ4 HTk HSp HSm hsz
              go_wp2
              go_roundw
              case rel => exact ⟨j + 1, by omega, by go_num, HF.out, HSp2.out, hsz6, HSm6.out⟩
              case measure => simp [intOf]; omega
            · rw [addS_yes hh] at HTk
              go_wp2_with fail
              refine (l6Has_any va2 o2.length vc2 o2 s _ rfl r3 (by omega)).mono ?_
              rintro e w5 ⟨rfl, rfl⟩
              rw [hh]
              clear r3
              go_wp2
              go_roundw
              case rel => exact ⟨j + 1, by omega, by go_num, by rw [HTk.out]; exact HRw.out, HSp.out, hsz, HSm.out⟩
              case measure => simp [intOf]; omega
          · obtain rfl : j = l.length := by omega
            rw [HEl.out] at HRw
            go_wp2
            go_roundw
            case rel => exact ⟨k + 1, by omega, by go_num, by rw [HT.out]; exact HRw.out⟩
            case measure => simp [intOf]; omega
      · rw [if_pos rfl] at HT
        rw [HAb.out] at a2'
        by_cases h0 : 0 < l.length
        · go_wp2
          go_rounds 1
          go_roundw
          case rel => exact ⟨k + 1, by omega, by go_num, by rw [HT.out]; exact HRow3.out⟩
          case measure => simp [intOf]; omega
        · go_wp2
          go_rounds 1
          go_roundw
          case rel => exact ⟨k + 1, by omega, by go_num, by rw [HT.out]; exact HRow3.out⟩
          case measure => simp [intOf]; omega
    · obtain rfl : k = x.nP := by omega
      rw [HE.out] at HRow
      have HF := hide (HRow.out.from b0)
      clear HRow
      go_wp2
      go_ret
      exact ⟨⟨_, rfl, HF.out.1⟩, HF.out.2⟩
end Go.Proofs.Ytaflokfgbmlmaaa
/-
  The contracts of the laws' own helpers on patterns: toPat copies, szPat counts off, eqPat finds a pattern the same as itself.
-/
namespace Go.Proofs.Ytaflokfgbmlmaaa
open Go.RowKit
set_option linter.unusedVariables false

set_option maxRecDepth 100000 in
set_option maxHeartbeats 1600000 in
theorem toPat_any (kd : ByteArray) (a : Option Addr) (cap : Nat) (L : List A5) (nt : Bool) (w : World) (hr : RdArg w a L) (hn : L.length ≤ 1048576) :
    Calls Try.prog 23 #[.agg #[.string kd, .slice a L.length cap, .bool nt]] w fun e w' =>
      ∃ g, e = .returned (.agg #[.string kd, .slice (some ⟨g, 0, none⟩) L.length L.length, .bool nt]) ∧ w.heap.size ≤ g ∧ OwnArg w' g L.length L ∧ Below w.heap.size w w' := by
  go_enter Try.func23, Try.ntmps23
  go_wp2_with fail
  have b0 := below_al w (.cells #[.string kd, .slice a L.length cap, .bool nt] 44)
  have b1 := b0.alloc b0.size (.cells #[.string ⟨#[]⟩, .slice none 0 0, .bool false] 49)
  have b2 := b1.alloc b1.size (.cells #[.string kd, .slice none 0 0, .bool false] 49)
  have hP := box_old (box_old (boxk_new w #[.string kd, .slice a L.length cap, .bool nt] 44) (by simp) (.cells #[.string ⟨#[]⟩, .slice none 0 0, .bool false] 49)) (by simp; omega) (.cells #[.string kd, .slice none 0 0, .bool false] 49)
  have hR := box_old (boxk_new (w.alloc (.cells #[.string kd, .slice a L.length cap, .bool nt] 44)) #[.string ⟨#[]⟩, .slice none 0 0, .bool false] 49) (by simp) (.cells #[.string kd, .slice none 0 0, .bool false] 49)
  have hX := boxk_new ((w.alloc (.cells #[.string kd, .slice a L.length cap, .bool nt] 44)).alloc (.cells #[.string ⟨#[]⟩, .slice none 0 0, .bool false] 49)) #[.string kd, .slice none 0 0, .bool false] 49
  simp only [World.size_alloc] at hR hX
  refine (toArgS_at a cap L _ (hr.below b2) hn).mono ?_
  rintro e w1 ⟨rfl, ho, hb⟩
  have HP := hide (box_below hP hb (by simp; omega))
  have HR := hide (box_below hR hb (by simp))
  have HX := hide (box_below hX hb (by simp))
  have hB : Below w.heap.size w w1 := b2.trans (hb.mono b2.size)
  have hO : OwnArg w1 _ _ L := OwnK.of A5.len (by decide) ho
  clear ho hb hR hX hP b0 b1 b2
  simp only [World.size_alloc] at hO ⊢
  have p2 := boxk_cell HP.out 2 _ rfl
  have x0 := boxk_cell HX.out 0 _ rfl
  have x1 := boxk_cell HX.out 1 _ rfl
  have x2 := boxk_cell HX.out 2 _ rfl
  have xf1 := boxk_frozen HX.out 1
  have xf2 := boxk_frozen HX.out 2
  obtain ⟨r0, r1, r2, rf0, rf1, rf2⟩ := box_cell HR.out
  have HX2 := hide (boxk_set HX.out 1 (.slice (some ⟨w.heap.size + 1 + 1 + 1, 0, none⟩) L.length L.length))
  have HX3 := hide (boxk_set HX2.out.1 2 (.bool nt))
  have HR2 := hide (box_gr (box_gr HR.out HX2.out.2 (by omega)) HX3.out.2 (by omega))
  have HB2 := hide (below_set (below_set hB HX2.out.2 (by omega)) HX3.out.2 (by omega))
  have hz := hO.lt
  have HO2 := hide ((hO.grown HX2.out.2 (by omega)).grown HX3.out.2 (by omega))
  clear hO hB
  go_wp2
  refine box_post HR2.out (fun w4 h4 gr => ?_)
  clear x0 x1 x2 xf1 xf2 r0 r1 r2 rf0 rf1 rf2 p2
  obtain ⟨c0, c1, c2, -, -, -⟩ := box_cell h4
  exact bodyPost_ret (v := .agg #[.string kd, .slice (some ⟨w.heap.size + 1 + 1 + 1, 0, none⟩) L.length L.length, .bool nt]) (by simp [results, Try.results23, go_sem, c0, c1, c2]) rfl
    ⟨_, rfl, by omega, HO2.out.grown gr (by omega), below_set HB2.out gr (by omega)⟩

set_option maxRecDepth 100000 in
set_option maxHeartbeats 1600000 in
theorem szPat_any (kd : ByteArray) (a : Option Addr) (cap : Nat) (L : List A5) (nt : Bool) (left : Int) (w : World) (hkd : kd.size ≤ maxLen) (hr : RdArg w a L) (hs : ∀ x ∈ L, x.fits) (hm : L.length ≤ maxLen) (h0 : 0 ≤ left) (h1 : left ≤ 1048576) :
    Calls Try.prog 21 #[.agg #[.string kd, .slice a L.length cap, .bool nt], .int .i64 left] w fun e w' =>
      (∃ r, e = .returned (.int .i64 r) ∧ (r = -1 ∨ (0 ≤ r ∧ r + (kd.size : Int) + (L.length : Int) ≤ left ∧ ∀ x ∈ L, x.small))) ∧ Below w.heap.size w w' := by
  unfold maxLen at hkd
  by_cases h2 : left - (kd.size : Int) < 0
  · go_enter Try.func21, Try.ntmps21
    go_wp2
    go_ret
    exact ⟨⟨-1, rfl, .inl rfl⟩, by go_grown⟩
  · go_enter Try.func21, Try.ntmps21
    go_wp2_with fail
    have b0 := below_al w (.cells #[.string kd, .slice a L.length cap, .bool nt] 44)
    refine (szArgS_any a cap L (left - kd.size) _ (hr.below b0) hs hm (by omega) (by omega)).mono ?_
    rintro e w1 ⟨⟨r, rfl, hr1⟩, hb1⟩
    have hB1 : Below w.heap.size w w1 := b0.trans (hb1.mono b0.size)
    clear hb1
    rcases hr1 with rfl | ⟨hr2, hr3, hsm⟩
    · go_wp2
      go_ret
      exact ⟨⟨-1, rfl, .inl rfl⟩, hB1⟩
    · have HSm := hide hsm
      clear hsm
      go_wp2
      go_ret
      exact ⟨⟨r, rfl, .inr ⟨hr2, by omega, HSm.out⟩⟩, hB1⟩

set_option maxRecDepth 100000 in
set_option maxHeartbeats 1600000 in
theorem eqPat_same (kd : ByteArray) (a b : Option Addr) (ca cb : Nat) (L : List A5) (nt : Bool) (w : World) (hr : RdArg w a L) (hq : RdArg w b L) (hn : L.length ≤ 1048580) :
    Calls Try.prog 25 #[.agg #[.string kd, .slice a L.length ca, .bool nt], .agg #[.string kd, .slice b L.length cb, .bool nt]] w fun e w' =>
      e = .returned (.bool true) ∧ Below w.heap.size w w' := by
  have k1 : (kd.toList == kd.toList) = true := by simp
  have k2 : (nt != nt) = false := by simp
  go_enter Try.func25, Try.ntmps25
  go_wp2_with fail
  have b0 := below_al w (.cells #[.string kd, .slice a L.length ca, .bool nt] 49)
  have b1 := b0.alloc b0.size (.cells #[.string kd, .slice b L.length cb, .bool nt] 49)
  have hP := box_old (boxk_new w #[.string kd, .slice a L.length ca, .bool nt] 49) (by simp) (.cells #[.string kd, .slice b L.length cb, .bool nt] 49)
  have hQ := boxk_new (w.alloc (.cells #[.string kd, .slice a L.length ca, .bool nt] 49)) #[.string kd, .slice b L.length cb, .bool nt] 49
  simp only [World.size_alloc] at hQ
  refine (eqArgS_same a b ca cb L _ (hr.below b1) (hq.below b1) (by omega)).mono ?_
  rintro e w1 ⟨rfl, hb⟩
  have hB : Below w.heap.size w w1 := b1.trans (hb.mono b1.size)
  have p2 := boxk_cell (box_below hP hb (by simp; omega)) 2 _ rfl
  have q2 := boxk_cell (box_below hQ hb (by simp)) 2 _ rfl
  clear hP hQ hb
  go_wp2
  go_ret
  exact ⟨rfl, hB⟩
end Go.Proofs.Ytaflokfgbmlmaaa
/-
  The contracts of the laws' own helpers on rows of Pats: sz counts off, to copies, eq finds a row the same as its like.
-/
namespace Go.Proofs.Ytaflokfgbmlmaaa
open Go.RowKit
set_option linter.unusedVariables false

theorem Try.info49D : (Try.prog.info? 49).map (fun i => (i.zero, i.size, i.bytes)) = some (some (.agg #[.string ⟨#[]⟩, .slice none 0 0, .bool false]), 3, 48) := by kernel_rfl

set_option maxRecDepth 100000 in
set_option maxHeartbeats 1600000 in
theorem szPatS_any (a : Option Addr) (cap : Nat) (J : List PE) (left : Int) (w : World) (hr : RdPatS w a J) (hs : ∀ x ∈ J, x.ok) (hm : J.length ≤ maxLen) (h0 : 0 ≤ left) (h1 : left ≤ 1048576) :
    Calls Try.prog 29 #[.slice a J.length cap, .int .i64 left] w fun e w' =>
      (∃ r, e = .returned (.int .i64 r) ∧ (r = -1 ∨ (0 ≤ r ∧ r + ((J.length + (J.map PE.sz).sum : Nat) : Int) ≤ left ∧ ∀ x ∈ J, x.small))) ∧ Below w.heap.size w w' := by
  unfold maxLen at hm
  obtain ⟨n, hN⟩ : ∃ n, n = J.length := ⟨_, rfl⟩
  rw [← hN] at hm ⊢
  have HN := hide hN
  have HS := hide hs
  clear hN hs
  by_cases h2 : left - (n : Int) < 0
  · go_enter Try.func29, Try.ntmps29
    go_wp2
    go_ret
    exact ⟨⟨-1, rfl, .inl rfl⟩, Below.refl _ _⟩
  · go_enter Try.func29, Try.ntmps29
    go_wp2
    go_loopw [1, 5] (fun l i wr => ∃ (k : Nat) (lf : Int), k ≤ n ∧ i = .int .i64 k ∧ l = .int .i64 lf ∧ 0 ≤ lf ∧ lf + (totW PE.sz J k : Int) ≤ left - n ∧ (∀ j, j < k → (eAt J j).small) ∧ Below w.heap.size w wr) (fun _ i _ => n - (intOf i).toNat)
    case atStart => exact ⟨0, left - n, Nat.zero_le _, rfl, rfl, by omega, by rw [totW_zero]; simp, fun j hj => absurd hj (Nat.not_lt_zero _), Below.refl _ _⟩
    case round =>
      obtain ⟨k, lf, hk, rfl, rfl, hlf, hsum, hsm, hbel⟩ := hrel
      have HSm := hide hsm
      clear hsm
      by_cases hlt : k < n
      · obtain ⟨b, off, hab, hbw, hc⟩ := hr.cells (by rw [← HN.out]; omega)
        obtain ⟨c0, c1, c2, hv⟩ := hc k (by rw [← HN.out]; exact hlt)
        have HV := hide (hv.below (hbel.mono (Nat.le_refl _)))
        clear hc hv
        subst hab
        rw [← hbel.cell (p := ⟨b, off + k * 3, none⟩) hbw] at c0
        rw [← hbel.cell (p := ⟨b, off + k * 3 + 1, none⟩) hbw] at c1
        rw [← hbel.cell (p := ⟨b, off + k * 3 + 2, none⟩) hbw] at c2
        have HK : Hid ((eAt J k).ok) := by unfold Hid; rw [eAt_in (by rw [← HN.out]; exact hlt)]; exact HS.out _ (List.getElem_mem _)
        have hst := totW_step (wt := PE.sz) (K := J) (j := k) (by rw [← HN.out]; exact hlt)
        have HSx : Hid ((eAt J k).small → ∀ j, j < k + 1 → (eAt J j).small) := fun hx j hj => by
          by_cases hjk : j = k
          · rw [hjk]; exact hx
          · exact HSm.out j (by omega)
        generalize eAt J k = x at c0 c1 c2 HV HK hst HSx
        obtain ⟨x0, va, vc, L, x2⟩ := x
        rw [show PE.sz ⟨x0, va, vc, L, x2⟩ = x0.size + L.length from rfl] at hst
        simp only at c0 c1 c2 HV HK HSx
        unfold PE.ok at HK
        go_wp2_with fail
        refine (szPat_any x0 va vc L x2 lf _ HK.out.1 HV.out HK.out.2.2 HK.out.2.1 hlf (by omega)).mono ?_
        rintro e w2 ⟨⟨r, rfl, hr1⟩, hb2⟩
        have hbel2 : Below w.heap.size w w2 := hbel.trans (hb2.mono hbel.size)
        clear hb2 c0 c1 c2 hbel
        rcases hr1 with rfl | ⟨hr2, hr3, hr4⟩
        · go_wp2
          go_ret
          exact ⟨⟨-1, rfl, .inl rfl⟩, hbel2⟩
        · have HR : Hid (r + (totW PE.sz J (k + 1) : Int) ≤ left - n) := by unfold Hid; rw [hst]; omega
          have HY := hide (HSx.out ⟨by show x0.size ≤ 1048576; omega, by show L.length ≤ 1048576; omega, hr4⟩)
          have h3 : ¬ (r < 0) := by omega
          clear hr3 hr4 hst hsum HSx
          go_wp2
          go_roundw
          case rel => exact ⟨k + 1, r, by omega, by go_num, rfl, hr2, HR.out, HY.out, hbel2⟩
          case measure => simp [intOf]; omega
      · have HK : Hid (lf + ((n + (J.map PE.sz).sum : Nat) : Int) ≤ left) := by
          unfold Hid
          have hkn : k = J.length := by rw [← HN.out]; omega
          rw [hkn, totW_end] at hsum
          omega
        have HAll : Hid (∀ x ∈ J, x.small) := fun x hx => by
          obtain ⟨j, hj, rfl⟩ := List.getElem_of_mem hx
          rw [← eAt_in hj]
          exact HSm.out j (by rw [← HN.out] at hj; omega)
        clear hsum
        go_wp2
        go_ret
        exact ⟨⟨lf, rfl, .inr ⟨hlf, HK.out, HAll.out⟩⟩, hbel⟩

set_option maxRecDepth 100000 in
set_option maxHeartbeats 3200000 in
theorem toPatS_any (a : Option Addr) (cap : Nat) (J : List PE) (w : World) (hr : RdPatS w a J) (hn : J.length ≤ 1048576) (hl : ∀ x ∈ J, x.L.length ≤ 1048576) :
    Calls Try.prog 32 #[.slice a J.length cap] w fun e w' =>
      ∃ K g, e = .returned (.slice (some ⟨g, 0, none⟩) J.length J.length) ∧ OwnPatS w' w.heap.size w'.heap.size g J.length K K.length ∧ K.map PE.pl = J.map PE.pl ∧ Below w.heap.size w w' := by
  obtain ⟨i0, hi, hz0, hz1, hz2⟩ := info_parts Try.info49D
  obtain ⟨n, hN⟩ : ∃ n, n = J.length := ⟨_, rfl⟩
  rw [← hN] at hn ⊢
  have HN := hide hN
  have HL := hide hl
  clear hN hl
  go_enter Try.func32, Try.ntmps32
  go_wp2_with (at_make; refine wpList_make_full _ rfl _ _ 29 rfl w.heap.size 49 i0 (.agg #[.string ⟨#[]⟩, .slice none 0 0, .bool false]) 3 Try.underlying29 hi hz0 hz1 _ _ _ _ n rfl rfl (by omega) (by omega) ?b2 ?b3 (Nat.le_refl _) ?_)
  case b2 => rw [hz2]; omega
  case b3 => unfold maxLen; omega
  intro w0 hown0 hgrow0
  have hmd : (madeCells #[.string ⟨#[]⟩, .slice none 0 0, .bool false] (n * 3)).toList = rowOf PE.cs (List.replicate n PE.zero) := rowOf_made (x := PE.zero) (cs := #[.string ⟨#[]⟩, .slice none 0 0, .bool false]) rfl (by decide) n
  rw [hmd] at hown0
  clear hmd
  have hs0 : w.heap.size < w0.heap.size := (hown0.lt w.heap.size rfl).2
  have hb0 : Below w.heap.size w w0 := (Below.refl _ _).grown hgrow0 (Nat.le_refl _) (fun k h => by cases h)
  have hO0 : OwnPatS w0 w.heap.size w0.heap.size w.heap.size n (List.replicate n PE.zero) 0 := OwnD.zero (OwnK.of PE.len (by decide) hown0) (Nat.le_refl _) (Nat.le_refl _) hs0
  clear hown0 hgrow0
  go_wp2
  go_loopw [4] (fun i wr => ∃ (k : Nat) (K : List PE), k ≤ n ∧ i = .int .i64 k ∧ K.length = n ∧ OwnPatS wr w.heap.size wr.heap.size w.heap.size n K k ∧ (∀ i, i < k → (eAt K i).pl = (eAt J i).pl) ∧ Below w.heap.size w wr)
    (fun i _ => n - (intOf i).toNat)
  case atStart => exact ⟨0, List.replicate n PE.zero, Nat.zero_le _, rfl, by simp, hO0, fun i hi => absurd hi (Nat.not_lt_zero _), hb0⟩
  case round =>
    clear hO0 hb0 hs0
    obtain ⟨k, K, hk, rfl, hKn, hO, hpl, hbel⟩ := hrel
    have HKn := hide hKn
    have HPl := hide hpl
    have HO := hide hO
    clear hKn hpl hO
    by_cases hlt : k < n
    · obtain ⟨b, off, hab, hbw, hc⟩ := hr.cells (by rw [← HN.out]; omega)
      obtain ⟨c0, c1, c2, hv⟩ := hc k (by rw [← HN.out]; exact hlt)
      have HV := hide (hv.below hbel)
      clear hc hv
      subst hab
      rw [← hbel.cell (p := ⟨b, off + k * 3, none⟩) hbw] at c0
      rw [← hbel.cell (p := ⟨b, off + k * 3 + 1, none⟩) hbw] at c1
      rw [← hbel.cell (p := ⟨b, off + k * 3 + 2, none⟩) hbw] at c2
      have HK : Hid ((eAt J k).L.length ≤ 1048576) := by unfold Hid; rw [eAt_in (by rw [← HN.out]; exact hlt)]; exact HL.out _ (List.getElem_mem _)
      obtain ⟨x, hx⟩ : ∃ x, x = eAt J k := ⟨_, rfl⟩
      rw [← hx] at c0 c1 c2 HV HK
      have HX := hide hx
      clear hx
      obtain ⟨x0, va, vc, L, x2⟩ := x
      simp only at c0 c1 c2 HV HK
      go_wp2_with fail
      refine (toPat_any x0 va vc L x2 _ HV.out HK.out).mono ?_
      rintro e w2 ⟨g, rfl, hg, o, hb2⟩
      have hown2 : w2.ownsRow 0 49 3 (.slice (some ⟨w.heap.size, 0, none⟩) n n) n (rowOf PE.cs K) := by
        have := ownsRow_below' HO.out.own hb2
        rw [HKn.out] at this; exact this
      have hbel2 : Below w.heap.size w w2 := hbel.trans (hb2.mono hbel.size)
      have hlen : (rowOf PE.cs K).length = n * 3 := by rw [rowOf_length PE.len, HKn.out]
      have hmem : ∀ j, j < 3 → ∃ u, w2.cell? ⟨w.heap.size, k * 3 + j, none⟩ = some u := fun j hj => by
        rw [hown2.cellAt (k * 3 + j) (by omega), List.getElem?_eq_getElem (by omega)]
        exact ⟨_, rfl⟩
      obtain ⟨u0, m0⟩ := hmem 0 (by omega)
      obtain ⟨u1, m1⟩ := hmem 1 (by omega)
      obtain ⟨u2, m2⟩ := hmem 2 (by omega)
      rw [Nat.add_zero] at m0
      have f0 := hown2.frozenAt (k * 3)
      have f1 := hown2.frozenAt (k * 3 + 1)
      have f2 := hown2.frozenAt (k * 3 + 2)
      have s0 := hown2.stored (k * 3) (.string x0)
      have s1 := s0.1.stored (k * 3 + 1) (.slice (some ⟨g, 0, none⟩) L.length L.length)
      have s2 := s1.1.stored (k * 3 + 2) (.bool x2)
      have hset := rowOf_set_PE ⟨x0, some ⟨g, 0, none⟩, L.length, L, x2⟩ K k (by rw [HKn.out]; exact hlt)
      have hgr := (grown_tt (grown_tt s0.2 s1.2) s2.2)
      have hown3 := s2.1
      simp only at hset
      rw [hset] at hown3
      have hO3 : OwnK 49 PE.cs 3 (((w2.setCell ⟨w.heap.size, k * 3, none⟩ (.string x0)).setCell ⟨w.heap.size, k * 3 + 1, none⟩ (.slice (some ⟨g, 0, none⟩) L.length L.length)).setCell ⟨w.heap.size, k * 3 + 2, none⟩ (.bool x2)) w.heap.size n (K.set k ⟨x0, some ⟨g, 0, none⟩, L.length, L, x2⟩) := OwnK.of PE.len (by decide) hown3
      have HC := hide (HO.out.step innPat (by rw [HKn.out]; exact hlt) hb2 (x := ⟨x0, some ⟨g, 0, none⟩, L.length, L, x2⟩) ⟨g, rfl, hg, o.lt, o⟩ hgr hO3)
      have HB := hide (below_set hbel2 hgr (Nat.le_refl _))
      have hsz3 : w2.heap.size ≤ (((w2.setCell ⟨w.heap.size, k * 3, none⟩ (.string x0)).setCell ⟨w.heap.size, k * 3 + 1, none⟩ (.slice (some ⟨g, 0, none⟩) L.length L.length)).setCell ⟨w.heap.size, k * 3 + 2, none⟩ (.bool x2)).heap.size := hgr.size
      have HLen : Hid ((K.set k ⟨x0, some ⟨g, 0, none⟩, L.length, L, x2⟩).length = n) := by unfold Hid; rw [List.length_set, HKn.out]
      have HPl2 : Hid (∀ i, i < k + 1 → (eAt (K.set k ⟨x0, some ⟨g, 0, none⟩, L.length, L, x2⟩) i).pl = (eAt J i).pl) := fun i hi => by
        rw [eAt_set (by rw [HKn.out]; exact hlt)]
        by_cases e : i = k
        · rw [if_pos e, e, ← HX.out]; rfl
        · rw [if_neg e]; exact HPl.out i (by omega)
      have HW := hide (HC.out.weaken (Nat.le_refl _) hsz3 (Nat.le_refl _))
      clear hmem hlen c0 c1 c2 hbel hb2 s0 s1 s2 hset hown2 hbel2 o HV HK HPl HO hO3 hown3 hgr HC hsz3
      go_wp2
      go_roundw
      case rel => exact ⟨k + 1, _, by omega, by go_num, HLen.out, HW.out, HPl2.out, HB.out⟩
      case measure => simp [intOf]; omega
    · have hkn : k = K.length := by rw [HKn.out]; omega
      have HR : Hid (OwnPatS wr w.heap.size wr.heap.size w.heap.size n K K.length ∧ K.map PE.pl = J.map PE.pl) :=
        ⟨hkn ▸ HO.out, map_ext (by rw [HKn.out, HN.out]) (fun i hi => HPl.out i (by rw [hkn]; exact hi))⟩
      clear hkn
      go_wp2
      go_ret
      exact ⟨K, _, rfl, HR.out.1, HR.out.2, hbel⟩

/-- cells in memory, two lists, and all that was there at the head -/
theorem keepPat {w0 W w' : World} {p0 p1 p2 p3 p4 p5 : Addr} {v0 v1 v2 v3 v4 v5 : Value} {a b : Option Addr} {L : List A5} (hb : Below W.heap.size W w')
    (h : W.cell? p0 = some v0 ∧ W.cell? p1 = some v1 ∧ W.cell? p2 = some v2 ∧ W.cell? p3 = some v3 ∧ W.cell? p4 = some v4 ∧ W.cell? p5 = some v5 ∧ (RdArg W a L ∧ RdArg W b L ∧ Below w0.heap.size w0 W ∧ w0.heap.size ≤ W.heap.size)) :
    w'.cell? p0 = some v0 ∧ w'.cell? p1 = some v1 ∧ w'.cell? p2 = some v2 ∧ w'.cell? p3 = some v3 ∧ w'.cell? p4 = some v4 ∧ w'.cell? p5 = some v5 ∧ (RdArg w' a L ∧ RdArg w' b L ∧ Below w0.heap.size w0 w' ∧ w0.heap.size ≤ w'.heap.size) := by
  obtain ⟨g0, g1, g2, g3, g4, g5, q1, q2, q3, q4⟩ := h
  have k : ∀ {a : Addr} {v : Value}, W.cell? a = some v → w'.cell? a = some v := fun {a v} h => by rw [hb.cell (World.block_lt_of_cell? W _ h)]; exact h
  exact ⟨k g0, k g1, k g2, k g3, k g4, k g5, q1.below hb, q2.below hb, q3.trans (hb.mono q4), Nat.le_trans q4 hb.size⟩

set_option maxRecDepth 100000 in
set_option maxHeartbeats 3200000 in
theorem eqPatS_same (a b : Option Addr) (ca cb n : Nat) (J K : List PE) (w : World) (hr : RdPatS w a J) (hq : RdPatS w b K) (hJ : J.length = n) (hpl : J.map PE.pl = K.map PE.pl) (hm : n ≤ 1048580) (hl : ∀ x ∈ J, x.L.length ≤ 1048576) :
    Calls Try.prog 37 #[.slice a n ca, .slice b n cb] w fun e w' =>
      e = .returned (.bool true) ∧ Below w.heap.size w w' := by
  have HJ := hide hJ
  have HK : Hid (K.length = n) := by unfold Hid; rw [← hJ, map_len hpl]
  have HP := hide hpl
  have HL := hide hl
  clear hJ hpl hl
  have hnn : ((n : Int) != (n : Int)) = false := by simp
  go_enter Try.func37, Try.ntmps37
  go_wp2
  go_loopw [5] (fun i wr => ∃ (k : Nat), k ≤ n ∧ i = .int .i64 k ∧ Below w.heap.size w wr) (fun i _ => n - (intOf i).toNat)
  case atStart => exact ⟨0, Nat.zero_le _, rfl, Below.refl _ _⟩
  case round =>
    obtain ⟨k, hk, rfl, hbel⟩ := hrel
    by_cases hlt : k < n
    · obtain ⟨b1, o1, e1, hbw1, hc1⟩ := hr.cells (by rw [HJ.out]; omega)
      obtain ⟨b2, o2, e2, hbw2, hc2⟩ := hq.cells (by rw [HK.out]; omega)
      obtain ⟨c0, c1, c2, hv1⟩ := hc1 k (by rw [HJ.out]; exact hlt)
      obtain ⟨d0, d1, d2, hv2⟩ := hc2 k (by rw [HK.out]; exact hlt)
      have HP1 := PE.pl_inj (map_at HP.out (i := k) (by rw [HJ.out]; exact hlt))
      have HLk : Hid ((eAt J k).L.length ≤ 1048576) := by unfold Hid; rw [eAt_in (by rw [HJ.out]; exact hlt)]; exact HL.out _ (List.getElem_mem _)
      replace hv1 := hv1.below hbel
      replace hv2 := hv2.below hbel
      clear hc1 hc2
      subst e1 e2
      rw [← hbel.cell (p := ⟨b1, o1 + k * 3, none⟩) hbw1] at c0
      rw [← hbel.cell (p := ⟨b1, o1 + k * 3 + 1, none⟩) hbw1] at c1
      rw [← hbel.cell (p := ⟨b1, o1 + k * 3 + 2, none⟩) hbw1] at c2
      rw [← hbel.cell (p := ⟨b2, o2 + k * 3, none⟩) hbw2] at d0
      rw [← hbel.cell (p := ⟨b2, o2 + k * 3 + 1, none⟩) hbw2] at d1
      rw [← hbel.cell (p := ⟨b2, o2 + k * 3 + 2, none⟩) hbw2] at d2
      generalize eAt J k = x at c0 c1 c2 hv1 HP1 HLk
      generalize eAt K k = y at d0 d1 d2 hv2 HP1
      obtain ⟨x0, va, vc, L, x2⟩ := x
      obtain ⟨y0, vb, wc, M, y2⟩ := y
      simp only at c0 c1 c2 hv1 d0 d1 d2 hv2 HP1 HLk
      obtain ⟨rfl, rfl, rfl⟩ := HP1
      have T0 : RdArg wr va L ∧ RdArg wr vb L ∧ Below w.heap.size w wr ∧ w.heap.size ≤ wr.heap.size := ⟨hv1, hv2, hbel, hbel.size⟩
      have T1 : RdArg wr.drew va L := T0.1.heap rfl
      have T2 : RdArg wr.drew vb L := T0.2.1.heap rfl
      clear hv1 hv2 hbel
      go_wp2_with fail
      go_region_held3 (fun W => W.cell? ⟨b1, o1 + k * 3, none⟩ = some (.string x0) ∧ W.cell? ⟨b1, o1 + k * 3 + 1, none⟩ = some (.slice va L.length vc) ∧ W.cell? ⟨b1, o1 + k * 3 + 2, none⟩ = some (.bool x2) ∧ W.cell? ⟨b2, o2 + k * 3, none⟩ = some (.string x0) ∧ W.cell? ⟨b2, o2 + k * 3 + 1, none⟩ = some (.slice vb L.length wc) ∧ W.cell? ⟨b2, o2 + k * 3 + 2, none⟩ = some (.bool x2) ∧ (RdArg W va L ∧ RdArg W vb L ∧ Below w.heap.size w W ∧ w.heap.size ≤ W.heap.size)) (first | exact ⟨c0, c1, c2, d0, d1, d2, T0.1.heap rfl, T0.2.1.heap rfl, T0.2.2.1.drew, T0.2.2.2⟩ | exact keepPat (by assumption) (by assumption))
        (first | (go_at_call 25; refine (eqPat_same _ _ _ _ _ _ _ _ T1 T2 (by have := HLk.out; omega)).mono ?_; rintro e w2 ⟨rfl, hb⟩))
      all_goals
        obtain ⟨-, -, -, -, -, -, -, -, hB2, -⟩ : w2.cell? ⟨b1, o1 + k * 3, none⟩ = some (.string x0) ∧ w2.cell? ⟨b1, o1 + k * 3 + 1, none⟩ = some (.slice va L.length vc) ∧ w2.cell? ⟨b1, o1 + k * 3 + 2, none⟩ = some (.bool x2) ∧ w2.cell? ⟨b2, o2 + k * 3, none⟩ = some (.string x0) ∧ w2.cell? ⟨b2, o2 + k * 3 + 1, none⟩ = some (.slice vb L.length wc) ∧ w2.cell? ⟨b2, o2 + k * 3 + 2, none⟩ = some (.bool x2) ∧ (RdArg w2 va L ∧ RdArg w2 vb L ∧ Below w.heap.size w w2 ∧ w.heap.size ≤ w2.heap.size) := by assumption
        go_wp2
        go_roundw
        case rel => exact ⟨k + 1, by omega, by go_num, hB2⟩
        case measure => simp [intOf]; omega
    · go_wp2
      go_ret
      exact ⟨rfl, hbel⟩
end Go.Proofs.Ytaflokfgbmlmaaa
/-
  The contracts of the laws' own helpers on Exprs: to copies, sz counts off, eq finds one the same as itself.
-/
namespace Go.Proofs.Ytaflokfgbmlmaaa
open Go.RowKit
set_option linter.unusedVariables false

theorem Try.info121 : (Try.prog.info? 121).map (fun i => (i.zero, i.size, i.bytes)) = some (some (.agg #[.string ⟨#[]⟩, .int .i64 0, .string ⟨#[]⟩, .int .i64 0, .int .i64 0, .string ⟨#[]⟩, .int .i64 0, .string ⟨#[]⟩, .int .i64 0, .int .i64 0, .string ⟨#[]⟩]), 11, 128) := by kernel_rfl

set_option maxRecDepth 100000 in
set_option maxHeartbeats 3200000 in
theorem toExpr_any (Op : ByteArray) (LK : Int) (LS : ByteArray) (LVK : Int) (LVN : Int) (LVS : ByteArray) (RK : Int) (RS : ByteArray) (RVK : Int) (RVN : Int) (RVS : ByteArray) (w : World) :
    Calls Try.prog 93 #[.agg #[.string Op, .int .i64 LK, .string LS, .int .i64 LVK, .int .i64 LVN, .string LVS, .int .i64 RK, .string RS, .int .i64 RVK, .int .i64 RVN, .string RVS]] w fun e w' => e = .returned (.agg #[.string Op, .int .i64 LK, .string LS, .int .i64 LVK, .int .i64 LVN, .string LVS, .int .i64 RK, .string RS, .int .i64 RVK, .int .i64 RVN, .string RVS]) ∧ Below w.heap.size w w' := by
  go_enter Try.func93, Try.ntmps93
  go_wp2_with fail
  obtain ⟨hA, hR, hX, b2⟩ := boxes3 w #[.string Op, .int .i64 LK, .string LS, .int .i64 LVK, .int .i64 LVN, .string LVS, .int .i64 RK, .string RS, .int .i64 RVK, .int .i64 RVN, .string RVS] #[.string ⟨#[]⟩, .int .i64 0, .string ⟨#[]⟩, .int .i64 0, .int .i64 0, .string ⟨#[]⟩, .int .i64 0, .string ⟨#[]⟩, .int .i64 0, .int .i64 0, .string ⟨#[]⟩] #[.string Op, .int .i64 0, .string ⟨#[]⟩, .int .i64 0, .int .i64 0, .string ⟨#[]⟩, .int .i64 0, .string ⟨#[]⟩, .int .i64 0, .int .i64 0, .string ⟨#[]⟩] 132 121 121
  refine (toArg_any LK LS LVK LVN LVS _).mono ?_
  rintro e w1 ⟨rfl, hb⟩
  have HA := hide (box_below hA hb (by simp; omega))
  have HR := hide (box_below hR hb (by simp))
  have HX := hide (box_below hX hb (by simp))
  have hB : Below w.heap.size w w1 := b2.trans (hb.mono b2.size)
  clear hb hR hX hA b2
  have x0 := boxk_cell HX.out 0 _ rfl
  have xf0 := boxk_frozen HX.out 0
  have x1 := boxk_cell HX.out 1 _ rfl
  have xf1 := boxk_frozen HX.out 1
  have x2 := boxk_cell HX.out 2 _ rfl
  have xf2 := boxk_frozen HX.out 2
  have x3 := boxk_cell HX.out 3 _ rfl
  have xf3 := boxk_frozen HX.out 3
  have x4 := boxk_cell HX.out 4 _ rfl
  have xf4 := boxk_frozen HX.out 4
  have x5 := boxk_cell HX.out 5 _ rfl
  have xf5 := boxk_frozen HX.out 5
  have x6 := boxk_cell HX.out 6 _ rfl
  have xf6 := boxk_frozen HX.out 6
  have x7 := boxk_cell HX.out 7 _ rfl
  have xf7 := boxk_frozen HX.out 7
  have x8 := boxk_cell HX.out 8 _ rfl
  have xf8 := boxk_frozen HX.out 8
  have x9 := boxk_cell HX.out 9 _ rfl
  have xf9 := boxk_frozen HX.out 9
  have x10 := boxk_cell HX.out 10 _ rfl
  have xf10 := boxk_frozen HX.out 10
  have a6 := boxk_cell HA.out 6 _ rfl
  have a7 := boxk_cell HA.out 7 _ rfl
  have a8 := boxk_cell HA.out 8 _ rfl
  have a9 := boxk_cell HA.out 9 _ rfl
  have a10 := boxk_cell HA.out 10 _ rfl
  have HL := hide (box11_setL HX.out (.int .i64 LK) (.string LS) (.int .i64 LVK) (.int .i64 LVN) (.string LVS))
  have HRs := hide (box_gr HR.out HL.out.2 (by omega))
  have HBs := hide (below_set hB HL.out.2 (by omega))
  have HXs := hide HL.out.1
  go_wp2_with fail
  refine (toArg_any RK RS RVK RVN RVS _).mono ?_
  clear x0 xf0 x1 xf1 x2 xf2 x3 xf3 x4 xf4 x5 xf5 x6 xf6 x7 xf7 x8 xf8 x9 xf9 x10 xf10 a6 a7 a8 a9 a10 HX HR HA hB HL
  generalize (((((w1.setCell ⟨w.heap.size + 1 + 1, 1, none⟩ (.int .i64 LK)).setCell ⟨w.heap.size + 1 + 1, 2, none⟩ (.string LS)).setCell ⟨w.heap.size + 1 + 1, 3, none⟩ (.int .i64 LVK)).setCell ⟨w.heap.size + 1 + 1, 4, none⟩ (.int .i64 LVN)).setCell ⟨w.heap.size + 1 + 1, 5, none⟩ (.string LVS)) = w2 at HRs HBs HXs
  rintro e w3 ⟨rfl, hb⟩
  have HR3 := hide (box_step HRs.out hb)
  have HX3 := hide (box_step HXs.out hb)
  have hB3 : Below w.heap.size w w3 := HBs.out.trans (hb.mono HBs.out.size)
  clear hb HRs HBs HXs
  have x0 := boxk_cell HX3.out 0 _ rfl
  have xf0 := boxk_frozen HX3.out 0
  have x1 := boxk_cell HX3.out 1 _ rfl
  have xf1 := boxk_frozen HX3.out 1
  have x2 := boxk_cell HX3.out 2 _ rfl
  have xf2 := boxk_frozen HX3.out 2
  have x3 := boxk_cell HX3.out 3 _ rfl
  have xf3 := boxk_frozen HX3.out 3
  have x4 := boxk_cell HX3.out 4 _ rfl
  have xf4 := boxk_frozen HX3.out 4
  have x5 := boxk_cell HX3.out 5 _ rfl
  have xf5 := boxk_frozen HX3.out 5
  have x6 := boxk_cell HX3.out 6 _ rfl
  have xf6 := boxk_frozen HX3.out 6
  have x7 := boxk_cell HX3.out 7 _ rfl
  have xf7 := boxk_frozen HX3.out 7
  have x8 := boxk_cell HX3.out 8 _ rfl
  have xf8 := boxk_frozen HX3.out 8
  have x9 := boxk_cell HX3.out 9 _ rfl
  have xf9 := boxk_frozen HX3.out 9
  have x10 := boxk_cell HX3.out 10 _ rfl
  have xf10 := boxk_frozen HX3.out 10
  have HX6 := hide (box11_setR HX3.out (.int .i64 RK) (.string RS) (.int .i64 RVK) (.int .i64 RVN) (.string RVS))
  have HR4 := hide (box_gr HR3.out HX6.out.2 (by omega))
  have HB4 := hide (below_set hB3 HX6.out.2 (by omega))
  have HX7 := hide HX6.out.1
  go_upto_region 5 with fail
  clear x0 xf0 x1 xf1 x2 xf2 x3 xf3 x4 xf4 x5 xf5 x6 xf6 x7 xf7 x8 xf8 x9 xf9 x10 xf10 HX6 HX3 HR3 hB3
  generalize (((((w3.setCell ⟨w.heap.size + 1 + 1, 6, none⟩ (.int .i64 RK)).setCell ⟨w.heap.size + 1 + 1, 7, none⟩ (.string RS)).setCell ⟨w.heap.size + 1 + 1, 8, none⟩ (.int .i64 RVK)).setCell ⟨w.heap.size + 1 + 1, 9, none⟩ (.int .i64 RVN)).setCell ⟨w.heap.size + 1 + 1, 10, none⟩ (.string RVS)) = w5 at HR4 HB4 HX7
  have x0 := boxk_cell HX7.out 0 _ rfl
  have r0 := boxk_cell HR4.out 0 _ rfl
  have rf0 := boxk_frozen HR4.out 0
  have x1 := boxk_cell HX7.out 1 _ rfl
  have r1 := boxk_cell HR4.out 1 _ rfl
  have rf1 := boxk_frozen HR4.out 1
  have x2 := boxk_cell HX7.out 2 _ rfl
  have r2 := boxk_cell HR4.out 2 _ rfl
  have rf2 := boxk_frozen HR4.out 2
  have x3 := boxk_cell HX7.out 3 _ rfl
  have r3 := boxk_cell HR4.out 3 _ rfl
  have rf3 := boxk_frozen HR4.out 3
  have x4 := boxk_cell HX7.out 4 _ rfl
  have r4 := boxk_cell HR4.out 4 _ rfl
  have rf4 := boxk_frozen HR4.out 4
  have x5 := boxk_cell HX7.out 5 _ rfl
  have r5 := boxk_cell HR4.out 5 _ rfl
  have rf5 := boxk_frozen HR4.out 5
  have x6 := boxk_cell HX7.out 6 _ rfl
  have r6 := boxk_cell HR4.out 6 _ rfl
  have rf6 := boxk_frozen HR4.out 6
  have x7 := boxk_cell HX7.out 7 _ rfl
  have r7 := boxk_cell HR4.out 7 _ rfl
  have rf7 := boxk_frozen HR4.out 7
  have x8 := boxk_cell HX7.out 8 _ rfl
  have r8 := boxk_cell HR4.out 8 _ rfl
  have rf8 := boxk_frozen HR4.out 8
  have x9 := boxk_cell HX7.out 9 _ rfl
  have r9 := boxk_cell HR4.out 9 _ rfl
  have rf9 := boxk_frozen HR4.out 9
  have x10 := boxk_cell HX7.out 10 _ rfl
  have r10 := boxk_cell HR4.out 10 _ rfl
  have rf10 := boxk_frozen HR4.out 10
  go_wp2
  refine box11_post HR4.out (fun w4 h4 gr => ?_)
  clear x0 r0 rf0 x1 r1 rf1 x2 r2 rf2 x3 r3 rf3 x4 r4 rf4 x5 r5 rf5 x6 r6 rf6 x7 r7 rf7 x8 r8 rf8 x9 r9 rf9 x10 r10 rf10
  have c0 := boxk_cell h4 0 _ rfl
  have c1 := boxk_cell h4 1 _ rfl
  have c2 := boxk_cell h4 2 _ rfl
  have c3 := boxk_cell h4 3 _ rfl
  have c4 := boxk_cell h4 4 _ rfl
  have c5 := boxk_cell h4 5 _ rfl
  have c6 := boxk_cell h4 6 _ rfl
  have c7 := boxk_cell h4 7 _ rfl
  have c8 := boxk_cell h4 8 _ rfl
  have c9 := boxk_cell h4 9 _ rfl
  have c10 := boxk_cell h4 10 _ rfl
  exact bodyPost_ret (v := .agg #[.string Op, .int .i64 LK, .string LS, .int .i64 LVK, .int .i64 LVN, .string LVS, .int .i64 RK, .string RS, .int .i64 RVK, .int .i64 RVN, .string RVS]) (by simp [results, Try.results93, go_sem, c0, c1, c2, c3, c4, c5, c6, c7, c8, c9, c10]) rfl ⟨rfl, below_set HB4.out gr (by omega)⟩

set_option maxRecDepth 100000 in
set_option maxHeartbeats 1600000 in
theorem szExpr_any (Op : ByteArray) (LK : Int) (LS : ByteArray) (LVK : Int) (LVN : Int) (LVS : ByteArray) (RK : Int) (RS : ByteArray) (RVK : Int) (RVN : Int) (RVS : ByteArray) (left : Int) (w : World) (so : Op.size ≤ maxLen) (s0 : LS.size ≤ maxLen) (s1 : LVS.size ≤ maxLen) (s2 : RS.size ≤ maxLen) (s3 : RVS.size ≤ maxLen) (h0 : 0 ≤ left) (h1 : left ≤ 1048576) :
    Calls Try.prog 92 #[.agg #[.string Op, .int .i64 LK, .string LS, .int .i64 LVK, .int .i64 LVN, .string LVS, .int .i64 RK, .string RS, .int .i64 RVK, .int .i64 RVN, .string RVS], .int .i64 left] w fun e w' =>
      (∃ r, e = .returned (.int .i64 r) ∧ (r = -1 ∨ (0 ≤ r ∧ r + (Op.size : Int) + (LS.size : Int) + (LVS.size : Int) + (RS.size : Int) + (RVS.size : Int) ≤ left))) ∧ Below w.heap.size w w' := by
  unfold maxLen at so
  by_cases hz : left - (Op.size : Int) < 0
  · go_enter Try.func92, Try.ntmps92
    go_wp2
    go_ret
    exact ⟨⟨-1, rfl, .inl rfl⟩, by go_grown⟩
  · go_enter Try.func92, Try.ntmps92
    go_wp2_with fail
    have b0 := below_al w (.cells #[.string Op, .int .i64 LK, .string LS, .int .i64 LVK, .int .i64 LVN, .string LVS, .int .i64 RK, .string RS, .int .i64 RVK, .int .i64 RVN, .string RVS] 132)
    have hA := boxk_new w #[.string Op, .int .i64 LK, .string LS, .int .i64 LVK, .int .i64 LVN, .string LVS, .int .i64 RK, .string RS, .int .i64 RVK, .int .i64 RVN, .string RVS] 132
    refine (szArg_any LK LS LVK LVN LVS (left - Op.size) _ s0 s1 (by omega) (by omega)).mono ?_
    rintro e w1 ⟨⟨r, rfl, hr⟩, hb1⟩
    have HA1 := hide (box_below hA hb1 (by simp))
    have hB1 : Below w.heap.size w w1 := b0.trans (hb1.mono b0.size)
    clear hb1 b0 hA
    rcases hr with rfl | ⟨h2, h3⟩
    · go_wp2
      go_ret
      exact ⟨⟨-1, rfl, .inl rfl⟩, hB1⟩
    · have H3 := hide h3
      have h4 : r ≤ 1048576 := by omega
      clear h3
      have a6 := boxk_cell HA1.out 6 _ rfl
      have a7 := boxk_cell HA1.out 7 _ rfl
      have a8 := boxk_cell HA1.out 8 _ rfl
      have a9 := boxk_cell HA1.out 9 _ rfl
      have a10 := boxk_cell HA1.out 10 _ rfl
      go_wp2_with fail
      refine (szArg_any RK RS RVK RVN RVS r _ s2 s3 h2 h4).mono ?_
      rintro e w2 ⟨⟨r2, rfl, hr2⟩, hb2⟩
      have hB2 : Below w.heap.size w w2 := hB1.trans (hb2.mono hB1.size)
      clear hb2 hB1 HA1 a6 a7 a8 a9 a10
      rcases hr2 with rfl | ⟨h5, h6⟩
      · go_wp2
        go_ret
        exact ⟨⟨-1, rfl, .inl rfl⟩, hB2⟩
      · have H6 := hide h6
        clear h6
        go_wp2
        go_ret
        have := H3.out
        have := H6.out
        exact ⟨⟨_, rfl, .inr ⟨h5, by omega⟩⟩, hB2⟩

set_option maxRecDepth 100000 in
set_option maxHeartbeats 1600000 in
theorem eqExpr_same (Op : ByteArray) (LK : Int) (LS : ByteArray) (LVK : Int) (LVN : Int) (LVS : ByteArray) (RK : Int) (RS : ByteArray) (RVK : Int) (RVN : Int) (RVS : ByteArray) (w : World) :
    Calls Try.prog 94 #[.agg #[.string Op, .int .i64 LK, .string LS, .int .i64 LVK, .int .i64 LVN, .string LVS, .int .i64 RK, .string RS, .int .i64 RVK, .int .i64 RVN, .string RVS], .agg #[.string Op, .int .i64 LK, .string LS, .int .i64 LVK, .int .i64 LVN, .string LVS, .int .i64 RK, .string RS, .int .i64 RVK, .int .i64 RVN, .string RVS]] w fun e w' => e = .returned (.bool true) ∧ Below w.heap.size w w' := by
  have kO : (Op.toList == Op.toList) = true := by simp
  go_enter Try.func94, Try.ntmps94
  go_wp2_with fail
  obtain ⟨hA, hD, b1⟩ := boxes2 w #[.string Op, .int .i64 LK, .string LS, .int .i64 LVK, .int .i64 LVN, .string LVS, .int .i64 RK, .string RS, .int .i64 RVK, .int .i64 RVN, .string RVS] #[.string Op, .int .i64 LK, .string LS, .int .i64 LVK, .int .i64 LVN, .string LVS, .int .i64 RK, .string RS, .int .i64 RVK, .int .i64 RVN, .string RVS] 121 121
  refine (eqArg_same LK LS LVK LVN LVS _).mono ?_
  rintro e w1 ⟨rfl, hb⟩
  have HA := hide (box_below hA hb (by simp; omega))
  have HD := hide (box_below hD hb (by simp))
  have hB : Below w.heap.size w w1 := b1.trans (hb.mono b1.size)
  clear hb hA hD b1
  have a6 := boxk_cell HA.out 6 _ rfl
  have d6 := boxk_cell HD.out 6 _ rfl
  have a7 := boxk_cell HA.out 7 _ rfl
  have d7 := boxk_cell HD.out 7 _ rfl
  have a8 := boxk_cell HA.out 8 _ rfl
  have d8 := boxk_cell HD.out 8 _ rfl
  have a9 := boxk_cell HA.out 9 _ rfl
  have d9 := boxk_cell HD.out 9 _ rfl
  have a10 := boxk_cell HA.out 10 _ rfl
  have d10 := boxk_cell HD.out 10 _ rfl
  go_wp2_with fail
  refine (eqArg_same RK RS RVK RVN RVS _).mono ?_
  rintro e w2 ⟨rfl, hb⟩
  have hB2 : Below w.heap.size w w2 := hB.trans (hb.mono hB.size)
  go_wp2
  go_ret
  exact ⟨rfl, hB2⟩
end Go.Proofs.Ytaflokfgbmlmaaa
