/-
  What the tested tokenOf answers: the token whose text this is, if there is one.
-/
import Derived.Test.YtfgcflfnpeapaaaGreatDoorLexP
import Derived.Test.YtfgcflfnpeapaaaGreatDoorTokTI
import Derived.Test.YtfgcflfnpeapaaaGreatDoorAtoi
namespace Go.Proofs.YtfgcflfnpeapaaaGreatDoor
open Go.RowKit
set_option linter.unusedVariables false

theorem box3_set {w : World} {q : Nat} {c0 c1 c2 : Value} {T : TypeId} (h : w.heap[q]? = some (.cells #[c0, c1, c2] T (0, 0))) (i : Nat) (x : Value) :
    (w.setCell ⟨q, i, none⟩ x).heap[q]? = some (.cells (#[c0, c1, c2].setIfInBounds i x) T (0, 0)) ∧ w.grownBy (w.setCell ⟨q, i, none⟩ x) (some q) :=
  ⟨heap_setCell_same w q i _ T x h, ⟨rfl, rfl, rfl, by simp [World.setCell], fun k _ hk => heap_setCell_other w ⟨q, i, none⟩ k x (fun e => hk (by simp [e]))⟩⟩
/-- a token, or none -/
def ansT (o : Option V3) : Value := match o with
  | some v => .tuple #[.agg #[.int .i64 v.K, .int .i64 v.N, .string v.S], .bool true]
  | none => .tuple #[.agg #[.int .i64 0, .int .i64 0, .string ⟨#[]⟩], .bool false]
theorem toList_eq_iff {a b : ByteArray} : (a.toList == b.toList) = true ↔ a = b := by
  rw [beq_iff_eq, ByteArray.toList_eq, ByteArray.toList_eq]
  constructor
  · intro h; exact ByteArray.ext (Array.toList_inj.1 h)
  · intro h; rw [h]
theorem mk_eq_iff {l : List UInt8} {x : ByteArray} : (⟨l.toArray⟩ : ByteArray) = x ↔ l = x.data.toList := by
  constructor
  · intro h; rw [← h]
  · intro h; rw [h]
theorem atoi_both (x : ByteArray) (w : World) (hs : x.size ≤ 1048576) (he : Errs w) :
    Calls Tryz.prog 35 #[.string x] w fun e w' => ∃ (z : Int) (ev : Value), e = .returned (.tuple #[.int .i64 z, ev]) ∧ (∀ n, Lib.atoiAll x.data.toList = .ok n → z = n) ∧ Below w.heap.size w w' := by
  cases hx : Lib.atoiAll x.data.toList with
  | ok n =>
    refine (atoi_yes x w n hs hx).mono ?_
    rintro e w' ⟨rfl, hb⟩
    exact ⟨n, _, rfl, (fun m h => by cases h; rfl), hb⟩
  | «syntax» =>
    refine (atoi_no x w hs he (fun n h => by rw [hx] at h; cases h)).mono ?_
    rintro e w' ⟨z, t, N, rfl, hb⟩
    exact ⟨z, _, rfl, (fun m h => by cases h), hb⟩
  | range =>
    refine (atoi_no x w hs he (fun n h => by rw [hx] at h; cases h)).mono ?_
    rintro e w' ⟨z, t, N, rfl, hb⟩
    exact ⟨z, _, rfl, (fun m h => by cases h), hb⟩
theorem clone_str (x : ByteArray) (w : World) (hs : x.size ≤ 1048576) :
    Calls Tryz.prog 36 #[.string x] w fun e w' => e = .returned (.string x) ∧ Below w.heap.size w w' := by
  go_enter Tryz.func36, Tryz.ntmps36
  go_wp2_with fail
  refine (Tryz.stringslite_Clone x _ (by omega)).mono ?_
  rintro e w1 ⟨rfl, hb⟩
  go_wp2
  go_ret
  exact ⟨rfl, hb⟩
/-- the number of digits -/
def numT (x : ByteArray) : Option V3 := if 0 ≤ wholeL x.data.toList ∧ wholeL x.data.toList ≤ 1000000000 then some ⟨1, wholeL x.data.toList, ⟨#[]⟩⟩ else none
theorem numT_yes {x : ByteArray} {z : Int} (h0 : 0 < x.size) (h : tokL 1 z ⟨#[]⟩ = x.data.toList) : numT x = some ⟨1, z, ⟨#[]⟩⟩ := by
  have hb : tokB 1 z ⟨#[]⟩ = true := by
    cases hb : tokB 1 z ⟨#[]⟩
    · rw [tokL_no hb] at h
      have := congrArg List.length h
      rw [str_len] at this
      simp at this; omega
    · rfl
  have hr := tokB_range hb
  rw [tokL_num hb, itoa_pos (by omega)] at h
  have hw := whole_dec z.toNat (by omega)
  rw [h] at hw
  have e : wholeL x.data.toList = z := by omega
  unfold numT
  rw [e, if_pos hr]
theorem numT_no {x : ByteArray} {z : Int} (hz : ∀ n, Lib.atoiAll x.data.toList = .ok n → z = n) (h : tokL 1 z ⟨#[]⟩ ≠ x.data.toList) : numT x = none := by
  unfold numT
  split
  · rename_i hc
    exfalso
    apply h
    obtain ⟨u, hu⟩ : ∃ u, wholeL x.data.toList = u := ⟨_, rfl⟩
    rw [hu] at hc
    have e := whole_of hu hc.1
    have e2 : x.data.toList = Lib.itoa u := by rw [itoa_pos (by omega)]; exact e
    have e3 := atoi_itoa (n := u) (numOk_iff.2 ⟨by omega, hc.2⟩)
    rw [← e2] at e3
    have hzu := hz u e3
    subst hzu
    rw [e2, tokL_num]
    rw [tokB_num, inB_t hc]
    rfl
  · rfl
theorem box_gr3 {w w' : World} {R q : Nat} {o : Obj} (h : w.heap[R]? = some o) (hg : w.grownBy w' (some q)) (hne : R ≠ q) : w'.heap[R]? = some o := by
  rw [hg.block R (Array.getElem?_eq_some_iff.1 h).1 (by simp; omega)]; exact h

set_option maxRecDepth 100000 in
set_option maxHeartbeats 3200000 in
theorem tokenOf_num (x : ByteArray) (w : World) (hs : x.size ≤ 1048576) (h0 : 0 < x.size) (ht : Tab w) (he : Errs w) :
    Calls Tryz.prog 19 #[.int .i64 1, .string x] w fun e w' => e = .returned (ansT (numT x)) ∧ Below w.heap.size w w' := by
  have HT := hide ht
  have HEr := hide he
  clear ht he
  have b0 := below_al w (.cells #[.int .i64 0, .int .i64 0, .string ⟨#[]⟩] 31)
  have b1 := b0.alloc b0.size (.cells #[.int .i64 1, .int .i64 0, .string ⟨#[]⟩] 31)
  have hP := box_old (box_new w (.int .i64 0) (.int .i64 0) (.string ⟨#[]⟩) 31) (by simp) (.cells #[.int .i64 1, .int .i64 0, .string ⟨#[]⟩] 31)
  have hQ := box_new (w.alloc (.cells #[.int .i64 0, .int .i64 0, .string ⟨#[]⟩] 31)) (.int .i64 1) (.int .i64 0) (.string ⟨#[]⟩) 31
  simp only [World.size_alloc] at hQ
  go_enter Tryz.func19, Tryz.ntmps19
  go_wp2_with fail
  generalize (w.alloc (.cells #[.int .i64 0, .int .i64 0, .string ⟨#[]⟩] 31)).alloc (.cells #[.int .i64 1, .int .i64 0, .string ⟨#[]⟩] 31) = w1 at b1 hP hQ ⊢
  clear b0
  refine (atoi_both x _ hs (HEr.out.later b1 (Nat.le_refl _))).mono ?_
  rintro e w2 ⟨z, ev, rfl, hz, hb2⟩
  have HZ := hide hz
  have hP2 := box_step hP hb2
  have hQ2 := box_step hQ hb2
  have B2 : Below w.heap.size w w2 := b1.trans (hb2.mono b1.size)
  clear hz hb2 hP hQ b1
  obtain ⟨c0, c1, c2, f0, f1, f2⟩ := box_cell hQ2
  have st := box3_set hQ2 1 (.int .i64 z)
  go_wp2_with fail
  generalize w2.setCell ⟨w.heap.size + 1, 1, none⟩ (.int .i64 z) = w3 at st ⊢
  have hQ3 : w3.heap[w.heap.size + 1]? = some (.cells #[.int .i64 1, .int .i64 z, .string ⟨#[]⟩] 31 (0, 0)) := st.1
  have hP3 := box_gr3 hP2 st.2 (by omega)
  have B3 : Below w.heap.size w w3 := below_set B2 st.2 (by omega)
  clear st hP2 hQ2 B2 c0 c1 c2 f0 f1 f2
  obtain ⟨c0, c1, c2, -, -, -⟩ := box_cell hQ3
  go_wp2_with fail
  refine (implTokenText_any 1 z ⟨#[]⟩ _ (by unfold maxLen; exact Nat.zero_le _) (HT.out.later B3 (Nat.le_refl _))).mono ?_
  rintro e w4 ⟨rfl, hb4⟩
  have hP4 := box_step hP3 hb4
  have hQ4 := box_step hQ3 hb4
  have B4 : Below w.heap.size w w4 := B3.trans (hb4.mono B3.size)
  clear hb4 hP3 hQ3 B3 c0 c1 c2
  obtain ⟨c0, c1, c2, -, -, -⟩ := box_cell hQ4
  obtain ⟨p0, p1, p2, f0, f1, f2⟩ := box_cell hP4
  by_cases heq : tokL 1 z ⟨#[]⟩ = x.data.toList
  · have HA : Hid (numT x = some ⟨1, z, ⟨#[]⟩⟩) := numT_yes h0 heq
    have hq : ((⟨(tokL 1 z ⟨#[]⟩).toArray⟩ : ByteArray).toList == x.toList) = true := toList_eq_iff.2 (mk_eq_iff.2 heq)
    clear heq
    generalize (⟨(tokL 1 z ⟨#[]⟩).toArray⟩ : ByteArray) = y at hq ⊢
    go_wp2
    refine box_post hP4 (fun w5 h5 gr => ?_)
    clear c0 c1 c2 p0 p1 p2 f0 f1 f2
    obtain ⟨d0, d1, d2, -, -, -⟩ := box_cell h5
    exact bodyPost_ret (v := .tuple #[.agg #[.int .i64 1, .int .i64 z, .string ⟨#[]⟩], .bool true]) (by simp [results, Tryz.results19, go_sem, d0, d1, d2]) rfl ⟨by rw [HA.out]; rfl, below_set B4 gr (Nat.le_refl _)⟩
  · have HA : Hid (numT x = none) := numT_no HZ.out heq
    have hq : ((⟨(tokL 1 z ⟨#[]⟩).toArray⟩ : ByteArray).toList == x.toList) = false := by
      rw [← Bool.not_eq_true, toList_eq_iff, mk_eq_iff]; exact heq
    clear heq
    generalize (⟨(tokL 1 z ⟨#[]⟩).toArray⟩ : ByteArray) = y at hq ⊢
    go_wp2
    refine box_post hP4 (fun w5 h5 gr => ?_)
    clear c0 c1 c2 p0 p1 p2 f0 f1 f2
    obtain ⟨d0, d1, d2, -, -, -⟩ := box_cell h5
    exact bodyPost_ret (v := .tuple #[.agg #[.int .i64 0, .int .i64 0, .string ⟨#[]⟩], .bool false]) (by simp [results, Tryz.results19, go_sem, d0, d1, d2]) rfl ⟨by rw [HA.out]; rfl, below_set B4 gr (Nat.le_refl _)⟩

/-- a word of its kind -/
def wordT (K : Int) (x : ByteArray) : Option V3 := if tokB K 0 x = true then some ⟨K, 0, x⟩ else none
theorem wordT_yes {K : Int} {x : ByteArray} (h0 : 0 < x.size) (h : tokL K 0 x = x.data.toList) : wordT K x = some ⟨K, 0, x⟩ := by
  unfold wordT
  cases hb : tokB K 0 x
  · rw [tokL_no hb] at h
    have := congrArg List.length h
    rw [str_len] at this
    simp at this; omega
  · simp
theorem wordT_no {K : Int} {x : ByteArray} (h1 : K ≠ 1) (h4 : K ≠ 4) (h : tokL K 0 x ≠ x.data.toList) : wordT K x = none := by
  unfold wordT
  cases hb : tokB K 0 x
  · simp
  · exact absurd (tokL_word hb h1 h4) h

set_option maxRecDepth 100000 in
set_option maxHeartbeats 3200000 in
theorem tokenOf_word (x : ByteArray) (K : Int) (h1 : K ≠ 1) (h4 : K ≠ 4) (w : World) (hs : x.size ≤ 1048576) (h0 : 0 < x.size) (ht : Tab w) (he : Errs w) :
    Calls Tryz.prog 19 #[.int .i64 K, .string x] w fun e w' => e = .returned (ansT (wordT K x)) ∧ Below w.heap.size w w' := by
  have HT := hide ht
  have HEr := hide he
  clear ht he
  have b0 := below_al w (.cells #[.int .i64 0, .int .i64 0, .string ⟨#[]⟩] 31)
  have b1 := b0.alloc b0.size (.cells #[.int .i64 K, .int .i64 0, .string ⟨#[]⟩] 31)
  have hP := box_old (box_new w (.int .i64 0) (.int .i64 0) (.string ⟨#[]⟩) 31) (by simp) (.cells #[.int .i64 K, .int .i64 0, .string ⟨#[]⟩] 31)
  have hQ := box_new (w.alloc (.cells #[.int .i64 0, .int .i64 0, .string ⟨#[]⟩] 31)) (.int .i64 K) (.int .i64 0) (.string ⟨#[]⟩) 31
  simp only [World.size_alloc] at hQ
  have k1 : (K == 1) = false := by simpa using h1
  have k4 : (K == 4) = false := by simpa using h4
  go_enter Tryz.func19, Tryz.ntmps19
  go_wp2_with fail
  generalize (w.alloc (.cells #[.int .i64 0, .int .i64 0, .string ⟨#[]⟩] 31)).alloc (.cells #[.int .i64 K, .int .i64 0, .string ⟨#[]⟩] 31) = w1 at b1 hP hQ ⊢
  clear b0
  refine (clone_str x _ hs).mono ?_
  rintro e w2 ⟨rfl, hb2⟩
  have hP2 := box_step hP hb2
  have hQ2 := box_step hQ hb2
  have B2 : Below w.heap.size w w2 := b1.trans (hb2.mono b1.size)
  clear hb2 hP hQ b1
  obtain ⟨c0, c1, c2, f0, f1, f2⟩ := box_cell hQ2
  have st := box3_set hQ2 2 (.string x)
  go_wp2_with fail
  generalize w2.setCell ⟨w.heap.size + 1, 2, none⟩ (.string x) = w3 at st ⊢
  have hQ3 : w3.heap[w.heap.size + 1]? = some (.cells #[.int .i64 K, .int .i64 0, .string x] 31 (0, 0)) := st.1
  have hP3 := box_gr3 hP2 st.2 (by omega)
  have B3 : Below w.heap.size w w3 := below_set B2 st.2 (by omega)
  clear st hP2 hQ2 B2 c0 c1 c2 f0 f1 f2
  obtain ⟨c0, c1, c2, -, -, -⟩ := box_cell hQ3
  go_wp2_with fail
  refine (implTokenText_any K 0 x _ (by unfold maxLen; omega) (HT.out.later B3 (Nat.le_refl _))).mono ?_
  rintro e w4 ⟨rfl, hb4⟩
  have hP4 := box_step hP3 hb4
  have hQ4 := box_step hQ3 hb4
  have B4 : Below w.heap.size w w4 := B3.trans (hb4.mono B3.size)
  clear hb4 hP3 hQ3 B3 c0 c1 c2
  obtain ⟨c0, c1, c2, -, -, -⟩ := box_cell hQ4
  obtain ⟨p0, p1, p2, f0, f1, f2⟩ := box_cell hP4
  by_cases heq : tokL K 0 x = x.data.toList
  · have HA : Hid (wordT K x = some ⟨K, 0, x⟩) := wordT_yes h0 heq
    have hq : ((⟨(tokL K 0 x).toArray⟩ : ByteArray).toList == x.toList) = true := toList_eq_iff.2 (mk_eq_iff.2 heq)
    clear heq
    generalize (⟨(tokL K 0 x).toArray⟩ : ByteArray) = y at hq ⊢
    go_wp2
    refine box_post hP4 (fun w5 h5 gr => ?_)
    clear c0 c1 c2 p0 p1 p2 f0 f1 f2
    obtain ⟨d0, d1, d2, -, -, -⟩ := box_cell h5
    exact bodyPost_ret (v := .tuple #[.agg #[.int .i64 K, .int .i64 0, .string x], .bool true]) (by simp [results, Tryz.results19, go_sem, d0, d1, d2]) rfl ⟨by rw [HA.out]; rfl, below_set B4 gr (Nat.le_refl _)⟩
  · have HA : Hid (wordT K x = none) := wordT_no h1 h4 heq
    have hq : ((⟨(tokL K 0 x).toArray⟩ : ByteArray).toList == x.toList) = false := by
      rw [← Bool.not_eq_true, toList_eq_iff, mk_eq_iff]; exact heq
    clear heq
    generalize (⟨(tokL K 0 x).toArray⟩ : ByteArray) = y at hq ⊢
    go_wp2
    refine box_post hP4 (fun w5 h5 gr => ?_)
    clear c0 c1 c2 p0 p1 p2 f0 f1 f2
    obtain ⟨d0, d1, d2, -, -, -⟩ := box_cell h5
    exact bodyPost_ret (v := .tuple #[.agg #[.int .i64 0, .int .i64 0, .string ⟨#[]⟩], .bool false]) (by simp [results, Tryz.results19, go_sem, d0, d1, d2]) rfl ⟨by rw [HA.out]; rfl, below_set B4 gr (Nat.le_refl _)⟩

theorem dropWhile_len {p : UInt8 → Bool} (l : List UInt8) : (l.dropWhile p).length ≤ l.length := by
  induction l with
  | nil => simp
  | cons a r ih =>
    rw [List.dropWhile_cons]
    split
    · simp; omega
    · exact Nat.le_refl _
theorem trimB_len (l : List UInt8) (c : UInt8) : (Lib.trimB l c).length ≤ l.length := by
  unfold Lib.trimB Lib.trimLeftB Lib.trimRightB
  refine Nat.le_trans (dropWhile_len _) ?_
  rw [List.length_reverse]
  refine Nat.le_trans (dropWhile_len _) ?_
  rw [List.length_reverse]
  exact Nat.le_refl _
/-- a text within quotes -/
def quoT (x : ByteArray) : Option V3 := if tokL 4 0 ⟨(Lib.trimB x.data.toList 39).toArray⟩ = x.data.toList then some ⟨4, 0, ⟨(Lib.trimB x.data.toList 39).toArray⟩⟩ else none
theorem quoT_yes {x tr : ByteArray} (ht : (⟨(Lib.trimB x.data.toList 39).toArray⟩ : ByteArray) = tr) (h : tokL 4 0 tr = x.data.toList) : quoT x = some ⟨4, 0, tr⟩ := by
  unfold quoT; rw [ht, if_pos h]
theorem quoT_no {x tr : ByteArray} (ht : (⟨(Lib.trimB x.data.toList 39).toArray⟩ : ByteArray) = tr) (h : tokL 4 0 tr ≠ x.data.toList) : quoT x = none := by
  unfold quoT; rw [ht, if_neg h]

set_option maxRecDepth 100000 in
set_option maxHeartbeats 3200000 in
theorem tokenOf_quo (x : ByteArray) (w : World) (hs : x.size ≤ 1048576) (h0 : 0 < x.size) (ht : Tab w) (he : Errs w) :
    Calls Tryz.prog 19 #[.int .i64 4, .string x] w fun e w' => e = .returned (ansT (quoT x)) ∧ Below w.heap.size w w' := by
  have HT := hide ht
  have HEr := hide he
  clear ht he
  have b0 := below_al w (.cells #[.int .i64 0, .int .i64 0, .string ⟨#[]⟩] 31)
  have b1 := b0.alloc b0.size (.cells #[.int .i64 4, .int .i64 0, .string ⟨#[]⟩] 31)
  have hP := box_old (box_new w (.int .i64 0) (.int .i64 0) (.string ⟨#[]⟩) 31) (by simp) (.cells #[.int .i64 4, .int .i64 0, .string ⟨#[]⟩] 31)
  have hQ := box_new (w.alloc (.cells #[.int .i64 0, .int .i64 0, .string ⟨#[]⟩] 31)) (.int .i64 4) (.int .i64 0) (.string ⟨#[]⟩) 31
  simp only [World.size_alloc] at hQ
  go_enter Tryz.func19, Tryz.ntmps19
  go_wp2_with fail
  generalize (w.alloc (.cells #[.int .i64 0, .int .i64 0, .string ⟨#[]⟩] 31)).alloc (.cells #[.int .i64 4, .int .i64 0, .string ⟨#[]⟩] 31) = w1 at b1 hP hQ ⊢
  clear b0
  refine (Tryz.strings_Trim_one x 39 (by decide) _ (by omega)).mono ?_
  rintro e w1' ⟨rfl, hw1⟩
  have hb1' : Below w1.heap.size w1 w1' := by
    rcases hw1 with rfl | rfl
    · exact Below.refl _ _
    · exact (Below.refl _ _).drew
  have hPx := box_step hP hb1'
  have hQx := box_step hQ hb1'
  have bx : Below w.heap.size w w1' := b1.trans (hb1'.mono b1.size)
  clear hw1 hb1' hP hQ b1
  obtain ⟨tr, htr⟩ : ∃ tr, (⟨(Lib.trimB x.data.toList 39).toArray⟩ : ByteArray) = tr := ⟨_, rfl⟩
  have HTr := hide htr
  have htl : tr.size ≤ 1048576 := by
    rw [← htr]
    have := trimB_len x.data.toList 39
    rw [str_len] at this
    show (Lib.trimB x.data.toList 39).toArray.size ≤ _
    simp; omega
  rw [htr]
  clear htr
  go_wp2_with fail
  refine (clone_str tr _ htl).mono ?_
  rintro e w2 ⟨rfl, hb2⟩
  have hP2 := box_step hPx hb2
  have hQ2 := box_step hQx hb2
  have B2 : Below w.heap.size w w2 := bx.trans (hb2.mono bx.size)
  clear hb2 hPx hQx bx
  obtain ⟨c0, c1, c2, f0, f1, f2⟩ := box_cell hQ2
  have st := box3_set hQ2 2 (.string tr)
  go_wp2_with fail
  generalize w2.setCell ⟨w.heap.size + 1, 2, none⟩ (.string tr) = w3 at st ⊢
  have hQ3 : w3.heap[w.heap.size + 1]? = some (.cells #[.int .i64 4, .int .i64 0, .string tr] 31 (0, 0)) := st.1
  have hP3 := box_gr3 hP2 st.2 (by omega)
  have B3 : Below w.heap.size w w3 := below_set B2 st.2 (by omega)
  clear st hP2 hQ2 B2 c0 c1 c2 f0 f1 f2
  obtain ⟨c0, c1, c2, -, -, -⟩ := box_cell hQ3
  go_wp2_with fail
  refine (implTokenText_any 4 0 tr _ (by unfold maxLen; omega) (HT.out.later B3 (Nat.le_refl _))).mono ?_
  rintro e w4 ⟨rfl, hb4⟩
  have hP4 := box_step hP3 hb4
  have hQ4 := box_step hQ3 hb4
  have B4 : Below w.heap.size w w4 := B3.trans (hb4.mono B3.size)
  clear hb4 hP3 hQ3 B3 c0 c1 c2
  obtain ⟨c0, c1, c2, -, -, -⟩ := box_cell hQ4
  obtain ⟨p0, p1, p2, f0, f1, f2⟩ := box_cell hP4
  by_cases heq : tokL 4 0 tr = x.data.toList
  · have HA : Hid (quoT x = some ⟨4, 0, tr⟩) := quoT_yes HTr.out heq
    have hq : ((⟨(tokL 4 0 tr).toArray⟩ : ByteArray).toList == x.toList) = true := toList_eq_iff.2 (mk_eq_iff.2 heq)
    clear heq
    generalize (⟨(tokL 4 0 tr).toArray⟩ : ByteArray) = y at hq ⊢
    go_wp2
    refine box_post hP4 (fun w5 h5 gr => ?_)
    clear c0 c1 c2 p0 p1 p2 f0 f1 f2
    obtain ⟨d0, d1, d2, -, -, -⟩ := box_cell h5
    exact bodyPost_ret (v := .tuple #[.agg #[.int .i64 4, .int .i64 0, .string tr], .bool true]) (by simp [results, Tryz.results19, go_sem, d0, d1, d2]) rfl ⟨by rw [HA.out]; rfl, below_set B4 gr (Nat.le_refl _)⟩
  · have HA : Hid (quoT x = none) := quoT_no HTr.out heq
    have hq : ((⟨(tokL 4 0 tr).toArray⟩ : ByteArray).toList == x.toList) = false := by
      rw [← Bool.not_eq_true, toList_eq_iff, mk_eq_iff]; exact heq
    clear heq
    generalize (⟨(tokL 4 0 tr).toArray⟩ : ByteArray) = y at hq ⊢
    go_wp2
    refine box_post hP4 (fun w5 h5 gr => ?_)
    clear c0 c1 c2 p0 p1 p2 f0 f1 f2
    obtain ⟨d0, d1, d2, -, -, -⟩ := box_cell h5
    exact bodyPost_ret (v := .tuple #[.agg #[.int .i64 0, .int .i64 0, .string ⟨#[]⟩], .bool false]) (by simp [results, Tryz.results19, go_sem, d0, d1, d2]) rfl ⟨by rw [HA.out]; rfl, below_set B4 gr (Nat.le_refl _)⟩
end Go.Proofs.YtfgcflfnpeapaaaGreatDoor
