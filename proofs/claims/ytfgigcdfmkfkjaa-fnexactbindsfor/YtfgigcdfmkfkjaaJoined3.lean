/-
  Texts of this claim joined into one: MatchI2, ExprRow, ActRow, ActsRow, CondRow, RuleRow, Box11, PosI, PosCI, BindsFI, MatchS, BindsFS.
-/
import Derived.Test.YtfgigcdfmkfkjaaJoined2
import Derived.Test.YtfgigcdfmkfkjaaJoined1
import Derived.Deep.RegionLaw
import Derived.Lib.SmallJoins
import Derived.Deep.DeepCutAuto
import Derived.Deep.Upon
/-
  What the tested MatchPat answers: matchR, in a row of the call's own.
-/
namespace Go.Proofs.Ytfgigcdfmkfkjaa
open Go.RowKit
set_option linter.unusedVariables false

theorem matchVal_m (S : ByteArray) (V u : V3) (a : Option Addr) (cap base : Nat) (M : List B4) (w : World) (hbase : base ≤ w.heap.size) (h : BL base w a cap M) :
    Calls Try.prog 132 #[.agg #[.int .i64 2, .string S, .int .i64 V.K, .int .i64 V.N, .string V.S], .agg #[.int .i64 u.K, .int .i64 u.N, .string u.S], .slice a M.length cap] w fun e w' =>
      GivesM e w' base w (stepM M ⟨2, S, V⟩ u) :=
  (matchVal_any 2 S V u _ w).mono fun e w' hh => by
    rw [stepM_K2]
    exact ⟨a, cap, hh.1, h.below hh.2, hh.2.mono hbase⟩
theorem matchAny_m (K : Int) (S : ByteArray) (V u : V3) (a : Option Addr) (cap base : Nat) (M : List B4) (w : World) (h1 : K ≠ 1) (h2 : K ≠ 2) (hbase : base ≤ w.heap.size) (h : BL base w a cap M) :
    Calls Try.prog 133 #[.agg #[.int .i64 K, .string S, .int .i64 V.K, .int .i64 V.N, .string V.S], .agg #[.int .i64 u.K, .int .i64 u.N, .string u.S], .slice a M.length cap] w fun e w' =>
      GivesM e w' base w (stepM M ⟨K, S, V⟩ u) :=
  (matchAny_any K S V u _ w).mono fun e w' hh => by
    rw [stepM_no h1 h2]
    exact ⟨a, cap, hh.1, h.below hh.2, hh.2.mono hbase⟩

/-- the method value that holds this argument against a value -/
def fnOf (K : Int) (S : ByteArray) (V : V3) : Value :=
  .func (.func (if K = 1 then 131 else if K = 2 then 132 else 133)) #[.agg #[.int .i64 K, .string S, .int .i64 V.K, .int .i64 V.N, .string V.S]] #[]
set_option maxRecDepth 100000 in
set_option maxHeartbeats 1600000 in
theorem matchingOf_any (K : Int) (S : ByteArray) (V : V3) (w : World) :
    Calls Try.prog 100 #[.agg #[.int .i64 K, .string S, .int .i64 V.K, .int .i64 V.N, .string V.S]] w fun e w' => e = .returned (fnOf K S V) ∧ Below w.heap.size w w' := by
  have b0 := below_al w (.cells #[.int .i64 K, .string S, .int .i64 V.K, .int .i64 V.N, .string V.S] 157)
  by_cases h1 : K = 1
  · subst h1
    go_enter Try.func100, Try.ntmps100
    go_wp2
    go_ret
    exact ⟨rfl, b0⟩
  · have k1 : (K == 1) = false := by simpa using h1
    by_cases h2 : K = 2
    · subst h2
      go_enter Try.func100, Try.ntmps100
      go_wp2
      go_ret
      exact ⟨rfl, b0⟩
    · have k2 : (K == 2) = false := by simpa using h2
      have HF : Hid (fnOf K S V = .func (.func 133) #[.agg #[.int .i64 K, .string S, .int .i64 V.K, .int .i64 V.N, .string V.S]] #[]) := by unfold Hid fnOf; rw [if_neg h1, if_neg h2]
      clear h1 h2
      go_enter Try.func100, Try.ntmps100
      go_wp2
      go_ret
      exact ⟨by rw [HF.out]; rfl, b0⟩

theorem capBL {base : Nat} {W : World} {a : Option Addr} {cap : Nat} {M : List B4} (h : BL base W a cap M) : M.length ≤ cap := by
  rcases h.2 with ⟨h1, -⟩ | h1
  · omega
  · obtain ⟨a', c', e, -, -, hl, -⟩ := rdK_owns B4.len (by decide) h1
    simp only [Value.slice.injEq] at e
    omega
/-- what bindFields answers -/
def GivesF (e : Ending) (w' : World) (w : World) (r : List B4 × Bool) : Prop := ∃ a' cap', e = .returned (.tuple #[.slice a' r.1.length cap', .bool r.2]) ∧ RdBind w' a' r.1 ∧ r.1.length ≤ cap' ∧ Below w.heap.size w w'

set_option maxRecDepth 100000 in
set_option maxHeartbeats 6400000 in
theorem bindFields_any (kd : ByteArray) (a1 : Option Addr) (c1 : Nat) (L : List A5) (nt : Bool) (kd' : ByteArray) (a2 : Option Addr) (c2 : Nat) (F : List V3) (a3 : Option Addr) (c3 : Nat) (M0 : List B4) (w : World)
    (hr1 : RdArg w a1 L) (hr2 : RdV w a2 F) (hr3 : RdBind w a3 M0) (hcap : M0.length ≤ c3) (hs1 : ∀ x ∈ L, x.small) (hs2 : ∀ u ∈ F, u.S.size ≤ 1048576) (hs3 : ∀ x ∈ M0, x.small) (hn1 : L.length + M0.length ≤ 1048576) (hn2 : F.length ≤ 1048576) :
    Calls Try.prog 62 #[.agg #[.string kd, .slice a1 L.length c1, .bool nt], .agg #[.string kd', .slice a2 F.length c2], .slice a3 M0.length c3] w fun e w' => GivesF e w' w (matchR kd kd' L F M0) := by
  have HCap := hide hcap
  have b0 := below_al w (.cells #[.string kd, .slice a1 L.length c1, .bool nt] 79)
  have b1 := b0.alloc b0.size (.cells #[.string kd', .slice a2 F.length c2] 89)
  have hP := box_old (boxk_new w #[.string kd, .slice a1 L.length c1, .bool nt] 79) (by simp) (.cells #[.string kd', .slice a2 F.length c2] 89)
  have hQ := boxk_new (w.alloc (.cells #[.string kd, .slice a1 L.length c1, .bool nt] 79)) #[.string kd', .slice a2 F.length c2] 89
  simp only [World.size_alloc] at hQ
  have hz : w.heap.size + 2 ≤ ((w.alloc (.cells #[.string kd, .slice a1 L.length c1, .bool nt] 79)).alloc (.cells #[.string kd', .slice a2 F.length c2] 89)).heap.size := by simp
  by_cases hkd : kd = kd'
  · subst hkd
    have k1 : (kd.toList == kd.toList) = true := by simp
    by_cases hl : L.length = F.length
    · have hnn : ((L.length : Int) != (F.length : Int)) = false := by rw [hl]; simp
      have HClip := hide (fun W (h : RdBind W a3 M0) => clip_any a3 c3 M0 W h hcap (by omega))
      obtain ⟨n, hN⟩ : ∃ n, n = L.length := ⟨_, rfl⟩
      have HFl : Hid (F.length = n) := by unfold Hid; rw [hN, hl]
      have HS := hide (fun k M (hk : k ≤ L.length) (h : matchK L F M0 k = some M) => matchK_small hs3 hs1 hs2 hl hk h)
      have HLen := hide (fun k M (h : matchK L F M0 k = some M) => matchK_len h)
      have HNo := hide (fun k (hk : k ≤ L.length) (h : matchK L F M0 k = none) => (matchR_fail (kd := kd) hl hk h))
      have HYes := hide (fun M (h : matchK L F M0 L.length = some M) => (matchR_yes (kd := kd) hl h))
      rw [HFl.out] at b1 hP hQ hz hn2 hnn ⊢
      rw [← hN] at b0 b1 hP hQ hz hn1 hnn ⊢
      have HN := hide hN
      clear hN hl hs1 hs2 hs3
      go_enter Try.func62, Try.ntmps62
      go_wp2_with fail
      refine (HClip.out _ (hr3.below b1)).mono ?_
      generalize (w.alloc (.cells #[.string kd, .slice a1 n c1, .bool nt] 79)).alloc (.cells #[.string kd, .slice a2 n c2] 89) = w1 at b1 hP hQ hz
      rintro e w2 ⟨⟨a', rfl, rd2⟩, rfl⟩
      have HP := hide hP
      have HQ := hide hQ
      have p1 := boxk_cell hP 1 _ rfl
      clear hP hQ HClip b0
      go_wp2
      go_loopw [8, 33] (fun v i wr => ∃ (k : Nat) (M : List B4) (a : Option Addr) (cap : Nat), k ≤ n ∧ i = .int .i64 k ∧ v = .slice a M.length cap ∧ matchK L F M0 k = some M ∧ BL (w.heap.size + 2) wr a cap M ∧ Below (w.heap.size + 2) w2 wr) (fun _ i _ => n - (intOf i).toNat)
      case atStart => exact ⟨0, M0, a', _, Nat.zero_le _, rfl, rfl, rfl, ⟨rd2, .inl ⟨rfl, fun e => by
          by_cases h0 : M0.length = 0
          · exact h0
          · obtain ⟨b, off, e2, -⟩ := rd2 0 (by omega)
            rw [e2] at e; cases e⟩⟩, Below.refl _ _⟩
      case round =>
        clear rd2 p1
        obtain ⟨k, M, a, cap, hk, rfl, rfl, hM, hbl, hbel⟩ := hrel
        have hB : Below w.heap.size w wr := b1.trans (hbel.mono (by omega))
        have hzr : w.heap.size + 2 ≤ wr.heap.size := Nat.le_trans hz hbel.size
        have hMl := HLen.out k M hM
        have HSm := hide (HS.out k M (by rw [← HN.out]; exact hk) hM)
        have HM := hide hM
        clear hM
        by_cases hlt : k < n
        · obtain ⟨b, off, hab, hbw, hc⟩ := RdArg.cells (hr1.below hB) (by rw [← HN.out]; omega)
          obtain ⟨c0', c1', c2', c3', c4'⟩ := hc k (by rw [← HN.out]; exact hlt)
          clear hc
          obtain ⟨b', off', hab', hbw', hd⟩ := (hr2.below hB).open (by rw [HFl.out]; omega)
          obtain ⟨d0, d1, d2⟩ := hd k (by rw [HFl.out]; exact hlt)
          clear hd
          have HStep := hide (fun hb => matchK_step (L := L) (F := F) HM.out hb)
          have HFail := hide (fun hb => matchK_fail (L := L) (F := F) HM.out hb)
          generalize eAt L k = x at c0' c1' c2' c3' c4' HStep HFail
          generalize vAt F k = u at d0 d1 d2 HStep HFail
          obtain ⟨K, S, V⟩ := x
          simp only at c0' c1' c2' c3' c4'
          subst hab hab'
          have bA := hbel.alloc hzr (.cells #[.int .i64 K, .string S, .int .i64 V.K, .int .i64 V.N, .string V.S] 157)
          go_wp2_with fail
          refine (matchingOf_any K S V _).mono ?_
          rintro e w3 ⟨rfl, hb3⟩
          have b3 := (below_al wr (.cells #[.int .i64 K, .string S, .int .i64 V.K, .int .i64 V.N, .string V.S] 157)).trans (hb3.mono (by simp))
          have hB3 : Below (w.heap.size + 2) w2 w3 := hbel.trans (b3.mono hzr)
          have hz3 : w.heap.size + 2 ≤ w3.heap.size := Nat.le_trans hzr b3.size
          have hbl3 := hbl.below b3
          have q1 := boxk_cell (box_below HQ.out hB3 (by omega)) 1 _ rfl
          rw [← b3.cell (p := ⟨b', off' + k * 3, none⟩) hbw'] at d0
          rw [← b3.cell (p := ⟨b', off' + k * 3 + 1, none⟩) hbw'] at d1
          rw [← b3.cell (p := ⟨b', off' + k * 3 + 2, none⟩) hbw'] at d2
          clear hb3 b3 bA c0' c1' c2' c3' c4' hbl hbel hB
          by_cases h1 : K = 1
          · subst h1
            rw [show fnOf 1 S V = .func (.func 131) #[.agg #[.int .i64 1, .string S, .int .i64 V.K, .int .i64 V.N, .string V.S]] #[] from rfl]
            go_wp2_with fail
            refine (matchVar_any S V u a cap (w.heap.size + 2) M _ hz3 hbl3 HSm.out (by omega)).mono ?_
            rintro e w4 ⟨a4, cap4, rfl, hbl4, hB4'⟩
            have hB4 : Below (w.heap.size + 2) w2 w4 := hB3.trans hB4'
            have hBw : Below w.heap.size w w4 := b1.trans (hB4.mono (by omega))
            clear hbl3 hB3 hB4' d0 d1 d2 q1
            generalize stepM M ⟨1, S, V⟩ u = r at hbl4 HStep HFail ⊢
            obtain ⟨M', bb⟩ := r
            cases bb
            · have HG : Hid (GivesF (.returned (.tuple #[.slice a3 M0.length c3, .bool false])) w4 w (matchR kd kd L F M0)) := by
                unfold Hid
                rw [HNo.out (k + 1) (by rw [← HN.out]; omega) (HFail.out rfl)]
                exact ⟨a3, c3, rfl, hr3.below hBw, HCap.out, hBw⟩
              clear hbl4 HStep HFail
              go_wp2
              go_returns
              exact HG.out
            · have HG := hide (HStep.out rfl)
              have HBl := hide hbl4
              clear hbl4 HStep HFail
              go_wp2
              go_roundw
              case rel => exact ⟨k + 1, M', a4, cap4, by omega, by go_num, rfl, HG.out, HBl.out, hB4⟩
              case measure => simp [intOf]; omega
          · by_cases h2 : K = 2
            · subst h2
              rw [show fnOf 2 S V = .func (.func 132) #[.agg #[.int .i64 2, .string S, .int .i64 V.K, .int .i64 V.N, .string V.S]] #[] from rfl]
              go_wp2_with fail
              refine (matchVal_m S V u a cap (w.heap.size + 2) M _ hz3 hbl3).mono ?_
              rintro e w4 ⟨a4, cap4, rfl, hbl4, hB4'⟩
              have hB4 : Below (w.heap.size + 2) w2 w4 := hB3.trans hB4'
              have hBw : Below w.heap.size w w4 := b1.trans (hB4.mono (by omega))
              clear hbl3 hB3 hB4' d0 d1 d2 q1
              generalize stepM M ⟨2, S, V⟩ u = r at hbl4 HStep HFail ⊢
              obtain ⟨M', bb⟩ := r
              cases bb
              · have HG : Hid (GivesF (.returned (.tuple #[.slice a3 M0.length c3, .bool false])) w4 w (matchR kd kd L F M0)) := by
                  unfold Hid
                  rw [HNo.out (k + 1) (by rw [← HN.out]; omega) (HFail.out rfl)]
                  exact ⟨a3, c3, rfl, hr3.below hBw, HCap.out, hBw⟩
                clear hbl4 HStep HFail
                go_wp2
                go_returns
                exact HG.out
              · have HG := hide (HStep.out rfl)
                have HBl := hide hbl4
                clear hbl4 HStep HFail
                go_wp2
                go_roundw
                case rel => exact ⟨k + 1, M', a4, cap4, by omega, by go_num, rfl, HG.out, HBl.out, hB4⟩
                case measure => simp [intOf]; omega
            · rw [show fnOf K S V = .func (.func 133) #[.agg #[.int .i64 K, .string S, .int .i64 V.K, .int .i64 V.N, .string V.S]] #[] from by unfold fnOf; rw [if_neg h1, if_neg h2]]
              go_wp2_with fail
              refine (matchAny_m K S V u a cap (w.heap.size + 2) M _ h1 h2 hz3 hbl3).mono ?_
              rintro e w4 ⟨a4, cap4, rfl, hbl4, hB4'⟩
              have hB4 : Below (w.heap.size + 2) w2 w4 := hB3.trans hB4'
              have hBw : Below w.heap.size w w4 := b1.trans (hB4.mono (by omega))
              clear hbl3 hB3 hB4' d0 d1 d2 q1
              generalize stepM M ⟨K, S, V⟩ u = r at hbl4 HStep HFail ⊢
              obtain ⟨M', bb⟩ := r
              cases bb
              · have HG : Hid (GivesF (.returned (.tuple #[.slice a3 M0.length c3, .bool false])) w4 w (matchR kd kd L F M0)) := by
                  unfold Hid
                  rw [HNo.out (k + 1) (by rw [← HN.out]; omega) (HFail.out rfl)]
                  exact ⟨a3, c3, rfl, hr3.below hBw, HCap.out, hBw⟩
                clear hbl4 HStep HFail
                go_wp2
                go_returns
                exact HG.out
              · have HG := hide (HStep.out rfl)
                have HBl := hide hbl4
                clear hbl4 HStep HFail
                go_wp2
                go_roundw
                case rel => exact ⟨k + 1, M', a4, cap4, by omega, by go_num, rfl, HG.out, HBl.out, hB4⟩
                case measure => simp [intOf]; omega
        · obtain rfl : k = n := by omega
          have HG : Hid (GivesF (.returned (.tuple #[.slice a M.length cap, .bool true])) wr w (matchR kd kd L F M0)) := by
            unfold Hid
            rw [HYes.out M (by rw [← HN.out]; exact HM.out)]
            exact ⟨a, cap, rfl, hbl.1, capBL hbl, hB⟩
          clear hbl
          go_wp2
          go_returns
          exact HG.out
    · have hnn : ((L.length : Int) != (F.length : Int)) = true := by simp only [bne_iff_ne, ne_eq]; omega
      have HG : Hid (GivesF (.returned (.tuple #[.slice a3 M0.length c3, .bool false])) ((w.alloc (.cells #[.string kd, .slice a1 L.length c1, .bool nt] 79)).alloc (.cells #[.string kd, .slice a2 F.length c2] 89)) w (matchR kd kd L F M0)) := by
        unfold Hid
        rw [matchR_len hl]
        exact ⟨a3, c3, rfl, hr3.below b1, HCap.out, b1⟩
      clear hl
      go_enter Try.func62, Try.ntmps62
      go_wp2
      go_returns
      exact HG.out
  · have k1 : (kd.toList == kd'.toList) = false := beq_ne hkd
    have HG : Hid (GivesF (.returned (.tuple #[.slice a3 M0.length c3, .bool false])) ((w.alloc (.cells #[.string kd, .slice a1 L.length c1, .bool nt] 79)).alloc (.cells #[.string kd', .slice a2 F.length c2] 89)) w (matchR kd kd' L F M0)) := by
      unfold Hid
      rw [matchR_kind hkd]
      exact ⟨a3, c3, rfl, hr3.below b1, HCap.out, b1⟩
    clear hkd
    go_enter Try.func62, Try.ntmps62
    go_wp2
    go_returns
    exact HG.out

theorem keptB {W w' : World} {p : Addr} {v : Value} (hb : Below W.heap.size W w') (h : W.cell? p = some v) : w'.cell? p = some v := by rw [hb.cell (World.block_lt_of_cell? W _ h)]; exact h
/-- what MatchPat answers -/
def GivesR (e : Ending) (w' : World) (w : World) (r : List B4 × Bool) : Prop := ∃ g c, e = .returned (.tuple #[.slice (some ⟨g, 0, none⟩) r.1.length c, .bool r.2]) ∧ w.heap.size ≤ g ∧ OwnBind w' g c r.1 ∧ Below w.heap.size w w'
/-- a row of binds of the call's own -/
def GivesC (e : Ending) (w' : World) (w : World) (M : List B4) : Prop := ∃ g c, e = .returned (.slice (some ⟨g, 0, none⟩) M.length c) ∧ w.heap.size ≤ g ∧ OwnBind w' g c M ∧ Below w.heap.size w w'
theorem take_row {M : List B4} {k : Nat} (h : k < M.length) : rowOf B4.cs (M.take k) ++ (eAt M k).cs = rowOf B4.cs (M.take (k + 1)) := by
  rw [List.take_succ_eq_append_getElem h, rowOf_append, eAt_in h]; simp [rowOf]

set_option maxRecDepth 100000 in
set_option maxHeartbeats 6400000 in
theorem copyBinds_any (a : Option Addr) (cap : Nat) (M : List B4) (w : World) (hr : RdBind w a M) (hs : ∀ x ∈ M, x.small) (hm : M.length ≤ 1048576) :
    Calls Try.prog 63 #[.slice a M.length cap] w fun e w' => GivesC e w' w M := by
  obtain ⟨i0, hi, hz0, hz1, hz2⟩ := info_parts Try.info107
  obtain ⟨n, hN⟩ : ∃ n, n = M.length := ⟨_, rfl⟩
  rw [← hN] at hm ⊢
  have HN := hide hN
  have HS := hide hs
  have HE : Hid (M.take n = M) := by unfold Hid; rw [hN, List.take_length]
  clear hN hs
  have hz3 : (i0.bytes * n) = 48 * n := by rw [hz2]
  go_enter Try.func63, Try.ntmps63
  go_wp2_with (at_make; refine wpList_make_own _ rfl _ _ 28 rfl w.heap.size 107 i0 (.agg #[.string ⟨#[]⟩, .int .i64 0, .int .i64 0, .string ⟨#[]⟩]) 4 Try.underlying28 hi hz0 hz1 _ _ _ n rfl rfl (by omega) ?b2 ?b3 (Nat.le_refl _) ?_)
  case b2 => rw [hz2]; omega
  case b3 => unfold maxLen; omega
  intro w2 ho2 hg2
  have b2 : Below w.heap.size w w2 := (Below.refl _ _).grown hg2 (Nat.le_refl _) (fun k hk => by cases hk)
  clear hg2
  go_wp2
  go_loopw [3, 11] (fun v i wr => ∃ (k g c : Nat), k ≤ n ∧ i = .int .i64 k ∧ v = .slice (some ⟨g, 0, none⟩) k c ∧ wr.ownsRow w.heap.size 107 4 (.slice (some ⟨g, 0, none⟩) k c) k (rowOf B4.cs (M.take k)) ∧ Below w.heap.size w wr) (fun _ i _ => n - (intOf i).toNat)
  case atStart => exact ⟨0, w.heap.size, n, Nat.zero_le _, rfl, rfl, by rw [List.take_zero]; exact ho2, b2⟩
  case round =>
    clear ho2 b2
    obtain ⟨k, g, c, hk, rfl, rfl, hown, hbel⟩ := hrel
    by_cases hlt : k < n
    · have hlL : k < M.length := by rw [← HN.out]; exact hlt
      obtain ⟨b, off, hab, hbw, hc⟩ := RdBind.cells (hr.below hbel) (by omega)
      obtain ⟨c0, c1, c2, c3⟩ := hc k hlL
      clear hc
      have hS : (eAt M k).small := by rw [eAt_in hlL]; exact HS.out _ (List.getElem_mem _)
      have HT := hide (take_row hlL)
      generalize eAt M k = x at c0 c1 c2 c3 hS HT
      obtain ⟨N, V⟩ := x
      obtain ⟨hS0, hS1⟩ := hS
      simp only at c0 c1 c2 c3 hS0 hS1
      subst hab
      have hx := boxk_new wr #[.string N, .int .i64 V.K, .int .i64 V.N, .string V.S] 107
      have x0 := boxk_cell hx 0 _ rfl
      have x1 := boxk_cell hx 1 _ rfl
      have x2 := boxk_cell hx 2 _ rfl
      have x3 := boxk_cell hx 3 _ rfl
      have HX := hide hx
      have HO := hide (hown.alloc (.cells #[.string N, .int .i64 V.K, .int .i64 V.N, .string V.S] 107))
      have HB := hide (hbel.alloc hbel.size (.cells #[.string N, .int .i64 V.K, .int .i64 V.N, .string V.S] 107))
      clear hx hown hbel hlL
      go_wp2_with fail
      generalize wr.alloc (.cells #[.string N, .int .i64 V.K, .int .i64 V.N, .string V.S] 107) = wb at x0 x1 x2 x3 HX HO HB
      clear HX c0 c1 c2 c3
      go_region_law (first
        | (refine step_append_lies _ rfl (.tmp 15) (.tmp 23) 28 rfl w.heap.size 107 i0 (.agg #[.string ⟨#[]⟩, .int .i64 0, .int .i64 0, .string ⟨#[]⟩]) 4 48 Try.underlying28 hi hz0 hz1 hz2 rfl (by omega) (.slice (some ⟨g, 0, none⟩) k c) k (rowOf B4.cs (M.take k)) (by simp [Act.eval]) (HO4.out.alloc _) ⟨w4.heap.size, 0, none⟩ 1 1 (B4.cs ⟨N, V⟩) (by simp [Act.eval]) rfl (src4 w4 ⟨N, V⟩) (one4 _) (by omega) (by unfold maxLen; omega) (by omega) (by have := HB4.out.size; simp; omega) _ rfl ?_; intro g5 c5 w5 ho5 hg5 hat5 hlt5)
        | (rw [if_pos (by simp [Region.wanted])]; go_simp; go_at_call 101; refine (cloneS_any _ _ (by omega)).mono ?_; rintro e w3 ⟨rfl, hb3⟩; have y1 := keptB (below_dr hb3) x1; have y2 := keptB (below_dr hb3) x2; have y3 := keptB (below_dr hb3) x3; have HO3 := hide (ownsRow_below' HO.out (below_dr hb3)); have HB3 := hide (below_step HB.out (below_dr hb3)))
        | (rw [if_pos (by simp [Region.wanted])]; go_simp; go_at_call 102; refine (copyVal_any _ _ _ _ (by omega)).mono ?_; rintro e w4 ⟨rfl, hb4⟩; have HO4 := hide (ownsRow_below' HO3.out hb4); have HB4 := hide (below_step HB3.out hb4)))
      all_goals
        rw [HT.out] at ho5
        have HO5 := hide ho5
        have HB5 := hide ((HB4.out.alloc HB4.out.size _).grown hg5 (HB4.out.alloc HB4.out.size _).size (fun k hk => (HO4.out.lt k hk).1))
        clear ho5 hg5 hat5 hlt5 HO4 HB4 HO3 HB3 HO HB x0 x1 x2 x3 y1 y2 y3 hb3 hb4
        go_wp2
        go_roundw
        case rel => exact ⟨k + 1, g5, c5, by omega, by go_num, rfl, HO5.out, HB5.out⟩
        case measure => simp [intOf]; omega
    · obtain rfl : k = n := by omega
      rw [HE.out] at hown
      have HG : Hid (GivesC (.returned (.slice (some ⟨g, 0, none⟩) k c)) wr w M) := by
        refine ⟨g, c, by rw [← HN.out], (hown.lt g rfl).1, OwnK.of B4.len (by decide) hown, hbel⟩
      clear hown
      go_wp2
      go_returns
      exact HG.out

end Go.Proofs.Ytfgigcdfmkfkjaa
/-
  Rows of Exprs: what a slice of them reads as, what came in.
-/
namespace Go.Proofs.Ytfgigcdfmkfkjaa
open Go.ChangeShapes Go.WideShapes Go.ChangeAt Go.RowKit Go.Joins Go.Deep
set_option linter.unusedVariables false
set_option maxRecDepth 100000

structure X11 where
  Op : ByteArray
  L : A5
  R : A5
instance : Inhabited X11 := ⟨⟨⟨#[]⟩, default, default⟩⟩
def X11.cs (x : X11) : List Value := [.string x.Op, .int .i64 x.L.K, .string x.L.S, .int .i64 x.L.V.K, .int .i64 x.L.V.N, .string x.L.V.S, .int .i64 x.R.K, .string x.R.S, .int .i64 x.R.V.K, .int .i64 x.R.V.N, .string x.R.V.S]
theorem X11.len (x : X11) : x.cs.length = 11 := rfl
def X11.fits (x : X11) : Prop := x.Op.size ≤ maxLen ∧ x.L.fits ∧ x.R.fits
def X11.small (x : X11) : Prop := x.Op.size ≤ 1048576 ∧ x.L.small ∧ x.R.small
def X11.zero : X11 := ⟨⟨#[]⟩, A5.zero, A5.zero⟩
abbrev RdExpr (w : World) (a : Option Addr) (L : List X11) : Prop := RdK X11.cs 11 w a L
theorem RdExpr.cells {w : World} {a : Option Addr} {L : List X11} (h : RdExpr w a L) (hp : 0 < L.length) :
    ∃ b off, a = some ⟨b, off, none⟩ ∧ b < w.heap.size ∧ ∀ i, i < L.length → w.cell? ⟨b, off + i * 11, none⟩ = some (.string (eAt L i).Op) ∧ w.cell? ⟨b, off + i * 11 + 1, none⟩ = some (.int .i64 (eAt L i).L.K) ∧ w.cell? ⟨b, off + i * 11 + 2, none⟩ = some (.string (eAt L i).L.S) ∧ w.cell? ⟨b, off + i * 11 + 3, none⟩ = some (.int .i64 (eAt L i).L.V.K) ∧ w.cell? ⟨b, off + i * 11 + 4, none⟩ = some (.int .i64 (eAt L i).L.V.N) ∧ w.cell? ⟨b, off + i * 11 + 5, none⟩ = some (.string (eAt L i).L.V.S) ∧ w.cell? ⟨b, off + i * 11 + 6, none⟩ = some (.int .i64 (eAt L i).R.K) ∧ w.cell? ⟨b, off + i * 11 + 7, none⟩ = some (.string (eAt L i).R.S) ∧ w.cell? ⟨b, off + i * 11 + 8, none⟩ = some (.int .i64 (eAt L i).R.V.K) ∧ w.cell? ⟨b, off + i * 11 + 9, none⟩ = some (.int .i64 (eAt L i).R.V.N) ∧ w.cell? ⟨b, off + i * 11 + 10, none⟩ = some (.string (eAt L i).R.V.S) := by
  obtain ⟨b, off, e, hb, hc⟩ := RdK.open X11.len (by decide) h hp
  refine ⟨b, off, e, hb, fun i hi => ?_⟩
  have hc := hc i hi
  exact ⟨hc 0 _ rfl, hc 1 _ rfl, hc 2 _ rfl, hc 3 _ rfl, hc 4 _ rfl, hc 5 _ rfl, hc 6 _ rfl, hc 7 _ rfl, hc 8 _ rfl, hc 9 _ rfl, hc 10 _ rfl⟩
def IsExprs (w : World) (a : Option Addr) (len cap : Nat) (L : List X11) : Prop := L.length = len ∧ len ≤ maxLen ∧ RdExpr w a L ∧ ∀ x ∈ L, x.fits

theorem expr_cells {H : Type} {enc : TypeId × Value → H} {w : World} {base : Nat} {spare : Nat → Bool} {held : Bool} {n : Nat} {cs : List Value} {x : DataW H × List MemPlace}
    (h : DataW.trod enc Try.prog w base spare held n 219 cs = some x) : ∃ y : X11, cs = y.cs ∧ y.fits := by
  obtain ⟨y0, y1, y2, m, -, hl, h0, h1, h2⟩ := trod_struct3 Try.underlying219 h
  have hc : Try.prog.cellsOf 219 = 11 := by kernel_rfl
  have hi : Try.prog.cellsOf 9 = 1 := by kernel_rfl
  have ha : Try.prog.cellsOf 142 = 5 := by kernel_rfl
  rw [hc] at hl
  match cs, hl with
  | [c0, c1, c2, c3, c4, c5, c6, c7, c8, c9, c10], _ =>
    simp only [hi, ha, List.drop_zero, List.drop_succ_cons, List.take_succ_cons, List.take_zero] at h0 h1 h2
    obtain ⟨O, eO, _, wO⟩ := DataW.trod_string Try.underlying9 h0
    obtain ⟨l, el, fl⟩ := arg_cells h1
    obtain ⟨r, er, fr⟩ := arg_cells h2
    simp only [A5.cs, List.cons.injEq, and_true] at eO el er
    obtain ⟨e1, e2, e3, e4, e5⟩ := el
    obtain ⟨e6, e7, e8, e9, e10⟩ := er
    exact ⟨⟨O, l, r⟩, by rw [eO, e1, e2, e3, e4, e5, e6, e7, e8, e9, e10]; rfl, wO, fl, fr⟩

theorem expr_in {H : Type} {enc : TypeId × Value → H} {w : World} {base b0 : Nat} {spare : Nat → Bool} {held : Bool} {r : Reach} {v : Value} {d : DataW H} {p : List MemPlace}
    (hv : Value.okWide Try.prog w r b0 219 v) (h : DataW.Trod enc Try.prog w base spare held 219 v d p) : ∃ x : X11, v = .agg #[.string x.Op, .int .i64 x.L.K, .string x.L.S, .int .i64 x.L.V.K, .int .i64 x.L.V.N, .string x.L.V.S, .int .i64 x.R.K, .string x.R.S, .int .i64 x.R.V.K, .int .i64 x.R.V.N, .string x.R.V.S] ∧ x.fits := by
  obtain ⟨cs, rfl, hsz⟩ := okWide_struct Try.underlying219 hv
  obtain ⟨fuel, hf⟩ := h
  obtain ⟨y, e, hy⟩ := expr_cells hf
  refine ⟨y, ?_, hy⟩
  have e2 : cs.toList = y.cs := e
  rw [← Array.toArray_toList (xs := cs), e2]
  rfl
theorem exprs_in {H : Type} {enc : TypeId × Value → H} {w : World} {spare : Nat → Bool} {held : Bool} {n : Nat} {v : Value} {x : DataW H × List MemPlace}
    (h : DataW.trod enc Try.prog w 0 spare held n 146 [v] = some x) : ∃ a len cap L, v = .slice a len cap ∧ IsExprs w a len cap L := by
  have hc : Try.prog.cellsOf 219 = 11 := by kernel_rfl
  rcases open_slice Try.underlying146 h with ⟨h0, _⟩ | ⟨a, len, cap, m, n', D, Pl, h0, hb, hl, hm, hmm, _, hx⟩
  · simp only [List.cons.injEq, and_true] at h0
    exact ⟨none, 0, 0, [], h0, rfl, Nat.zero_le _, RdK.nil _ _ _ _, fun v hv => by cases hv⟩
  · simp only [List.cons.injEq, and_true] at h0
    have hlm : len ≤ m := by rw [hmm]; split <;> omega
    obtain ⟨F, hF⟩ := choose_lt (α := X11) (n := len) (p := fun i v => w.cells? 0 (a.add (i * 11)) 11 = some v.cs ∧ v.fits) (fun i hi => by
      obtain ⟨cs', h1, h2⟩ := hx i (by omega)
      rw [hc] at h1
      obtain ⟨y, rfl, hs⟩ := expr_cells h2
      exact ⟨y, h1, hs⟩)
    refine ⟨some a, len, cap, (List.range len).map F, h0, by simp, Nat.le_trans hl hm, fun i hi => ?_, fun v hv => ?_⟩
    · have hi2 : i < len := by simpa using hi
      obtain ⟨_, _, hcell⟩ := World.cells?_some (hF i hi2).1
      obtain ⟨b, off, spot⟩ := a
      have hs : spot = none := by
        obtain ⟨_, _, hcell0⟩ := World.cells?_some (hF 0 (by omega)).1
        have e := hcell0 0 (by omega)
        rw [add_add] at e
        simp only [X11.cs, List.getElem?_cons_zero] at e
        simpa [Addr.add] using World.cell?_spot e
      subst hs
      have ev : eAt ((List.range len).map F) i = F i := by rw [eAt_in hi]; simp
      rw [ev]
      refine ⟨b, off, rfl, fun j c hj => ?_⟩
      have hjk : j < 11 := by rw [← (F i).len]; exact (List.getElem?_eq_some_iff.1 hj).1
      have e := hcell j hjk
      rw [add_add, Addr.add_lit, hj] at e
      simpa [Nat.add_assoc] using e
    · obtain ⟨i, hi, rfl⟩ := List.mem_map.1 hv
      exact (hF i (List.mem_range.1 hi)).2
theorem rowOf_set_X11 (x : X11) : ∀ (L : List X11) (i : Nat), i < L.length →
    ((((((((((((rowOf X11.cs L).set (i * 11) (.string x.Op)).set (i * 11 + 1) (.int .i64 x.L.K)).set (i * 11 + 2) (.string x.L.S)).set (i * 11 + 3) (.int .i64 x.L.V.K)).set (i * 11 + 4) (.int .i64 x.L.V.N)).set (i * 11 + 5) (.string x.L.V.S)).set (i * 11 + 6) (.int .i64 x.R.K)).set (i * 11 + 7) (.string x.R.S)).set (i * 11 + 8) (.int .i64 x.R.V.K)).set (i * 11 + 9) (.int .i64 x.R.V.N)).set (i * 11 + 10) (.string x.R.V.S)) = rowOf X11.cs (L.set i x)
  | [], i, hi => absurd hi (Nat.not_lt_zero _)
  | y :: r, 0, hi => by
    rw [List.set_cons_zero, rowOf_cons, rowOf_cons]
    rfl
  | y :: r, i + 1, hi => by
    have ih := rowOf_set_X11 x r i (by simpa using hi)
    rw [List.set_cons_succ, rowOf_cons, rowOf_cons, ← ih]
    simp only [Nat.succ_mul, X11.cs]
    rfl
abbrev OwnExpr (w : World) (g cap : Nat) (L : List X11) : Prop := OwnK 206 X11.cs 11 w g cap L
theorem rdOwnExpr {w : World} {g cap : Nat} {L : List X11} (h : OwnExpr w g cap L) : RdExpr w (some ⟨g, 0, none⟩) L := OwnK.rd X11.len (by decide) h
end Go.Proofs.Ytfgigcdfmkfkjaa
/-
  An act as it came in.
-/
namespace Go.Proofs.Ytfgigcdfmkfkjaa
open Go.ChangeShapes Go.WideShapes Go.ChangeAt Go.RowKit Go.Joins Go.Deep
set_option linter.unusedVariables false
set_option maxRecDepth 100000

theorem array5 {α : Type} {cs : Array α} (h : cs.size = 5) : ∃ c0 c1 c2 c3 c4, cs = #[c0, c1, c2, c3, c4] := by
  obtain ⟨l⟩ := cs
  match l, h with
  | [c0, c1, c2, c3, c4], _ => exact ⟨c0, c1, c2, c3, c4, rfl⟩
theorem trod_struct5 {H : Type} {enc : TypeId × Value → H} {P : Program} {w : World} {base : Nat} {spare : Nat → Bool} {held : Bool} {t : TypeId} {f0 f1 f2 f3 f4 : Field} {fuel : Nat} {cs : List Value} {x : DataW H × List MemPlace} (ht : P.underlying t = some (.struct #[f0, f1, f2, f3, f4])) (h : DataW.trod enc P w base spare held fuel t cs = some x) :
    ∃ y0 y1 y2 y3 y4 n, cs.length = P.cellsOf t ∧ DataW.trod enc P w base spare held n f0.type ((cs.drop f0.offset).take (P.cellsOf f0.type)) = some y0 ∧
      DataW.trod enc P w base spare held n f1.type ((cs.drop f1.offset).take (P.cellsOf f1.type)) = some y1 ∧ DataW.trod enc P w base spare held n f2.type ((cs.drop f2.offset).take (P.cellsOf f2.type)) = some y2 ∧
      DataW.trod enc P w base spare held n f3.type ((cs.drop f3.offset).take (P.cellsOf f3.type)) = some y3 ∧ DataW.trod enc P w base spare held n f4.type ((cs.drop f4.offset).take (P.cellsOf f4.type)) = some y4 := by
  obtain ⟨xs, n, _, rfl, hl, hlen, hf⟩ := DataW.trod_struct ht h
  match xs, hlen with
  | [y0, y1, y2, y3, y4], _ => exact ⟨y0, y1, y2, y3, y4, n, hl, by simpa using hf 0 f0 rfl, by simpa using hf 1 f1 rfl, by simpa using hf 2 f2 rfl, by simpa using hf 3 f3 rfl, by simpa using hf 4 f4 rfl⟩
theorem act_in {H : Type} {enc : TypeId × Value → H} {w : World} {b0 : Nat} {spare : Nat → Bool} {held : Bool} {r : Reach} {v : Value} {d : DataW H} {p : List MemPlace}
    (hv : Value.okWide Try.prog w r b0 148 v) (h : DataW.Trod enc Try.prog w 0 spare held 148 v d p) :
    ∃ (K : Int) (nm : ByteArray) (a : Option Addr) (len cap : Nat) (L : List X11) (N : Int) (un : ByteArray), v = .agg #[.int .i64 K, .string nm, .slice a len cap, .int .i64 N, .string un] ∧ nm.size ≤ maxLen ∧ un.size ≤ maxLen ∧ IsExprs w a len cap L := by
  obtain ⟨cs, rfl, hsz⟩ := okWide_struct Try.underlying148 hv
  obtain ⟨c0, c1, c2, c3, c4, rfl⟩ := array5 (hsz.trans (by kernel_rfl))
  obtain ⟨fuel, hf⟩ := h
  obtain ⟨y0, y1, y2, y3, y4, n, _, h0, h1, h2, h3, h4⟩ := trod_struct5 Try.underlying148 hf
  have e0 : Try.prog.cellsOf 3 = 1 := by kernel_rfl
  have e1 : Try.prog.cellsOf 9 = 1 := by kernel_rfl
  have e2 : Try.prog.cellsOf 146 = 1 := by kernel_rfl
  simp only [e0, e1, e2, Value.cells, List.drop_zero, List.drop_succ_cons, List.take_succ_cons, List.take_zero] at h0 h1 h2 h3 h4
  obtain ⟨K, eK, _, _⟩ := DataW.trod_int Try.underlying3 h0
  obtain ⟨S, eS, _, wS⟩ := DataW.trod_string Try.underlying9 h1
  obtain ⟨N, eN, _, _⟩ := DataW.trod_int Try.underlying3 h3
  obtain ⟨U, eU, _, wU⟩ := DataW.trod_string Try.underlying9 h4
  obtain ⟨a, len, cap, L, eL, wL⟩ := exprs_in h2
  simp only [List.cons.injEq, and_true] at eK eS eN eU
  exact ⟨K, S, a, len, cap, L, N, U, by rw [eK, eS, eN, eU, eL], wS, wU, wL⟩
end Go.Proofs.Ytfgigcdfmkfkjaa
/-
  Rows of Acts, each with a list of its own: what a slice of them reads as, what came in.
-/
namespace Go.Proofs.Ytfgigcdfmkfkjaa
open Go.ChangeShapes Go.WideShapes Go.ChangeAt Go.RowKit Go.Joins Go.Deep
set_option linter.unusedVariables false

set_option maxRecDepth 100000

structure QE where
  K : Int
  nm : ByteArray
  a : Option Addr
  cap : Nat
  L : List X11
  N : Int
  un : ByteArray
instance : Inhabited QE := ⟨⟨0, ⟨#[]⟩, none, 0, [], 0, ⟨#[]⟩⟩⟩
def QE.zero : QE := ⟨0, ⟨#[]⟩, none, 0, [], 0, ⟨#[]⟩⟩
/-- the same, plainly -/
structure QP where
  K : Int
  nm : ByteArray
  L : List X11
  N : Int
  un : ByteArray
instance : Inhabited QP := ⟨⟨0, ⟨#[]⟩, [], 0, ⟨#[]⟩⟩⟩
def QE.pl (x : QE) : QP := ⟨x.K, x.nm, x.L, x.N, x.un⟩
theorem QE.pl_inj {x y : QE} (h : x.pl = y.pl) : x.K = y.K ∧ x.nm = y.nm ∧ x.L = y.L ∧ x.N = y.N ∧ x.un = y.un := by simpa [QE.pl] using h
def QE.cs (x : QE) : List Value := [.int .i64 x.K, .string x.nm, .slice x.a x.L.length x.cap, .int .i64 x.N, .string x.un]
theorem QE.len (x : QE) : x.cs.length = 5 := rfl
def QE.ok (x : QE) : Prop := x.nm.size ≤ maxLen ∧ x.un.size ≤ maxLen ∧ x.L.length ≤ maxLen ∧ ∀ v ∈ x.L, v.fits
/-- how great one is -/
def QE.sz (x : QE) : Nat := x.nm.size + x.L.length + x.un.size
def QE.small (x : QE) : Prop := x.nm.size ≤ 1048576 ∧ x.un.size ≤ 1048576 ∧ x.L.length ≤ 1048576 ∧ ∀ v ∈ x.L, v.small
theorem QE.small_of {x y : QE} (h : x.small) (e : y.pl = x.pl) : y.small := by
  obtain ⟨e0, e1, e2, e3, e4⟩ := QE.pl_inj e
  unfold QE.small at *
  rw [e1, e2, e4]; exact h
/-- what the slice at 'a' reads as -/
def RdActS (w : World) (a : Option Addr) (J : List QE) : Prop := RdK QE.cs 5 w a J ∧ ∀ i, i < J.length → RdExpr w (eAt J i).a (eAt J i).L
theorem RdActS.cells {w : World} {a : Option Addr} {J : List QE} (h : RdActS w a J) (hp : 0 < J.length) :
    ∃ b off, a = some ⟨b, off, none⟩ ∧ b < w.heap.size ∧ ∀ i, i < J.length → w.cell? ⟨b, off + i * 5, none⟩ = some (.int .i64 (eAt J i).K) ∧ w.cell? ⟨b, off + i * 5 + 1, none⟩ = some (.string (eAt J i).nm) ∧ w.cell? ⟨b, off + i * 5 + 2, none⟩ = some (.slice (eAt J i).a (eAt J i).L.length (eAt J i).cap) ∧ w.cell? ⟨b, off + i * 5 + 3, none⟩ = some (.int .i64 (eAt J i).N) ∧ w.cell? ⟨b, off + i * 5 + 4, none⟩ = some (.string (eAt J i).un) ∧ RdExpr w (eAt J i).a (eAt J i).L := by
  obtain ⟨b, off, e, hb, hc⟩ := RdK.open QE.len (by decide) h.1 hp
  refine ⟨b, off, e, hb, fun i hi => ?_⟩
  have hc := hc i hi
  exact ⟨hc 0 _ rfl, hc 1 _ rfl, hc 2 _ rfl, hc 3 _ rfl, hc 4 _ rfl, h.2 i hi⟩
theorem RdActS.below {w w' : World} {a : Option Addr} {J : List QE} (h : RdActS w a J) (hb : Below w.heap.size w w') : RdActS w' a J := ⟨h.1.below hb, fun i hi => (h.2 i hi).below hb⟩
theorem RdActS.heap {w w' : World} {a : Option Addr} {J : List QE} (h : RdActS w a J) (hb : w'.heap = w.heap) : RdActS w' a J := ⟨h.1.heap hb, fun i hi => (h.2 i hi).heap hb⟩
theorem RdActS.nil (w : World) (a : Option Addr) : RdActS w a [] := ⟨RdK.nil _ _ _ _, fun i hi => absurd hi (Nat.not_lt_zero _)⟩
def IsActS (w : World) (a : Option Addr) (len cap : Nat) (J : List QE) : Prop := J.length = len ∧ len ≤ maxLen ∧ RdActS w a J ∧ ∀ x ∈ J, x.ok
abbrev InAct : World → Nat → Nat → QE → Prop := InK 206 X11.cs 11 QE.a QE.cap QE.L
theorem innAct : Inn (InAct) := inn_K _ _ _ _ _ _
abbrev OwnActS (w : World) (lo hi g cp : Nat) (K : List QE) (m : Nat) : Prop := OwnD 166 QE.cs 5 InAct w lo hi g cp K m
theorem rdOwnActS {w : World} {lo hi g cp : Nat} {K : List QE} (h : OwnActS w lo hi g cp K K.length) : RdActS w (some ⟨g, 0, none⟩) K :=
  ⟨OwnK.rd QE.len (by decide) h.own, fun i hi => by obtain ⟨s, e, q, h1, -, -, h4⟩ := h.at hi; rw [h1]; exact rdOwnExpr h4⟩
theorem act_cells' {H : Type} {enc : TypeId × Value → H} {w : World} {spare : Nat → Bool} {held : Bool} {n : Nat} {cs : List Value} {x : DataW H × List MemPlace}
    (h : DataW.trod enc Try.prog w 0 spare held n 148 cs = some x) : ∃ y : QE, cs = y.cs ∧ RdExpr w y.a y.L ∧ y.ok := by
  obtain ⟨y0, y1, y2, y3, y4, m, hl, h0, h1, h2, h3, h4⟩ := trod_struct5 Try.underlying148 h
  have hc : Try.prog.cellsOf 148 = 5 := by kernel_rfl
  have e0 : Try.prog.cellsOf 3 = 1 := by kernel_rfl
  have e1 : Try.prog.cellsOf 9 = 1 := by kernel_rfl
  have e2 : Try.prog.cellsOf 146 = 1 := by kernel_rfl
  rw [hc] at hl
  match cs, hl with
  | [c0, c1, c2, c3, c4], _ =>
    simp only [e0, e1, e2, List.drop_zero, List.drop_succ_cons, List.take_succ_cons, List.take_zero] at h0 h1 h2 h3 h4
    obtain ⟨v0, q0, _, _⟩ := DataW.trod_int Try.underlying3 h0
    obtain ⟨v1, q1, _, w1⟩ := DataW.trod_string Try.underlying9 h1
    obtain ⟨aa, len, cap, L, qL, hlen, hm, hr, hf⟩ := exprs_in h2
    obtain ⟨v3, q3, _, _⟩ := DataW.trod_int Try.underlying3 h3
    obtain ⟨v4, q4, _, w4⟩ := DataW.trod_string Try.underlying9 h4
    simp only [List.cons.injEq, and_true] at q0 q1 q3 q4
    exact ⟨⟨v0, v1, aa, cap, L, v3, v4⟩, by rw [q0, q1, q3, q4, qL, ← hlen]; rfl, hr, w1, w4, by rw [hlen]; exact hm, hf⟩
theorem acts_in {H : Type} {enc : TypeId × Value → H} {w : World} {spare : Nat → Bool} {held : Bool} {n : Nat} {v : Value} {x : DataW H × List MemPlace}
    (h : DataW.trod enc Try.prog w 0 spare held n 35 [v] = some x) : ∃ a len cap J, v = .slice a len cap ∧ IsActS w a len cap J := by
  have hc : Try.prog.cellsOf 148 = 5 := by kernel_rfl
  rcases open_slice Try.underlying35 h with ⟨h0, _⟩ | ⟨a, len, cap, m, n', D, Pl, h0, hb, hl, hm, hmm, _, hx⟩
  · simp only [List.cons.injEq, and_true] at h0
    exact ⟨none, 0, 0, [], h0, rfl, Nat.zero_le _, RdActS.nil _ _, fun v hv => by cases hv⟩
  · simp only [List.cons.injEq, and_true] at h0
    have hlm : len ≤ m := by rw [hmm]; split <;> omega
    obtain ⟨F, hF⟩ := choose_lt (α := QE) (n := len) (p := fun i v => w.cells? 0 (a.add (i * 5)) 5 = some v.cs ∧ RdExpr w v.a v.L ∧ v.ok) (fun i hi => by
      obtain ⟨cs', h1, h2⟩ := hx i (by omega)
      rw [hc] at h1
      obtain ⟨y, rfl, hs⟩ := act_cells' h2
      exact ⟨y, h1, hs⟩)
    refine ⟨some a, len, cap, (List.range len).map F, h0, by simp, Nat.le_trans hl hm, ⟨fun i hi => ?_, fun i hi => ?_⟩, fun v hv => ?_⟩
    · have hi2 : i < len := by simpa using hi
      obtain ⟨_, _, hcell⟩ := World.cells?_some (hF i hi2).1
      obtain ⟨b, off, spot⟩ := a
      have hs : spot = none := by
        obtain ⟨_, _, hcell0⟩ := World.cells?_some (hF 0 (by omega)).1
        have e := hcell0 0 (by omega)
        rw [add_add] at e
        simp only [QE.cs, List.getElem?_cons_zero] at e
        simpa [Addr.add] using World.cell?_spot e
      subst hs
      have ev : eAt ((List.range len).map F) i = F i := by rw [eAt_in hi]; simp
      rw [ev]
      refine ⟨b, off, rfl, fun j c hj => ?_⟩
      have hjk : j < 5 := by rw [← (F i).len]; exact (List.getElem?_eq_some_iff.1 hj).1
      have e := hcell j hjk
      rw [add_add, Addr.add_lit, hj] at e
      simpa [Nat.add_assoc] using e
    · have ev : eAt ((List.range len).map F) i = F i := by rw [eAt_in hi]; simp
      rw [ev]
      exact (hF i (by simpa using hi)).2.1
    · obtain ⟨i, hi, rfl⟩ := List.mem_map.1 hv
      exact (hF i (List.mem_range.1 hi)).2.2
theorem rowOf_set_QE (x : QE) : ∀ (L : List QE) (i : Nat), i < L.length →
    ((((((rowOf QE.cs L).set (i * 5) (.int .i64 x.K)).set (i * 5 + 1) (.string x.nm)).set (i * 5 + 2) (.slice x.a x.L.length x.cap)).set (i * 5 + 3) (.int .i64 x.N)).set (i * 5 + 4) (.string x.un)) = rowOf QE.cs (L.set i x)
  | [], i, hi => absurd hi (Nat.not_lt_zero _)
  | y :: r, 0, hi => by
    rw [List.set_cons_zero, rowOf_cons, rowOf_cons]
    rfl
  | y :: r, i + 1, hi => by
    have ih := rowOf_set_QE x r i (by simpa using hi)
    rw [List.set_cons_succ, rowOf_cons, rowOf_cons, ← ih]
    simp only [Nat.succ_mul, QE.cs]
    rfl
theorem rowOf_set_QE_K (v : Int) : ∀ (L : List QE) (i : Nat), i < L.length → (rowOf QE.cs L).set (i * 5) (.int .i64 v) = rowOf QE.cs (L.set i { eAt L i with K := v })
  | [], i, hi => absurd hi (Nat.not_lt_zero _)
  | y :: r, 0, hi => by
    rw [List.set_cons_zero, rowOf_cons, rowOf_cons]
    rfl
  | y :: r, i + 1, hi => by
    have ih := rowOf_set_QE_K v r i (by simpa using hi)
    rw [List.set_cons_succ, rowOf_cons, rowOf_cons, show eAt (y :: r) (i + 1) = eAt r i from rfl, ← ih]
    simp only [Nat.succ_mul, QE.cs]
    rfl
theorem rowOf_set_QE_nm (v : ByteArray) : ∀ (L : List QE) (i : Nat), i < L.length → (rowOf QE.cs L).set (i * 5 + 1) (.string v) = rowOf QE.cs (L.set i { eAt L i with nm := v })
  | [], i, hi => absurd hi (Nat.not_lt_zero _)
  | y :: r, 0, hi => by
    rw [List.set_cons_zero, rowOf_cons, rowOf_cons]
    rfl
  | y :: r, i + 1, hi => by
    have ih := rowOf_set_QE_nm v r i (by simpa using hi)
    rw [List.set_cons_succ, rowOf_cons, rowOf_cons, show eAt (y :: r) (i + 1) = eAt r i from rfl, ← ih]
    simp only [Nat.succ_mul, QE.cs]
    rfl
theorem rowOf_set_QE_N (v : Int) : ∀ (L : List QE) (i : Nat), i < L.length → (rowOf QE.cs L).set (i * 5 + 3) (.int .i64 v) = rowOf QE.cs (L.set i { eAt L i with N := v })
  | [], i, hi => absurd hi (Nat.not_lt_zero _)
  | y :: r, 0, hi => by
    rw [List.set_cons_zero, rowOf_cons, rowOf_cons]
    rfl
  | y :: r, i + 1, hi => by
    have ih := rowOf_set_QE_N v r i (by simpa using hi)
    rw [List.set_cons_succ, rowOf_cons, rowOf_cons, show eAt (y :: r) (i + 1) = eAt r i from rfl, ← ih]
    simp only [Nat.succ_mul, QE.cs]
    rfl
theorem rowOf_set_QE_un (v : ByteArray) : ∀ (L : List QE) (i : Nat), i < L.length → (rowOf QE.cs L).set (i * 5 + 4) (.string v) = rowOf QE.cs (L.set i { eAt L i with un := v })
  | [], i, hi => absurd hi (Nat.not_lt_zero _)
  | y :: r, 0, hi => by
    rw [List.set_cons_zero, rowOf_cons, rowOf_cons]
    rfl
  | y :: r, i + 1, hi => by
    have ih := rowOf_set_QE_un v r i (by simpa using hi)
    rw [List.set_cons_succ, rowOf_cons, rowOf_cons, show eAt (y :: r) (i + 1) = eAt r i from rfl, ← ih]
    simp only [Nat.succ_mul, QE.cs]
    rfl
end Go.Proofs.Ytfgigcdfmkfkjaa
/-
  Rows of Conds: what a slice of them reads as, what came in.
-/
namespace Go.Proofs.Ytfgigcdfmkfkjaa
open Go.ChangeShapes Go.WideShapes Go.ChangeAt Go.RowKit Go.Joins Go.Deep
set_option linter.unusedVariables false
set_option maxRecDepth 100000

structure C11 where
  Op : Int
  L : A5
  R : A5
instance : Inhabited C11 := ⟨⟨0, default, default⟩⟩
def C11.cs (x : C11) : List Value := [.int .i64 x.Op, .int .i64 x.L.K, .string x.L.S, .int .i64 x.L.V.K, .int .i64 x.L.V.N, .string x.L.V.S, .int .i64 x.R.K, .string x.R.S, .int .i64 x.R.V.K, .int .i64 x.R.V.N, .string x.R.V.S]
theorem C11.len (x : C11) : x.cs.length = 11 := rfl
def C11.fits (x : C11) : Prop := x.L.fits ∧ x.R.fits
def C11.small (x : C11) : Prop := x.L.small ∧ x.R.small
def C11.zero : C11 := ⟨0, A5.zero, A5.zero⟩
abbrev RdCond (w : World) (a : Option Addr) (L : List C11) : Prop := RdK C11.cs 11 w a L
theorem RdCond.cells {w : World} {a : Option Addr} {L : List C11} (h : RdCond w a L) (hp : 0 < L.length) :
    ∃ b off, a = some ⟨b, off, none⟩ ∧ b < w.heap.size ∧ ∀ i, i < L.length → w.cell? ⟨b, off + i * 11, none⟩ = some (.int .i64 (eAt L i).Op) ∧ w.cell? ⟨b, off + i * 11 + 1, none⟩ = some (.int .i64 (eAt L i).L.K) ∧ w.cell? ⟨b, off + i * 11 + 2, none⟩ = some (.string (eAt L i).L.S) ∧ w.cell? ⟨b, off + i * 11 + 3, none⟩ = some (.int .i64 (eAt L i).L.V.K) ∧ w.cell? ⟨b, off + i * 11 + 4, none⟩ = some (.int .i64 (eAt L i).L.V.N) ∧ w.cell? ⟨b, off + i * 11 + 5, none⟩ = some (.string (eAt L i).L.V.S) ∧ w.cell? ⟨b, off + i * 11 + 6, none⟩ = some (.int .i64 (eAt L i).R.K) ∧ w.cell? ⟨b, off + i * 11 + 7, none⟩ = some (.string (eAt L i).R.S) ∧ w.cell? ⟨b, off + i * 11 + 8, none⟩ = some (.int .i64 (eAt L i).R.V.K) ∧ w.cell? ⟨b, off + i * 11 + 9, none⟩ = some (.int .i64 (eAt L i).R.V.N) ∧ w.cell? ⟨b, off + i * 11 + 10, none⟩ = some (.string (eAt L i).R.V.S) := by
  obtain ⟨b, off, e, hb, hc⟩ := RdK.open C11.len (by decide) h hp
  refine ⟨b, off, e, hb, fun i hi => ?_⟩
  have hc := hc i hi
  exact ⟨hc 0 _ rfl, hc 1 _ rfl, hc 2 _ rfl, hc 3 _ rfl, hc 4 _ rfl, hc 5 _ rfl, hc 6 _ rfl, hc 7 _ rfl, hc 8 _ rfl, hc 9 _ rfl, hc 10 _ rfl⟩
def IsConds (w : World) (a : Option Addr) (len cap : Nat) (L : List C11) : Prop := L.length = len ∧ len ≤ maxLen ∧ RdCond w a L ∧ ∀ x ∈ L, x.fits

theorem cond_cells {H : Type} {enc : TypeId × Value → H} {w : World} {base : Nat} {spare : Nat → Bool} {held : Bool} {n : Nat} {cs : List Value} {x : DataW H × List MemPlace}
    (h : DataW.trod enc Try.prog w base spare held n 144 cs = some x) : ∃ y : C11, cs = y.cs ∧ y.fits := by
  obtain ⟨y0, y1, y2, m, -, hl, h0, h1, h2⟩ := trod_struct3 Try.underlying144 h
  have hc : Try.prog.cellsOf 144 = 11 := by kernel_rfl
  have hi : Try.prog.cellsOf 3 = 1 := by kernel_rfl
  have ha : Try.prog.cellsOf 142 = 5 := by kernel_rfl
  rw [hc] at hl
  match cs, hl with
  | [c0, c1, c2, c3, c4, c5, c6, c7, c8, c9, c10], _ =>
    simp only [hi, ha, List.drop_zero, List.drop_succ_cons, List.take_succ_cons, List.take_zero] at h0 h1 h2
    obtain ⟨O, eO, _, _⟩ := DataW.trod_int Try.underlying3 h0
    obtain ⟨l, el, fl⟩ := arg_cells h1
    obtain ⟨r, er, fr⟩ := arg_cells h2
    simp only [A5.cs, List.cons.injEq, and_true] at eO el er
    obtain ⟨e1, e2, e3, e4, e5⟩ := el
    obtain ⟨e6, e7, e8, e9, e10⟩ := er
    exact ⟨⟨O, l, r⟩, by rw [eO, e1, e2, e3, e4, e5, e6, e7, e8, e9, e10]; rfl, fl, fr⟩

theorem cond_in {H : Type} {enc : TypeId × Value → H} {w : World} {base b0 : Nat} {spare : Nat → Bool} {held : Bool} {r : Reach} {v : Value} {d : DataW H} {p : List MemPlace}
    (hv : Value.okWide Try.prog w r b0 144 v) (h : DataW.Trod enc Try.prog w base spare held 144 v d p) : ∃ x : C11, v = .agg #[.int .i64 x.Op, .int .i64 x.L.K, .string x.L.S, .int .i64 x.L.V.K, .int .i64 x.L.V.N, .string x.L.V.S, .int .i64 x.R.K, .string x.R.S, .int .i64 x.R.V.K, .int .i64 x.R.V.N, .string x.R.V.S] ∧ x.fits := by
  obtain ⟨cs, rfl, hsz⟩ := okWide_struct Try.underlying144 hv
  obtain ⟨fuel, hf⟩ := h
  obtain ⟨y, e, hy⟩ := cond_cells hf
  refine ⟨y, ?_, hy⟩
  have e2 : cs.toList = y.cs := e
  rw [← Array.toArray_toList (xs := cs), e2]
  rfl
theorem conds_in {H : Type} {enc : TypeId × Value → H} {w : World} {spare : Nat → Bool} {held : Bool} {n : Nat} {v : Value} {x : DataW H × List MemPlace}
    (h : DataW.trod enc Try.prog w 0 spare held n 34 [v] = some x) : ∃ a len cap L, v = .slice a len cap ∧ IsConds w a len cap L := by
  have hc : Try.prog.cellsOf 144 = 11 := by kernel_rfl
  rcases open_slice Try.underlying34 h with ⟨h0, _⟩ | ⟨a, len, cap, m, n', D, Pl, h0, hb, hl, hm, hmm, _, hx⟩
  · simp only [List.cons.injEq, and_true] at h0
    exact ⟨none, 0, 0, [], h0, rfl, Nat.zero_le _, RdK.nil _ _ _ _, fun v hv => by cases hv⟩
  · simp only [List.cons.injEq, and_true] at h0
    have hlm : len ≤ m := by rw [hmm]; split <;> omega
    obtain ⟨F, hF⟩ := choose_lt (α := C11) (n := len) (p := fun i v => w.cells? 0 (a.add (i * 11)) 11 = some v.cs ∧ v.fits) (fun i hi => by
      obtain ⟨cs', h1, h2⟩ := hx i (by omega)
      rw [hc] at h1
      obtain ⟨y, rfl, hs⟩ := cond_cells h2
      exact ⟨y, h1, hs⟩)
    refine ⟨some a, len, cap, (List.range len).map F, h0, by simp, Nat.le_trans hl hm, fun i hi => ?_, fun v hv => ?_⟩
    · have hi2 : i < len := by simpa using hi
      obtain ⟨_, _, hcell⟩ := World.cells?_some (hF i hi2).1
      obtain ⟨b, off, spot⟩ := a
      have hs : spot = none := by
        obtain ⟨_, _, hcell0⟩ := World.cells?_some (hF 0 (by omega)).1
        have e := hcell0 0 (by omega)
        rw [add_add] at e
        simp only [C11.cs, List.getElem?_cons_zero] at e
        simpa [Addr.add] using World.cell?_spot e
      subst hs
      have ev : eAt ((List.range len).map F) i = F i := by rw [eAt_in hi]; simp
      rw [ev]
      refine ⟨b, off, rfl, fun j c hj => ?_⟩
      have hjk : j < 11 := by rw [← (F i).len]; exact (List.getElem?_eq_some_iff.1 hj).1
      have e := hcell j hjk
      rw [add_add, Addr.add_lit, hj] at e
      simpa [Nat.add_assoc] using e
    · obtain ⟨i, hi, rfl⟩ := List.mem_map.1 hv
      exact (hF i (List.mem_range.1 hi)).2
theorem rowOf_set_C11 (x : C11) : ∀ (L : List C11) (i : Nat), i < L.length →
    ((((((((((((rowOf C11.cs L).set (i * 11) (.int .i64 x.Op)).set (i * 11 + 1) (.int .i64 x.L.K)).set (i * 11 + 2) (.string x.L.S)).set (i * 11 + 3) (.int .i64 x.L.V.K)).set (i * 11 + 4) (.int .i64 x.L.V.N)).set (i * 11 + 5) (.string x.L.V.S)).set (i * 11 + 6) (.int .i64 x.R.K)).set (i * 11 + 7) (.string x.R.S)).set (i * 11 + 8) (.int .i64 x.R.V.K)).set (i * 11 + 9) (.int .i64 x.R.V.N)).set (i * 11 + 10) (.string x.R.V.S)) = rowOf C11.cs (L.set i x)
  | [], i, hi => absurd hi (Nat.not_lt_zero _)
  | y :: r, 0, hi => by
    rw [List.set_cons_zero, rowOf_cons, rowOf_cons]
    rfl
  | y :: r, i + 1, hi => by
    have ih := rowOf_set_C11 x r i (by simpa using hi)
    rw [List.set_cons_succ, rowOf_cons, rowOf_cons, ← ih]
    simp only [Nat.succ_mul, C11.cs]
    rfl
abbrev OwnCond (w : World) (g cap : Nat) (L : List C11) : Prop := OwnK 162 C11.cs 11 w g cap L
theorem rdOwnCond {w : World} {g cap : Nat} {L : List C11} (h : OwnCond w g cap L) : RdCond w (some ⟨g, 0, none⟩) L := OwnK.rd C11.len (by decide) h
end Go.Proofs.Ytfgigcdfmkfkjaa
/-
  A rule as it lies in memory (RE), what it reads as, and a rule that came in.
-/
namespace Go.Proofs.Ytfgigcdfmkfkjaa
open Go.ChangeShapes Go.WideShapes Go.ChangeAt Go.RowKit Go.Joins Go.Deep
set_option linter.unusedVariables false
set_option maxRecDepth 100000

structure RE where
  nm : ByteArray
  sal : Int
  aP : Option Addr
  nP : Nat
  cP : Nat
  P : List PE
  aC : Option Addr
  nC : Nat
  cC : Nat
  C : List C11
  aA : Option Addr
  nA : Nat
  cA : Nat
  A : List QE
/-- a rule, plainly -/
structure RP where
  nm : ByteArray
  sal : Int
  P : List PP
  C : List C11
  A : List QP
def RE.pl (x : RE) : RP := ⟨x.nm, x.sal, x.P.map PE.pl, x.C, x.A.map QE.pl⟩
theorem RE.pl_inj {x y : RE} (h : x.pl = y.pl) : x.nm = y.nm ∧ x.sal = y.sal ∧ x.P.map PE.pl = y.P.map PE.pl ∧ x.C = y.C ∧ x.A.map QE.pl = y.A.map QE.pl := by simpa [RE.pl] using h
def RE.arr (x : RE) : Array Value := #[.string x.nm, .int .i64 x.sal, .slice x.aP x.nP x.cP, .slice x.aC x.nC x.cC, .slice x.aA x.nA x.cA]
/-- what a rule reads as -/
structure RdRule (w : World) (x : RE) : Prop where
  p : RdPatS w x.aP x.P
  c : RdCond w x.aC x.C
  a : RdActS w x.aA x.A
  np : x.P.length = x.nP
  nc : x.C.length = x.nC
  na : x.A.length = x.nA
theorem RdRule.below {w w' : World} {x : RE} (h : RdRule w x) (hb : Below w.heap.size w w') : RdRule w' x := ⟨h.p.below hb, h.c.below hb, h.a.below hb, h.np, h.nc, h.na⟩
theorem RdRule.heap {w w' : World} {x : RE} (h : RdRule w x) (hb : w'.heap = w.heap) : RdRule w' x := ⟨h.p.heap hb, h.c.heap hb, h.a.heap hb, h.np, h.nc, h.na⟩
def RE.ok (x : RE) : Prop := x.nm.size ≤ maxLen ∧ x.nP ≤ maxLen ∧ (∀ p ∈ x.P, p.ok) ∧ x.nC ≤ maxLen ∧ (∀ c ∈ x.C, c.fits) ∧ x.nA ≤ maxLen ∧ ∀ a ∈ x.A, a.ok
/-- how great a rule is -/
def RE.sz (x : RE) : Nat := x.nm.size + (x.P.length + (x.P.map PE.sz).sum) + x.C.length + (x.A.length + (x.A.map QE.sz).sum)
def RE.small (x : RE) : Prop := x.sz ≤ 1048576 ∧ (∀ p ∈ x.P, p.small) ∧ (∀ c ∈ x.C, c.small) ∧ ∀ a ∈ x.A, a.small
theorem mem_eAt {α : Type} [Inhabited α] {L : List α} {x : α} (h : x ∈ L) : ∃ i, i < L.length ∧ eAt L i = x := by
  obtain ⟨i, hi, rfl⟩ := List.getElem_of_mem h
  exact ⟨i, hi, eAt_in hi⟩
theorem eAt_mem {α : Type} [Inhabited α] {L : List α} {i : Nat} (h : i < L.length) : eAt L i ∈ L := by rw [eAt_in h]; exact List.getElem_mem h
theorem small_pls {K J : List PE} (h : K.map PE.pl = J.map PE.pl) (hs : ∀ p ∈ J, p.small) : ∀ p ∈ K, p.small := fun p hp => by
  obtain ⟨i, hi, rfl⟩ := mem_eAt hp
  exact PE.small_of (hs _ (eAt_mem (by rw [← map_len h]; exact hi))) (map_at h hi)
theorem small_qls {K J : List QE} (h : K.map QE.pl = J.map QE.pl) (hs : ∀ p ∈ J, p.small) : ∀ p ∈ K, p.small := fun p hp => by
  obtain ⟨i, hi, rfl⟩ := mem_eAt hp
  exact QE.small_of (hs _ (eAt_mem (by rw [← map_len h]; exact hi))) (map_at h hi)
theorem RE.small_of {x y : RE} (h : x.small) (e : y.pl = x.pl) : y.small := by
  obtain ⟨e1, e2, e3, e4, e5⟩ := RE.pl_inj e
  obtain ⟨h1, h2, h3, h4⟩ := h
  have f1 := map_len e3
  have f2 := map_len e5
  have f3 := totW_pl (wt := PE.sz) (p := PE.pl) (v := fun x => x.kd.size + x.L.length) (fun _ => rfl) e3
  have f4 := totW_pl (wt := QE.sz) (p := QE.pl) (v := fun x => x.nm.size + x.L.length + x.un.size) (fun _ => rfl) e5
  refine ⟨?_, small_pls e3 h2, by rw [e4]; exact h3, small_qls e5 h4⟩
  unfold RE.sz at *
  rw [e1, f1, f3, e4, f2, f4]; exact h1
/-- a rule's lists lie in blocks of the calls' own, between two numbers -/
structure OwnRule (w : World) (lo hi : Nat) (x : RE) : Prop where
  own : ∃ gP gC gA m1 m2, x.aP = some ⟨gP, 0, none⟩ ∧ OwnPatS w lo m1 gP x.cP x.P x.P.length ∧ x.aC = some ⟨gC, 0, none⟩ ∧ OwnCond w gC x.cC x.C ∧ m1 ≤ gC ∧ gC < m2 ∧ x.aA = some ⟨gA, 0, none⟩ ∧ OwnActS w m2 hi gA x.cA x.A x.A.length
  np : x.P.length = x.nP
  nc : x.C.length = x.nC
  na : x.A.length = x.nA
theorem OwnRule.rd {w : World} {lo hi : Nat} {x : RE} (h : OwnRule w lo hi x) : RdRule w x := by
  obtain ⟨gP, gC, gA, m1, m2, e1, o1, e2, o2, -, -, e3, o3⟩ := h.own
  exact ⟨by rw [e1]; exact rdOwnPatS o1, by rw [e2]; exact rdOwnCond o2, by rw [e3]; exact rdOwnActS o3, h.np, h.nc, h.na⟩
theorem OwnRule.top {w : World} {lo hi : Nat} {x : RE} (h : OwnRule w lo hi x) : hi ≤ w.heap.size := by
  obtain ⟨gP, gC, gA, m1, m2, e1, o1, e2, o2, -, -, e3, o3⟩ := h.own
  exact o3.top
theorem OwnRule.lohi {w : World} {lo hi : Nat} {x : RE} (h : OwnRule w lo hi x) : lo < hi := by
  obtain ⟨gP, gC, gA, m1, m2, e1, o1, e2, o2, h1, h2, e3, o3⟩ := h.own
  have := o1.low
  have := o1.lth
  have := o3.low
  have := o3.lth
  omega
theorem OwnRule.keep {w w' : World} {lo hi : Nat} {x : RE} (h : OwnRule w lo hi x) (hsz : w.heap.size ≤ w'.heap.size) (hs : ∀ q, lo ≤ q → q < hi → w'.heap[q]? = w.heap[q]?) : OwnRule w' lo hi x := by
  obtain ⟨gP, gC, gA, m1, m2, e1, o1, e2, o2, h1, h2, e3, o3⟩ := h.own
  have a1 := o1.low
  have a2 := o1.lth
  have a3 := o3.low
  have a4 := o3.lth
  exact ⟨⟨gP, gC, gA, m1, m2, e1, o1.keep innPat hsz (fun q q1 q2 => hs q q1 (by omega)), e2, o2.same (hs gC (by omega) (by omega)), h1, h2, e3, o3.keep innAct hsz (fun q q1 q2 => hs q (by omega) q2)⟩, h.np, h.nc, h.na⟩
theorem OwnRule.later {w w' : World} {lo hi : Nat} {x : RE} (h : OwnRule w lo hi x) (hb : Below w.heap.size w w') : OwnRule w' lo hi x :=
  h.keep hb.size (fun q _ hq => hb.block q (Nat.lt_of_lt_of_le hq h.top))
theorem OwnRule.grown {w w' : World} {lo hi p : Nat} {x : RE} (h : OwnRule w lo hi x) (hg : w.grownBy w' (some p)) (hp : p < lo ∨ hi ≤ p) : OwnRule w' lo hi x :=
  h.keep hg.size (fun q h1 h2 => hg.block q (Nat.lt_of_lt_of_le h2 h.top) (by simp; omega))
theorem OwnRule.weaken {w : World} {lo lo' hi hi' : Nat} {x : RE} (h : OwnRule w lo hi x) (hl : lo' ≤ lo) (hh : hi ≤ hi') (ht : hi' ≤ w.heap.size) : OwnRule w lo' hi' x := by
  obtain ⟨gP, gC, gA, m1, m2, e1, o1, e2, o2, h1, h2, e3, o3⟩ := h.own
  have := o3.top
  have := o3.low
  have := o3.lth
  exact ⟨⟨gP, gC, gA, m1, m2, e1, o1.weaken hl (Nat.le_refl _) o1.top, e2, o2, h1, h2, e3, o3.weaken (Nat.le_refl _) hh ht⟩, h.np, h.nc, h.na⟩

theorem rule_cells {H : Type} {enc : TypeId × Value → H} {w : World} {spare : Nat → Bool} {held : Bool} {n : Nat} {cs : List Value} {x : DataW H × List MemPlace}
    (h : DataW.trod enc Try.prog w 0 spare held n 37 cs = some x) : ∃ y : RE, cs = y.arr.toList ∧ RdRule w y ∧ y.ok := by
  obtain ⟨y0, y1, y2, y3, y4, m, hl, h0, h1, h2, h3, h4⟩ := trod_struct5 Try.underlying37 h
  have hc : Try.prog.cellsOf 37 = 5 := by kernel_rfl
  have e0 : Try.prog.cellsOf 9 = 1 := by kernel_rfl
  have e1 : Try.prog.cellsOf 3 = 1 := by kernel_rfl
  have e2 : Try.prog.cellsOf 33 = 1 := by kernel_rfl
  have e3 : Try.prog.cellsOf 34 = 1 := by kernel_rfl
  have e4 : Try.prog.cellsOf 35 = 1 := by kernel_rfl
  rw [hc] at hl
  match cs, hl with
  | [c0, c1, c2, c3, c4], _ =>
    simp only [e0, e1, e2, e3, e4, List.drop_zero, List.drop_succ_cons, List.take_succ_cons, List.take_zero] at h0 h1 h2 h3 h4
    obtain ⟨v0, q0, _, w0⟩ := DataW.trod_string Try.underlying9 h0
    obtain ⟨v1, q1, _, _⟩ := DataW.trod_int Try.underlying3 h1
    obtain ⟨aP, nP, cP, P, qP, lP, mP, rP, okP⟩ := pats_in h2
    obtain ⟨aC, nC, cC, C, qC, lC, mC, rC, okC⟩ := conds_in h3
    obtain ⟨aA, nA, cA, A, qA, lA, mA, rA, okA⟩ := acts_in h4
    simp only [List.cons.injEq, and_true] at q0 q1
    exact ⟨⟨v0, v1, aP, nP, cP, P, aC, nC, cC, C, aA, nA, cA, A⟩, by rw [q0, q1, qP, qC, qA]; rfl, ⟨rP, rC, rA, lP, lC, lA⟩, w0, mP, okP, mC, okC, mA, okA⟩
theorem rule_in {H : Type} {enc : TypeId × Value → H} {w : World} {b0 : Nat} {spare : Nat → Bool} {held : Bool} {r : Reach} {v : Value} {d : DataW H} {p : List MemPlace}
    (hv : Value.okWide Try.prog w r b0 37 v) (h : DataW.Trod enc Try.prog w 0 spare held 37 v d p) : ∃ x : RE, v = .agg x.arr ∧ RdRule w x ∧ x.ok := by
  obtain ⟨cs, rfl, hsz⟩ := okWide_struct Try.underlying37 hv
  obtain ⟨fuel, hf⟩ := h
  obtain ⟨y, e, hr, hy⟩ := rule_cells hf
  refine ⟨y, ?_, hr, hy⟩
  have e2 : cs.toList = y.arr.toList := e
  rw [← Array.toArray_toList (xs := cs), e2]
end Go.Proofs.Ytfgigcdfmkfkjaa
/-
  Boxes of eleven cells, and two or three boxes side by side: their cells set, what stands.
-/
namespace Go.Proofs.Ytfgigcdfmkfkjaa
open Go.RowKit
set_option linter.unusedVariables false

theorem boxes3 (w : World) (c1 c2 c3 : Array Value) (T1 T2 T3 : TypeId) : (((w.alloc (.cells c1 T1)).alloc (.cells c2 T2)).alloc (.cells c3 T3)).heap[w.heap.size]? = some (.cells c1 T1 (0, 0)) ∧ (((w.alloc (.cells c1 T1)).alloc (.cells c2 T2)).alloc (.cells c3 T3)).heap[w.heap.size + 1]? = some (.cells c2 T2 (0, 0)) ∧ (((w.alloc (.cells c1 T1)).alloc (.cells c2 T2)).alloc (.cells c3 T3)).heap[w.heap.size + 1 + 1]? = some (.cells c3 T3 (0, 0)) ∧ Below w.heap.size w (((w.alloc (.cells c1 T1)).alloc (.cells c2 T2)).alloc (.cells c3 T3)) := by
  have b0 := below_al w (.cells c1 T1)
  have b1 := b0.alloc b0.size (.cells c2 T2)
  have b2 := b1.alloc b1.size (.cells c3 T3)
  have hA := box_old (box_old (boxk_new w c1 T1) (by simp) (.cells c2 T2)) (by simp; omega) (.cells c3 T3)
  have hR := box_old (boxk_new (w.alloc (.cells c1 T1)) c2 T2) (by simp) (.cells c3 T3)
  have hX := boxk_new ((w.alloc (.cells c1 T1)).alloc (.cells c2 T2)) c3 T3
  simp only [World.size_alloc] at hR hX
  exact ⟨hA, hR, hX, b2⟩
theorem boxes2 (w : World) (c1 c2 : Array Value) (T1 T2 : TypeId) : ((w.alloc (.cells c1 T1)).alloc (.cells c2 T2)).heap[w.heap.size]? = some (.cells c1 T1 (0, 0)) ∧ ((w.alloc (.cells c1 T1)).alloc (.cells c2 T2)).heap[w.heap.size + 1]? = some (.cells c2 T2 (0, 0)) ∧ Below w.heap.size w ((w.alloc (.cells c1 T1)).alloc (.cells c2 T2)) := by
  have b0 := below_al w (.cells c1 T1)
  have b1 := b0.alloc b0.size (.cells c2 T2)
  have hA := box_old (boxk_new w c1 T1) (by simp) (.cells c2 T2)
  have hX := boxk_new (w.alloc (.cells c1 T1)) c2 T2
  simp only [World.size_alloc] at hX
  exact ⟨hA, hX, b1⟩
theorem box11_set {w : World} {q : Nat} {c0 c1 c2 c3 c4 c5 c6 c7 c8 c9 c10 : Value} {T : TypeId} (h : w.heap[q]? = some (.cells #[c0, c1, c2, c3, c4, c5, c6, c7, c8, c9, c10] T (0, 0))) (v0 v1 v2 v3 v4 v5 v6 v7 v8 v9 v10 : Value) :
    (((((((((((w.setCell ⟨q, 0, none⟩ v0).setCell ⟨q, 1, none⟩ v1).setCell ⟨q, 2, none⟩ v2).setCell ⟨q, 3, none⟩ v3).setCell ⟨q, 4, none⟩ v4).setCell ⟨q, 5, none⟩ v5).setCell ⟨q, 6, none⟩ v6).setCell ⟨q, 7, none⟩ v7).setCell ⟨q, 8, none⟩ v8).setCell ⟨q, 9, none⟩ v9).setCell ⟨q, 10, none⟩ v10).heap[q]? = some (.cells #[v0, v1, v2, v3, v4, v5, v6, v7, v8, v9, v10] T (0, 0)) ∧ w.grownBy (((((((((((w.setCell ⟨q, 0, none⟩ v0).setCell ⟨q, 1, none⟩ v1).setCell ⟨q, 2, none⟩ v2).setCell ⟨q, 3, none⟩ v3).setCell ⟨q, 4, none⟩ v4).setCell ⟨q, 5, none⟩ v5).setCell ⟨q, 6, none⟩ v6).setCell ⟨q, 7, none⟩ v7).setCell ⟨q, 8, none⟩ v8).setCell ⟨q, 9, none⟩ v9).setCell ⟨q, 10, none⟩ v10) (some q) := by
  have g0 := (boxk_set h 0 v0).2
  have h0 : (w.setCell ⟨q, 0, none⟩ v0).heap[q]? = some (.cells #[v0, c1, c2, c3, c4, c5, c6, c7, c8, c9, c10] T (0, 0)) := (boxk_set h 0 v0).1
  have g1 := (boxk_set h0 1 v1).2
  have h1 : ((w.setCell ⟨q, 0, none⟩ v0).setCell ⟨q, 1, none⟩ v1).heap[q]? = some (.cells #[v0, v1, c2, c3, c4, c5, c6, c7, c8, c9, c10] T (0, 0)) := (boxk_set h0 1 v1).1
  have g2 := (boxk_set h1 2 v2).2
  have h2 : (((w.setCell ⟨q, 0, none⟩ v0).setCell ⟨q, 1, none⟩ v1).setCell ⟨q, 2, none⟩ v2).heap[q]? = some (.cells #[v0, v1, v2, c3, c4, c5, c6, c7, c8, c9, c10] T (0, 0)) := (boxk_set h1 2 v2).1
  have g3 := (boxk_set h2 3 v3).2
  have h3 : ((((w.setCell ⟨q, 0, none⟩ v0).setCell ⟨q, 1, none⟩ v1).setCell ⟨q, 2, none⟩ v2).setCell ⟨q, 3, none⟩ v3).heap[q]? = some (.cells #[v0, v1, v2, v3, c4, c5, c6, c7, c8, c9, c10] T (0, 0)) := (boxk_set h2 3 v3).1
  have g4 := (boxk_set h3 4 v4).2
  have h4 : (((((w.setCell ⟨q, 0, none⟩ v0).setCell ⟨q, 1, none⟩ v1).setCell ⟨q, 2, none⟩ v2).setCell ⟨q, 3, none⟩ v3).setCell ⟨q, 4, none⟩ v4).heap[q]? = some (.cells #[v0, v1, v2, v3, v4, c5, c6, c7, c8, c9, c10] T (0, 0)) := (boxk_set h3 4 v4).1
  have g5 := (boxk_set h4 5 v5).2
  have h5 : ((((((w.setCell ⟨q, 0, none⟩ v0).setCell ⟨q, 1, none⟩ v1).setCell ⟨q, 2, none⟩ v2).setCell ⟨q, 3, none⟩ v3).setCell ⟨q, 4, none⟩ v4).setCell ⟨q, 5, none⟩ v5).heap[q]? = some (.cells #[v0, v1, v2, v3, v4, v5, c6, c7, c8, c9, c10] T (0, 0)) := (boxk_set h4 5 v5).1
  have g6 := (boxk_set h5 6 v6).2
  have h6 : (((((((w.setCell ⟨q, 0, none⟩ v0).setCell ⟨q, 1, none⟩ v1).setCell ⟨q, 2, none⟩ v2).setCell ⟨q, 3, none⟩ v3).setCell ⟨q, 4, none⟩ v4).setCell ⟨q, 5, none⟩ v5).setCell ⟨q, 6, none⟩ v6).heap[q]? = some (.cells #[v0, v1, v2, v3, v4, v5, v6, c7, c8, c9, c10] T (0, 0)) := (boxk_set h5 6 v6).1
  have g7 := (boxk_set h6 7 v7).2
  have h7 : ((((((((w.setCell ⟨q, 0, none⟩ v0).setCell ⟨q, 1, none⟩ v1).setCell ⟨q, 2, none⟩ v2).setCell ⟨q, 3, none⟩ v3).setCell ⟨q, 4, none⟩ v4).setCell ⟨q, 5, none⟩ v5).setCell ⟨q, 6, none⟩ v6).setCell ⟨q, 7, none⟩ v7).heap[q]? = some (.cells #[v0, v1, v2, v3, v4, v5, v6, v7, c8, c9, c10] T (0, 0)) := (boxk_set h6 7 v7).1
  have g8 := (boxk_set h7 8 v8).2
  have h8 : (((((((((w.setCell ⟨q, 0, none⟩ v0).setCell ⟨q, 1, none⟩ v1).setCell ⟨q, 2, none⟩ v2).setCell ⟨q, 3, none⟩ v3).setCell ⟨q, 4, none⟩ v4).setCell ⟨q, 5, none⟩ v5).setCell ⟨q, 6, none⟩ v6).setCell ⟨q, 7, none⟩ v7).setCell ⟨q, 8, none⟩ v8).heap[q]? = some (.cells #[v0, v1, v2, v3, v4, v5, v6, v7, v8, c9, c10] T (0, 0)) := (boxk_set h7 8 v8).1
  have g9 := (boxk_set h8 9 v9).2
  have h9 : ((((((((((w.setCell ⟨q, 0, none⟩ v0).setCell ⟨q, 1, none⟩ v1).setCell ⟨q, 2, none⟩ v2).setCell ⟨q, 3, none⟩ v3).setCell ⟨q, 4, none⟩ v4).setCell ⟨q, 5, none⟩ v5).setCell ⟨q, 6, none⟩ v6).setCell ⟨q, 7, none⟩ v7).setCell ⟨q, 8, none⟩ v8).setCell ⟨q, 9, none⟩ v9).heap[q]? = some (.cells #[v0, v1, v2, v3, v4, v5, v6, v7, v8, v9, c10] T (0, 0)) := (boxk_set h8 9 v9).1
  have g10 := (boxk_set h9 10 v10).2
  have h10 : (((((((((((w.setCell ⟨q, 0, none⟩ v0).setCell ⟨q, 1, none⟩ v1).setCell ⟨q, 2, none⟩ v2).setCell ⟨q, 3, none⟩ v3).setCell ⟨q, 4, none⟩ v4).setCell ⟨q, 5, none⟩ v5).setCell ⟨q, 6, none⟩ v6).setCell ⟨q, 7, none⟩ v7).setCell ⟨q, 8, none⟩ v8).setCell ⟨q, 9, none⟩ v9).setCell ⟨q, 10, none⟩ v10).heap[q]? = some (.cells #[v0, v1, v2, v3, v4, v5, v6, v7, v8, v9, v10] T (0, 0)) := (boxk_set h9 10 v10).1
  exact ⟨h10, (grown_tt (grown_tt (grown_tt (grown_tt (grown_tt (grown_tt (grown_tt (grown_tt (grown_tt (grown_tt g0 g1) g2) g3) g4) g5) g6) g7) g8) g9) g10)⟩
theorem box11_setL {w : World} {q : Nat} {c0 c1 c2 c3 c4 c5 c6 c7 c8 c9 c10 : Value} {T : TypeId} (h : w.heap[q]? = some (.cells #[c0, c1, c2, c3, c4, c5, c6, c7, c8, c9, c10] T (0, 0))) (v1 v2 v3 v4 v5 : Value) :
    (((((w.setCell ⟨q, 1, none⟩ v1).setCell ⟨q, 2, none⟩ v2).setCell ⟨q, 3, none⟩ v3).setCell ⟨q, 4, none⟩ v4).setCell ⟨q, 5, none⟩ v5).heap[q]? = some (.cells #[c0, v1, v2, v3, v4, v5, c6, c7, c8, c9, c10] T (0, 0)) ∧ w.grownBy (((((w.setCell ⟨q, 1, none⟩ v1).setCell ⟨q, 2, none⟩ v2).setCell ⟨q, 3, none⟩ v3).setCell ⟨q, 4, none⟩ v4).setCell ⟨q, 5, none⟩ v5) (some q) := by
  have g1 := (boxk_set h 1 v1).2
  have h1 : (w.setCell ⟨q, 1, none⟩ v1).heap[q]? = some (.cells #[c0, v1, c2, c3, c4, c5, c6, c7, c8, c9, c10] T (0, 0)) := (boxk_set h 1 v1).1
  have g2 := (boxk_set h1 2 v2).2
  have h2 : ((w.setCell ⟨q, 1, none⟩ v1).setCell ⟨q, 2, none⟩ v2).heap[q]? = some (.cells #[c0, v1, v2, c3, c4, c5, c6, c7, c8, c9, c10] T (0, 0)) := (boxk_set h1 2 v2).1
  have g3 := (boxk_set h2 3 v3).2
  have h3 : (((w.setCell ⟨q, 1, none⟩ v1).setCell ⟨q, 2, none⟩ v2).setCell ⟨q, 3, none⟩ v3).heap[q]? = some (.cells #[c0, v1, v2, v3, c4, c5, c6, c7, c8, c9, c10] T (0, 0)) := (boxk_set h2 3 v3).1
  have g4 := (boxk_set h3 4 v4).2
  have h4 : ((((w.setCell ⟨q, 1, none⟩ v1).setCell ⟨q, 2, none⟩ v2).setCell ⟨q, 3, none⟩ v3).setCell ⟨q, 4, none⟩ v4).heap[q]? = some (.cells #[c0, v1, v2, v3, v4, c5, c6, c7, c8, c9, c10] T (0, 0)) := (boxk_set h3 4 v4).1
  have g5 := (boxk_set h4 5 v5).2
  have h5 : (((((w.setCell ⟨q, 1, none⟩ v1).setCell ⟨q, 2, none⟩ v2).setCell ⟨q, 3, none⟩ v3).setCell ⟨q, 4, none⟩ v4).setCell ⟨q, 5, none⟩ v5).heap[q]? = some (.cells #[c0, v1, v2, v3, v4, v5, c6, c7, c8, c9, c10] T (0, 0)) := (boxk_set h4 5 v5).1
  exact ⟨h5, (grown_tt (grown_tt (grown_tt (grown_tt g1 g2) g3) g4) g5)⟩
theorem box11_setR {w : World} {q : Nat} {c0 c1 c2 c3 c4 c5 c6 c7 c8 c9 c10 : Value} {T : TypeId} (h : w.heap[q]? = some (.cells #[c0, c1, c2, c3, c4, c5, c6, c7, c8, c9, c10] T (0, 0))) (v6 v7 v8 v9 v10 : Value) :
    (((((w.setCell ⟨q, 6, none⟩ v6).setCell ⟨q, 7, none⟩ v7).setCell ⟨q, 8, none⟩ v8).setCell ⟨q, 9, none⟩ v9).setCell ⟨q, 10, none⟩ v10).heap[q]? = some (.cells #[c0, c1, c2, c3, c4, c5, v6, v7, v8, v9, v10] T (0, 0)) ∧ w.grownBy (((((w.setCell ⟨q, 6, none⟩ v6).setCell ⟨q, 7, none⟩ v7).setCell ⟨q, 8, none⟩ v8).setCell ⟨q, 9, none⟩ v9).setCell ⟨q, 10, none⟩ v10) (some q) := by
  have g6 := (boxk_set h 6 v6).2
  have h6 : (w.setCell ⟨q, 6, none⟩ v6).heap[q]? = some (.cells #[c0, c1, c2, c3, c4, c5, v6, c7, c8, c9, c10] T (0, 0)) := (boxk_set h 6 v6).1
  have g7 := (boxk_set h6 7 v7).2
  have h7 : ((w.setCell ⟨q, 6, none⟩ v6).setCell ⟨q, 7, none⟩ v7).heap[q]? = some (.cells #[c0, c1, c2, c3, c4, c5, v6, v7, c8, c9, c10] T (0, 0)) := (boxk_set h6 7 v7).1
  have g8 := (boxk_set h7 8 v8).2
  have h8 : (((w.setCell ⟨q, 6, none⟩ v6).setCell ⟨q, 7, none⟩ v7).setCell ⟨q, 8, none⟩ v8).heap[q]? = some (.cells #[c0, c1, c2, c3, c4, c5, v6, v7, v8, c9, c10] T (0, 0)) := (boxk_set h7 8 v8).1
  have g9 := (boxk_set h8 9 v9).2
  have h9 : ((((w.setCell ⟨q, 6, none⟩ v6).setCell ⟨q, 7, none⟩ v7).setCell ⟨q, 8, none⟩ v8).setCell ⟨q, 9, none⟩ v9).heap[q]? = some (.cells #[c0, c1, c2, c3, c4, c5, v6, v7, v8, v9, c10] T (0, 0)) := (boxk_set h8 9 v9).1
  have g10 := (boxk_set h9 10 v10).2
  have h10 : (((((w.setCell ⟨q, 6, none⟩ v6).setCell ⟨q, 7, none⟩ v7).setCell ⟨q, 8, none⟩ v8).setCell ⟨q, 9, none⟩ v9).setCell ⟨q, 10, none⟩ v10).heap[q]? = some (.cells #[c0, c1, c2, c3, c4, c5, v6, v7, v8, v9, v10] T (0, 0)) := (boxk_set h9 10 v10).1
  exact ⟨h10, (grown_tt (grown_tt (grown_tt (grown_tt g6 g7) g8) g9) g10)⟩
theorem box11_post {P : Program} {f : Func} {Q : Ending → World → Prop} {x : Exit} {act : Act} {w : World} {q : Nat} {c0 c1 c2 c3 c4 c5 c6 c7 c8 c9 c10 v0 v1 v2 v3 v4 v5 v6 v7 v8 v9 v10 : Value} {T : TypeId} (h : w.heap[q]? = some (.cells #[c0, c1, c2, c3, c4, c5, c6, c7, c8, c9, c10] T (0, 0)))
    (k : ∀ w2, w2.heap[q]? = some (.cells #[v0, v1, v2, v3, v4, v5, v6, v7, v8, v9, v10] T (0, 0)) → w.grownBy w2 (some q) → bodyPost P f Q x act w2) : bodyPost P f Q x act (((((((((((w.setCell ⟨q, 0, none⟩ v0).setCell ⟨q, 1, none⟩ v1).setCell ⟨q, 2, none⟩ v2).setCell ⟨q, 3, none⟩ v3).setCell ⟨q, 4, none⟩ v4).setCell ⟨q, 5, none⟩ v5).setCell ⟨q, 6, none⟩ v6).setCell ⟨q, 7, none⟩ v7).setCell ⟨q, 8, none⟩ v8).setCell ⟨q, 9, none⟩ v9).setCell ⟨q, 10, none⟩ v10) :=
  k _ (box11_set h v0 v1 v2 v3 v4 v5 v6 v7 v8 v9 v10).1 (box11_set h v0 v1 v2 v3 v4 v5 v6 v7 v8 v9 v10).2
end Go.Proofs.Ytfgigcdfmkfkjaa
/-
  What the tested functions answer: boundRuleOf has the patterns that are not Not, PosCount how many, PosVars their variables, KindsOf all kinds.
-/
namespace Go.Proofs.Ytfgigcdfmkfkjaa
open Go.RowKit
set_option linter.unusedVariables false

theorem infoPat : (Try.prog.info? 79).map (fun i => (i.zero, i.size, i.bytes)) = some (some (.agg #[.string ⟨#[]⟩, .slice none 0 0, .bool false]), 3, 48) := by kernel_rfl
theorem srcPE (W : World) (x : PE) : ∀ j u, (x.cs)[j]? = some u → (W.alloc (.cells #[.string x.kd, .slice x.a x.L.length x.cap, .bool x.nt] 79)).cell? ((⟨W.heap.size, 0, none⟩ : Addr).add j) = some u := by
  intro j u hj
  rw [Addr.add_lit, Nat.zero_add]
  have hb : (W.alloc (.cells #[.string x.kd, .slice x.a x.L.length x.cap, .bool x.nt] 79)).heap[W.heap.size]? = some (.cells #[.string x.kd, .slice x.a x.L.length x.cap, .bool x.nt] 79 (0, 0)) := by rw [heap_alloc_new]
  rw [cell_of_row _ _ j _ _ (0, 0) hb, ← hj]
  simp [PE.cs]
theorem onePE (x : PE) : ∀ u ∈ x.cs, u.oneCell' = true := by
  intro u hu
  simp only [PE.cs, List.mem_cons, List.not_mem_nil, or_false] at hu
  rcases hu with rfl | rfl | rfl <;> rfl
theorem box6_set {w : World} {q : Nat} {c0 c1 c2 c3 c4 c5 : Value} {T : TypeId} (h : w.heap[q]? = some (.cells #[c0, c1, c2, c3, c4, c5] T (0, 0))) (v0 v1 v2 v3 v4 v5 : Value) :
    ((((((w.setCell ⟨q, 0, none⟩ v0).setCell ⟨q, 1, none⟩ v1).setCell ⟨q, 2, none⟩ v2).setCell ⟨q, 3, none⟩ v3).setCell ⟨q, 4, none⟩ v4).setCell ⟨q, 5, none⟩ v5).heap[q]? = some (.cells #[v0, v1, v2, v3, v4, v5] T (0, 0)) ∧ w.grownBy ((((((w.setCell ⟨q, 0, none⟩ v0).setCell ⟨q, 1, none⟩ v1).setCell ⟨q, 2, none⟩ v2).setCell ⟨q, 3, none⟩ v3).setCell ⟨q, 4, none⟩ v4).setCell ⟨q, 5, none⟩ v5) (some q) := by
  have h0 := boxk_set h 0 v0
  have h1 := boxk_set h0.1 1 v1
  have h2 := boxk_set h1.1 2 v2
  have h3 := boxk_set h2.1 3 v3
  have h4 := boxk_set h3.1 4 v4
  have h5 := boxk_set h4.1 5 v5
  exact ⟨h5.1, grown_tt (grown_tt (grown_tt (grown_tt (grown_tt h0.2 h1.2) h2.2) h3.2) h4.2) h5.2⟩
theorem box6_post {P : Program} {f : Func} {Q : Ending → World → Prop} {x : Exit} {act : Act} {w : World} {q : Nat} {c0 c1 c2 c3 c4 c5 v0 v1 v2 v3 v4 v5 : Value} {T : TypeId} (h : w.heap[q]? = some (.cells #[c0, c1, c2, c3, c4, c5] T (0, 0)))
    (k : ∀ w2, w2.heap[q]? = some (.cells #[v0, v1, v2, v3, v4, v5] T (0, 0)) → w.grownBy w2 (some q) → bodyPost P f Q x act w2) : bodyPost P f Q x act ((((((w.setCell ⟨q, 0, none⟩ v0).setCell ⟨q, 1, none⟩ v1).setCell ⟨q, 2, none⟩ v2).setCell ⟨q, 3, none⟩ v3).setCell ⟨q, 4, none⟩ v4).setCell ⟨q, 5, none⟩ v5) :=
  k _ (box6_set h v0 v1 v2 v3 v4 v5).1 (box6_set h v0 v1 v2 v3 v4 v5).2
theorem field_bound (c0 : ByteArray) (c1 : Int) (a1 a2 a3 a : Option Addr) (n1 n2 n3 n k1 k2 k3 k : Nat) (w : World) : (Instr.field 99 (.agg #[.string c0, .int .i64 c1, .slice a1 n1 k1, .slice a2 n2 k2, .slice a3 n3 k3, .slice a n k]) 1).run Try.prog w = .ok (.slice a n k) w := by kernel_rfl
/-- a row of patterns at or behind a world's end, where all that was in that world is left -/
def RowP (w0 : World) (v : Value) (l : List PE) (w : World) : Prop := w.ownsRow w0.heap.size 79 3 v l.length (rowOf PE.cs l) ∧ Below w0.heap.size w0 w
theorem RowP.nil (w : World) : RowP w (.slice none 0 0) [] w := ⟨World.ownsRow_nil _ _ _ _, Below.refl _ _⟩
theorem RowP.alloc {w0 w : World} {v : Value} {l : List PE} (h : RowP w0 v l w) (o : Obj) : RowP w0 v l (w.alloc o) := ⟨h.1.alloc o, h.2.alloc h.2.size o⟩
theorem RowP.later {w0 w w' : World} {v : Value} {l : List PE} (h : RowP w0 v l w) (hb : Below w.heap.size w w') : RowP w0 v l w' := ⟨ownsRow_below' h.1 hb, h.2.trans (hb.mono h.2.size)⟩
theorem RowP.grown {w0 w w' : World} {v : Value} {l : List PE} {q : Nat} (h : RowP w0 v l w) (hg : w.grownBy w' (some q)) (hq : q < w0.heap.size) : w'.ownsRow w0.heap.size 79 3 v l.length (rowOf PE.cs l) :=
  ownsRow_sameD h.1 (fun k hk => hg.block k (h.1.lt k hk).2 (by have := (h.1.lt k hk).1; simp; omega))
/-- what it reads as, its elements' lists lying where they lay at the head -/
theorem RowP.rd {w0 w : World} {a : Option Addr} {n cap : Nat} {l : List PE} (h : RowP w0 (.slice a n cap) l w) (hi : ∀ p ∈ l, RdArg w0 p.a p.L) : RdPatS w a l ∧ l.length = n := by
  obtain ⟨a', c', e, hr, -, -⟩ := rdK_owns PE.len (by decide) h.1
  simp only [Value.slice.injEq] at e
  obtain ⟨rfl, rfl, rfl⟩ := e
  exact ⟨⟨hr, fun i hi' => (hi _ (eAt_mem hi')).below h.2⟩, rfl⟩

set_option maxRecDepth 100000 in
set_option maxHeartbeats 3200000 in
theorem boundRuleOf_any (x : RE) (w : World) (hr : RdRule w x) (hn : x.nP ≤ 1048576) :
    Calls Try.prog 59 #[.agg #[.string x.nm, .int .i64 x.sal, .slice x.aP x.nP x.cP, .slice x.aC x.nC x.cC, .slice x.aA x.nA x.cA]] w fun e w' =>
      ∃ a cap, e = .returned (.agg #[.string x.nm, .int .i64 x.sal, .slice x.aP x.nP x.cP, .slice x.aC x.nC x.cC, .slice x.aA x.nA x.cA, .slice a (posB x.P).length cap]) ∧ RdPatS w' a (posB x.P) ∧ Below w.heap.size w w' := by
  obtain ⟨i0, hi, hz0, hz1, hz2⟩ := info_parts infoPat
  have HN := hide hr.np
  have HIn : Hid (∀ p ∈ posB x.P, RdArg w p.a p.L) := fun p hp => by
    obtain ⟨i, hi, rfl⟩ := mem_eAt (List.mem_filter.1 hp).1
    exact hr.p.2 i hi
  obtain ⟨hA, hR, b1⟩ := boxes2 w #[.string x.nm, .int .i64 x.sal, .slice x.aP x.nP x.cP, .slice x.aC x.nC x.cC, .slice x.aA x.nA x.cA] #[.string ⟨#[]⟩, .int .i64 0, .slice none 0 0, .slice none 0 0, .slice none 0 0, .slice none 0 0] 49 99
  have hz : w.heap.size + 1 < ((w.alloc (.cells #[.string x.nm, .int .i64 x.sal, .slice x.aP x.nP x.cP, .slice x.aC x.nC x.cC, .slice x.aA x.nA x.cA] 49)).alloc (.cells #[.string ⟨#[]⟩, .int .i64 0, .slice none 0 0, .slice none 0 0, .slice none 0 0, .slice none 0 0] 99)).heap.size := by simp
  go_enter Try.func59, Try.ntmps59
  go_wp2
  generalize ((w.alloc (.cells #[.string x.nm, .int .i64 x.sal, .slice x.aP x.nP x.cP, .slice x.aC x.nC x.cC, .slice x.aA x.nA x.cA] 49)).alloc (.cells #[.string ⟨#[]⟩, .int .i64 0, .slice none 0 0, .slice none 0 0, .slice none 0 0, .slice none 0 0] 99)) = w1 at hA hR b1 hz ⊢
  have HA := hide hA
  have HR := hide hR
  clear hA hR
  go_loopw [3, 9] (fun v i wr => ∃ (k : Nat), k ≤ x.nP ∧ i = .int .i64 k ∧ RowP w1 v (posB (x.P.take k)) wr) (fun _ i _ => x.nP - (intOf i).toNat)
  case atStart => exact ⟨0, Nat.zero_le _, rfl, RowP.nil _⟩
  case round =>
    obtain ⟨k, hk, rfl, hrow⟩ := hrel
    have HRow := hide hrow
    obtain ⟨va, vc, e0, -, -, -⟩ := rdK_owns PE.len (by decide) hrow.1
    clear hrow
    have hB : Below w.heap.size w wr := b1.trans (HRow.out.2.mono b1.size)
    by_cases hlt : k < x.nP
    · have hlL : k < x.P.length := by rw [HN.out]; exact hlt
      obtain ⟨b, off, hab, hbw, hc⟩ := (hr.p.below hB).cells (by omega)
      obtain ⟨c0, c1, c2, -⟩ := hc k hlL
      clear hc
      have HT := hide (posB_take hlL)
      have hpl := posB_take_len x.P k
      rw [HN.out] at hpl
      subst e0
      rw [hab]
      obtain ⟨y, hy⟩ : ∃ y, y = eAt x.P k := ⟨_, rfl⟩
      rw [← hy] at c0 c1 c2 HT
      clear hy hlL hab
      generalize posB (x.P.take k) = l at HRow HT hpl ⊢
      have H3 := hide (HRow.out.alloc (.cells #[.string y.kd, .slice y.a y.L.length y.cap, .bool y.nt] 79))
      cases hnt : y.nt
      · rw [hnt] at c2 HT H3
        have H4 := hide (H3.out.alloc (.cells #[.string y.kd, .slice y.a y.L.length y.cap, .bool false] 79))
        have HSrc := hide (srcPE (wr.alloc (.cells #[.string y.kd, .slice y.a y.L.length y.cap, .bool false] 79)) y)
        rw [hnt] at HSrc
        have HZ4 := H4.out.2.size
        clear HRow hB
        go_wp2_with (at_builtin; refine wpList_append_lies _ rfl (.tmp 16) (.tmp 18) 97 rfl w1.heap.size 79 i0 (.agg #[.string ⟨#[]⟩, .slice none 0 0, .bool false]) 3 48 Try.underlying97 hi hz0 hz1 hz2 rfl (by omega) (.slice va l.length vc) l.length (rowOf PE.cs l) rfl H4.out.1 ⟨wr.heap.size + 1, 0, none⟩ 1 1 (PE.cs y) ?hx rfl (by simpa using HSrc.out) (onePE y) (by omega) (by unfold maxLen; omega) (by omega) HZ4 _ rfl ?_)
        case hx => simp [Act.eval]
        intro g5 c5 w5 ho5 hg5 hat5 hlt5
        have HF : Hid (RowP w1 (.slice (some ⟨g5, 0, none⟩) (l.length + 1) c5) (posB (x.P.take (k + 1))) w5) := by
          refine ⟨?_, H4.out.2.grown hg5 HZ4 (fun k hk => (H4.out.1.lt k hk).1)⟩
          rw [HT.out, if_neg (by simp), rowOf_append, List.length_append, rowOf_cons, show rowOf PE.cs [] = [] from rfl, List.append_nil]
          exact ho5
        clear ho5 hg5 hat5 hlt5 HSrc H4 H3 HZ4 HT
        go_wp2
        go_roundw
        case rel => exact ⟨k + 1, by omega, by go_num, HF.out⟩
        case measure => simp [intOf]; omega
      · rw [hnt] at c2 HT H3
        have HF : Hid (RowP w1 (.slice va l.length vc) (posB (x.P.take (k + 1))) (wr.alloc (.cells #[.string y.kd, .slice y.a y.L.length y.cap, .bool true] 79))) := by
          unfold Hid
          rw [HT.out, if_pos rfl, List.append_nil]
          exact H3.out
        clear HRow hB H3 HT
        go_wp2
        go_roundw
        case rel => exact ⟨k + 1, by omega, by go_num, HF.out⟩
        case measure => simp [intOf]; omega
    · obtain rfl : k = x.nP := by omega
      have HR2 := hide (box_below HR.out HRow.out.2 hz)
      have HA2 := hide (box_below HA.out HRow.out.2 (by omega))
      subst e0
      have ht : x.P.take x.nP = x.P := by rw [← HN.out, List.take_length]
      rw [ht] at HRow ⊢
      have H2 := hide (box6_set HR2.out (.string x.nm) (.int .i64 x.sal) (.slice x.aP x.nP x.cP) (.slice x.aC x.nC x.cC) (.slice x.aA x.nA x.cA) (.slice va (posB x.P).length vc))
      have a0 := boxk_cell HA2.out 0 _ rfl
      have a1 := boxk_cell HA2.out 1 _ rfl
      have a2 := boxk_cell HA2.out 2 _ rfl
      have a3 := boxk_cell HA2.out 3 _ rfl
      have a4 := boxk_cell HA2.out 4 _ rfl
      have r0 := boxk_cell HR2.out 0 _ rfl
      have r1 := boxk_cell HR2.out 1 _ rfl
      have r2 := boxk_cell HR2.out 2 _ rfl
      have r3 := boxk_cell HR2.out 3 _ rfl
      have r4 := boxk_cell HR2.out 4 _ rfl
      have r5 := boxk_cell HR2.out 5 _ rfl
      have f0 := boxk_frozen HR2.out 0
      have f1 := boxk_frozen HR2.out 1
      have f2 := boxk_frozen HR2.out 2
      have f3 := boxk_frozen HR2.out 3
      have f4 := boxk_frozen HR2.out 4
      have f5 := boxk_frozen HR2.out 5
      go_wp2
      refine box6_post HR2.out (fun w4 h4 gr => ?_)
      clear a0 a1 a2 a3 a4 r0 r1 r2 r3 r4 r5 f0 f1 f2 f3 f4 f5
      have c0 := boxk_cell h4 0 _ rfl
      have c1 := boxk_cell h4 1 _ rfl
      have c2 := boxk_cell h4 2 _ rfl
      have c3 := boxk_cell h4 3 _ rfl
      have c4 := boxk_cell h4 4 _ rfl
      have c5 := boxk_cell h4 5 _ rfl
      have ho := HRow.out.grown gr hz
      have hB4 : Below w.heap.size w w4 := below_set hB gr (by omega)
      refine bodyPost_ret (v := .agg #[.string x.nm, .int .i64 x.sal, .slice x.aP x.nP x.cP, .slice x.aC x.nC x.cC, .slice x.aA x.nA x.cA, .slice va (posB x.P).length vc]) (by simp [results, Try.results59, go_sem, c0, c1, c2, c3, c4, c5]) rfl ⟨va, vc, rfl, ?_, hB4⟩
      obtain ⟨a', c', e, hr', -, -⟩ := rdK_owns PE.len (by decide) ho
      simp only [Value.slice.injEq] at e
      rw [e.1]
      exact ⟨hr', fun i hi' => (HIn.out _ (eAt_mem hi')).below hB4⟩

set_option maxRecDepth 100000 in
set_option maxHeartbeats 3200000 in
theorem vars_any (a : Option Addr) (n cap : Nat) (J : List PE) (w : World) (hr : RdPatS w a J) (hn : J.length = n) (hs : ∀ p ∈ J, p.small) (hm : (J.map PE.sz).sum ≤ 1048576) (hl : n ≤ 1048576) :
    Calls Try.prog 80 #[.slice a n cap] w fun e w' => GivesS e w' w.heap.size (varsB [] J) ∧ Below w.heap.size w w' := by
  have HN := hide hn
  have HS := hide hs
  have HM := hide hm
  have HE : Hid (varsB [] (J.take n) = varsB [] J) := by unfold Hid; rw [← hn, List.take_length]
  clear hn hs hm
  go_enter Try.func80, Try.ntmps80
  go_wp2
  go_loopw [3, 8] (fun v i wr => ∃ (k : Nat), k ≤ n ∧ i = .int .i64 k ∧ RowS w v (varsB [] (J.take k)) wr) (fun _ i _ => n - (intOf i).toNat)
  case atStart => exact ⟨0, Nat.zero_le _, rfl, RowS.nil _⟩
  case round =>
    obtain ⟨k, hk, rfl, hrow⟩ := hrel
    have HRow := hide hrow
    clear hrow
    by_cases hlt : k < n
    · have hlL : k < J.length := by rw [HN.out]; exact hlt
      obtain ⟨b, off, hab, hbw, hc⟩ := (hr.below HRow.out.2).cells (by omega)
      obtain ⟨c0, c1, c2, -⟩ := hc k hlL
      clear hc
      have HI := hide (hr.2 k hlL)
      have HSk := hide (HS.out _ (eAt_mem hlL))
      have hlen : (varsB [] (J.take k)).length + (eAt J k).L.length ≤ 1048576 := by
        have h1 := varsB_len [] (J.take k)
        have h2 := totW_step (wt := PE.sz) hlL
        have h3 := totW_le PE.sz J (k + 1)
        have h4 : (eAt J k).sz = (eAt J k).kd.size + (eAt J k).L.length := rfl
        have h5 := HM.out
        unfold totW at h2 h3
        simp only [List.length_nil] at h1
        omega
      have HT : Hid (varsB [] (J.take (k + 1)) = varsF (varsB [] (J.take k)) (eAt J k).L) := foldl_snoc _ _ hlL
      subst hab
      obtain ⟨y, hy⟩ : ∃ y, y = eAt J k := ⟨_, rfl⟩
      rw [← hy] at c0 c1 c2 HT HI HSk hlen
      clear hy hlL
      obtain ⟨kd, ya, yc, L, nt⟩ := y
      simp only at c0 c1 c2 HT HI hlen
      generalize varsB [] (J.take k) = l at HRow HT hlen
      have H2 := HRow.out.alloc (.cells #[.string kd, .slice ya L.length yc, .bool nt] 79)
      go_wp2_with fail
      refine (withVars_any w _ l kd ya yc L nt _ H2 HI.out HSk.out.2.2 (by omega)).mono ?_
      rintro e w3 ⟨v', rfl, h3⟩
      have H3 := hide h3
      clear h3 H2 HRow c0 c1 c2
      go_wp2
      go_roundw
      case rel => exact ⟨k + 1, by omega, by go_num, by rw [HT.out]; exact H3.out⟩
      case measure => simp [intOf]; omega
    · obtain rfl : k = n := by omega
      rw [HE.out] at HRow
      go_wp2
      go_ret
      exact ⟨⟨_, rfl, HRow.out.1⟩, HRow.out.2⟩

set_option maxRecDepth 100000 in
set_option maxHeartbeats 1600000 in
theorem implPosVars_any (x : RE) (w : World) (hr : RdRule w x) (hs : x.small) :
    Calls Try.prog 39 #[.agg #[.string x.nm, .int .i64 x.sal, .slice x.aP x.nP x.cP, .slice x.aC x.nC x.cC, .slice x.aA x.nA x.cA]] w fun e w' =>
      GivesS e w' w.heap.size (varsB [] (posB x.P)) ∧ Below w.heap.size w w' := by
  have b0 := below_al w (.cells #[.string x.nm, .int .i64 x.sal, .slice x.aP x.nP x.cP, .slice x.aC x.nC x.cC, .slice x.aA x.nA x.cA] 49)
  obtain ⟨s1, s2, -, -⟩ := hs
  unfold RE.sz at s1
  have hl := posB_len x.P
  have hn : x.nP ≤ 1048576 := by rw [← hr.np]; omega
  have hsum : ((posB x.P).map PE.sz).sum ≤ 1048576 := by have := sum_sub PE.sz (fun p => !p.nt) x.P; unfold posB; omega
  have hl2 : (posB x.P).length ≤ 1048576 := by omega
  have HS : Hid (∀ p ∈ posB x.P, p.small) := fun p hp => s2 p (List.mem_filter.1 hp).1
  clear s1 s2
  go_enter Try.func39, Try.ntmps39
  go_wp2_with fail
  refine (boundRuleOf_any x _ (hr.below b0) hn).mono ?_
  rintro e w1 ⟨a, cap, rfl, hrd, hb⟩
  have hB : Below w.heap.size w w1 := b0.trans (hb.mono b0.size)
  have hsz := hB.size
  clear hb b0 hl
  obtain ⟨n, hnn⟩ : ∃ n, n = (posB x.P).length := ⟨_, rfl⟩
  rw [← hnn] at hl2 ⊢
  have HNN := hide hnn
  clear hnn
  have hf := field_bound x.nm x.sal x.aP x.aC x.aA a x.nP x.nC x.nA n x.cP x.cC x.cA cap w1
  go_wp2_with fail
  refine (vars_any a n cap (posB x.P) _ hrd HNN.out.symm HS.out hsum hl2).mono ?_
  rintro e w2 ⟨⟨v, rfl, ho⟩, hb⟩
  have HF : Hid (w2.ownsRow w.heap.size 9 1 v (varsB [] (posB x.P)).length (valsS (varsB [] (posB x.P))) ∧ Below w.heap.size w w2) := ⟨ownsRow_lowS ho hsz, hB.trans (hb.mono hsz)⟩
  clear ho hb hB
  go_wp2
  go_ret
  exact ⟨⟨_, rfl, HF.out.1⟩, HF.out.2⟩

set_option maxRecDepth 100000 in
set_option maxHeartbeats 3200000 in
theorem implKindsOf_any (x : RE) (w : World) (hr : RdRule w x) (hs : x.small) :
    Calls Try.prog 40 #[.agg #[.string x.nm, .int .i64 x.sal, .slice x.aP x.nP x.cP, .slice x.aC x.nC x.cC, .slice x.aA x.nA x.cA]] w fun e w' =>
      GivesS e w' w.heap.size (kindsL [] x.P) ∧ Below w.heap.size w w' := by
  have b0 := below_al w (.cells #[.string x.nm, .int .i64 x.sal, .slice x.aP x.nP x.cP, .slice x.aC x.nC x.cC, .slice x.aA x.nA x.cA] 49)
  obtain ⟨s1, s2, -, -⟩ := hs
  unfold RE.sz at s1
  have hn : x.nP ≤ 1048576 := by rw [← hr.np]; omega
  have HN := hide hr.np
  have HS := hide s2
  have HE : Hid (kindsL [] (x.P.take x.nP) = kindsL [] x.P) := by unfold Hid; rw [← hr.np, List.take_length]
  clear s1 s2
  go_enter Try.func40, Try.ntmps40
  go_wp2
  generalize w.alloc (.cells #[.string x.nm, .int .i64 x.sal, .slice x.aP x.nP x.cP, .slice x.aC x.nC x.cC, .slice x.aA x.nA x.cA] 49) = w1 at b0 ⊢
  go_loopw [3, 9] (fun v i wr => ∃ (k : Nat), k ≤ x.nP ∧ i = .int .i64 k ∧ RowS w1 v (kindsL [] (x.P.take k)) wr) (fun _ i _ => x.nP - (intOf i).toNat)
  case atStart => exact ⟨0, Nat.zero_le _, rfl, RowS.nil _⟩
  case round =>
    obtain ⟨k, hk, rfl, hrow⟩ := hrel
    have HRow := hide hrow
    clear hrow
    by_cases hlt : k < x.nP
    · have hlL : k < x.P.length := by rw [HN.out]; exact hlt
      obtain ⟨b, off, hab, hbw, hc⟩ := ((hr.p.below b0).below HRow.out.2).cells (by omega)
      obtain ⟨c0, c1, c2, -⟩ := hc k hlL
      clear hc
      have hS := (HS.out _ (eAt_mem hlL)).1
      have hlen : (kindsL [] (x.P.take k)).length ≤ k := by
        have h1 := kindsL_len [] (x.P.take k)
        rw [List.length_take] at h1
        simp only [List.length_nil] at h1
        omega
      have HT : Hid (kindsL [] (x.P.take (k + 1)) = addS (kindsL [] (x.P.take k)) (eAt x.P k).kd) := foldl_snoc _ _ hlL
      rw [hab]
      obtain ⟨y, hy⟩ : ∃ y, y = eAt x.P k := ⟨_, rfl⟩
      rw [← hy] at c0 c1 c2 HT hS
      clear hy hlL hab
      generalize kindsL [] (x.P.take k) = l at HRow HT hlen
      have H2 := HRow.out.alloc (.cells #[.string y.kd, .slice y.a y.L.length y.cap, .bool y.nt] 79)
      go_wp2_with fail
      refine (withText_any w1 _ l y.kd _ H2 (by omega) (by omega)).mono ?_
      rintro e w3 ⟨v', rfl, h3⟩
      have H3 := hide h3
      clear h3 H2 HRow c0 c1 c2
      go_wp2
      go_roundw
      case rel => exact ⟨k + 1, by omega, by go_num, by rw [HT.out]; exact H3.out⟩
      case measure => simp [intOf]; omega
    · obtain rfl : k = x.nP := by omega
      rw [HE.out] at HRow
      have HF := hide (HRow.out.from b0)
      clear HRow
      go_wp2
      go_ret
      exact ⟨⟨_, rfl, HF.out.1⟩, HF.out.2⟩
end Go.Proofs.Ytfgigcdfmkfkjaa
/-
  The tested PosCount.
-/
namespace Go.Proofs.Ytfgigcdfmkfkjaa
open Go.RowKit
set_option linter.unusedVariables false

set_option maxRecDepth 100000 in
theorem count_any (a : Option Addr) (n cap : Nat) (w : World) (hn : n ≤ 1048576) : Calls Try.prog 60 #[.slice a n cap] w fun e w' => e = .returned (.int .i64 (n : Int)) ∧ w' = w := by
  go_enter Try.func60, Try.ntmps60
  go_wp2
  go_ret
  exact ⟨rfl, rfl⟩

end Go.Proofs.Ytfgigcdfmkfkjaa
/-
  The tested BindsFor.
-/
namespace Go.Proofs.Ytfgigcdfmkfkjaa
open Go.RowKit
set_option linter.unusedVariables false
set_option maxRecDepth 100000

theorem rowK_grown {W W' : World} {q base n k : Nat} {T : TypeId} {v : Value} {xs : List Value} (h : W.ownsRow base T k v n xs) (g : W.grownBy W' (some q)) (hq : q < base) : W'.ownsRow base T k v n xs := h.kept g (by
    cases hv2 : v.ownBlock with
    | none => exact .inl rfl
    | some k => right; intro e; have := (h.lt k hv2).1; cases e; omega)
/-- binds are answered, in a row of the call's own, and whether -/
def GivesBF (e : Ending) (w' : World) (w : World) (r : List B4 × Bool) : Prop := ∃ v, e = .returned (.tuple #[v, .bool r.2]) ∧ w'.ownsRow w.heap.size 107 4 v r.1.length (rowOf B4.cs r.1) ∧ Below w.heap.size w w'

set_option maxHeartbeats 6400000 in
theorem implBindsFor_any (x : RE) (a : Option Addr) (n cap : Nat) (nx : Int) (J : List It) (aZ : Option Addr) (nZ cZ : Nat) (zs : List Int) (w : World) (hr : RdRule w x) (hn : x.nP ≤ 1048576) (hps : ∀ p ∈ x.P, p.small) (hsum : leftL (posB x.P) ≤ 1048576)
    (hrI : RdI w a J) (hJ : J.length = n) (hnJ : n ≤ 1048580) (hl : ∀ i, i < J.length → (iAt J i).L.length ≤ 1048576) (hli : ∀ i, i < J.length → LieV (iAt J i).a (iAt J i).L.length (iAt J i).cap) (hS : ∀ i, i < J.length → ∀ v ∈ (iAt J i).L, v.S.size ≤ 1048576)
    (hz : RdN w aZ zs) (hzl : zs.length = nZ) (hnZ : nZ ≤ 1048580) :
    Calls Try.prog 22 #[.agg #[.string x.nm, .int .i64 x.sal, .slice x.aP x.nP x.cP, .slice x.aC x.nC x.cC, .slice x.aA x.nA x.cA], .agg #[.slice a n cap, .int .i64 nx], .slice aZ nZ cZ] w fun e w' => GivesBF e w' w (ansB (goB (J.map It.pl) (posB x.P) zs [])) := by
  have hpl := posB_len x.P
  rw [hr.np] at hpl
  obtain ⟨m, hm⟩ : ∃ m, m = (posB x.P).length := ⟨_, rfl⟩
  rw [← hm] at hpl
  have HM := hide hm
  have HPS : Hid (∀ p ∈ posB x.P, p.small) := fun p hp => hps p (List.mem_filter.1 hp).1
  have HJ := hide hJ
  have HZL := hide hzl
  have HL := hide hl
  have HL4 : Hid (∀ i, i < J.length → (iAt J i).L.length ≤ 1048580) := fun i hi => by have := hl i hi; omega
  have HLI := hide hli
  have HS := hide hS
  have HSum := hide hsum
  obtain ⟨hA, hB0, b1⟩ := boxes2 w #[.string x.nm, .int .i64 x.sal, .slice x.aP x.nP x.cP, .slice x.aC x.nC x.cC, .slice x.aA x.nA x.cA] #[.slice a n cap, .int .i64 nx] 49 53
  have a0 := boxk_cell hA 0 _ rfl
  have a1 := boxk_cell hA 1 _ rfl
  have a2 := boxk_cell hA 2 _ rfl
  have a3 := boxk_cell hA 3 _ rfl
  have a4 := boxk_cell hA 4 _ rfl
  have hr1 := hr.below b1
  clear hJ hzl hl hli hS hm hps hsum hr
  go_enter Try.func22, Try.ntmps22
  go_wp2_with fail
  refine (boundRuleOf_any x _ hr1 hn).mono ?_
  rintro e w1 ⟨aP, cP, rfl, hrp, hb⟩
  have B1 : Below w.heap.size w w1 := b1.trans (hb.mono b1.size)
  have HB1 := hide (box_step hB0 hb)
  rw [← HM.out]
  have HRP := hide hrp
  have hf := field_bound x.nm x.sal x.aP x.aC x.aA aP x.nP x.nC x.nA m x.cP x.cC x.cA cP w1
  clear hb b1 hB0 hA a0 a1 a2 a3 a4 hr1 hrp
  go_wp2_with fail
  refine (count_any aP m cP _ (by omega)).mono ?_
  rintro e w2 ⟨rfl, rfl⟩
  clear hf
  by_cases hmz : nZ = m
  · have k1 : ((nZ : Int) != (m : Int)) = false := by simp [hmz]
    have HMZ := hide hmz
    clear hmz
    have hm8 : m ≤ 1048576 := by omega
    go_wp2
    go_loopw [9, 24] (fun v i wr => ∃ (k : Nat) (M : List B4) (aM : Option Addr) (cM : Nat), k ≤ m ∧ i = .int .i64 k ∧ v = .slice aM M.length cM ∧ RdBind wr aM M ∧ M.length ≤ cM ∧ (∀ y ∈ M, y.small) ∧ goB (J.map It.pl) (posB x.P) zs [] = goB (J.map It.pl) ((posB x.P).drop k) (zs.drop k) M ∧ M.length + leftL ((posB x.P).drop k) ≤ 1048576 ∧ Below w2.heap.size w2 wr) (fun _ i _ => m - (intOf i).toNat)
    case atStart => exact ⟨0, [], none, 0, Nat.zero_le _, rfl, rfl, RdK.nil _ _ _ _, Nat.le_refl _, (fun y hy => by cases hy), rfl, by simpa using HSum.out, Below.refl _ _⟩
    case round =>
      obtain ⟨k, M, aM, cM, hk, rfl, rfl, rM, hcM, hsM, hgo, hln, hbel⟩ := hrel
      have HGo := hide hgo
      have HSM := hide hsM
      have HRM := hide rM
      have hBw : Below w.heap.size w wr := B1.trans (hbel.mono B1.size)
      clear hgo hsM rM
      by_cases hlt : k < m
      · have hkp : k < (posB x.P).length := by rw [← HM.out]; exact hlt
        have hkz : k < zs.length := by rw [HZL.out, HMZ.out]; exact hlt
        have hkn : k < nZ := by rw [HMZ.out]; exact hlt
        have hkni : (k : Int) < (nZ : Int) := by omega
        obtain ⟨bp, op, eP, hbp, hcP⟩ := (HRP.out.below hbel).cells (by omega)
        obtain ⟨p0, p1, p2, rA⟩ := hcP k hkp
        obtain ⟨bz, oz, eZ, hbz, hcz⟩ := (hz.below hBw).open (by omega)
        have z0 := hcz k hkz
        have HSt := hide (box_step HB1.out hbel)
        have hpsm : (eAt (posB x.P) k).small := by rw [eAt_in hkp]; exact HPS.out _ (List.getElem_mem _)
        have HPsm := hide hpsm
        have hlk : M.length + (eAt (posB x.P) k).L.length + leftL ((posB x.P).drop (k + 1)) ≤ 1048576 := by rw [leftL_drop hkp] at hln; omega
        have HNo : Hid (facP (J.map It.pl) (zAt zs k) = none → goB (J.map It.pl) (posB x.P) zs [] = none) := fun h => by rw [HGo.out]; exact goB_nofact hkp hkz h
        have HNm : Hid (∀ f, facP (J.map It.pl) (zAt zs k) = some f → (matchR (eAt (posB x.P) k).kd f.1 (eAt (posB x.P) k).L f.2 M).2 = false → goB (J.map It.pl) (posB x.P) zs [] = none) := fun f h1 h2 => by rw [HGo.out]; exact goB_no hkp hkz h1 h2
        have HYe : Hid (∀ f, facP (J.map It.pl) (zAt zs k) = some f → (matchR (eAt (posB x.P) k).kd f.1 (eAt (posB x.P) k).L f.2 M).2 = true → goB (J.map It.pl) (posB x.P) zs [] = goB (J.map It.pl) ((posB x.P).drop (k + 1)) (zs.drop (k + 1)) (matchR (eAt (posB x.P) k).kd f.1 (eAt (posB x.P) k).L f.2 M).1) := fun f h1 h2 => by rw [HGo.out]; exact goB_step hkp hkz h1 h2
        have HIz := hide (hrI.below hBw)
        clear hcP hcz hln HGo hpsm
        subst eZ eP
        obtain ⟨o, ho⟩ : ∃ o, Hid (ansP (facP (J.map It.pl) (zAt zs k)) = o) := ⟨_, rfl⟩
        generalize zAt zs k = z at z0 HNo HNm HYe ho
        have b3 := below_al wr (.cells #[.string (eAt (posB x.P) k).kd, .slice (eAt (posB x.P) k).a (eAt (posB x.P) k).L.length (eAt (posB x.P) k).cap, .bool (eAt (posB x.P) k).nt] 79)
        have HX3 := hide (boxk_new wr #[.string (eAt (posB x.P) k).kd, .slice (eAt (posB x.P) k).a (eAt (posB x.P) k).L.length (eAt (posB x.P) k).cap, .bool (eAt (posB x.P) k).nt] 79)
        have HSt3 := hide (box_step HSt.out b3)
        have HIz3 : Hid (∀ W, Below wr.heap.size wr W → RdI W a J) := fun W h => HIz.out.below h
        have z3 : (wr.alloc (.cells #[.string (eAt (posB x.P) k).kd, .slice (eAt (posB x.P) k).a (eAt (posB x.P) k).L.length (eAt (posB x.P) k).cap, .bool (eAt (posB x.P) k).nt] 79)).cell? ⟨bz, oz + k, none⟩ = some (.int .i64 z) := by rw [b3.cell hbz]; exact z0
        have s0 := boxk_cell HSt3.out 0 _ rfl
        have s1 := boxk_cell HSt3.out 1 _ rfl
        clear HSt HIz
        go_wp2_with fail
        generalize wr.alloc (.cells #[.string (eAt (posB x.P) k).kd, .slice (eAt (posB x.P) k).a (eAt (posB x.P) k).L.length (eAt (posB x.P) k).cap, .bool (eAt (posB x.P) k).nt] 79) = w3 at b3 HX3 HSt3 z3 s0 s1 ⊢
        go_cut [12, 13] from 29 to 37 (fun i12 i13 wx => ∃ (X : Nat) (aF : Option Addr) (cF : Nat), i12 = .pointer (some ⟨X, 0, none⟩) ∧ i13 = .bool o.2.2 ∧ wx.heap[X]? = some (.cells #[.string o.1, .slice aF o.2.1.length cF] 89 (0, 0)) ∧ RdV wx aF o.2.1 ∧ Below w3.heap.size w3 wx)
        case first =>
          have ba := below_al w3 (.cells #[.string ⟨#[]⟩, .slice none 0 0] 89)
          have z3a : (w3.alloc (.cells #[.string ⟨#[]⟩, .slice none 0 0] 89)).cell? ⟨bz, oz + k, none⟩ = some (.int .i64 z) := by rw [ba.cell (World.block_lt_of_cell? w3 _ z3)]; exact z3
          have s0a := boxk_cell (box_step HSt3.out ba) 0 _ rfl
          have s1a := boxk_cell (box_step HSt3.out ba) 1 _ rfl
          have HXz : Hid ((w3.alloc (.cells #[.string ⟨#[]⟩, .slice none 0 0] 89)).drew.heap[w3.heap.size]? = some (.cells #[.string ⟨#[]⟩, .slice none 0 0] 89 (0, 0))) := boxk_new w3 _ _
          go_region_law (first
            | (rw [if_pos (by simp [Region.wanted])]; go_simp; go_at_call 61; (with_reducible show Calls _ _ _ (World.drew w3) _); refine (implFactOf_any _ n cap nx z J _ (HIz3.out _ b3.drew) HJ.out hnJ HL4.out HLI.out).mono ?_; rintro e w4 ⟨⟨aF, cF, rfl, nv⟩, hb4⟩; have hbA : Below w3.heap.size w3 w4 := below_dr hb4)
            | (rw [if_pos (by simp [Region.wanted])]; go_simp; go_at_call 61; (with_reducible show Calls _ _ _ (World.drew (World.alloc w3 _)) _); refine (implFactOf_any _ n cap nx z J _ (HIz3.out _ ((b3.alloc b3.size _).drew)) HJ.out hnJ HL4.out HLI.out).mono ?_; rintro e w4 ⟨⟨aF, cF, rfl, nv⟩, hb4⟩; have HXz4 := hide (box_step HXz.out hb4); have q0 := boxk_cell HXz4.out 0 _ rfl; have q1 := boxk_cell HXz4.out 1 _ rfl; have qf0 := boxk_frozen HXz4.out 0; have qf1 := boxk_frozen HXz4.out 1))
          all_goals
            rw [ho.out] at nv ⊢
            clear s0 s1 z3 z3a s0a s1a z0
          all_goals first
            | (have bz2 := below_al w4 (.cells #[.string o.1, .slice aF o.2.1.length cF] 89); have HF := hide (nv.rd.below bz2); have HB := hide (hbA.trans (bz2.mono hbA.size)); have HN := hide (boxk_new w4 #[.string o.1, .slice aF o.2.1.length cF] 89); clear nv hb4 bz2; go_wp2; go_meet; exact ⟨w4.heap.size, aF, cF, rfl, rfl, HN.out, HF.out, HB.out⟩)
            | (have hS := box2_set HXz4.out (.string o.1) (.slice aF o.2.1.length cF); have HN := hide hS.1; have HB := hide (below_set (below_step ba.drew hb4) hS.2 (Nat.le_refl _)); have HF := hide (NewV.rd (base := (w3.alloc (.cells #[.string ⟨#[]⟩, .slice none 0 0] 89)).heap.size) ⟨rowK_grown nv.1 hS.2 (by simp), nv.2⟩); clear nv hb4 hS q0 q1 qf0 qf1; go_wp2; go_meet; exact ⟨w3.heap.size, aF, cF, rfl, rfl, HN.out, HF.out, HB.out⟩)
        case rest =>
          obtain ⟨X, aF, cF, rfl, rfl, hX, rF, hbc⟩ := hcut
          have HXc := hide hX
          have HPc := hide (box_step HX3.out hbc)
          have hBc : Below wr.heap.size wr wc := b3.trans (hbc.mono b3.size)
          have hBwc : Below w.heap.size w wc := hBw.trans (hBc.mono hBw.size)
          have hB2c : Below w2.heap.size w2 wc := hbel.trans (hBc.mono hbel.size)
          have HRMc := hide (HRM.out.below hBc)
          have HRA := hide (rA.below hBc)
          have HRF := hide rF
          clear hX hbc b3 HX3 HSt3 z3 s0 s1 z0 HRM rA rF hBw hBc hbel p0 p1 p2 HIz3
          cases hf : facP (J.map It.pl) z with
          | none =>
            have HN := hide (HNo.out hf)
            have eo : o.2.2 = false := by rw [← ho.out, hf]; rfl
            rw [eo]
            clear hf eo HNo HNm HYe ho
            go_wp2
            go_returns
            exact ⟨_, by rw [HN.out]; rfl, by rw [HN.out]; exact World.ownsRow_nil _ _ _ _, hBwc⟩
          | some f =>
            have eo : o = (f.1, f.2, true) := by rw [← ho.out, hf]; rfl
            obtain ⟨kF, FL⟩ := f
            have hFx : FL.length ≤ 1048576 ∧ ∀ u ∈ FL, u.S.size ≤ 1048576 := by
              obtain ⟨y, hy, -, e2⟩ := facP_in hf
              obtain ⟨t, ht, rfl⟩ := List.mem_map.1 hy
              obtain ⟨i, hi, rfl⟩ := List.getElem_of_mem ht
              simp only [It.pl] at e2
              rw [← e2, ← iAt_in hi]
              exact ⟨HL.out i hi, HS.out i hi⟩
            have HFx := hide hFx
            have HNm1 := hide (HNm.out _ hf)
            have HYe1 := hide (HYe.out _ hf)
            subst eo
            simp only at HXc HRF HNm1 HYe1 ⊢
            clear hf HNo HNm HYe ho hFx
            have hpp := boxk_cell HPc.out 0 _ rfl
            have hpp1 := boxk_cell HPc.out 1 _ rfl
            have hpp2 := boxk_cell HPc.out 2 _ rfl
            have hx0 := boxk_cell HXc.out 0 _ rfl
            have hx1 := boxk_cell HXc.out 1 _ rfl
            have HLe := hide (matchR_le (eAt (posB x.P) k).kd kF (eAt (posB x.P) k).L FL M)
            have HSm2 := hide (matchR_small (eAt (posB x.P) k).kd kF HSM.out HPsm.out.2.2 HFx.out.2)
            go_wp2_with fail
            refine (bindFields_any (eAt (posB x.P) k).kd _ _ (eAt (posB x.P) k).L (eAt (posB x.P) k).nt kF aF cF FL aM cM M _ HRA.out HRF.out HRMc.out hcM HPsm.out.2.2 HFx.out.2 HSM.out (by omega) HFx.out.1).mono ?_
            rintro e w5 ⟨a5, c5, rfl, r5, hc5, hb5⟩
            have hB5 : Below w.heap.size w w5 := hBwc.trans (hb5.mono hBwc.size)
            have hB25 : Below w2.heap.size w2 w5 := hB2c.trans (hb5.mono hB2c.size)
            clear hb5 hpp hpp1 hpp2 hx0 hx1 HXc HPc hBwc hB2c HRMc HRA HRF
            generalize matchR (eAt (posB x.P) k).kd kF (eAt (posB x.P) k).L FL M = q at r5 hc5 HNm1 HYe1 HLe HSm2 ⊢
            obtain ⟨M5, bb⟩ := q
            simp only at r5 hc5 HNm1 HYe1 HLe HSm2 ⊢
            have HR5 := hide r5
            have HLe5 : Hid (M5.length + leftL ((posB x.P).drop (k + 1)) ≤ 1048576) := by have := HLe.out; unfold Hid; omega
            cases bb
            · have HN := hide (HNm1.out rfl)
              clear HNm1 HYe1 r5
              go_wp2
              go_returns
              exact ⟨_, by rw [HN.out]; rfl, by rw [HN.out]; exact World.ownsRow_nil _ _ _ _, hB5⟩
            · have HG := hide (HYe1.out rfl)
              clear HNm1 HYe1 r5
              go_wp2
              go_roundw
              case rel => exact ⟨k + 1, M5, a5, c5, by omega, by go_num, rfl, HR5.out, hc5, HSm2.out, HG.out, HLe5.out, hB25⟩
              case measure => simp [intOf]; omega
      · have HG : Hid (goB (J.map It.pl) (posB x.P) zs [] = some M) := by
          unfold Hid
          rw [HGo.out]
          exact goB_end (by rw [← HM.out]; omega) (by rw [HZL.out, HMZ.out]; omega)
        have hM8 : M.length ≤ 1048576 := by omega
        clear HGo hln
        go_wp2_with fail
        refine (copyBinds_any aM cM M _ HRM.out HSM.out hM8).mono ?_
        rintro e w5 ⟨g5, c5, rfl, hg5, o5, hb5⟩
        have hB5 : Below w.heap.size w w5 := hBw.trans (hb5.mono hBw.size)
        have ho5 : w5.ownsRow w.heap.size 107 4 (.slice (some ⟨g5, 0, none⟩) M.length c5) M.length (rowOf B4.cs M) := by
          refine ⟨o5.1, ?_⟩
          rcases o5.2 with ⟨h, _⟩ | ⟨g, cap', cur, h1, -, rest⟩
          · cases h
          · have hgg : g5 = g := by simp only [Value.slice.injEq, Option.some.injEq, Addr.mk.injEq] at h1; exact h1.1.1
            exact .inr ⟨g, cap', cur, h1, by have := hBw.size; omega, rest⟩
        have HO5 := hide ho5
        clear hb5 o5 ho5
        go_wp2
        go_returns
        exact ⟨_, by rw [HG.out]; rfl, by rw [HG.out]; exact HO5.out, hB5⟩
  · have k1 : ((nZ : Int) != (m : Int)) = true := by simp; omega
    have HG : Hid (goB (J.map It.pl) (posB x.P) zs [] = none) := goB_len (by rw [HZL.out, ← HM.out]; exact fun e => hmz e.symm)
    clear hmz
    go_wp2
    go_returns
    exact ⟨_, by rw [HG.out]; rfl, by rw [HG.out]; exact World.ownsRow_nil _ _ _ _, B1⟩
end Go.Proofs.Ytfgigcdfmkfkjaa
/-
  What the model's MatchPat answers: matchR, in a row of the call's own.
-/
namespace Go.Proofs.Ytfgigcdfmkfkjaa
open Go.RowKit
set_option linter.unusedVariables false

theorem src_zeroB {P : Program} {w : World} {size : Nat} {t e : TypeId} (hk : P.underlying t = some (.slice e)) (ad : Option Addr) (c : Nat) : Src P size t (.slice ad 0 c) 0 [] w := by
  cases ad with
  | none => exact Src.ofNil w hk c
  | some a => exact Src.ofSlice w hk a 0 c [] (by simp) (fun j u h => by simp at h) (fun _ h => by cases h)
theorem wpList_append_zeroB {P : Program} {w : World} {ops : Array Oper} {rest : List Oper} {o : Oper} {a : Act} {Q : Exit → Act → World → Prop} (hgd : o.guard = none) (s x : Operand) (t : TypeId)
    (ho : o.op = .call { callee := .builtin .append, args := #[s, x], argTypes := #[t, t] }) (e : TypeId) (i : TypeInfo) (ht : P.underlying t = some (.slice e)) (hi : P.info? e = some i)
    (b : Option Addr) (n cap : Nat) (hs : a.eval s = .slice b n cap) (hle : n ≤ cap) (ad : Option Addr) (c : Nat) (hx : a.eval x = .slice ad 0 c)
    (h : wpList P ops Q rest (a.put o.dst (.slice b n cap)) w) : wpList P ops Q (o :: rest) a w := by
  refine wpList_plain hgd fun K hK => ?_
  have hrun := run_append_nothing w t t o.type e i ht hi b n cap hle (.slice ad 0 c) (src_zeroB ht ad c)
  unfold Oper.wp
  simp [execOp, ho, resolve, invoke, builtin, hs, hx, hrun, Result.andThen]
  exact hK _ _ h
/-- binds copied: append onto an empty row of the call's own -/
theorem wpList_copyB {w : World} {ops : Array Oper} {rest : List Oper} {o : Oper} {act : Act} {Q : Exit → Act → World → Prop} (hgd : o.guard = none) (s x : Operand)
    (ho : o.op = .call { callee := .builtin .append, args := #[s, x], argTypes := #[28, 28] })
    (base q : Nat) (hs : act.eval s = .slice (some ⟨q, 0, none⟩) 0 0) (hE : w.ownsRow base 107 4 (.slice (some ⟨q, 0, none⟩) 0 0) 0 []) (a3 : Option Addr) (c3 n : Nat) (M0 : List B4) (hn : M0.length = n) (hx : act.eval x = .slice a3 n c3) (hr : RdBind w a3 M0) (hm : n ≤ 1048576) (hbase : base ≤ w.heap.size)
    (h : ∀ g c w', w'.ownsRow base 107 4 (.slice (some ⟨g, 0, none⟩) n c) n (rowOf B4.cs M0) → w.grownBy w' (some q) → wpList Try.prog ops Q rest (act.put o.dst (.slice (some ⟨g, 0, none⟩) n c)) w') : wpList Try.prog ops Q (o :: rest) act w := by
  obtain ⟨i0, hi, hz0, hz1, hz2⟩ := info_parts Try.info107
  subst hn
  by_cases hL : M0 = []
  · subst hL
    refine wpList_append_zeroB hgd s x 28 ho 107 i0 Try.underlying28 hi (some ⟨q, 0, none⟩) 0 0 hs (Nat.le_refl _) a3 c3 hx ?_
    exact h q 0 w hE (World.grownBy.refl _ _)
  · obtain ⟨b, off, rfl, hbw, -⟩ := RdBind.cells hr (List.length_pos_iff.2 hL)
    have hpos : 0 < M0.length := List.length_pos_iff.2 hL
    refine wpList_append_lies _ hgd s x 28 ho base 107 i0 (.agg #[.string ⟨#[]⟩, .int .i64 0, .int .i64 0, .string ⟨#[]⟩]) 4 48 Try.underlying28 hi hz0 hz1 hz2 rfl (by omega) (.slice (some ⟨q, 0, none⟩) 0 0) 0 [] hs hE ⟨b, off, none⟩ M0.length c3 (rowOf B4.cs M0) hx (rowOf_length B4.len M0) (rdK_src B4.len (by decide) hr) ?one hpos (by unfold maxLen; omega) (by omega) hbase _ rfl ?_
    · intro u hu
      obtain ⟨y, hy, hu2⟩ := List.mem_flatMap.1 hu
      exact one4 y u hu2
    · intro g c w' h1 h2 h3 h4
      rw [Nat.zero_add, List.nil_append] at h1
      have := h g c w' h1 h2
      rw [Nat.zero_add]
      exact this

set_option maxRecDepth 100000 in
set_option maxHeartbeats 6400000 in
theorem specMatchPat_any (kd : ByteArray) (a1 : Option Addr) (c1 : Nat) (L : List A5) (nt : Bool) (kd' : ByteArray) (a2 : Option Addr) (c2 : Nat) (F : List V3) (a3 : Option Addr) (c3 : Nat) (M0 : List B4) (w : World)
    (hr1 : RdArg w a1 L) (hr2 : RdV w a2 F) (hr3 : RdBind w a3 M0) (hn1 : L.length + M0.length ≤ 1048576) (hn2 : F.length ≤ 1048576) :
    Calls Try.prog 54 #[.agg #[.string kd, .slice a1 L.length c1, .bool nt], .agg #[.string kd', .slice a2 F.length c2], .slice a3 M0.length c3] w fun e w' => GivesR e w' w (matchR kd kd' L F M0) := by
  obtain ⟨i0, hi, hz0, hz1, hz2'⟩ := info_parts Try.info107
  have b0 := below_al w (.cells #[.string kd, .slice a1 L.length c1, .bool nt] 79)
  have b1 := b0.alloc b0.size (.cells #[.string kd', .slice a2 F.length c2] 89)
  have hP := box_old (boxk_new w #[.string kd, .slice a1 L.length c1, .bool nt] 79) (by simp) (.cells #[.string kd', .slice a2 F.length c2] 89)
  have hQ := boxk_new (w.alloc (.cells #[.string kd, .slice a1 L.length c1, .bool nt] 79)) #[.string kd', .slice a2 F.length c2] 89
  simp only [World.size_alloc] at hQ
  have hz : ((w.alloc (.cells #[.string kd, .slice a1 L.length c1, .bool nt] 79)).alloc (.cells #[.string kd', .slice a2 F.length c2] 89)).heap.size = w.heap.size + 2 := by simp
  obtain ⟨nM, hNM⟩ : ∃ n, n = M0.length := ⟨_, rfl⟩
  obtain ⟨nF, hNF⟩ : ∃ n, n = F.length := ⟨_, rfl⟩
  obtain ⟨n, hN⟩ : ∃ n, n = L.length := ⟨_, rfl⟩
  have HLen := hide (fun k M (h : matchK L F M0 k = some M) => matchK_len h)
  have HNo := hide (fun k (hk : k ≤ L.length) (hkd : kd = kd') (hl : L.length = F.length) (h : matchK L F M0 k = none) => (show matchR kd kd' L F M0 = (M0, false) by subst hkd; exact matchR_fail hl hk h))
  have HYes := hide (fun M (hkd : kd = kd') (hl : L.length = F.length) (h : matchK L F M0 L.length = some M) => (show matchR kd kd' L F M0 = (M, true) by subst hkd; exact matchR_yes hl h))
  have HKd := hide (fun (h : kd ≠ kd') => matchR_kind (L := L) (F := F) (M0 := M0) h)
  have HLn := hide (fun (h : L.length ≠ F.length) => matchR_len (kd := kd) (kd' := kd') (M0 := M0) h)
  rw [← hN, ← hNM] at hn1
  rw [← hNF] at hn2
  rw [← hN, ← hNF] at b1 hP hQ hz
  rw [← hN] at b0
  rw [← hN, ← hNF, ← hNM]
  have HN := hide hN
  have HNF := hide hNF
  have HNM := hide hNM
  clear hN hNF hNM
  have b2 := b1.alloc b1.size (.cells #[] 107)
  have hE := World.ownsRow_lit (base := w.heap.size + 2) (e := 107) (size := 4) ((w.alloc (.cells #[.string kd, .slice a1 n c1, .bool nt] 79)).alloc (.cells #[.string kd', .slice a2 nF c2] 89)) #[] 0 (by omega) (Nat.zero_le _) rfl
  rw [hz] at hE
  have hP2 := box_old hP (by omega) (.cells #[] 107)
  have hQ2 := box_old hQ (by omega) (.cells #[] 107)
  have hz2 : w.heap.size + 3 ≤ (((w.alloc (.cells #[.string kd, .slice a1 n c1, .bool nt] 79)).alloc (.cells #[.string kd', .slice a2 nF c2] 89)).alloc (.cells #[] 107)).heap.size := by rw [World.size_alloc, hz]; omega
  clear b0 b1 hP hQ hz
  go_enter Try.func54, Try.ntmps54
  go_wp2_with (at_builtin; refine wpList_copyB rfl (.tmp 13) (.tmp 14) rfl (w.heap.size + 2) (w.heap.size + 2) ?hs hE a3 c3 nM M0 HNM.out.symm ?hx (hr3.below b2) (by omega) (by omega) ?_)
  generalize ((w.alloc (.cells #[.string kd, .slice a1 n c1, .bool nt] 79)).alloc (.cells #[.string kd', .slice a2 nF c2] 89)).alloc (.cells #[] 107) = w1 at b2 hE hP2 hQ2 hz2
  intro g2 k2 w2 ho2 gr2
  have hB2 : Below w.heap.size w w2 := b2.grown gr2 b2.size (fun k hk => by cases hk; omega)
  have HP := hide (box_gr hP2 gr2 (by omega))
  have HQ := hide (box_gr hQ2 gr2 (by omega))
  have hz3 : w.heap.size + 2 ≤ w2.heap.size := by have := gr2.size; omega
  have HO2 := hide ho2
  have p0 := boxk_cell HP.out 0 _ rfl
  have p1 := boxk_cell HP.out 1 _ rfl
  have q0 := boxk_cell HQ.out 0 _ rfl
  have q1 := boxk_cell HQ.out 1 _ rfl
  clear hE hP2 hQ2 hz2 b2 gr2 ho2
  have HRet : Hid (GivesR (.returned (.tuple #[.slice (some ⟨g2, 0, none⟩) nM k2, .bool false])) w2 w (M0, false)) :=
    ⟨g2, k2, by rw [HNM.out], Nat.le_trans (by omega) (HO2.out.lt g2 rfl).1, OwnK.of B4.len (by decide) HO2.out, hB2⟩
  by_cases hkd : kd = kd'
  · subst hkd
    have k1 : (kd.toList == kd.toList) = true := by simp
    by_cases hl : n = nF
    · subst hl
      have hnn : ((n : Int) != (n : Int)) = false := by simp
      have HNo2 := hide (fun k (hk : k ≤ L.length) (h : matchK L F M0 k = none) => HNo.out k hk rfl (by rw [← HN.out, ← HNF.out]) h)
      have HYes2 := hide (fun M (h : matchK L F M0 L.length = some M) => HYes.out M rfl (by rw [← HN.out, ← HNF.out]) h)
      clear HKd HLn HRet HNo HYes
      go_wp2
      go_loopw [8, 9] (fun v i wr => ∃ (k : Nat) (M : List B4) (g c : Nat), k ≤ n ∧ i = .int .i64 k ∧ v = .slice (some ⟨g, 0, none⟩) M.length c ∧ matchK L F M0 k = some M ∧ wr.ownsRow (w.heap.size + 2) 107 4 (.slice (some ⟨g, 0, none⟩) M.length c) M.length (rowOf B4.cs M) ∧ Below (w.heap.size + 2) w2 wr) (fun _ i _ => n - (intOf i).toNat)
      case atStart => exact ⟨0, M0, g2, k2, Nat.zero_le _, rfl, by rw [HNM.out], rfl, by rw [← HNM.out]; exact HO2.out, Below.refl _ _⟩
      case round =>
        clear p0 p1 q0 q1
        obtain ⟨k, M, g, c, hk, rfl, rfl, hM, hown, hbel⟩ := hrel
        have hB : Below w.heap.size w wr := hB2.trans (hbel.mono (by omega))
        have hzr : w.heap.size + 2 ≤ wr.heap.size := Nat.le_trans hz3 hbel.size
        have hMl := HLen.out k M hM
        rw [← HNM.out] at hMl
        have HM := hide hM
        clear hM
        have p1 := boxk_cell (box_below HP.out hbel (by omega)) 1 _ rfl
        by_cases hlt : k < n
        · obtain ⟨b, off, hab, hbw, hc⟩ := RdArg.cells (hr1.below hB) (by rw [← HN.out]; omega)
          obtain ⟨c0', c1', c2', c3', c4'⟩ := hc k (by rw [← HN.out]; exact hlt)
          clear hc
          obtain ⟨b', off', hab', hbw', hd⟩ := (hr2.below hB).open (by rw [← HNF.out]; omega)
          obtain ⟨d0, d1, d2⟩ := hd k (by rw [← HNF.out]; exact hlt)
          clear hd
          have HStep := hide (fun hb => matchK_step (L := L) (F := F) HM.out hb)
          have HFail := hide (fun hb => matchK_fail (L := L) (F := F) HM.out hb)
          generalize eAt L k = x at c0' c1' c2' c3' c4' HStep HFail
          generalize vAt F k = u at d0 d1 d2 HStep HFail
          obtain ⟨K, S, V⟩ := x
          simp only at c0' c1' c2' c3' c4'
          subst hab hab'
          have rd := (RdK.below (OwnK.rd B4.len (by decide) (OwnK.of B4.len (by decide) hown)) (below_al wr (.cells #[.int .i64 K, .string S, .int .i64 V.K, .int .i64 V.N, .string V.S] 157)))
          have hxb := boxk_new wr #[.int .i64 K, .string S, .int .i64 V.K, .int .i64 V.N, .string V.S] 157
          go_wp2_with fail
          refine (specBindOf_any _ _ M S _ rd (by omega)).mono ?_
          rintro e w3 ⟨rfl, hb3⟩
          have b3 := (below_al wr (.cells #[.int .i64 K, .string S, .int .i64 V.K, .int .i64 V.N, .string V.S] 157)).trans (hb3.mono (by simp))
          have HX := hide (box_step hxb hb3)
          have hzx : wr.heap.size < w3.heap.size := Nat.lt_of_lt_of_le (by simp) hb3.size
          have hB3 : Below (w.heap.size + 2) w2 w3 := hbel.trans (b3.mono hzr)
          have hz4 : w.heap.size + 2 ≤ w3.heap.size := Nat.le_trans hzr b3.size
          have HO3 := hide (ownsRow_below' hown b3)
          rw [← b3.cell (p := ⟨b', off' + k * 3, none⟩) hbw'] at d0
          rw [← b3.cell (p := ⟨b', off' + k * 3 + 1, none⟩) hbw'] at d1
          rw [← b3.cell (p := ⟨b', off' + k * 3 + 2, none⟩) hbw'] at d2
          have hbw3 : b' < w3.heap.size := World.block_lt_of_cell? w3 _ d0
          clear hb3 b3 c0' c1' c2' c3' c4' rd hxb hown hbel hB p1
          cases hb : bindO M S with
          | some v =>
            have hBv := hB3.alloc hz4 (.cells #[.int .i64 v.K, .int .i64 v.N, .string v.S] 105)
            have hy := boxk_new w3 #[.int .i64 v.K, .int .i64 v.N, .string v.S] 105
            have hx := box_old HX.out (by omega) (.cells #[.int .i64 v.K, .int .i64 v.N, .string v.S] 105)
            have hq := box_old (box_below HQ.out hB3 (by omega)) (by omega) (.cells #[.int .i64 v.K, .int .i64 v.N, .string v.S] 105)
            have ho := HO3.out.alloc (.cells #[.int .i64 v.K, .int .i64 v.N, .string v.S] 105)
            have e0 := keptB (below_al w3 (.cells #[.int .i64 v.K, .int .i64 v.N, .string v.S] 105)) d0
            have e1 := keptB (below_al w3 (.cells #[.int .i64 v.K, .int .i64 v.N, .string v.S] 105)) d1
            have e2 := keptB (below_al w3 (.cells #[.int .i64 v.K, .int .i64 v.N, .string v.S] 105)) d2
            have hzv : w.heap.size + 2 ≤ (w3.alloc (.cells #[.int .i64 v.K, .int .i64 v.N, .string v.S] 105)).heap.size := by simp; omega
            simp only [bindA]
            go_wp2_with fail
            generalize w3.alloc (.cells #[.int .i64 v.K, .int .i64 v.N, .string v.S] 105) = w4 at hBv hy hx hq ho e0 e1 e2 hzv
            have x0 := boxk_cell hx 0 _ rfl
            have x1 := boxk_cell hx 1 _ rfl
            have x2 := boxk_cell hx 2 _ rfl
            have x3 := boxk_cell hx 3 _ rfl
            have x4 := boxk_cell hx 4 _ rfl
            have q1 := boxk_cell hq 1 _ rfl
            obtain ⟨y0, y1, y2, -, -, -⟩ := box_cell hy
            have HO := hide ho
            clear hx hq hy ho d0 d1 d2
            have HSz := hide (fun d e => (show w.heap.size + 2 ≤ ((w4.drewN d).alloc e).heap.size from by rw [World.size_alloc]; exact Nat.le_succ_of_le hzv))
            have HOd := hide (fun d => (show (w4.drewN d).ownsRow (w.heap.size + 2) 107 4 (.slice (some ⟨g, 0, none⟩) M.length c) M.length (rowOf B4.cs M) from HO.out))
            have HBd := hide (fun d => (show Below (w.heap.size + 2) w2 (w4.drewN d) from hBv.trans ⟨rfl, rfl, rfl, Nat.le_refl _, fun _ _ => rfl⟩))
            by_cases h2 : K = 2
            · subst h2
              rw [show ∀ V, stepM M ⟨2, S, V⟩ u = (M, decide (V = u)) from fun V => stepM_K2] at HStep HFail
              rcases v3_cases V u with he | ⟨hne, hv⟩
              · subst he
                have HS2 := hide (HStep.out (by simp))
                have k1 : (V.K == V.K) = true := by simp
                have k2' : (V.N == V.N) = true := by simp
                have k3 : (V.S.toList == V.S.toList) = true := by simp
                clear HStep HFail
                go_quiet (fail)
                go_wp2
                go_roundw
                case rel => exact ⟨k + 1, M, g, c, by omega, by go_num, rfl, HS2.out, HOd.out _, HBd.out _⟩
                case measure => simp [intOf]; omega
              · have HF2 := hide (HFail.out (by simpa using hne))
                clear hne HStep HFail
                rcases hv with k1 | ⟨k1, k2'⟩ | ⟨k1, k2', k3⟩
                all_goals
                  have HEd := hide (fun d => (show ((w4.drewN d).alloc (.cells #[] 107)).ownsRow (w.heap.size + 2) 107 4 (.slice (some ⟨w4.heap.size, 0, none⟩) 0 0) 0 [] from World.ownsRow_lit (base := w.heap.size + 2) (w4.drewN d) #[] 0 hzv (Nat.zero_le _) rfl))
                  have HWd := hide (fun d => (show Below w.heap.size w ((w4.drewN d).alloc (.cells #[] 107)) from (hB2.trans ((HBd.out d).mono (by omega))).alloc (by show w.heap.size ≤ w4.heap.size; omega) _))
                  go_quiet (fail)
                  go_wp2_with (at_builtin; refine wpList_copyB rfl (.tmp 80) (.tmp 81) rfl (w.heap.size + 2) w4.heap.size (by simp [Act.eval]) (HEd.out _) a3 c3 nM M0 HNM.out.symm (by simp [Act.eval]) (hr3.below (HWd.out _)) (by omega) (HSz.out _ _) ?_)
                  intro g5 k5 w5 ho5 gr5
                  have HG : Hid (GivesR (.returned (.tuple #[.slice (some ⟨g5, 0, none⟩) nM k5, .bool false])) w5 w (matchR kd kd L F M0)) := by
                    unfold Hid
                    rw [HNo2.out (k + 1) (by rw [← HN.out]; omega) HF2.out]
                    exact ⟨g5, k5, by rw [HNM.out], Nat.le_trans (by omega) (ho5.lt g5 rfl).1, OwnK.of B4.len (by decide) ho5, (HWd.out _).grown gr5 (HWd.out _).size (fun k hk => by cases hk; omega)⟩
                  clear ho5 gr5
                  go_wp2
                  go_returns
                  exact HG.out
            · have kk2 : (K == 2) = false := by simpa using h2
              by_cases h1 : K = 1
              · subst h1
                rw [show ∀ V, stepM M ⟨1, S, V⟩ u = (M, decide (v = u)) from fun V => stepM_K1 hb] at HStep HFail
                clear hb
                rcases v3_cases v u with he | ⟨hne, hv⟩
                · subst he
                  have HS2 := hide (HStep.out (by simp))
                  have k1 : (v.K == v.K) = true := by simp
                  have k2' : (v.N == v.N) = true := by simp
                  have k3 : (v.S.toList == v.S.toList) = true := by simp
                  clear HStep HFail
                  go_quiet (fail)
                  go_wp2
                  go_roundw
                  case rel => exact ⟨k + 1, M, g, c, by omega, by go_num, rfl, HS2.out, HOd.out _, HBd.out _⟩
                  case measure => simp [intOf]; omega
                · have HF2 := hide (HFail.out (by simpa using hne))
                  clear hne HStep HFail
                  rcases hv with k1 | ⟨k1, k2'⟩ | ⟨k1, k2', k3⟩
                  all_goals
                    have HEd := hide (fun d => (show ((w4.drewN d).alloc (.cells #[] 107)).ownsRow (w.heap.size + 2) 107 4 (.slice (some ⟨w4.heap.size, 0, none⟩) 0 0) 0 [] from World.ownsRow_lit (base := w.heap.size + 2) (w4.drewN d) #[] 0 hzv (Nat.zero_le _) rfl))
                    have HWd := hide (fun d => (show Below w.heap.size w ((w4.drewN d).alloc (.cells #[] 107)) from (hB2.trans ((HBd.out d).mono (by omega))).alloc (by show w.heap.size ≤ w4.heap.size; omega) _))
                    go_quiet (fail)
                    go_wp2_with (at_builtin; refine wpList_copyB rfl (.tmp 80) (.tmp 81) rfl (w.heap.size + 2) w4.heap.size (by simp [Act.eval]) (HEd.out _) a3 c3 nM M0 HNM.out.symm (by simp [Act.eval]) (hr3.below (HWd.out _)) (by omega) (HSz.out _ _) ?_)
                    intro g5 k5 w5 ho5 gr5
                    have HG : Hid (GivesR (.returned (.tuple #[.slice (some ⟨g5, 0, none⟩) nM k5, .bool false])) w5 w (matchR kd kd L F M0)) := by
                      unfold Hid
                      rw [HNo2.out (k + 1) (by rw [← HN.out]; omega) HF2.out]
                      exact ⟨g5, k5, by rw [HNM.out], Nat.le_trans (by omega) (ho5.lt g5 rfl).1, OwnK.of B4.len (by decide) ho5, (HWd.out _).grown gr5 (HWd.out _).size (fun k hk => by cases hk; omega)⟩
                    clear ho5 gr5
                    go_wp2
                    go_returns
                    exact HG.out
              · rw [show ∀ V, stepM M ⟨K, S, V⟩ u = (M, true) from fun V => stepM_no h1 h2] at HStep HFail
                have HS2 := hide (HStep.out rfl)
                have kk1 : (K == 1) = false := by simpa using h1
                clear HStep HFail h1 h2
                go_quiet (fail)
                go_wp2
                go_roundw
                case rel => exact ⟨k + 1, M, g, c, by omega, by go_num, rfl, HS2.out, HOd.out _, HBd.out _⟩
                case measure => simp [intOf]; omega
          | none =>
            have hBv := hB3.alloc hz4 (.cells #[.int .i64 0, .int .i64 0, .string ⟨#[]⟩] 105)
            have hy := boxk_new w3 #[.int .i64 0, .int .i64 0, .string ⟨#[]⟩] 105
            have hx := box_old HX.out (by omega) (.cells #[.int .i64 0, .int .i64 0, .string ⟨#[]⟩] 105)
            have hq := box_old (box_below HQ.out hB3 (by omega)) (by omega) (.cells #[.int .i64 0, .int .i64 0, .string ⟨#[]⟩] 105)
            have ho := HO3.out.alloc (.cells #[.int .i64 0, .int .i64 0, .string ⟨#[]⟩] 105)
            have e0 := keptB (below_al w3 (.cells #[.int .i64 0, .int .i64 0, .string ⟨#[]⟩] 105)) d0
            have e1 := keptB (below_al w3 (.cells #[.int .i64 0, .int .i64 0, .string ⟨#[]⟩] 105)) d1
            have e2 := keptB (below_al w3 (.cells #[.int .i64 0, .int .i64 0, .string ⟨#[]⟩] 105)) d2
            have hzv : w.heap.size + 2 ≤ (w3.alloc (.cells #[.int .i64 0, .int .i64 0, .string ⟨#[]⟩] 105)).heap.size := by simp; omega
            simp only [bindA]
            go_wp2_with fail
            generalize w3.alloc (.cells #[.int .i64 0, .int .i64 0, .string ⟨#[]⟩] 105) = w4 at hBv hy hx hq ho e0 e1 e2 hzv
            have x0 := boxk_cell hx 0 _ rfl
            have x1 := boxk_cell hx 1 _ rfl
            have x2 := boxk_cell hx 2 _ rfl
            have x3 := boxk_cell hx 3 _ rfl
            have x4 := boxk_cell hx 4 _ rfl
            have q1 := boxk_cell hq 1 _ rfl
            obtain ⟨y0, y1, y2, -, -, -⟩ := box_cell hy
            have HO := hide ho
            clear hx hq hy ho d0 d1 d2
            have HSz := hide (fun d e => (show w.heap.size + 2 ≤ ((w4.drewN d).alloc e).heap.size from by rw [World.size_alloc]; exact Nat.le_succ_of_le hzv))
            have HOd := hide (fun d => (show (w4.drewN d).ownsRow (w.heap.size + 2) 107 4 (.slice (some ⟨g, 0, none⟩) M.length c) M.length (rowOf B4.cs M) from HO.out))
            have HBd := hide (fun d => (show Below (w.heap.size + 2) w2 (w4.drewN d) from hBv.trans ⟨rfl, rfl, rfl, Nat.le_refl _, fun _ _ => rfl⟩))
            by_cases h2 : K = 2
            · subst h2
              rw [show ∀ V, stepM M ⟨2, S, V⟩ u = (M, decide (V = u)) from fun V => stepM_K2] at HStep HFail
              rcases v3_cases V u with he | ⟨hne, hv⟩
              · subst he
                have HS2 := hide (HStep.out (by simp))
                have k1 : (V.K == V.K) = true := by simp
                have k2' : (V.N == V.N) = true := by simp
                have k3 : (V.S.toList == V.S.toList) = true := by simp
                clear HStep HFail
                go_quiet (fail)
                go_wp2
                go_roundw
                case rel => exact ⟨k + 1, M, g, c, by omega, by go_num, rfl, HS2.out, HOd.out _, HBd.out _⟩
                case measure => simp [intOf]; omega
              · have HF2 := hide (HFail.out (by simpa using hne))
                clear hne HStep HFail
                rcases hv with k1 | ⟨k1, k2'⟩ | ⟨k1, k2', k3⟩
                all_goals
                  have HEd := hide (fun d => (show ((w4.drewN d).alloc (.cells #[] 107)).ownsRow (w.heap.size + 2) 107 4 (.slice (some ⟨w4.heap.size, 0, none⟩) 0 0) 0 [] from World.ownsRow_lit (base := w.heap.size + 2) (w4.drewN d) #[] 0 hzv (Nat.zero_le _) rfl))
                  have HWd := hide (fun d => (show Below w.heap.size w ((w4.drewN d).alloc (.cells #[] 107)) from (hB2.trans ((HBd.out d).mono (by omega))).alloc (by show w.heap.size ≤ w4.heap.size; omega) _))
                  go_quiet (fail)
                  go_wp2_with (at_builtin; refine wpList_copyB rfl (.tmp 80) (.tmp 81) rfl (w.heap.size + 2) w4.heap.size (by simp [Act.eval]) (HEd.out _) a3 c3 nM M0 HNM.out.symm (by simp [Act.eval]) (hr3.below (HWd.out _)) (by omega) (HSz.out _ _) ?_)
                  intro g5 k5 w5 ho5 gr5
                  have HG : Hid (GivesR (.returned (.tuple #[.slice (some ⟨g5, 0, none⟩) nM k5, .bool false])) w5 w (matchR kd kd L F M0)) := by
                    unfold Hid
                    rw [HNo2.out (k + 1) (by rw [← HN.out]; omega) HF2.out]
                    exact ⟨g5, k5, by rw [HNM.out], Nat.le_trans (by omega) (ho5.lt g5 rfl).1, OwnK.of B4.len (by decide) ho5, (HWd.out _).grown gr5 (HWd.out _).size (fun k hk => by cases hk; omega)⟩
                  clear ho5 gr5
                  go_wp2
                  go_returns
                  exact HG.out
            · have kk2 : (K == 2) = false := by simpa using h2
              by_cases h1 : K = 1
              · subst h1
                rw [show ∀ V, stepM M ⟨1, S, V⟩ u = (M ++ [⟨S, u⟩], true) from fun V => stepM_K1n hb] at HStep HFail
                have HS2 := hide (HStep.out rfl)
                clear HStep HFail hb
                have HAd := hide (fun d e => (show ((w4.drewN d).alloc e).ownsRow (w.heap.size + 2) 107 4 (.slice (some ⟨g, 0, none⟩) M.length c) M.length (rowOf B4.cs M) from (HOd.out d).alloc e))
                have HBa := hide (fun d e => (show Below (w.heap.size + 2) w2 ((w4.drewN d).alloc e) from (HBd.out d).alloc hzv e))
                have HApp : Hid (rowOf B4.cs M ++ B4.cs ⟨S, u⟩ = rowOf B4.cs (M ++ [⟨S, u⟩])) := by unfold Hid; rw [rowOf_append]; simp [rowOf]
                go_quiet (fail)
                go_wp2_with fail
                go_region_law (refine step_append_lies _ rfl (.tmp 90) (.tmp 99) 28 rfl (w.heap.size + 2) 107 i0 (.agg #[.string ⟨#[]⟩, .int .i64 0, .int .i64 0, .string ⟨#[]⟩]) 4 48 Try.underlying28 hi hz0 hz1 hz2' rfl (by omega) (.slice (some ⟨g, 0, none⟩) M.length c) M.length (rowOf B4.cs M) (by simp [Act.eval]) (HAd.out _ _) ⟨w4.heap.size, 0, none⟩ 1 1 (B4.cs ⟨S, u⟩) (by simp [Act.eval]) rfl (src4 (w4.drewN _) ⟨S, u⟩) (one4 _) (by omega) (by unfold maxLen; omega) (by omega) (HSz.out _ _) _ rfl ?_; intro g5 c5 w5 ho5 hg5 hat5 hlt5)
                all_goals
                  rw [HApp.out] at ho5
                  have HO5 := hide ho5
                  have HB5 := hide ((HBa.out _ _).grown hg5 (HSz.out _ _) (fun k hk => ((HOd.out 0).lt k hk).1))
                  clear ho5 hg5 hat5 hlt5
                  go_wp2
                  go_roundw
                  case rel => exact ⟨k + 1, M ++ [⟨S, u⟩], g5, c5, by omega, by go_num, by simp, HS2.out, by rw [show (M ++ [(⟨S, u⟩ : B4)]).length = M.length + 1 by simp]; exact HO5.out, HB5.out⟩
                  case measure => simp [intOf]; omega
              · rw [show ∀ V, stepM M ⟨K, S, V⟩ u = (M, true) from fun V => stepM_no h1 h2] at HStep HFail
                have HS2 := hide (HStep.out rfl)
                have kk1 : (K == 1) = false := by simpa using h1
                clear HStep HFail h1 h2
                go_quiet (fail)
                go_wp2
                go_roundw
                case rel => exact ⟨k + 1, M, g, c, by omega, by go_num, rfl, HS2.out, HOd.out _, HBd.out _⟩
                case measure => simp [intOf]; omega
        · obtain rfl : k = n := by omega
          have HG : Hid (GivesR (.returned (.tuple #[.slice (some ⟨g, 0, none⟩) M.length c, .bool true])) wr w (matchR kd kd L F M0)) := by
            unfold Hid
            rw [HYes2.out M (by rw [← HN.out]; exact HM.out)]
            exact ⟨g, c, rfl, Nat.le_trans (by omega) (hown.lt g rfl).1, OwnK.of B4.len (by decide) hown, hB⟩
          clear hown
          go_wp2
          go_returns
          exact HG.out
    · have hnn : ((n : Int) != (nF : Int)) = true := by simp only [bne_iff_ne, ne_eq]; omega
      rw [← HLn.out (by rw [← HN.out, ← HNF.out]; exact hl)] at HRet
      clear hl
      go_wp2
      go_returns
      exact HRet.out
  · have k1 : (kd.toList == kd'.toList) = false := beq_ne hkd
    rw [← HKd.out hkd] at HRet
    clear hkd
    go_wp2
    go_returns
    exact HRet.out
end Go.Proofs.Ytfgigcdfmkfkjaa
/-
  The model's BindsFor.
-/
namespace Go.Proofs.Ytfgigcdfmkfkjaa
open Go.RowKit
set_option linter.unusedVariables false
set_option maxRecDepth 100000

theorem ownB_base {w : World} {g c b : Nat} {M : List B4} (h : OwnBind w g c M) (hb : b ≤ g) : w.ownsRow b 107 4 (.slice (some ⟨g, 0, none⟩) M.length c) M.length (rowOf B4.cs M) := by
  refine ⟨h.1, ?_⟩
  rcases h.2 with ⟨h, _⟩ | ⟨g', cap', cur, h1, -, rest⟩
  · cases h
  · have hgg : g = g' := by simp only [Value.slice.injEq, Option.some.injEq, Addr.mk.injEq] at h1; exact h1.1.1
    exact .inr ⟨g', cap', cur, h1, by omega, rest⟩
theorem ownsRow_base0 {w : World} {base base' n size : Nat} {e : TypeId} {v : Value} {xs : List Value} (h : w.ownsRow base e size v n xs) (hb : base' ≤ base) : w.ownsRow base' e size v n xs := by
  refine ⟨h.1, ?_⟩
  rcases h.2 with h2 | ⟨g, cap, cur, h1, hb', rest⟩
  · exact .inl h2
  · exact .inr ⟨g, cap, cur, h1, by omega, rest⟩
theorem litB (w : World) (T : TypeId) : (w.alloc (.cells #[] 107)).ownsRow w.heap.size 107 4 (.slice (some ⟨w.heap.size, 0, none⟩) 0 0) 0 (rowOf B4.cs []) := World.ownsRow_lit _ #[] 0 (by simp) (Nat.zero_le _) rfl

set_option maxHeartbeats 6400000 in
theorem specBindsFor_any (x : RE) (a : Option Addr) (n cap : Nat) (nx : Int) (J : List It) (aZ : Option Addr) (nZ cZ : Nat) (zs : List Int) (w : World) (hr : RdRule w x) (hn : x.nP ≤ 1048576) (hsum : leftL x.P ≤ 1048576)
    (hrI : RdI w a J) (hJ : J.length = n) (hnJ : n ≤ 1048580) (hl : ∀ i, i < J.length → (iAt J i).L.length ≤ 1048576)
    (hz : RdN w aZ zs) (hzl : zs.length = nZ) (hnZ : nZ ≤ 1048580) :
    Calls Try.prog 18 #[.agg #[.string x.nm, .int .i64 x.sal, .slice x.aP x.nP x.cP, .slice x.aC x.nC x.cC, .slice x.aA x.nA x.cA], .agg #[.slice a n cap, .int .i64 nx], .slice aZ nZ cZ] w fun e w' => GivesBF e w' w (ansB (goB (J.map It.pl) (posB x.P) zs [])) := by
  have HJ := hide hJ
  have HZL := hide hzl
  have HL := hide hl
  have HL4 : Hid (∀ i, i < J.length → (iAt J i).L.length ≤ 1048580) := fun i hi => by have := hl i hi; omega
  have HNP := hide hr.np
  have HRP := hide hr.p
  have HLn : ∀ i, leftL (posB (x.P.drop i)) ≤ leftL (x.P.drop i) := fun i => leftL_posB _
  have HS0 : Hid (([] : List B4).length + leftL (posB (x.P.drop 0)) ≤ 1048576) := by have := HLn 0; rw [List.drop_zero] at this; unfold Hid; rw [List.drop_zero]; simp; omega
  obtain ⟨hA, hB0, b1⟩ := boxes2 w #[.string x.nm, .int .i64 x.sal, .slice x.aP x.nP x.cP, .slice x.aC x.nC x.cC, .slice x.aA x.nA x.cA] #[.slice a n cap, .int .i64 nx] 49 53
  have HA := hide hA
  have HB := hide hB0
  have HzD := hide hz
  clear hJ hzl hl hsum hr HLn hA hB0 hz
  go_enter Try.func18, Try.ntmps18
  go_wp2_with fail
  have HO0 := hide (litB ((w.alloc (.cells #[.string x.nm, .int .i64 x.sal, .slice x.aP x.nP x.cP, .slice x.aC x.nC x.cC, .slice x.aA x.nA x.cA] 49)).alloc (.cells #[.slice a n cap, .int .i64 nx] 53)) 0)
  have b2 := b1.alloc b1.size (.cells #[] 107)
  have HA2 := hide (box_old HA.out (by simp; omega) (.cells #[] 107))
  have HB2 := hide (box_old HB.out (by simp) (.cells #[] 107))
  have hgz : w.heap.size ≤ w.heap.size + 1 + 1 := by omega
  simp only [World.size_alloc] at HO0
  generalize w.heap.size + 1 + 1 = g0 at HO0 hgz ⊢
  have HOw := hide (OwnK.of (L := ([] : List B4)) B4.len (by decide) HO0.out)
  generalize ((w.alloc (.cells #[.string x.nm, .int .i64 x.sal, .slice x.aP x.nP x.cP, .slice x.aC x.nC x.cC, .slice x.aA x.nA x.cA] 49)).alloc (.cells #[.slice a n cap, .int .i64 nx] 53)).alloc (.cells #[] 107) = w2 at b2 HA2 HB2 HOw HO0 ⊢
  clear HO0 HA HB b1
  go_loopw [8, 9, 10] (fun v kk ii wr => ∃ (i k : Nat) (M : List B4) (g c : Nat), i ≤ x.nP ∧ k ≤ i ∧ k ≤ nZ ∧ ii = .int .i64 i ∧ kk = .int .i64 k ∧ v = .slice (some ⟨g, 0, none⟩) M.length c ∧ w.heap.size ≤ g ∧ OwnBind wr g c M ∧ goB (J.map It.pl) (posB x.P) zs [] = goB (J.map It.pl) (posB (x.P.drop i)) (zs.drop k) M ∧ M.length + leftL (posB (x.P.drop i)) ≤ 1048576 ∧ Below w2.heap.size w2 wr) (fun _ _ ii _ => x.nP - (intOf ii).toNat)
  case atStart => exact ⟨0, 0, [], g0, 0, Nat.zero_le _, Nat.le_refl _, Nat.zero_le _, rfl, rfl, rfl, hgz, HOw.out, by simp, HS0.out, Below.refl _ _⟩
  case round =>
    obtain ⟨i, k, M, g, c, hi, hki, hkn, rfl, rfl, rfl, hg, oM, hgo, hln, hbel⟩ := hrel
    have HGo := hide hgo
    have HOM := hide oM
    have hBw : Below w.heap.size w wr := b2.trans (hbel.mono b2.size)
    have HAr := hide (box_step HA2.out hbel)
    have HBr := hide (box_step HB2.out hbel)
    have a2 := boxk_cell HAr.out 2 _ rfl
    clear hgo oM HS0 HOw
    by_cases hlt : i < x.nP
    · have hip : i < x.P.length := by rw [HNP.out]; exact hlt
      obtain ⟨bp, op, eP, hbp, hcP⟩ := (HRP.out.below hBw).cells (by omega)
      obtain ⟨p0, p1, p2, rA⟩ := hcP i hip
      rw [eP] at a2
      have HPD := hide (posB_drop hip)
      have hlti : (i : Int) < (x.nP : Int) := by omega
      have HPe := hide eP
      clear hcP eP
      by_cases hnt : (eAt x.P i).nt = true
      · have HG2 : Hid (goB (J.map It.pl) (posB x.P) zs [] = goB (J.map It.pl) (posB (x.P.drop (i + 1))) (zs.drop k) M) := by unfold Hid; rw [HGo.out, HPD.out, if_pos hnt]
        have HL2 : Hid (M.length + leftL (posB (x.P.drop (i + 1))) ≤ 1048576) := by rw [HPD.out, if_pos hnt] at hln; exact hln
        rw [hnt] at p2
        clear HGo HPD hln hnt
        go_wp2
        go_roundw
        case rel => exact ⟨i + 1, k, M, g, c, by omega, by omega, hkn, by go_num, rfl, rfl, hg, HOM.out, HG2.out, HL2.out, hbel⟩
        case measure => simp [intOf]; omega
      · have hnf : (eAt x.P i).nt = false := by simpa using hnt
        have HPD2 : Hid (posB (x.P.drop i) = eAt x.P i :: posB (x.P.drop (i + 1))) := by unfold Hid; rw [HPD.out, if_neg hnt]
        rw [hnf] at p2
        have hl3 : M.length + (eAt x.P i).L.length + leftL (posB (x.P.drop (i + 1))) ≤ 1048576 := by
          rw [HPD2.out] at hln
          simp only [leftL, List.map_cons, List.sum_cons] at hln ⊢
          omega
        clear hnt HPD hln
        by_cases hkz : k < nZ
        · have hkz2 : k < zs.length := by rw [HZL.out]; exact hkz
          have hkni : (k : Int) < (nZ : Int) := by omega
          have hnge : ¬ ((k : Int) ≥ (nZ : Int)) := by omega
          obtain ⟨bz, oz, eZ, hbz, hcz⟩ := (HzD.out.below hBw).open (by omega)
          have z0 := hcz k hkz2
          have HNo : Hid (facP (J.map It.pl) (zAt zs k) = none → goB (J.map It.pl) (posB x.P) zs [] = none) := fun h => by
            rw [HGo.out, HPD2.out, List.drop_eq_getElem_cons hkz2, goB, ← zAt_in hkz2, h]
          have HNm : Hid (∀ f, facP (J.map It.pl) (zAt zs k) = some f → (matchR (eAt x.P i).kd f.1 (eAt x.P i).L f.2 M).2 = false → goB (J.map It.pl) (posB x.P) zs [] = none) := fun f h1 h2 => by
            rw [HGo.out, HPD2.out, List.drop_eq_getElem_cons hkz2, goB, ← zAt_in hkz2, h1]; simp only; rw [if_neg (by rw [h2]; simp)]
          have HYe : Hid (∀ f, facP (J.map It.pl) (zAt zs k) = some f → (matchR (eAt x.P i).kd f.1 (eAt x.P i).L f.2 M).2 = true → goB (J.map It.pl) (posB x.P) zs [] = goB (J.map It.pl) (posB (x.P.drop (i + 1))) (zs.drop (k + 1)) (matchR (eAt x.P i).kd f.1 (eAt x.P i).L f.2 M).1) := fun f h1 h2 => by
            rw [HGo.out, HPD2.out, List.drop_eq_getElem_cons hkz2, goB, ← zAt_in hkz2, h1]; simp only; rw [if_pos h2]
          clear hcz HGo HPD2 hkz2
          subst eZ
          obtain ⟨o, ho⟩ : ∃ o, Hid (ansP (facP (J.map It.pl) (zAt zs k)) = o) := ⟨_, rfl⟩
          generalize zAt zs k = z at z0 HNo HNm HYe ho
          have HIz3 : Hid (∀ W, Below wr.heap.size wr W → RdI W a J) := fun W h => (hrI.below hBw).below h
          have s0 := boxk_cell HBr.out 0 _ rfl
          have s1 := boxk_cell HBr.out 1 _ rfl
          have HRA := hide rA
          have HPc : Hid (wr.cell? ⟨bp, op + i * 3, none⟩ = some (.string (eAt x.P i).kd) ∧ wr.cell? ⟨bp, op + i * 3 + 1, none⟩ = some (.slice (eAt x.P i).a (eAt x.P i).L.length (eAt x.P i).cap) ∧ wr.cell? ⟨bp, op + i * 3 + 2, none⟩ = some (.bool false)) := ⟨p0, p1, p2⟩
          clear rA
          go_wp2_with fail
          go_cut [11, 12] from 34 to 42 (fun i12 i13 wx => ∃ (X : Nat) (aF : Option Addr) (cF : Nat), i12 = .pointer (some ⟨X, 0, none⟩) ∧ i13 = .bool o.2.2 ∧ wx.heap[X]? = some (.cells #[.string o.1, .slice aF o.2.1.length cF] 89 (0, 0)) ∧ RdV wx aF o.2.1 ∧ Below wr.heap.size wr wx)
          case first =>
            have ba := below_al wr (.cells #[.string ⟨#[]⟩, .slice none 0 0] 89)
            have z3a : (wr.alloc (.cells #[.string ⟨#[]⟩, .slice none 0 0] 89)).cell? ⟨bz, oz + k, none⟩ = some (.int .i64 z) := by rw [ba.cell (World.block_lt_of_cell? wr _ z0)]; exact z0
            have s0a := boxk_cell (box_step HBr.out ba) 0 _ rfl
            have s1a := boxk_cell (box_step HBr.out ba) 1 _ rfl
            have HXz : Hid ((wr.alloc (.cells #[.string ⟨#[]⟩, .slice none 0 0] 89)).drew.heap[wr.heap.size]? = some (.cells #[.string ⟨#[]⟩, .slice none 0 0] 89 (0, 0))) := boxk_new wr _ _
            go_region_law (first
              | (rw [if_pos (by simp [Region.wanted])]; go_simp; go_at_call 53; (with_reducible show Calls _ _ _ (World.drew wr) _); refine (specFactOf_any _ n cap nx z J _ (HIz3.out _ ((Below.refl _ _).drew)) HJ.out hnJ HL4.out).mono ?_; rintro e w4 ⟨⟨aF, cF, rfl, nv⟩, hb4⟩; have hbA : Below wr.heap.size wr w4 := below_dr hb4)
              | (rw [if_pos (by simp [Region.wanted])]; go_simp; go_at_call 53; (with_reducible show Calls _ _ _ (World.drew (World.alloc wr _)) _); refine (specFactOf_any _ n cap nx z J _ (HIz3.out _ (ba.drew)) HJ.out hnJ HL4.out).mono ?_; rintro e w4 ⟨⟨aF, cF, rfl, nv⟩, hb4⟩; have HXz4 := hide (box_step HXz.out hb4); have q0 := boxk_cell HXz4.out 0 _ rfl; have q1 := boxk_cell HXz4.out 1 _ rfl; have qf0 := boxk_frozen HXz4.out 0; have qf1 := boxk_frozen HXz4.out 1))
            all_goals
              rw [ho.out] at nv ⊢
              clear s0 s1 z3a s0a s1a z0 p0 p1 p2 a2
            all_goals first
              | (have bz2 := below_al w4 (.cells #[.string o.1, .slice aF o.2.1.length cF] 89); have HF := hide (nv.rd.below bz2); have HB := hide (hbA.trans (bz2.mono hbA.size)); have HN := hide (boxk_new w4 #[.string o.1, .slice aF o.2.1.length cF] 89); clear nv hb4 bz2; go_wp2; go_meet; exact ⟨w4.heap.size, aF, cF, rfl, rfl, HN.out, HF.out, HB.out⟩)
              | (have hS := box2_set HXz4.out (.string o.1) (.slice aF o.2.1.length cF); have HN := hide hS.1; have HB := hide (below_set (below_step ba.drew hb4) hS.2 (Nat.le_refl _)); have HF := hide (NewV.rd (base := (wr.alloc (.cells #[.string ⟨#[]⟩, .slice none 0 0] 89)).heap.size) ⟨rowK_grown nv.1 hS.2 (by simp), nv.2⟩); clear nv hb4 hS q0 q1 qf0 qf1; go_wp2; go_meet; exact ⟨wr.heap.size, aF, cF, rfl, rfl, HN.out, HF.out, HB.out⟩)
          case rest =>
            obtain ⟨X, aF, cF, rfl, rfl, hX, rF, hbc⟩ := hcut
            obtain ⟨wk, rfl⟩ : ∃ wk : World, wk = wc := ⟨_, rfl⟩
            have HXc := hide hX
            have hBwc : Below w.heap.size w wk := hBw.trans (hbc.mono hBw.size)
            have hB2c : Below w2.heap.size w2 wk := hbel.trans (hbc.mono hbel.size)
            have HOMc := hide (HOM.out.later hbc)
            have HRAc := hide (HRA.out.below hbc)
            have HRF := hide rF
            have a2c := boxk_cell (box_step HAr.out hbc) 2 _ rfl
            rw [HPe.out] at a2c
            have p0c := keptB hbc HPc.out.1
            have p1c := keptB hbc HPc.out.2.1
            have p2c := keptB hbc HPc.out.2.2
            have hx0 := boxk_cell HXc.out 0 _ rfl
            have hx1 := boxk_cell HXc.out 1 _ rfl
            clear hX hbc s0 s1 z0 HOM HRA rF hBw hbel p0 p1 p2 HIz3 HAr HBr a2 HPc HPe
            have hof : o.2.1.length ≤ 1048576 := by
              rw [← ho.out]
              cases hf : facP (J.map It.pl) z with
              | none => simp [ansP]
              | some f =>
                obtain ⟨y, hy, -, e2⟩ := facP_in hf
                obtain ⟨t, ht, rfl⟩ := List.mem_map.1 hy
                obtain ⟨i, hi, rfl⟩ := List.getElem_of_mem ht
                simp only [It.pl] at e2
                simp only [ansP]
                rw [← e2, ← iAt_in hi]
                exact HL.out i hi
            have HLe := hide (matchR_le (eAt x.P i).kd o.1 (eAt x.P i).L o.2.1 M)
            obtain ⟨q, hq⟩ : ∃ q, Hid (matchR (eAt x.P i).kd o.1 (eAt x.P i).L o.2.1 M = q) := ⟨_, rfl⟩
            rw [hq.out] at HLe
            have HRAd : Hid (RdArg wk.drew (eAt x.P i).a (eAt x.P i).L) := HRAc.out.heap rfl
            have HRFd : Hid (RdV wk.drew aF o.2.1) := HRF.out.heap rfl
            have HRMd : Hid (RdBind wk.drew (some ⟨g, 0, none⟩) M) := (rdOwnBind HOMc.out).heap rfl
            go_wp2_with fail
            go_cut [13, 14] from 43 to 53 (fun i13 i14 wx => ∃ (g5 c5 : Nat), i13 = .slice (some ⟨g5, 0, none⟩) q.1.length c5 ∧ i14 = .bool q.2 ∧ w.heap.size ≤ g5 ∧ OwnBind wx g5 c5 q.1 ∧ Below wk.heap.size wk wx)
            case first =>
              go_region_law (first
                | (rw [if_pos (by simp [Region.wanted])]; go_simp; go_at_call 54; refine (specMatchPat_any (eAt x.P i).kd (eAt x.P i).a (eAt x.P i).cap (eAt x.P i).L false o.1 aF cF o.2.1 (some ⟨g, 0, none⟩) c M _ HRAd.out HRFd.out HRMd.out (by omega) hof).mono ?_; rintro e w5 ⟨g5, c5, rfl, hg5, o5, hb5⟩))
              all_goals
                rw [hq.out] at o5 ⊢
                have HB5 := hide (below_dr hb5)
                have HO5 := hide o5
                have hg6 : w.heap.size ≤ g5 := Nat.le_trans hBwc.size hg5
                clear hb5 o5 a2c p0c p1c p2c hx0 hx1
                go_wp2
                go_meet
                exact ⟨g5, c5, rfl, rfl, hg6, HO5.out, HB5.out⟩
            case rest =>
              obtain ⟨g5, c5, rfl, rfl, hg5, o5, hb5⟩ := hcut
              have hB5 : Below w.heap.size w wc := hBwc.trans (hb5.mono hBwc.size)
              have hB25 : Below w2.heap.size w2 wc := hB2c.trans (hb5.mono hB2c.size)
              have HO5 := hide o5
              have HLit := hide (ownsRow_base0 (litB wc 0) hB5.size)
              have HBl := hide (hB5.alloc hB5.size (.cells #[] 107))
              clear hb5 o5 a2c p0c p1c p2c hx0 hx1 HRAd HRFd HRMd HXc HOMc HRAc HRF hBwc hB2c
              cases hf : facP (J.map It.pl) z with
              | none =>
                have HN := hide (HNo.out hf)
                have eo : o.2.2 = false := by rw [← ho.out, hf]; rfl
                rw [eo]
                clear hf eo HNo HNm HYe ho hq HLe
                go_wp2
                go_returns
                exact ⟨_, by rw [HN.out]; rfl, by rw [HN.out]; exact HLit.out, HBl.out⟩
              | some f =>
                have eo : o = (f.1, f.2, true) := by rw [← ho.out, hf]; rfl
                have HNm1 := hide (HNm.out _ hf)
                have HYe1 := hide (HYe.out _ hf)
                obtain ⟨kF, FL⟩ := f
                subst eo
                have hq2 := hq.out
                simp only at hq2 HNm1 HYe1
                rw [hq2] at HNm1 HYe1
                clear hf HNo HNm HYe ho hq hq2
                obtain ⟨M5, bb⟩ := q
                simp only at HNm1 HYe1 HLe HO5 ⊢
                have HLe5 : Hid (M5.length + leftL (posB (x.P.drop (i + 1))) ≤ 1048576) := by have := HLe.out; unfold Hid; omega
                cases bb
                · have HN := hide (HNm1.out rfl)
                  clear HNm1 HYe1
                  go_wp2
                  go_returns
                  exact ⟨_, by rw [HN.out]; rfl, by rw [HN.out]; exact HLit.out, HBl.out⟩
                · have HG := hide (HYe1.out rfl)
                  clear HNm1 HYe1
                  go_wp2
                  go_roundw
                  case rel => exact ⟨i + 1, k + 1, M5, g5, c5, by omega, by omega, by omega, by go_num, by go_num, rfl, hg5, HO5.out, HG.out, HLe5.out, hB25⟩
                  case measure => simp [intOf]; omega
        · have HN : Hid (goB (J.map It.pl) (posB x.P) zs [] = none) := by
            unfold Hid
            rw [HGo.out, HPD2.out, show zs.drop k = [] from List.drop_eq_nil_of_le (by rw [HZL.out]; omega), goB]
          have hge : (k : Int) ≥ (nZ : Int) := by omega
          have HLit := hide (ownsRow_base0 (litB wr 0) hBw.size)
          have HBl := hide (hBw.alloc hBw.size (.cells #[] 107))
          clear HGo HPD2 hkz
          go_wp2
          go_returns
          exact ⟨_, by rw [HN.out]; rfl, by rw [HN.out]; exact HLit.out, HBl.out⟩
    · have hii : i = x.nP := by omega
      have hlti : ¬ ((i : Int) < (x.nP : Int)) := by omega
      have HG2 : Hid (goB (J.map It.pl) (posB x.P) zs [] = goB (J.map It.pl) [] (zs.drop k) M) := by
        unfold Hid
        rw [HGo.out, List.drop_eq_nil_of_le (by rw [HNP.out]; omega)]; rfl
      clear hii
      by_cases hkz : k = nZ
      · have k1 : ((k : Int) != (nZ : Int)) = false := by simp [hkz]
        have HN : Hid (goB (J.map It.pl) (posB x.P) zs [] = some M) := by
          unfold Hid; rw [HG2.out, show zs.drop k = [] from List.drop_eq_nil_of_le (by rw [HZL.out]; omega), goB]
        have HOB := hide (ownB_base HOM.out hg)
        clear HGo HG2 hkz
        go_wp2
        go_returns
        exact ⟨_, by rw [HN.out]; rfl, by rw [HN.out]; exact HOB.out, hBw⟩
      · have k1 : ((k : Int) != (nZ : Int)) = true := by simp; omega
        have HN : Hid (goB (J.map It.pl) (posB x.P) zs [] = none) := by
          unfold Hid; rw [HG2.out]
          by_cases h2 : k < zs.length
          · rw [List.drop_eq_getElem_cons h2, goB]
          · exfalso; rw [HZL.out] at h2; omega
        have HLit := hide (ownsRow_base0 (litB wr 0) hBw.size)
        have HBl := hide (hBw.alloc hBw.size (.cells #[] 107))
        clear HGo HG2 hkz
        go_wp2
        go_returns
        exact ⟨_, by rw [HN.out]; rfl, by rw [HN.out]; exact HLit.out, HBl.out⟩
end Go.Proofs.Ytfgigcdfmkfkjaa
