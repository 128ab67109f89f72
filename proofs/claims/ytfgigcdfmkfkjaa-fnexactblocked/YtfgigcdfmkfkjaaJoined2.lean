/-
  Texts of this claim joined into one: MatchI2, ItemRow, TakesI, RowsF, Deep, PatsRow, ExprRow, ActRow, ActsRow, CondRow, RuleRow, Box11.
-/
import Derived.Test.YtfgigcdfmkfkjaaJoined1
import Derived.Deep.RegionLaw
import Derived.Deep.CutRange
import Derived.Deep.RegionHeld3
import Derived.Lib.SmallJoins
/-
  What the tested MatchPat answers: matchR, in a row of the call's own.
-/
namespace Go.Proofs.Ytfgigcdfmkfkjaa
open Go.RowKit
set_option linter.unusedVariables false

theorem matchVal_m (S : ByteArray) (V u : V3) (a : Option Addr) (cap base : Nat) (M : List B4) (w : World) (hbase : base ≤ w.heap.size) (h : BL base w a cap M) :
    Calls Try.prog 132 #[.agg #[.int .i64 2, .string S, .int .i64 V.K, .int .i64 V.N, .string V.S], .agg #[.int .i64 u.K, .int .i64 u.N, .string u.S], .slice a M.length cap] w fun e w' =>
      GivesM e w' base w (stepM M ⟨2, S, V⟩ u) :=
  (matchVal_any 2 S V u _ w).mono fun e w' hh => by
    rw [stepM_K2]
    exact ⟨a, cap, hh.1, h.below hh.2, hh.2.mono hbase⟩
theorem matchAny_m (K : Int) (S : ByteArray) (V u : V3) (a : Option Addr) (cap base : Nat) (M : List B4) (w : World) (h1 : K ≠ 1) (h2 : K ≠ 2) (hbase : base ≤ w.heap.size) (h : BL base w a cap M) :
    Calls Try.prog 133 #[.agg #[.int .i64 K, .string S, .int .i64 V.K, .int .i64 V.N, .string V.S], .agg #[.int .i64 u.K, .int .i64 u.N, .string u.S], .slice a M.length cap] w fun e w' =>
      GivesM e w' base w (stepM M ⟨K, S, V⟩ u) :=
  (matchAny_any K S V u _ w).mono fun e w' hh => by
    rw [stepM_no h1 h2]
    exact ⟨a, cap, hh.1, h.below hh.2, hh.2.mono hbase⟩

/-- the method value that holds this argument against a value -/
def fnOf (K : Int) (S : ByteArray) (V : V3) : Value :=
  .func (.func (if K = 1 then 131 else if K = 2 then 132 else 133)) #[.agg #[.int .i64 K, .string S, .int .i64 V.K, .int .i64 V.N, .string V.S]] #[]
set_option maxRecDepth 100000 in
set_option maxHeartbeats 1600000 in
theorem matchingOf_any (K : Int) (S : ByteArray) (V : V3) (w : World) :
    Calls Try.prog 100 #[.agg #[.int .i64 K, .string S, .int .i64 V.K, .int .i64 V.N, .string V.S]] w fun e w' => e = .returned (fnOf K S V) ∧ Below w.heap.size w w' := by
  have b0 := below_al w (.cells #[.int .i64 K, .string S, .int .i64 V.K, .int .i64 V.N, .string V.S] 157)
  by_cases h1 : K = 1
  · subst h1
    go_enter Try.func100, Try.ntmps100
    go_wp2
    go_ret
    exact ⟨rfl, b0⟩
  · have k1 : (K == 1) = false := by simpa using h1
    by_cases h2 : K = 2
    · subst h2
      go_enter Try.func100, Try.ntmps100
      go_wp2
      go_ret
      exact ⟨rfl, b0⟩
    · have k2 : (K == 2) = false := by simpa using h2
      have HF : Hid (fnOf K S V = .func (.func 133) #[.agg #[.int .i64 K, .string S, .int .i64 V.K, .int .i64 V.N, .string V.S]] #[]) := by unfold Hid fnOf; rw [if_neg h1, if_neg h2]
      clear h1 h2
      go_enter Try.func100, Try.ntmps100
      go_wp2
      go_ret
      exact ⟨by rw [HF.out]; rfl, b0⟩

theorem capBL {base : Nat} {W : World} {a : Option Addr} {cap : Nat} {M : List B4} (h : BL base W a cap M) : M.length ≤ cap := by
  rcases h.2 with ⟨h1, -⟩ | h1
  · omega
  · obtain ⟨a', c', e, -, -, hl, -⟩ := rdK_owns B4.len (by decide) h1
    simp only [Value.slice.injEq] at e
    omega
/-- what bindFields answers -/
def GivesF (e : Ending) (w' : World) (w : World) (r : List B4 × Bool) : Prop := ∃ a' cap', e = .returned (.tuple #[.slice a' r.1.length cap', .bool r.2]) ∧ RdBind w' a' r.1 ∧ r.1.length ≤ cap' ∧ Below w.heap.size w w'

set_option maxRecDepth 100000 in
set_option maxHeartbeats 6400000 in
theorem bindFields_any (kd : ByteArray) (a1 : Option Addr) (c1 : Nat) (L : List A5) (nt : Bool) (kd' : ByteArray) (a2 : Option Addr) (c2 : Nat) (F : List V3) (a3 : Option Addr) (c3 : Nat) (M0 : List B4) (w : World)
    (hr1 : RdArg w a1 L) (hr2 : RdV w a2 F) (hr3 : RdBind w a3 M0) (hcap : M0.length ≤ c3) (hs1 : ∀ x ∈ L, x.small) (hs2 : ∀ u ∈ F, u.S.size ≤ 1048576) (hs3 : ∀ x ∈ M0, x.small) (hn1 : L.length + M0.length ≤ 1048576) (hn2 : F.length ≤ 1048576) :
    Calls Try.prog 62 #[.agg #[.string kd, .slice a1 L.length c1, .bool nt], .agg #[.string kd', .slice a2 F.length c2], .slice a3 M0.length c3] w fun e w' => GivesF e w' w (matchR kd kd' L F M0) := by
  have HCap := hide hcap
  have b0 := below_al w (.cells #[.string kd, .slice a1 L.length c1, .bool nt] 79)
  have b1 := b0.alloc b0.size (.cells #[.string kd', .slice a2 F.length c2] 89)
  have hP := box_old (boxk_new w #[.string kd, .slice a1 L.length c1, .bool nt] 79) (by simp) (.cells #[.string kd', .slice a2 F.length c2] 89)
  have hQ := boxk_new (w.alloc (.cells #[.string kd, .slice a1 L.length c1, .bool nt] 79)) #[.string kd', .slice a2 F.length c2] 89
  simp only [World.size_alloc] at hQ
  have hz : w.heap.size + 2 ≤ ((w.alloc (.cells #[.string kd, .slice a1 L.length c1, .bool nt] 79)).alloc (.cells #[.string kd', .slice a2 F.length c2] 89)).heap.size := by simp
  by_cases hkd : kd = kd'
  · subst hkd
    have k1 : (kd.toList == kd.toList) = true := by simp
    by_cases hl : L.length = F.length
    · have hnn : ((L.length : Int) != (F.length : Int)) = false := by rw [hl]; simp
      have HClip := hide (fun W (h : RdBind W a3 M0) => clip_any a3 c3 M0 W h hcap (by omega))
      obtain ⟨n, hN⟩ : ∃ n, n = L.length := ⟨_, rfl⟩
      have HFl : Hid (F.length = n) := by unfold Hid; rw [hN, hl]
      have HS := hide (fun k M (hk : k ≤ L.length) (h : matchK L F M0 k = some M) => matchK_small hs3 hs1 hs2 hl hk h)
      have HLen := hide (fun k M (h : matchK L F M0 k = some M) => matchK_len h)
      have HNo := hide (fun k (hk : k ≤ L.length) (h : matchK L F M0 k = none) => (matchR_fail (kd := kd) hl hk h))
      have HYes := hide (fun M (h : matchK L F M0 L.length = some M) => (matchR_yes (kd := kd) hl h))
      rw [HFl.out] at b1 hP hQ hz hn2 hnn ⊢
      rw [← hN] at b0 b1 hP hQ hz hn1 hnn ⊢
      have HN := hide hN
      clear hN hl hs1 hs2 hs3
      go_enter Try.func62, Try.ntmps62
      go_wp2_with fail
      refine (HClip.out _ (hr3.below b1)).mono ?_
      generalize (w.alloc (.cells #[.string kd, .slice a1 n c1, .bool nt] 79)).alloc (.cells #[.string kd, .slice a2 n c2] 89) = w1 at b1 hP hQ hz
      rintro e w2 ⟨⟨a', rfl, rd2⟩, rfl⟩
      have HP := hide hP
      have HQ := hide hQ
      have p1 := boxk_cell hP 1 _ rfl
      clear hP hQ HClip b0
      go_wp2
      go_loopw [8, 33] (fun v i wr => ∃ (k : Nat) (M : List B4) (a : Option Addr) (cap : Nat), k ≤ n ∧ i = .int .i64 k ∧ v = .slice a M.length cap ∧ matchK L F M0 k = some M ∧ BL (w.heap.size + 2) wr a cap M ∧ Below (w.heap.size + 2) w2 wr) (fun _ i _ => n - (intOf i).toNat)
      case atStart => exact ⟨0, M0, a', _, Nat.zero_le _, rfl, rfl, rfl, ⟨rd2, .inl ⟨rfl, fun e => by
          by_cases h0 : M0.length = 0
          · exact h0
          · obtain ⟨b, off, e2, -⟩ := rd2 0 (by omega)
            rw [e2] at e; cases e⟩⟩, Below.refl _ _⟩
      case round =>
        clear rd2 p1
        obtain ⟨k, M, a, cap, hk, rfl, rfl, hM, hbl, hbel⟩ := hrel
        have hB : Below w.heap.size w wr := b1.trans (hbel.mono (by omega))
        have hzr : w.heap.size + 2 ≤ wr.heap.size := Nat.le_trans hz hbel.size
        have hMl := HLen.out k M hM
        have HSm := hide (HS.out k M (by rw [← HN.out]; exact hk) hM)
        have HM := hide hM
        clear hM
        by_cases hlt : k < n
        · obtain ⟨b, off, hab, hbw, hc⟩ := RdArg.cells (hr1.below hB) (by rw [← HN.out]; omega)
          obtain ⟨c0', c1', c2', c3', c4'⟩ := hc k (by rw [← HN.out]; exact hlt)
          clear hc
          obtain ⟨b', off', hab', hbw', hd⟩ := (hr2.below hB).open (by rw [HFl.out]; omega)
          obtain ⟨d0, d1, d2⟩ := hd k (by rw [HFl.out]; exact hlt)
          clear hd
          have HStep := hide (fun hb => matchK_step (L := L) (F := F) HM.out hb)
          have HFail := hide (fun hb => matchK_fail (L := L) (F := F) HM.out hb)
          generalize eAt L k = x at c0' c1' c2' c3' c4' HStep HFail
          generalize vAt F k = u at d0 d1 d2 HStep HFail
          obtain ⟨K, S, V⟩ := x
          simp only at c0' c1' c2' c3' c4'
          subst hab hab'
          have bA := hbel.alloc hzr (.cells #[.int .i64 K, .string S, .int .i64 V.K, .int .i64 V.N, .string V.S] 157)
          go_wp2_with fail
          refine (matchingOf_any K S V _).mono ?_
          rintro e w3 ⟨rfl, hb3⟩
          have b3 := (below_al wr (.cells #[.int .i64 K, .string S, .int .i64 V.K, .int .i64 V.N, .string V.S] 157)).trans (hb3.mono (by simp))
          have hB3 : Below (w.heap.size + 2) w2 w3 := hbel.trans (b3.mono hzr)
          have hz3 : w.heap.size + 2 ≤ w3.heap.size := Nat.le_trans hzr b3.size
          have hbl3 := hbl.below b3
          have q1 := boxk_cell (box_below HQ.out hB3 (by omega)) 1 _ rfl
          rw [← b3.cell (p := ⟨b', off' + k * 3, none⟩) hbw'] at d0
          rw [← b3.cell (p := ⟨b', off' + k * 3 + 1, none⟩) hbw'] at d1
          rw [← b3.cell (p := ⟨b', off' + k * 3 + 2, none⟩) hbw'] at d2
          clear hb3 b3 bA c0' c1' c2' c3' c4' hbl hbel hB
          by_cases h1 : K = 1
          · subst h1
            rw [show fnOf 1 S V = .func (.func 131) #[.agg #[.int .i64 1, .string S, .int .i64 V.K, .int .i64 V.N, .string V.S]] #[] from rfl]
            go_wp2_with fail
            refine (matchVar_any S V u a cap (w.heap.size + 2) M _ hz3 hbl3 HSm.out (by omega)).mono ?_
            rintro e w4 ⟨a4, cap4, rfl, hbl4, hB4'⟩
            have hB4 : Below (w.heap.size + 2) w2 w4 := hB3.trans hB4'
            have hBw : Below w.heap.size w w4 := b1.trans (hB4.mono (by omega))
            clear hbl3 hB3 hB4' d0 d1 d2 q1
            generalize stepM M ⟨1, S, V⟩ u = r at hbl4 HStep HFail ⊢
            obtain ⟨M', bb⟩ := r
            cases bb
            · have HG : Hid (GivesF (.returned (.tuple #[.slice a3 M0.length c3, .bool false])) w4 w (matchR kd kd L F M0)) := by
                unfold Hid
                rw [HNo.out (k + 1) (by rw [← HN.out]; omega) (HFail.out rfl)]
                exact ⟨a3, c3, rfl, hr3.below hBw, HCap.out, hBw⟩
              clear hbl4 HStep HFail
              go_wp2
              go_returns
              exact HG.out
            · have HG := hide (HStep.out rfl)
              have HBl := hide hbl4
              clear hbl4 HStep HFail
              go_wp2
              go_roundw
              case rel => exact ⟨k + 1, M', a4, cap4, by omega, by go_num, rfl, HG.out, HBl.out, hB4⟩
              case measure => simp [intOf]; omega
          · by_cases h2 : K = 2
            · subst h2
              rw [show fnOf 2 S V = .func (.func 132) #[.agg #[.int .i64 2, .string S, .int .i64 V.K, .int .i64 V.N, .string V.S]] #[] from rfl]
              go_wp2_with fail
              refine (matchVal_m S V u a cap (w.heap.size + 2) M _ hz3 hbl3).mono ?_
              rintro e w4 ⟨a4, cap4, rfl, hbl4, hB4'⟩
              have hB4 : Below (w.heap.size + 2) w2 w4 := hB3.trans hB4'
              have hBw : Below w.heap.size w w4 := b1.trans (hB4.mono (by omega))
              clear hbl3 hB3 hB4' d0 d1 d2 q1
              generalize stepM M ⟨2, S, V⟩ u = r at hbl4 HStep HFail ⊢
              obtain ⟨M', bb⟩ := r
              cases bb
              · have HG : Hid (GivesF (.returned (.tuple #[.slice a3 M0.length c3, .bool false])) w4 w (matchR kd kd L F M0)) := by
                  unfold Hid
                  rw [HNo.out (k + 1) (by rw [← HN.out]; omega) (HFail.out rfl)]
                  exact ⟨a3, c3, rfl, hr3.below hBw, HCap.out, hBw⟩
                clear hbl4 HStep HFail
                go_wp2
                go_returns
                exact HG.out
              · have HG := hide (HStep.out rfl)
                have HBl := hide hbl4
                clear hbl4 HStep HFail
                go_wp2
                go_roundw
                case rel => exact ⟨k + 1, M', a4, cap4, by omega, by go_num, rfl, HG.out, HBl.out, hB4⟩
                case measure => simp [intOf]; omega
            · rw [show fnOf K S V = .func (.func 133) #[.agg #[.int .i64 K, .string S, .int .i64 V.K, .int .i64 V.N, .string V.S]] #[] from by unfold fnOf; rw [if_neg h1, if_neg h2]]
              go_wp2_with fail
              refine (matchAny_m K S V u a cap (w.heap.size + 2) M _ h1 h2 hz3 hbl3).mono ?_
              rintro e w4 ⟨a4, cap4, rfl, hbl4, hB4'⟩
              have hB4 : Below (w.heap.size + 2) w2 w4 := hB3.trans hB4'
              have hBw : Below w.heap.size w w4 := b1.trans (hB4.mono (by omega))
              clear hbl3 hB3 hB4' d0 d1 d2 q1
              generalize stepM M ⟨K, S, V⟩ u = r at hbl4 HStep HFail ⊢
              obtain ⟨M', bb⟩ := r
              cases bb
              · have HG : Hid (GivesF (.returned (.tuple #[.slice a3 M0.length c3, .bool false])) w4 w (matchR kd kd L F M0)) := by
                  unfold Hid
                  rw [HNo.out (k + 1) (by rw [← HN.out]; omega) (HFail.out rfl)]
                  exact ⟨a3, c3, rfl, hr3.below hBw, HCap.out, hBw⟩
                clear hbl4 HStep HFail
                go_wp2
                go_returns
                exact HG.out
              · have HG := hide (HStep.out rfl)
                have HBl := hide hbl4
                clear hbl4 HStep HFail
                go_wp2
                go_roundw
                case rel => exact ⟨k + 1, M', a4, cap4, by omega, by go_num, rfl, HG.out, HBl.out, hB4⟩
                case measure => simp [intOf]; omega
        · obtain rfl : k = n := by omega
          have HG : Hid (GivesF (.returned (.tuple #[.slice a M.length cap, .bool true])) wr w (matchR kd kd L F M0)) := by
            unfold Hid
            rw [HYes.out M (by rw [← HN.out]; exact HM.out)]
            exact ⟨a, cap, rfl, hbl.1, capBL hbl, hB⟩
          clear hbl
          go_wp2
          go_returns
          exact HG.out
    · have hnn : ((L.length : Int) != (F.length : Int)) = true := by simp only [bne_iff_ne, ne_eq]; omega
      have HG : Hid (GivesF (.returned (.tuple #[.slice a3 M0.length c3, .bool false])) ((w.alloc (.cells #[.string kd, .slice a1 L.length c1, .bool nt] 79)).alloc (.cells #[.string kd, .slice a2 F.length c2] 89)) w (matchR kd kd L F M0)) := by
        unfold Hid
        rw [matchR_len hl]
        exact ⟨a3, c3, rfl, hr3.below b1, HCap.out, b1⟩
      clear hl
      go_enter Try.func62, Try.ntmps62
      go_wp2
      go_returns
      exact HG.out
  · have k1 : (kd.toList == kd'.toList) = false := beq_ne hkd
    have HG : Hid (GivesF (.returned (.tuple #[.slice a3 M0.length c3, .bool false])) ((w.alloc (.cells #[.string kd, .slice a1 L.length c1, .bool nt] 79)).alloc (.cells #[.string kd', .slice a2 F.length c2] 89)) w (matchR kd kd' L F M0)) := by
      unfold Hid
      rw [matchR_kind hkd]
      exact ⟨a3, c3, rfl, hr3.below b1, HCap.out, b1⟩
    clear hkd
    go_enter Try.func62, Try.ntmps62
    go_wp2
    go_returns
    exact HG.out

theorem keptB {W w' : World} {p : Addr} {v : Value} (hb : Below W.heap.size W w') (h : W.cell? p = some v) : w'.cell? p = some v := by rw [hb.cell (World.block_lt_of_cell? W _ h)]; exact h
/-- what MatchPat answers -/
def GivesR (e : Ending) (w' : World) (w : World) (r : List B4 × Bool) : Prop := ∃ g c, e = .returned (.tuple #[.slice (some ⟨g, 0, none⟩) r.1.length c, .bool r.2]) ∧ w.heap.size ≤ g ∧ OwnBind w' g c r.1 ∧ Below w.heap.size w w'
/-- a row of binds of the call's own -/
def GivesC (e : Ending) (w' : World) (w : World) (M : List B4) : Prop := ∃ g c, e = .returned (.slice (some ⟨g, 0, none⟩) M.length c) ∧ w.heap.size ≤ g ∧ OwnBind w' g c M ∧ Below w.heap.size w w'
theorem take_row {M : List B4} {k : Nat} (h : k < M.length) : rowOf B4.cs (M.take k) ++ (eAt M k).cs = rowOf B4.cs (M.take (k + 1)) := by
  rw [List.take_succ_eq_append_getElem h, rowOf_append, eAt_in h]; simp [rowOf]

set_option maxRecDepth 100000 in
set_option maxHeartbeats 6400000 in
theorem copyBinds_any (a : Option Addr) (cap : Nat) (M : List B4) (w : World) (hr : RdBind w a M) (hs : ∀ x ∈ M, x.small) (hm : M.length ≤ 1048576) :
    Calls Try.prog 63 #[.slice a M.length cap] w fun e w' => GivesC e w' w M := by
  obtain ⟨i0, hi, hz0, hz1, hz2⟩ := info_parts Try.info107
  obtain ⟨n, hN⟩ : ∃ n, n = M.length := ⟨_, rfl⟩
  rw [← hN] at hm ⊢
  have HN := hide hN
  have HS := hide hs
  have HE : Hid (M.take n = M) := by unfold Hid; rw [hN, List.take_length]
  clear hN hs
  have hz3 : (i0.bytes * n) = 48 * n := by rw [hz2]
  go_enter Try.func63, Try.ntmps63
  go_wp2_with (at_make; refine wpList_make_own _ rfl _ _ 28 rfl w.heap.size 107 i0 (.agg #[.string ⟨#[]⟩, .int .i64 0, .int .i64 0, .string ⟨#[]⟩]) 4 Try.underlying28 hi hz0 hz1 _ _ _ n rfl rfl (by omega) ?b2 ?b3 (Nat.le_refl _) ?_)
  case b2 => rw [hz2]; omega
  case b3 => unfold maxLen; omega
  intro w2 ho2 hg2
  have b2 : Below w.heap.size w w2 := (Below.refl _ _).grown hg2 (Nat.le_refl _) (fun k hk => by cases hk)
  clear hg2
  go_wp2
  go_loopw [3, 11] (fun v i wr => ∃ (k g c : Nat), k ≤ n ∧ i = .int .i64 k ∧ v = .slice (some ⟨g, 0, none⟩) k c ∧ wr.ownsRow w.heap.size 107 4 (.slice (some ⟨g, 0, none⟩) k c) k (rowOf B4.cs (M.take k)) ∧ Below w.heap.size w wr) (fun _ i _ => n - (intOf i).toNat)
  case atStart => exact ⟨0, w.heap.size, n, Nat.zero_le _, rfl, rfl, by rw [List.take_zero]; exact ho2, b2⟩
  case round =>
    clear ho2 b2
    obtain ⟨k, g, c, hk, rfl, rfl, hown, hbel⟩ := hrel
    by_cases hlt : k < n
    · have hlL : k < M.length := by rw [← HN.out]; exact hlt
      obtain ⟨b, off, hab, hbw, hc⟩ := RdBind.cells (hr.below hbel) (by omega)
      obtain ⟨c0, c1, c2, c3⟩ := hc k hlL
      clear hc
      have hS : (eAt M k).small := by rw [eAt_in hlL]; exact HS.out _ (List.getElem_mem _)
      have HT := hide (take_row hlL)
      generalize eAt M k = x at c0 c1 c2 c3 hS HT
      obtain ⟨N, V⟩ := x
      obtain ⟨hS0, hS1⟩ := hS
      simp only at c0 c1 c2 c3 hS0 hS1
      subst hab
      have hx := boxk_new wr #[.string N, .int .i64 V.K, .int .i64 V.N, .string V.S] 107
      have x0 := boxk_cell hx 0 _ rfl
      have x1 := boxk_cell hx 1 _ rfl
      have x2 := boxk_cell hx 2 _ rfl
      have x3 := boxk_cell hx 3 _ rfl
      have HX := hide hx
      have HO := hide (hown.alloc (.cells #[.string N, .int .i64 V.K, .int .i64 V.N, .string V.S] 107))
      have HB := hide (hbel.alloc hbel.size (.cells #[.string N, .int .i64 V.K, .int .i64 V.N, .string V.S] 107))
      clear hx hown hbel hlL
      go_wp2_with fail
      generalize wr.alloc (.cells #[.string N, .int .i64 V.K, .int .i64 V.N, .string V.S] 107) = wb at x0 x1 x2 x3 HX HO HB
      clear HX c0 c1 c2 c3
      go_region_law (first
        | (refine step_append_lies _ rfl (.tmp 15) (.tmp 23) 28 rfl w.heap.size 107 i0 (.agg #[.string ⟨#[]⟩, .int .i64 0, .int .i64 0, .string ⟨#[]⟩]) 4 48 Try.underlying28 hi hz0 hz1 hz2 rfl (by omega) (.slice (some ⟨g, 0, none⟩) k c) k (rowOf B4.cs (M.take k)) (by simp [Act.eval]) (HO4.out.alloc _) ⟨w4.heap.size, 0, none⟩ 1 1 (B4.cs ⟨N, V⟩) (by simp [Act.eval]) rfl (src4 w4 ⟨N, V⟩) (one4 _) (by omega) (by unfold maxLen; omega) (by omega) (by have := HB4.out.size; simp; omega) _ rfl ?_; intro g5 c5 w5 ho5 hg5 hat5 hlt5)
        | (rw [if_pos (by simp [Region.wanted])]; go_simp; go_at_call 101; refine (cloneS_any _ _ (by omega)).mono ?_; rintro e w3 ⟨rfl, hb3⟩; have y1 := keptB (below_dr hb3) x1; have y2 := keptB (below_dr hb3) x2; have y3 := keptB (below_dr hb3) x3; have HO3 := hide (ownsRow_below' HO.out (below_dr hb3)); have HB3 := hide (below_step HB.out (below_dr hb3)))
        | (rw [if_pos (by simp [Region.wanted])]; go_simp; go_at_call 102; refine (copyVal_any _ _ _ _ (by omega)).mono ?_; rintro e w4 ⟨rfl, hb4⟩; have HO4 := hide (ownsRow_below' HO3.out hb4); have HB4 := hide (below_step HB3.out hb4)))
      all_goals
        rw [HT.out] at ho5
        have HO5 := hide ho5
        have HB5 := hide ((HB4.out.alloc HB4.out.size _).grown hg5 (HB4.out.alloc HB4.out.size _).size (fun k hk => (HO4.out.lt k hk).1))
        clear ho5 hg5 hat5 hlt5 HO4 HB4 HO3 HB3 HO HB x0 x1 x2 x3 y1 y2 y3 hb3 hb4
        go_wp2
        go_roundw
        case rel => exact ⟨k + 1, g5, c5, by omega, by go_num, rfl, HO5.out, HB5.out⟩
        case measure => simp [intOf]; omega
    · obtain rfl : k = n := by omega
      rw [HE.out] at hown
      have HG : Hid (GivesC (.returned (.slice (some ⟨g, 0, none⟩) k c)) wr w M) := by
        refine ⟨g, c, by rw [← HN.out], (hown.lt g rfl).1, OwnK.of B4.len (by decide) hown, hbel⟩
      clear hown
      go_wp2
      go_returns
      exact HG.out

end Go.Proofs.Ytfgigcdfmkfkjaa
/-
  Items as they lie in memory (It), rows of them, and what a slice of items reads as (RdI).
-/
namespace Go.Proofs.Ytfgigcdfmkfkjaa
open Go.RowKit
set_option linter.unusedVariables false

/-- an item as it lies: its Id, its fact's kind, where the fact's values lie, and which they are -/
structure It where
  id : Int
  kd : ByteArray
  a : Option Addr
  cap : Nat
  L : List V3
instance : Inhabited It := ⟨⟨0, ⟨#[]⟩, none, 0, []⟩⟩
/-- an item, plainly -/
structure P4 where
  id : Int
  kd : ByteArray
  L : List V3
instance : Inhabited P4 := ⟨⟨0, ⟨#[]⟩, []⟩⟩
theorem P4.ext' {a b : P4} (h1 : a.id = b.id) (h2 : a.kd = b.kd) (h3 : a.L = b.L) : a = b := by cases a; cases b; simp_all
def It.pl (x : It) : P4 := ⟨x.id, x.kd, x.L⟩
def It.cells (x : It) : List Value := [.int .i64 x.id, .string x.kd, .slice x.a x.L.length x.cap]
theorem It.cells_length (x : It) : x.cells.length = 3 := rfl
def iAt (J : List It) (i : Nat) : It := J.getD i default
theorem iAt_in {J : List It} {i : Nat} (h : i < J.length) : iAt J i = J[i] := by simp [iAt, List.getD, h]
theorem iAt_set {J : List It} {k : Nat} (h : k < J.length) (x : It) (i : Nat) : iAt (J.set k x) i = if i = k then x else iAt J i := by
  unfold iAt List.getD
  rw [List.getElem?_set]
  by_cases e : k = i
  · subst e; rw [if_pos rfl, if_pos rfl, if_pos h]; rfl
  · rw [if_neg e, if_neg (fun h => e h.symm)]
theorem pl_ext {J K : List It} (hl : J.length = K.length) (h : ∀ i, i < J.length → (iAt J i).pl = (iAt K i).pl) : J.map It.pl = K.map It.pl := by
  apply List.ext_getElem (by simpa using hl)
  intro i h1 h2
  have hi : i < J.length := by simpa using h1
  have := h i hi
  rw [iAt_in hi, iAt_in (by omega)] at this
  simpa using this
theorem pl_len {J K : List It} (h : J.map It.pl = K.map It.pl) : J.length = K.length := by simpa using congrArg List.length h
theorem pl_at {J K : List It} (h : J.map It.pl = K.map It.pl) {i : Nat} (hi : i < J.length) : (iAt J i).id = (iAt K i).id ∧ (iAt J i).kd = (iAt K i).kd ∧ (iAt J i).L = (iAt K i).L := by
  have hk : i < K.length := by rw [← pl_len h]; exact hi
  have e : (J.map It.pl)[i]? = (K.map It.pl)[i]? := by rw [h]
  rw [List.getElem?_map, List.getElem?_map, List.getElem?_eq_getElem hi, List.getElem?_eq_getElem hk] at e
  simp only [Option.map_some, Option.some.injEq, It.pl, P4.mk.injEq] at e
  rw [iAt_in hi, iAt_in hk]
  exact e

/-- what the slice at 'a' reads as -/
def RdI (w : World) (a : Option Addr) (J : List It) : Prop :=
  ∀ i, i < J.length → ∃ b off, a = some ⟨b, off, none⟩ ∧ w.cell? ⟨b, off + i * 3, none⟩ = some (.int .i64 (iAt J i).id) ∧ w.cell? ⟨b, off + i * 3 + 1, none⟩ = some (.string (iAt J i).kd) ∧ w.cell? ⟨b, off + i * 3 + 2, none⟩ = some (.slice (iAt J i).a (iAt J i).L.length (iAt J i).cap) ∧ RdV w (iAt J i).a (iAt J i).L
theorem RdI.open {w : World} {a : Option Addr} {J : List It} (h : RdI w a J) (hp : 0 < J.length) :
    ∃ b off, a = some ⟨b, off, none⟩ ∧ b < w.heap.size ∧ ∀ i, i < J.length → w.cell? ⟨b, off + i * 3, none⟩ = some (.int .i64 (iAt J i).id) ∧ w.cell? ⟨b, off + i * 3 + 1, none⟩ = some (.string (iAt J i).kd) ∧ w.cell? ⟨b, off + i * 3 + 2, none⟩ = some (.slice (iAt J i).a (iAt J i).L.length (iAt J i).cap) ∧ RdV w (iAt J i).a (iAt J i).L := by
  obtain ⟨b, off, rfl, h0, -, -, -⟩ := h 0 hp
  refine ⟨b, off, rfl, World.block_lt_of_cell? w _ h0, fun i hi => ?_⟩
  obtain ⟨b2, off2, e, h1⟩ := h i hi
  simp only [Option.some.injEq, Addr.mk.injEq] at e
  rw [e.1, e.2.1]; exact h1
theorem RdI.below {w w' : World} {a : Option Addr} {J : List It} (h : RdI w a J) (hb : Below w.heap.size w w') : RdI w' a J := by
  intro i hi
  obtain ⟨b, off, e, h0, h1, h2, h3⟩ := h i hi
  have k : ∀ {p : Addr} {v : Value}, w.cell? p = some v → w'.cell? p = some v := fun {p v} h => by rw [hb.cell (World.block_lt_of_cell? w _ h)]; exact h
  exact ⟨b, off, e, k h0, k h1, k h2, h3.below hb⟩
theorem RdI.nil (w : World) (a : Option Addr) : RdI w a [] := fun i hi => absurd hi (Nat.not_lt_zero _)
/-- what a call's own row of items reads as -/
theorem rdI_owns {w : World} {base n : Nat} {T : TypeId} {a : Option Addr} {m cap : Nat} {J : List It} (h : w.ownsRow base T 3 (.slice a m cap) n (rowOf It.cells J)) (hv : ∀ i, i < J.length → RdV w (iAt J i).a (iAt J i).L) :
    RdI w a J ∧ n = J.length ∧ m = J.length := by
  have hn : n = J.length := by have := h.1; rw [rowOf_length It.cells_length] at this; omega
  subst hn
  rcases h.2 with ⟨h1, h0⟩ | ⟨g, cap', cur, h1, hb, hg, hnc, hcm, hsz, htake⟩
  · simp only [Value.slice.injEq] at h1
    exact ⟨fun i hi => by omega, rfl, by omega⟩
  · simp only [Value.slice.injEq] at h1
    obtain ⟨rfl, rfl, rfl⟩ := h1
    refine ⟨fun i hi => ⟨g, 0, rfl, ?_⟩, rfl, rfl⟩
    have e0 := h.cellAt (i * 3) (by omega)
    have e1 := h.cellAt (i * 3 + 1) (by omega)
    have e2 := h.cellAt (i * 3 + 2) (by omega)
    have g0 := rowOf_get It.cells_length J i 0 hi (by omega)
    have g1 := rowOf_get It.cells_length J i 1 hi (by omega)
    have g2 := rowOf_get It.cells_length J i 2 hi (by omega)
    rw [Nat.add_zero] at g0
    rw [Nat.zero_add, iAt_in hi]
    have := hv i hi
    rw [iAt_in hi] at this
    exact ⟨by rw [e0]; exact g0, by rw [e1]; exact g1, by rw [e2]; exact g2, this⟩
end Go.Proofs.Ytfgigcdfmkfkjaa
/-
  Whether some item of a store is taken by a pattern.
-/
namespace Go.Proofs.Ytfgigcdfmkfkjaa
/-- whether some item is taken by this pattern -/
def TakesI (kd : ByteArray) (L : List A5) (M : List B4) (J : List It) : Prop := ∃ k, k < J.length ∧ (matchR kd (iAt J k).kd L (iAt J k).L M).2 = true
end Go.Proofs.Ytfgigcdfmkfkjaa
/-
  The tested program's rowsFrom: the iterator at one pattern, at the first that comes.
-/
namespace Go.Proofs.Ytfgigcdfmkfkjaa
open Go.RowKit Go.Shelf Go
set_option linter.unusedVariables false
attribute [local go_sem] Oper.semAt_some

theorem grown_below' {w w' : World} (hb : Below w.heap.size w w') (row : Option Nat) : w.grownBy w' row := ⟨hb.os, hb.tape, hb.output, hb.size, fun i hi _ => hb.block i hi⟩
/-- how a function with a range over a function is left, where it does not panic -/
def retPost (P : Program) (fn : Func) (R : Ending → World → Prop) : Exit → Act → World → Prop
  | .normal, a, w | .ret, a, w => LeavesInM Fence.wide 5 P fn a.tmps R a.defers .returning w
  | _, _, _ => False
theorem wide_ret {P : Program} {c : Code} {fn : Func} {R : Ending → World → Prop} {a : Act} {w : World} (h : c.wp P (retPost P fn R) a w) : c.wpIn Fence.wide 5 P (bodyPostM Fence.wide 5 P fn R) a w :=
  wpIn_mono (wpIn_wide.2 h) (fun e a' w' hp => by cases e <;> first | exact hp | exact hp.elim)
theorem infoI1 : (Try.prog.info? 3).map (fun i => (i.zero, i.size, i.bytes)) = some (some (.int .i64 0), 1, 8) := by kernel_rfl
theorem box_gr0 {w w' : World} {q : Nat} {o : Obj} {row : Option Nat} (h : w.heap[q]? = some o) (hg : w.grownBy w' row) (hr : row = none) : w'.heap[q]? = some o := by
  rw [hg.block q (Array.getElem?_eq_some_iff.1 h).1 (by rw [hr]; simp)]; exact h
set_option maxRecDepth 100000 in
theorem clipNil (w : World) : Calls Try.prog 114 #[.slice none 0 0] w fun e w' => e = .returned (.slice none 0 0) ∧ w' = w := by
  go_enter Try.func114, Try.ntmps114
  go_wp2
  go_ret
  exact ⟨rfl, rfl⟩
theorem srcInt1 {W : World} {b : Nat} {v : Value} (h : W.cell? ⟨b, 0, none⟩ = some v) : ∀ j u, ([v] : List Value)[j]? = some u → W.cell? ((⟨b, 0, none⟩ : Addr).add j) = some u := by
  intro j u hj
  match j, hj with
  | 0, hj => rw [Addr.add_lit, Nat.zero_add, h]; simpa using hj

set_option maxRecDepth 100000 in
set_option maxHeartbeats 25600000 in
theorem rowsOne (w : World) (bl bb bi : Nat) (pb po : Nat) (kd : ByteArray) (aP : Option Addr) (cP : Nat) (L : List A5) (nt : Bool) (a3 : Option Addr) (c3 : Nat) (M0 : List B4) (a : Option Addr) (n cap : Nat) (J : List It)
    (hl : w.heap[bl]? = some (.cells #[.slice (some ⟨pb, po, none⟩) 1 1] 45 (0, 0)))
    (hp0 : w.cell? ⟨pb, po, none⟩ = some (.string kd)) (hp1 : w.cell? ⟨pb, po + 1, none⟩ = some (.slice aP L.length cP)) (hp2 : w.cell? ⟨pb, po + 2, none⟩ = some (.bool nt))
    (hb : w.heap[bb]? = some (.cells #[.int .i64 0, .slice none 0 0, .slice a3 M0.length c3] 30 (0, 0)))
    (hit : w.heap[bi]? = some (.cells #[.slice a n cap] 51 (0, 0)))
    (hrA : RdArg w aP L) (hrI : RdI w a J) (hrB : RdBind w a3 M0) (hn : J.length = n) (hnJ : n ≤ 1048580) (hcap : M0.length ≤ c3) (hs1 : ∀ x ∈ L, x.small) (hs2 : ∀ i, i < J.length → ∀ u ∈ (iAt J i).L, u.S.size ≤ 1048576) (hs3 : ∀ x ∈ M0, x.small) (hn1 : L.length + M0.length ≤ 1048576) (hn2 : ∀ i, i < J.length → (iAt J i).L.length ≤ 1048576) :
    Seq1 Try.prog 113 #[.pointer (some ⟨bl, 0, none⟩), .pointer (some ⟨bb, 0, none⟩), .pointer (some ⟨bi, 0, none⟩)] (TakesI kd L M0 J) w := by
  intro l JJ Jx W hW hJ hJx hY h0
  obtain ⟨i0, hi, hz0, hz1, hz2⟩ := info_parts infoI1
  have HN := hide hn
  have HS1 := hide hs1
  have HS2 := hide hs2
  have HS3 := hide hs3
  have HN2 := hide hn2
  have HY := hide hY
  have HJ0 := hide h0
  have HJ := hide hJ
  have HJx := hide hJx
  obtain ⟨V, HV⟩ : ∃ V, Hid (W.alloc (.cells #[.func (.yield l) #[] #[]] 183) = V) := ⟨_, rfl⟩
  have bV : Below W.heap.size W V := by rw [← HV.out]; exact below_al W _
  have hwV : Below w.heap.size w V := hW.trans (bV.mono hW.size)
  have hYb : V.heap[W.heap.size]? = some (.cells #[.func (.yield l) #[] #[]] 183 (0, 0)) := by rw [← HV.out]; exact boxk_new W _ _
  have hlV := box_below hl hwV (Array.getElem?_eq_some_iff.1 hl).1
  have hbV := box_below hb hwV (Array.getElem?_eq_some_iff.1 hb).1
  have hiV := box_below hit hwV (Array.getElem?_eq_some_iff.1 hit).1
  have pV0 := (hwV.cell (World.block_lt_of_cell? w _ hp0)).trans hp0
  have pV1 := (hwV.cell (World.block_lt_of_cell? w _ hp1)).trans hp1
  have pV2 := (hwV.cell (World.block_lt_of_cell? w _ hp2)).trans hp2
  have HrA := hide (hrA.below hwV)
  have HrI := hide (hrI.below hwV)
  have HrB := hide (hrB.below hwV)
  have l0 := boxk_cell hlV 0 _ rfl
  have it0 := boxk_cell hiV 0 _ rfl
  clear hl hb hit hp0 hp1 hp2 hrA hrI hrB hs1 hs2 hs3 hn2 hY h0 hJ hJx hn
  refine (callsIn_wide (n := 5)).1 ?_
  refine callsIn_of_wp_marks Try.func113 rfl trivial ?_ rfl
  simp only [Try.ntmps113, List.size_toArray, List.length_cons, List.length_nil, Nat.reduceAdd, Nat.reduceSub, Array.replicate_succ, Array.replicate_zero, List.push_toArray, List.append_toArray, List.nil_append, List.cons_append]
  refine wide_ret ?_
  have l0' : (W.alloc (.cells #[.func (.yield l) #[] #[]] 183)).cell? ⟨bl, 0, none⟩ = some (.slice (some ⟨pb, po, none⟩) 1 1) := by rw [HV.out]; exact l0
  have i0' : (W.alloc (.cells #[.func (.yield l) #[] #[]] 183)).cell? ⟨bi, 0, none⟩ = some (.slice a n cap) := by rw [HV.out]; exact it0
  go_wp2_with fail
  rw [HV.out]
  clear l0' i0'
  go_loopw [19] (fun ii wr => ∃ (k : Nat), k ≤ n ∧ ii = .int .i64 k ∧ Below V.heap.size V wr ∧ ∀ j, j < k → (matchR kd (iAt J j).kd L (iAt J j).L M0).2 = false) (fun ii _ => n - (intOf ii).toNat)
  case atStart => exact ⟨0, Nat.zero_le _, rfl, Below.refl _ _, fun j hj => absurd hj (Nat.not_lt_zero _)⟩
  case round =>
    obtain ⟨k, hk, rfl, hbel, hno⟩ := hrel
    have HNo := hide hno
    have HLb := hide (box_step hlV hbel)
    have HBb := hide (box_step hbV hbel)
    have HIb := hide (box_step hiV hbel)
    have HYb := hide (box_step hYb hbel)
    have q0 := (hbel.cell (World.block_lt_of_cell? V _ pV0)).trans pV0
    have q1 := (hbel.cell (World.block_lt_of_cell? V _ pV1)).trans pV1
    have q2 := (hbel.cell (World.block_lt_of_cell? V _ pV2)).trans pV2
    clear hno hlV hbV hiV hYb pV0 pV1 pV2 l0 it0
    by_cases hlt : k < n
    · have hkj : k < J.length := by rw [HN.out]; exact hlt
      have hlti : (k : Int) < (n : Int) := by omega
      obtain ⟨b2, o2, e2, y0, y1, y2, rV⟩ := (HrI.out.below hbel) k hkj
      have hsV := hide (HS2.out k hkj)
      have hnV := hide (HN2.out k hkj)
      have HZ : Hid ((matchR kd (iAt J k).kd L (iAt J k).L M0).2 = true → TakesI kd L M0 J) := fun h => ⟨k, hkj, h⟩
      have HZn : Hid ((matchR kd (iAt J k).kd L (iAt J k).L M0).2 = false → ∀ j, j < k + 1 → (matchR kd (iAt J j).kd L (iAt J j).L M0).2 = false) := fun h j hj => by
        by_cases hjk : j = k
        · rw [hjk]; exact h
        · exact HNo.out j (by omega)
      generalize iAt J k = y at y0 y1 y2 rV hsV hnV HZ HZn
      subst e2
      have ba := below_al wr (.cells #[.int .i64 y.id, .string y.kd, .slice y.a y.L.length y.cap] 122)
      have HXb := hide (boxk_new wr #[.int .i64 y.id, .string y.kd, .slice y.a y.L.length y.cap] 122)
      have HLb3 := hide (box_step HLb.out ba)
      have HBb3 := hide (box_step HBb.out ba)
      have HIb3 := hide (box_step HIb.out ba)
      have HYb3 := hide (box_step HYb.out ba)
      have q0' := (ba.cell (World.block_lt_of_cell? wr _ q0)).trans q0
      have q1' := (ba.cell (World.block_lt_of_cell? wr _ q1)).trans q1
      have q2' := (ba.cell (World.block_lt_of_cell? wr _ q2)).trans q2
      have hB3 : Below V.heap.size V (wr.alloc (.cells #[.int .i64 y.id, .string y.kd, .slice y.a y.L.length y.cap] 122)) := hbel.trans (ba.mono hbel.size)
      have HrV := hide (rV.below ba)
      have l0 := boxk_cell HLb3.out 0 _ rfl
      have g2 := boxk_cell HBb3.out 2 _ rfl
      have x1 := boxk_cell HXb.out 1 _ rfl
      have x2 := boxk_cell HXb.out 2 _ rfl
      clear HLb HBb HIb HYb q0 q1 q2 hbel ba rV
      go_wp2_with fail
      generalize wr.alloc (.cells #[.int .i64 y.id, .string y.kd, .slice y.a y.L.length y.cap] 122) = w3 at HXb HLb3 HBb3 HIb3 HYb3 q0' q1' q2' hB3 HrV l0 g2 x1 x2 ⊢
      have hB3' : Below w.heap.size w w3 := hwV.trans (hB3.mono hwV.size)
      have HC : Hid (∀ W, Below w3.heap.size w3 W → Calls Try.prog 62 #[.agg #[.string kd, .slice aP L.length cP, .bool nt], .agg #[.string y.kd, .slice y.a y.L.length y.cap], .slice a3 M0.length c3] W fun e w' => GivesF e w' W (matchR kd y.kd L y.L M0)) := fun W h =>
        bindFields_any kd aP cP L nt y.kd y.a y.cap y.L a3 c3 M0 W ((HrA.out.below hB3).below h) (HrV.out.below h) ((HrB.out.below hB3).below h) hcap HS1.out hsV.out HS3.out hn1 hnV.out
      have HCd := hide (HC.out _ ((Below.refl w3.heap.size w3).drew))
      generalize matchR kd y.kd L y.L M0 = r at HC HCd HZ HZn
      go_cut [7, 8] from 23 to 33 (fun i7 i8 wx => ∃ (aB : Option Addr) (cB : Nat), i7 = .slice aB r.1.length cB ∧ i8 = .bool r.2 ∧ Below w3.heap.size w3 wx)
      case first =>
        have k01 : (0 : Int) < (1 : Int) := by omega
        have k02 : (0 : Int) ≤ (0 : Int) := by omega
        go_region_law (first
          | (rw [if_pos (by simp [Region.wanted])]; go_simp; go_at_call 62; refine HCd.out.mono ?_; rintro e w4 ⟨a5, c5, rfl, r5, hc5, hb5⟩))
        all_goals
          have HB5 := hide (below_dr hb5)
          clear hb5 r5 hc5
          go_wp2
          go_meet
          exact ⟨a5, c5, rfl, rfl, HB5.out⟩
      case rest =>
        obtain ⟨aB, cB, rfl, rfl, hbc⟩ := hcut
        have HBc := hide (hB3.trans (hbc.mono hB3.size))
        obtain ⟨R, bb2⟩ := r
        simp only at HZ HZn ⊢
        cases bb2
        · have HG := hide (HZn.out rfl)
          clear HZ HZn HC HCd
          go_wp2
          go_roundw
          case rel => exact ⟨k + 1, by omega, by go_num, HBc.out, HG.out⟩
          case measure => simp [intOf]; omega
        · have HZt := hide (HZ.out rfl)
          clear HZ HZn HC HCd
          have HLc := hide (box_step HLb3.out hbc)
          have HBc1 := hide (box_step HBb3.out hbc)
          have HIc := hide (box_step HIb3.out hbc)
          have HYc := hide (box_step HYb3.out hbc)
          have HXc := hide (box_step HXb.out hbc)
          clear HLb3 HBb3 HIb3 HYb3 HXb q0' q1' q2' hB3 hB3' HrV l0 g2 x1 x2 hbc
          have m1 := boxk_cell HBc1.out 1 _ rfl
          have x0 := boxk_cell HXc.out 0 _ rfl
          go_wp2_with fail
          go_cut [9] from 36 to 44 (fun i9 wx => ∃ (X9 g5 c5 : Nat), i9 = .pointer (some ⟨X9, 0, none⟩) ∧ wx.heap[X9]? = some (.cells #[.int .i64 0, .slice (some ⟨g5, 0, none⟩) 1 c5, .slice aB R.length cB] 30 (0, 0)) ∧ Below wc.heap.size wc wx)
          case first =>
            have HK : Hid (∀ W', Below wc.heap.size wc W' → W'.cell? ⟨bb, 1, none⟩ = some (.slice none 0 0) ∧ W'.cell? ⟨wr.heap.size, 0, none⟩ = some (.int .i64 y.id)) := fun W' h => ⟨(h.cell (World.block_lt_of_cell? wc _ m1)).trans m1, (h.cell (World.block_lt_of_cell? wc _ x0)).trans x0⟩
            have HI1 : Hid ((World.alloc (World.drew wc) (.cells #[.int .i64 y.id] 3)).cell? ⟨wc.heap.size, 0, none⟩ = some (.int .i64 y.id)) := boxk_cell (boxk_new (World.drew wc) #[.int .i64 y.id] 3) 0 _ rfl
            have HI3 : Hid ((World.alloc (World.alloc (World.drew wc) (.cells #[.int .i64 y.id] 3)) (.cells #[.int .i64 0, .slice none 0 0, .slice none 0 0] 30)).cell? ⟨wc.heap.size, 0, none⟩ = some (.int .i64 y.id)) := boxk_cell (box_old (boxk_new (World.drew wc) #[.int .i64 y.id] 3) (by simp) _) 0 _ rfl
            have HI2 : Hid ((World.alloc (World.alloc (World.drew wc) (.cells #[.int .i64 0, .slice none 0 0, .slice none 0 0] 30)) (.cells #[.int .i64 y.id] 3)).cell? ⟨wc.heap.size + 1, 0, none⟩ = some (.int .i64 y.id)) := by
              have := boxk_cell (boxk_new (World.alloc (World.drew wc) (.cells #[.int .i64 0, .slice none 0 0, .slice none 0 0] 30)) #[.int .i64 y.id] 3) 0 _ rfl
              rw [World.size_alloc] at this
              exact this
            refine wp_region_held_drew (S := fun W' => W'.cell? ⟨bb, 1, none⟩ = some (.slice none 0 0) ∧ W'.cell? ⟨wr.heap.size, 0, none⟩ = some (.int .i64 y.id)) (by kernel_rfl) (HK.out _ ((Below.refl wc.heap.size wc).drew)) (fun hHeld => ?_)
            refine wpAnyH_take (i := 0) (oi := Oper.mk (some 36) _ _ _ _ _) (v := ?v1) rfl (by kernel_rfl) (by kernel_rfl) (by kernel_rfl) (fun _ _ _ h => h) (Or.inl ⟨by rfl, ?y1⟩) hHeld ?r1
            case y1 => (intro W hSW; obtain ⟨q0, q1⟩ := hSW; go_simp; try with_reducible rfl)
            simp only [Act.put, List.setIfInBounds_toArray, List.set_cons_zero, List.set_cons_succ]
            refine wpAnyH_take (i := 1) (oi := Oper.mk (some 37) _ _ _ _ _) (v := ?v2) rfl (by kernel_rfl) (by kernel_rfl) (by kernel_rfl) (fun _ _ _ h => h) (Or.inl ⟨by rfl, ?y2⟩) hHeld ?r2
            case y2 => (intro W hSW; obtain ⟨q0, q1⟩ := hSW; go_simp; try with_reducible rfl)
            simp only [Act.put, List.setIfInBounds_toArray, List.set_cons_zero, List.set_cons_succ]
            refine wpAnyH_take (i := 3) (oi := Oper.mk (some 39) _ _ _ _ _) (v := ?v3) rfl (by kernel_rfl) (by kernel_rfl) (by kernel_rfl) (fun _ _ _ h => h) (Or.inl ⟨by rfl, ?y3⟩) hHeld ?r3
            case y3 => (intro W hSW; obtain ⟨q0, q1⟩ := hSW; go_simp; try with_reducible rfl)
            simp only [Act.put, List.setIfInBounds_toArray, List.set_cons_zero, List.set_cons_succ]
            refine wpAnyH_take (i := 4) (oi := Oper.mk (some 40) _ _ _ _ _) (v := ?v4) rfl (by kernel_rfl) (by kernel_rfl) (by kernel_rfl) (fun _ _ _ h => h) (Or.inl ⟨by rfl, ?y4⟩) hHeld ?r4
            case y4 => (intro W hSW; obtain ⟨q0, q1⟩ := hSW; go_simp; try with_reducible rfl)
            simp only [Act.put, List.setIfInBounds_toArray, List.set_cons_zero, List.set_cons_succ]
            refine wpAnyH_take (i := 7) (oi := Oper.mk (some 43) _ _ _ _ _) (v := ?v5) rfl (by kernel_rfl) (by kernel_rfl) (by kernel_rfl) (fun _ _ _ h => h) (Or.inl ⟨by rfl, ?y5⟩) hHeld ?r5
            case y5 => (intro W hSW; obtain ⟨q0, q1⟩ := hSW; go_simp; try with_reducible rfl)
            simp only [Act.put, List.setIfInBounds_toArray, List.set_cons_zero, List.set_cons_succ]
            refine wpAnyH_ready (rs := [2, 5, 9]) (by kernel_rfl) (by simp) (AllReadyH.cons (o := Oper.mk (some 38) _ _ _ _ _) rfl (fun Kk hK => ?_) (AllReadyH.cons (o := Oper.mk (some 41) _ _ _ _ _) rfl (fun Kk hK => ?_) (AllReadyH.cons (o := Oper.mk (some 9) _ _ _ _ _) rfl (fun Kk hK => ?_) AllReadyH.nil)))
            · go_simp
              refine (clipNil _).mono ?_
              rintro e w4 ⟨rfl, rfl⟩
              refine hK.out _ _ (HK.out _ ((Below.refl wc.heap.size wc).drew)) (fun hHeld => ?_)
              clear hK Kk
              refine wpAnyH_ready (rs := [5, 9]) (by kernel_rfl) (by simp) (AllReadyH.cons (o := Oper.mk (some 41) _ _ _ _ _) rfl (fun Kk hK => ?_) (AllReadyH.cons (o := Oper.mk (some 9) _ _ _ _ _) rfl (fun Kk hK => ?_) AllReadyH.nil))
              · go_simp
                refine hK.out _ _ (HK.out _ (((Below.refl wc.heap.size wc).drew).alloc (by simp) (.cells #[.int .i64 y.id] 3))) (fun hHeld => ?_)
                clear hK Kk
                refine wpAnyH_ready (rs := [6, 9]) (by kernel_rfl) (by simp) (AllReadyH.cons (o := Oper.mk (some 42) _ _ _ _ _) rfl (fun Kk hK => ?_) (AllReadyH.cons (o := Oper.mk (some 9) _ _ _ _ _) rfl (fun Kk hK => ?_) AllReadyH.nil))
                · refine step_append_lies _ rfl (.tmp 38) (.tmp 41) 22 rfl 0 3 i0 (.int .i64 0) 1 8 Try.underlying22 hi hz0 hz1 hz2 rfl (by omega) (.slice none 0 0) 0 [] rfl (World.ownsRow_nil _ _ _ _) _ 1 1 [.int .i64 y.id] rfl rfl (srcInt1 (by first | exact HI1.out | exact HI2.out | exact HI3.out)) (by intro u hu; rw [List.mem_singleton] at hu; rw [hu]; rfl) (by omega) (by unfold maxLen; omega) (by omega) (Nat.zero_le _) _ rfl ?_
                  intro g5 c5 w5 ho5 hg5 hat5 hlt5
                  have HBz5 := hide ((((Below.refl wc.heap.size wc).drew).alloc (by simp) (.cells #[.int .i64 y.id] 3)).grown hg5 (by simp) (fun k hk => by cases hk))
                  refine hK.out _ _ (HK.out _ HBz5.out) (fun hHeld => ?_)
                  clear hK Kk ho5 hg5 hat5 hlt5
                  refine wpAnyH_take (i := 8) (oi := Oper.mk (some 44) _ _ _ _ _) (v := ?v6) rfl (by kernel_rfl) (by kernel_rfl) (by kernel_rfl) (fun _ _ _ h => h) (Or.inl ⟨by rfl, ?y6⟩) hHeld ?r6
                  case y6 => (intro W hSW; obtain ⟨q0, q1⟩ := hSW; go_simp; try with_reducible rfl)
                  simp only [Act.put, List.setIfInBounds_toArray, List.set_cons_zero, List.set_cons_succ]
                  refine wpAnyH_ready (rs := [9]) (by kernel_rfl) (by simp) (AllReadyH.cons (o := Oper.mk (some 9) _ _ _ _ _) rfl (fun Kk hK => ?_) AllReadyH.nil)
                  go_simp
                  have HXz5 := hide (boxk_new w5 #[.int .i64 0, .slice none 0 0, .slice none 0 0] 30)
                  have HBz6 := hide (HBz5.out.trans ((below_al w5 (.cells #[.int .i64 0, .slice none 0 0, .slice none 0 0] 30)).mono HBz5.out.size))
                  have hzz := HBz5.out.size
                  refine hK.out _ _ (HK.out _ HBz6.out) (fun hHeld => ?_)
                  clear hK Kk
                  have t0 := boxk_cell HXz5.out 0 _ rfl; have t1 := boxk_cell HXz5.out 1 _ rfl; have t2 := boxk_cell HXz5.out 2 _ rfl; have u0 := boxk_frozen HXz5.out 0; have u1 := boxk_frozen HXz5.out 1; have u2 := boxk_frozen HXz5.out 2
                  generalize World.alloc w5 (.cells #[.int .i64 0, .slice none 0 0, .slice none 0 0] 30) = w6 at HXz5 HBz6 t0 t1 t2 u0 u1 u2 hHeld ⊢
                  refine wpAnyH_ready (rs := [10]) (by kernel_rfl) (by simp) (AllReadyH.cons (o := Oper.mk (none) _ _ _ _ _) rfl (fun Kk hK => ?_) AllReadyH.nil)
                  go_simp
                  have hEE := box_set3 HXz5.out (.int .i64 0) (.slice (some ⟨g5, 0, none⟩) 1 c5) (.slice aB R.length cB)
                  have HE := hide hEE.1
                  have HBE := hide (HBz6.out.grown hEE.2 (by have := HBz6.out.size; omega) (fun k hk => by cases hk; omega))
                  refine hK.out _ _ (HK.out _ HBE.out) (fun hHeld => ?_)
                  clear hK Kk hEE t0 t1 t2 u0 u1 u2
                  refine wpAnyH_done (by kernel_rfl) ?_ _
                  go_wp2
                  go_meet
                  exact ⟨_, g5, c5, rfl, HE.out, HBE.out⟩
                · go_simp
                  refine hK.out _ _ (HK.out _ ((((Below.refl wc.heap.size wc).drew).alloc (by simp) (.cells #[.int .i64 y.id] 3)).alloc (by simp <;> omega) (.cells #[.int .i64 0, .slice none 0 0, .slice none 0 0] 30))) (fun hHeld => ?_)
                  clear hK Kk
                  refine wpAnyH_ready (rs := [6]) (by kernel_rfl) (by simp) (AllReadyH.cons (o := Oper.mk (some 42) _ _ _ _ _) rfl (fun Kk hK => ?_) AllReadyH.nil)
                  refine step_append_lies _ rfl (.tmp 38) (.tmp 41) 22 rfl 0 3 i0 (.int .i64 0) 1 8 Try.underlying22 hi hz0 hz1 hz2 rfl (by omega) (.slice none 0 0) 0 [] rfl (World.ownsRow_nil _ _ _ _) _ 1 1 [.int .i64 y.id] rfl rfl (srcInt1 (by first | exact HI1.out | exact HI2.out | exact HI3.out)) (by intro u hu; rw [List.mem_singleton] at hu; rw [hu]; rfl) (by omega) (by unfold maxLen; omega) (by omega) (Nat.zero_le _) _ rfl ?_
                  intro g5 c5 w5 ho5 hg5 hat5 hlt5
                  have HBz5 := hide (((((Below.refl wc.heap.size wc).drew).alloc (by simp) (.cells #[.int .i64 y.id] 3)).alloc (by simp <;> omega) (.cells #[.int .i64 0, .slice none 0 0, .slice none 0 0] 30)).grown hg5 (by simp <;> omega) (fun k hk => by cases hk))
                  have hXz5 := box_gr0 (boxk_new (World.alloc (World.drew wc) (.cells #[.int .i64 y.id] 3)) #[.int .i64 0, .slice none 0 0, .slice none 0 0] 30) hg5 rfl
                  rw [World.size_alloc] at hXz5
                  have HXz5 : Hid (w5.heap[wc.heap.size + 1]? = some (.cells #[.int .i64 0, .slice none 0 0, .slice none 0 0] 30 (0, 0))) := hXz5
                  clear hXz5
                  have t0 := boxk_cell HXz5.out 0 _ rfl; have t1 := boxk_cell HXz5.out 1 _ rfl; have t2 := boxk_cell HXz5.out 2 _ rfl; have u0 := boxk_frozen HXz5.out 0; have u1 := boxk_frozen HXz5.out 1; have u2 := boxk_frozen HXz5.out 2
                  refine hK.out _ _ (HK.out _ HBz5.out) (fun hHeld => ?_)
                  clear hK Kk ho5 hg5 hat5 hlt5
                  refine wpAnyH_take (i := 8) (oi := Oper.mk (some 44) _ _ _ _ _) (v := ?v7) rfl (by kernel_rfl) (by kernel_rfl) (by kernel_rfl) (fun _ _ _ h => h) (Or.inl ⟨by rfl, ?y7⟩) hHeld ?r7
                  case y7 => (intro W hSW; obtain ⟨q0, q1⟩ := hSW; go_simp; try with_reducible rfl)
                  simp only [Act.put, List.setIfInBounds_toArray, List.set_cons_zero, List.set_cons_succ]
                  refine wpAnyH_ready (rs := [10]) (by kernel_rfl) (by simp) (AllReadyH.cons (o := Oper.mk (none) _ _ _ _ _) rfl (fun Kk hK => ?_) AllReadyH.nil)
                  go_simp
                  have hEE := box_set3 HXz5.out (.int .i64 0) (.slice (some ⟨g5, 0, none⟩) 1 c5) (.slice aB R.length cB)
                  have HE := hide hEE.1
                  have HBE := hide (HBz5.out.grown hEE.2 (by have := HBz5.out.size; omega) (fun k hk => by cases hk; omega))
                  refine hK.out _ _ (HK.out _ HBE.out) (fun hHeld => ?_)
                  clear hK Kk hEE t0 t1 t2 u0 u1 u2
                  refine wpAnyH_done (by kernel_rfl) ?_ _
                  go_wp2
                  go_meet
                  exact ⟨_, g5, c5, rfl, HE.out, HBE.out⟩
              · go_simp
                refine hK.out _ _ (HK.out _ (((Below.refl wc.heap.size wc).drew).alloc (by simp) (.cells #[.int .i64 0, .slice none 0 0, .slice none 0 0] 30))) (fun hHeld => ?_)
                clear hK Kk
                refine wpAnyH_ready (rs := [5]) (by kernel_rfl) (by simp) (AllReadyH.cons (o := Oper.mk (some 41) _ _ _ _ _) rfl (fun Kk hK => ?_) AllReadyH.nil)
                go_simp
                refine hK.out _ _ (HK.out _ ((((Below.refl wc.heap.size wc).drew).alloc (by simp) (.cells #[.int .i64 0, .slice none 0 0, .slice none 0 0] 30)).alloc (by simp <;> omega) (.cells #[.int .i64 y.id] 3))) (fun hHeld => ?_)
                clear hK Kk
                refine wpAnyH_ready (rs := [6]) (by kernel_rfl) (by simp) (AllReadyH.cons (o := Oper.mk (some 42) _ _ _ _ _) rfl (fun Kk hK => ?_) AllReadyH.nil)
                refine step_append_lies _ rfl (.tmp 38) (.tmp 41) 22 rfl 0 3 i0 (.int .i64 0) 1 8 Try.underlying22 hi hz0 hz1 hz2 rfl (by omega) (.slice none 0 0) 0 [] rfl (World.ownsRow_nil _ _ _ _) _ 1 1 [.int .i64 y.id] rfl rfl (srcInt1 (by first | exact HI1.out | exact HI2.out | exact HI3.out)) (by intro u hu; rw [List.mem_singleton] at hu; rw [hu]; rfl) (by omega) (by unfold maxLen; omega) (by omega) (Nat.zero_le _) _ rfl ?_
                intro g5 c5 w5 ho5 hg5 hat5 hlt5
                have HBz5 := hide (((((Below.refl wc.heap.size wc).drew).alloc (by simp) (.cells #[.int .i64 0, .slice none 0 0, .slice none 0 0] 30)).alloc (by simp <;> omega) (.cells #[.int .i64 y.id] 3)).grown hg5 (by simp <;> omega) (fun k hk => by cases hk))
                have HXz5 : Hid (w5.heap[wc.heap.size]? = some (.cells #[.int .i64 0, .slice none 0 0, .slice none 0 0] 30 (0, 0))) := (box_gr0 (box_old (boxk_new (World.drew wc) #[.int .i64 0, .slice none 0 0, .slice none 0 0] 30) (by simp) (.cells #[.int .i64 y.id] 3)) hg5 rfl)
                have t0 := boxk_cell HXz5.out 0 _ rfl; have t1 := boxk_cell HXz5.out 1 _ rfl; have t2 := boxk_cell HXz5.out 2 _ rfl; have u0 := boxk_frozen HXz5.out 0; have u1 := boxk_frozen HXz5.out 1; have u2 := boxk_frozen HXz5.out 2
                refine hK.out _ _ (HK.out _ HBz5.out) (fun hHeld => ?_)
                clear hK Kk ho5 hg5 hat5 hlt5
                refine wpAnyH_take (i := 8) (oi := Oper.mk (some 44) _ _ _ _ _) (v := ?v8) rfl (by kernel_rfl) (by kernel_rfl) (by kernel_rfl) (fun _ _ _ h => h) (Or.inl ⟨by rfl, ?y8⟩) hHeld ?r8
                case y8 => (intro W hSW; obtain ⟨q0, q1⟩ := hSW; go_simp; try with_reducible rfl)
                simp only [Act.put, List.setIfInBounds_toArray, List.set_cons_zero, List.set_cons_succ]
                refine wpAnyH_ready (rs := [10]) (by kernel_rfl) (by simp) (AllReadyH.cons (o := Oper.mk (none) _ _ _ _ _) rfl (fun Kk hK => ?_) AllReadyH.nil)
                go_simp
                have hEE := box_set3 HXz5.out (.int .i64 0) (.slice (some ⟨g5, 0, none⟩) 1 c5) (.slice aB R.length cB)
                have HE := hide hEE.1
                have HBE := hide (HBz5.out.grown hEE.2 (by have := HBz5.out.size; omega) (fun k hk => by cases hk; omega))
                refine hK.out _ _ (HK.out _ HBE.out) (fun hHeld => ?_)
                clear hK Kk hEE t0 t1 t2 u0 u1 u2
                refine wpAnyH_done (by kernel_rfl) ?_ _
                go_wp2
                go_meet
                exact ⟨_, g5, c5, rfl, HE.out, HBE.out⟩
            · go_simp
              refine hK.out _ _ (HK.out _ (((Below.refl wc.heap.size wc).drew).alloc (by simp) (.cells #[.int .i64 y.id] 3))) (fun hHeld => ?_)
              clear hK Kk
              refine wpAnyH_ready (rs := [2, 9]) (by kernel_rfl) (by simp) (AllReadyH.cons (o := Oper.mk (some 38) _ _ _ _ _) rfl (fun Kk hK => ?_) (AllReadyH.cons (o := Oper.mk (some 9) _ _ _ _ _) rfl (fun Kk hK => ?_) AllReadyH.nil))
              · go_simp
                refine (clipNil _).mono ?_
                rintro e w4 ⟨rfl, rfl⟩
                refine hK.out _ _ (HK.out _ (((Below.refl wc.heap.size wc).drew).alloc (by simp) (.cells #[.int .i64 y.id] 3))) (fun hHeld => ?_)
                clear hK Kk
                refine wpAnyH_ready (rs := [6, 9]) (by kernel_rfl) (by simp) (AllReadyH.cons (o := Oper.mk (some 42) _ _ _ _ _) rfl (fun Kk hK => ?_) (AllReadyH.cons (o := Oper.mk (some 9) _ _ _ _ _) rfl (fun Kk hK => ?_) AllReadyH.nil))
                · refine step_append_lies _ rfl (.tmp 38) (.tmp 41) 22 rfl 0 3 i0 (.int .i64 0) 1 8 Try.underlying22 hi hz0 hz1 hz2 rfl (by omega) (.slice none 0 0) 0 [] rfl (World.ownsRow_nil _ _ _ _) _ 1 1 [.int .i64 y.id] rfl rfl (srcInt1 (by first | exact HI1.out | exact HI2.out | exact HI3.out)) (by intro u hu; rw [List.mem_singleton] at hu; rw [hu]; rfl) (by omega) (by unfold maxLen; omega) (by omega) (Nat.zero_le _) _ rfl ?_
                  intro g5 c5 w5 ho5 hg5 hat5 hlt5
                  have HBz5 := hide ((((Below.refl wc.heap.size wc).drew).alloc (by simp) (.cells #[.int .i64 y.id] 3)).grown hg5 (by simp) (fun k hk => by cases hk))
                  refine hK.out _ _ (HK.out _ HBz5.out) (fun hHeld => ?_)
                  clear hK Kk ho5 hg5 hat5 hlt5
                  refine wpAnyH_take (i := 8) (oi := Oper.mk (some 44) _ _ _ _ _) (v := ?v9) rfl (by kernel_rfl) (by kernel_rfl) (by kernel_rfl) (fun _ _ _ h => h) (Or.inl ⟨by rfl, ?y9⟩) hHeld ?r9
                  case y9 => (intro W hSW; obtain ⟨q0, q1⟩ := hSW; go_simp; try with_reducible rfl)
                  simp only [Act.put, List.setIfInBounds_toArray, List.set_cons_zero, List.set_cons_succ]
                  refine wpAnyH_ready (rs := [9]) (by kernel_rfl) (by simp) (AllReadyH.cons (o := Oper.mk (some 9) _ _ _ _ _) rfl (fun Kk hK => ?_) AllReadyH.nil)
                  go_simp
                  have HXz5 := hide (boxk_new w5 #[.int .i64 0, .slice none 0 0, .slice none 0 0] 30)
                  have HBz6 := hide (HBz5.out.trans ((below_al w5 (.cells #[.int .i64 0, .slice none 0 0, .slice none 0 0] 30)).mono HBz5.out.size))
                  have hzz := HBz5.out.size
                  refine hK.out _ _ (HK.out _ HBz6.out) (fun hHeld => ?_)
                  clear hK Kk
                  have t0 := boxk_cell HXz5.out 0 _ rfl; have t1 := boxk_cell HXz5.out 1 _ rfl; have t2 := boxk_cell HXz5.out 2 _ rfl; have u0 := boxk_frozen HXz5.out 0; have u1 := boxk_frozen HXz5.out 1; have u2 := boxk_frozen HXz5.out 2
                  generalize World.alloc w5 (.cells #[.int .i64 0, .slice none 0 0, .slice none 0 0] 30) = w6 at HXz5 HBz6 t0 t1 t2 u0 u1 u2 hHeld ⊢
                  refine wpAnyH_ready (rs := [10]) (by kernel_rfl) (by simp) (AllReadyH.cons (o := Oper.mk (none) _ _ _ _ _) rfl (fun Kk hK => ?_) AllReadyH.nil)
                  go_simp
                  have hEE := box_set3 HXz5.out (.int .i64 0) (.slice (some ⟨g5, 0, none⟩) 1 c5) (.slice aB R.length cB)
                  have HE := hide hEE.1
                  have HBE := hide (HBz6.out.grown hEE.2 (by have := HBz6.out.size; omega) (fun k hk => by cases hk; omega))
                  refine hK.out _ _ (HK.out _ HBE.out) (fun hHeld => ?_)
                  clear hK Kk hEE t0 t1 t2 u0 u1 u2
                  refine wpAnyH_done (by kernel_rfl) ?_ _
                  go_wp2
                  go_meet
                  exact ⟨_, g5, c5, rfl, HE.out, HBE.out⟩
                · go_simp
                  refine hK.out _ _ (HK.out _ ((((Below.refl wc.heap.size wc).drew).alloc (by simp) (.cells #[.int .i64 y.id] 3)).alloc (by simp <;> omega) (.cells #[.int .i64 0, .slice none 0 0, .slice none 0 0] 30))) (fun hHeld => ?_)
                  clear hK Kk
                  refine wpAnyH_ready (rs := [6]) (by kernel_rfl) (by simp) (AllReadyH.cons (o := Oper.mk (some 42) _ _ _ _ _) rfl (fun Kk hK => ?_) AllReadyH.nil)
                  refine step_append_lies _ rfl (.tmp 38) (.tmp 41) 22 rfl 0 3 i0 (.int .i64 0) 1 8 Try.underlying22 hi hz0 hz1 hz2 rfl (by omega) (.slice none 0 0) 0 [] rfl (World.ownsRow_nil _ _ _ _) _ 1 1 [.int .i64 y.id] rfl rfl (srcInt1 (by first | exact HI1.out | exact HI2.out | exact HI3.out)) (by intro u hu; rw [List.mem_singleton] at hu; rw [hu]; rfl) (by omega) (by unfold maxLen; omega) (by omega) (Nat.zero_le _) _ rfl ?_
                  intro g5 c5 w5 ho5 hg5 hat5 hlt5
                  have HBz5 := hide (((((Below.refl wc.heap.size wc).drew).alloc (by simp) (.cells #[.int .i64 y.id] 3)).alloc (by simp <;> omega) (.cells #[.int .i64 0, .slice none 0 0, .slice none 0 0] 30)).grown hg5 (by simp <;> omega) (fun k hk => by cases hk))
                  have hXz5 := box_gr0 (boxk_new (World.alloc (World.drew wc) (.cells #[.int .i64 y.id] 3)) #[.int .i64 0, .slice none 0 0, .slice none 0 0] 30) hg5 rfl
                  rw [World.size_alloc] at hXz5
                  have HXz5 : Hid (w5.heap[wc.heap.size + 1]? = some (.cells #[.int .i64 0, .slice none 0 0, .slice none 0 0] 30 (0, 0))) := hXz5
                  clear hXz5
                  have t0 := boxk_cell HXz5.out 0 _ rfl; have t1 := boxk_cell HXz5.out 1 _ rfl; have t2 := boxk_cell HXz5.out 2 _ rfl; have u0 := boxk_frozen HXz5.out 0; have u1 := boxk_frozen HXz5.out 1; have u2 := boxk_frozen HXz5.out 2
                  refine hK.out _ _ (HK.out _ HBz5.out) (fun hHeld => ?_)
                  clear hK Kk ho5 hg5 hat5 hlt5
                  refine wpAnyH_take (i := 8) (oi := Oper.mk (some 44) _ _ _ _ _) (v := ?v10) rfl (by kernel_rfl) (by kernel_rfl) (by kernel_rfl) (fun _ _ _ h => h) (Or.inl ⟨by rfl, ?y10⟩) hHeld ?r10
                  case y10 => (intro W hSW; obtain ⟨q0, q1⟩ := hSW; go_simp; try with_reducible rfl)
                  simp only [Act.put, List.setIfInBounds_toArray, List.set_cons_zero, List.set_cons_succ]
                  refine wpAnyH_ready (rs := [10]) (by kernel_rfl) (by simp) (AllReadyH.cons (o := Oper.mk (none) _ _ _ _ _) rfl (fun Kk hK => ?_) AllReadyH.nil)
                  go_simp
                  have hEE := box_set3 HXz5.out (.int .i64 0) (.slice (some ⟨g5, 0, none⟩) 1 c5) (.slice aB R.length cB)
                  have HE := hide hEE.1
                  have HBE := hide (HBz5.out.grown hEE.2 (by have := HBz5.out.size; omega) (fun k hk => by cases hk; omega))
                  refine hK.out _ _ (HK.out _ HBE.out) (fun hHeld => ?_)
                  clear hK Kk hEE t0 t1 t2 u0 u1 u2
                  refine wpAnyH_done (by kernel_rfl) ?_ _
                  go_wp2
                  go_meet
                  exact ⟨_, g5, c5, rfl, HE.out, HBE.out⟩
              · go_simp
                refine hK.out _ _ (HK.out _ ((((Below.refl wc.heap.size wc).drew).alloc (by simp) (.cells #[.int .i64 y.id] 3)).alloc (by simp <;> omega) (.cells #[.int .i64 0, .slice none 0 0, .slice none 0 0] 30))) (fun hHeld => ?_)
                clear hK Kk
                refine wpAnyH_ready (rs := [2]) (by kernel_rfl) (by simp) (AllReadyH.cons (o := Oper.mk (some 38) _ _ _ _ _) rfl (fun Kk hK => ?_) AllReadyH.nil)
                go_simp
                refine (clipNil _).mono ?_
                rintro e w4 ⟨rfl, rfl⟩
                refine hK.out _ _ (HK.out _ ((((Below.refl wc.heap.size wc).drew).alloc (by simp) (.cells #[.int .i64 y.id] 3)).alloc (by simp <;> omega) (.cells #[.int .i64 0, .slice none 0 0, .slice none 0 0] 30))) (fun hHeld => ?_)
                clear hK Kk
                refine wpAnyH_ready (rs := [6]) (by kernel_rfl) (by simp) (AllReadyH.cons (o := Oper.mk (some 42) _ _ _ _ _) rfl (fun Kk hK => ?_) AllReadyH.nil)
                refine step_append_lies _ rfl (.tmp 38) (.tmp 41) 22 rfl 0 3 i0 (.int .i64 0) 1 8 Try.underlying22 hi hz0 hz1 hz2 rfl (by omega) (.slice none 0 0) 0 [] rfl (World.ownsRow_nil _ _ _ _) _ 1 1 [.int .i64 y.id] rfl rfl (srcInt1 (by first | exact HI1.out | exact HI2.out | exact HI3.out)) (by intro u hu; rw [List.mem_singleton] at hu; rw [hu]; rfl) (by omega) (by unfold maxLen; omega) (by omega) (Nat.zero_le _) _ rfl ?_
                intro g5 c5 w5 ho5 hg5 hat5 hlt5
                have HBz5 := hide (((((Below.refl wc.heap.size wc).drew).alloc (by simp) (.cells #[.int .i64 y.id] 3)).alloc (by simp <;> omega) (.cells #[.int .i64 0, .slice none 0 0, .slice none 0 0] 30)).grown hg5 (by simp <;> omega) (fun k hk => by cases hk))
                have hXz5 := box_gr0 (boxk_new (World.alloc (World.drew wc) (.cells #[.int .i64 y.id] 3)) #[.int .i64 0, .slice none 0 0, .slice none 0 0] 30) hg5 rfl
                rw [World.size_alloc] at hXz5
                have HXz5 : Hid (w5.heap[wc.heap.size + 1]? = some (.cells #[.int .i64 0, .slice none 0 0, .slice none 0 0] 30 (0, 0))) := hXz5
                clear hXz5
                have t0 := boxk_cell HXz5.out 0 _ rfl; have t1 := boxk_cell HXz5.out 1 _ rfl; have t2 := boxk_cell HXz5.out 2 _ rfl; have u0 := boxk_frozen HXz5.out 0; have u1 := boxk_frozen HXz5.out 1; have u2 := boxk_frozen HXz5.out 2
                refine hK.out _ _ (HK.out _ HBz5.out) (fun hHeld => ?_)
                clear hK Kk ho5 hg5 hat5 hlt5
                refine wpAnyH_take (i := 8) (oi := Oper.mk (some 44) _ _ _ _ _) (v := ?v11) rfl (by kernel_rfl) (by kernel_rfl) (by kernel_rfl) (fun _ _ _ h => h) (Or.inl ⟨by rfl, ?y11⟩) hHeld ?r11
                case y11 => (intro W hSW; obtain ⟨q0, q1⟩ := hSW; go_simp; try with_reducible rfl)
                simp only [Act.put, List.setIfInBounds_toArray, List.set_cons_zero, List.set_cons_succ]
                refine wpAnyH_ready (rs := [10]) (by kernel_rfl) (by simp) (AllReadyH.cons (o := Oper.mk (none) _ _ _ _ _) rfl (fun Kk hK => ?_) AllReadyH.nil)
                go_simp
                have hEE := box_set3 HXz5.out (.int .i64 0) (.slice (some ⟨g5, 0, none⟩) 1 c5) (.slice aB R.length cB)
                have HE := hide hEE.1
                have HBE := hide (HBz5.out.grown hEE.2 (by have := HBz5.out.size; omega) (fun k hk => by cases hk; omega))
                refine hK.out _ _ (HK.out _ HBE.out) (fun hHeld => ?_)
                clear hK Kk hEE t0 t1 t2 u0 u1 u2
                refine wpAnyH_done (by kernel_rfl) ?_ _
                go_wp2
                go_meet
                exact ⟨_, g5, c5, rfl, HE.out, HBE.out⟩
            · go_simp
              refine hK.out _ _ (HK.out _ (((Below.refl wc.heap.size wc).drew).alloc (by simp) (.cells #[.int .i64 0, .slice none 0 0, .slice none 0 0] 30))) (fun hHeld => ?_)
              clear hK Kk
              refine wpAnyH_ready (rs := [2, 5]) (by kernel_rfl) (by simp) (AllReadyH.cons (o := Oper.mk (some 38) _ _ _ _ _) rfl (fun Kk hK => ?_) (AllReadyH.cons (o := Oper.mk (some 41) _ _ _ _ _) rfl (fun Kk hK => ?_) AllReadyH.nil))
              · go_simp
                refine (clipNil _).mono ?_
                rintro e w4 ⟨rfl, rfl⟩
                refine hK.out _ _ (HK.out _ (((Below.refl wc.heap.size wc).drew).alloc (by simp) (.cells #[.int .i64 0, .slice none 0 0, .slice none 0 0] 30))) (fun hHeld => ?_)
                clear hK Kk
                refine wpAnyH_ready (rs := [5]) (by kernel_rfl) (by simp) (AllReadyH.cons (o := Oper.mk (some 41) _ _ _ _ _) rfl (fun Kk hK => ?_) AllReadyH.nil)
                go_simp
                refine hK.out _ _ (HK.out _ ((((Below.refl wc.heap.size wc).drew).alloc (by simp) (.cells #[.int .i64 0, .slice none 0 0, .slice none 0 0] 30)).alloc (by simp <;> omega) (.cells #[.int .i64 y.id] 3))) (fun hHeld => ?_)
                clear hK Kk
                refine wpAnyH_ready (rs := [6]) (by kernel_rfl) (by simp) (AllReadyH.cons (o := Oper.mk (some 42) _ _ _ _ _) rfl (fun Kk hK => ?_) AllReadyH.nil)
                refine step_append_lies _ rfl (.tmp 38) (.tmp 41) 22 rfl 0 3 i0 (.int .i64 0) 1 8 Try.underlying22 hi hz0 hz1 hz2 rfl (by omega) (.slice none 0 0) 0 [] rfl (World.ownsRow_nil _ _ _ _) _ 1 1 [.int .i64 y.id] rfl rfl (srcInt1 (by first | exact HI1.out | exact HI2.out | exact HI3.out)) (by intro u hu; rw [List.mem_singleton] at hu; rw [hu]; rfl) (by omega) (by unfold maxLen; omega) (by omega) (Nat.zero_le _) _ rfl ?_
                intro g5 c5 w5 ho5 hg5 hat5 hlt5
                have HBz5 := hide (((((Below.refl wc.heap.size wc).drew).alloc (by simp) (.cells #[.int .i64 0, .slice none 0 0, .slice none 0 0] 30)).alloc (by simp <;> omega) (.cells #[.int .i64 y.id] 3)).grown hg5 (by simp <;> omega) (fun k hk => by cases hk))
                have HXz5 : Hid (w5.heap[wc.heap.size]? = some (.cells #[.int .i64 0, .slice none 0 0, .slice none 0 0] 30 (0, 0))) := (box_gr0 (box_old (boxk_new (World.drew wc) #[.int .i64 0, .slice none 0 0, .slice none 0 0] 30) (by simp) (.cells #[.int .i64 y.id] 3)) hg5 rfl)
                have t0 := boxk_cell HXz5.out 0 _ rfl; have t1 := boxk_cell HXz5.out 1 _ rfl; have t2 := boxk_cell HXz5.out 2 _ rfl; have u0 := boxk_frozen HXz5.out 0; have u1 := boxk_frozen HXz5.out 1; have u2 := boxk_frozen HXz5.out 2
                refine hK.out _ _ (HK.out _ HBz5.out) (fun hHeld => ?_)
                clear hK Kk ho5 hg5 hat5 hlt5
                refine wpAnyH_take (i := 8) (oi := Oper.mk (some 44) _ _ _ _ _) (v := ?v12) rfl (by kernel_rfl) (by kernel_rfl) (by kernel_rfl) (fun _ _ _ h => h) (Or.inl ⟨by rfl, ?y12⟩) hHeld ?r12
                case y12 => (intro W hSW; obtain ⟨q0, q1⟩ := hSW; go_simp; try with_reducible rfl)
                simp only [Act.put, List.setIfInBounds_toArray, List.set_cons_zero, List.set_cons_succ]
                refine wpAnyH_ready (rs := [10]) (by kernel_rfl) (by simp) (AllReadyH.cons (o := Oper.mk (none) _ _ _ _ _) rfl (fun Kk hK => ?_) AllReadyH.nil)
                go_simp
                have hEE := box_set3 HXz5.out (.int .i64 0) (.slice (some ⟨g5, 0, none⟩) 1 c5) (.slice aB R.length cB)
                have HE := hide hEE.1
                have HBE := hide (HBz5.out.grown hEE.2 (by have := HBz5.out.size; omega) (fun k hk => by cases hk; omega))
                refine hK.out _ _ (HK.out _ HBE.out) (fun hHeld => ?_)
                clear hK Kk hEE t0 t1 t2 u0 u1 u2
                refine wpAnyH_done (by kernel_rfl) ?_ _
                go_wp2
                go_meet
                exact ⟨_, g5, c5, rfl, HE.out, HBE.out⟩
              · go_simp
                refine hK.out _ _ (HK.out _ ((((Below.refl wc.heap.size wc).drew).alloc (by simp) (.cells #[.int .i64 0, .slice none 0 0, .slice none 0 0] 30)).alloc (by simp <;> omega) (.cells #[.int .i64 y.id] 3))) (fun hHeld => ?_)
                clear hK Kk
                refine wpAnyH_ready (rs := [2]) (by kernel_rfl) (by simp) (AllReadyH.cons (o := Oper.mk (some 38) _ _ _ _ _) rfl (fun Kk hK => ?_) AllReadyH.nil)
                go_simp
                refine (clipNil _).mono ?_
                rintro e w4 ⟨rfl, rfl⟩
                refine hK.out _ _ (HK.out _ ((((Below.refl wc.heap.size wc).drew).alloc (by simp) (.cells #[.int .i64 0, .slice none 0 0, .slice none 0 0] 30)).alloc (by simp <;> omega) (.cells #[.int .i64 y.id] 3))) (fun hHeld => ?_)
                clear hK Kk
                refine wpAnyH_ready (rs := [6]) (by kernel_rfl) (by simp) (AllReadyH.cons (o := Oper.mk (some 42) _ _ _ _ _) rfl (fun Kk hK => ?_) AllReadyH.nil)
                refine step_append_lies _ rfl (.tmp 38) (.tmp 41) 22 rfl 0 3 i0 (.int .i64 0) 1 8 Try.underlying22 hi hz0 hz1 hz2 rfl (by omega) (.slice none 0 0) 0 [] rfl (World.ownsRow_nil _ _ _ _) _ 1 1 [.int .i64 y.id] rfl rfl (srcInt1 (by first | exact HI1.out | exact HI2.out | exact HI3.out)) (by intro u hu; rw [List.mem_singleton] at hu; rw [hu]; rfl) (by omega) (by unfold maxLen; omega) (by omega) (Nat.zero_le _) _ rfl ?_
                intro g5 c5 w5 ho5 hg5 hat5 hlt5
                have HBz5 := hide (((((Below.refl wc.heap.size wc).drew).alloc (by simp) (.cells #[.int .i64 0, .slice none 0 0, .slice none 0 0] 30)).alloc (by simp <;> omega) (.cells #[.int .i64 y.id] 3)).grown hg5 (by simp <;> omega) (fun k hk => by cases hk))
                have HXz5 : Hid (w5.heap[wc.heap.size]? = some (.cells #[.int .i64 0, .slice none 0 0, .slice none 0 0] 30 (0, 0))) := (box_gr0 (box_old (boxk_new (World.drew wc) #[.int .i64 0, .slice none 0 0, .slice none 0 0] 30) (by simp) (.cells #[.int .i64 y.id] 3)) hg5 rfl)
                have t0 := boxk_cell HXz5.out 0 _ rfl; have t1 := boxk_cell HXz5.out 1 _ rfl; have t2 := boxk_cell HXz5.out 2 _ rfl; have u0 := boxk_frozen HXz5.out 0; have u1 := boxk_frozen HXz5.out 1; have u2 := boxk_frozen HXz5.out 2
                refine hK.out _ _ (HK.out _ HBz5.out) (fun hHeld => ?_)
                clear hK Kk ho5 hg5 hat5 hlt5
                refine wpAnyH_take (i := 8) (oi := Oper.mk (some 44) _ _ _ _ _) (v := ?v13) rfl (by kernel_rfl) (by kernel_rfl) (by kernel_rfl) (fun _ _ _ h => h) (Or.inl ⟨by rfl, ?y13⟩) hHeld ?r13
                case y13 => (intro W hSW; obtain ⟨q0, q1⟩ := hSW; go_simp; try with_reducible rfl)
                simp only [Act.put, List.setIfInBounds_toArray, List.set_cons_zero, List.set_cons_succ]
                refine wpAnyH_ready (rs := [10]) (by kernel_rfl) (by simp) (AllReadyH.cons (o := Oper.mk (none) _ _ _ _ _) rfl (fun Kk hK => ?_) AllReadyH.nil)
                go_simp
                have hEE := box_set3 HXz5.out (.int .i64 0) (.slice (some ⟨g5, 0, none⟩) 1 c5) (.slice aB R.length cB)
                have HE := hide hEE.1
                have HBE := hide (HBz5.out.grown hEE.2 (by have := HBz5.out.size; omega) (fun k hk => by cases hk; omega))
                refine hK.out _ _ (HK.out _ HBE.out) (fun hHeld => ?_)
                clear hK Kk hEE t0 t1 t2 u0 u1 u2
                refine wpAnyH_done (by kernel_rfl) ?_ _
                go_wp2
                go_meet
                exact ⟨_, g5, c5, rfl, HE.out, HBE.out⟩
          case rest =>
            obtain ⟨X9, g5, c5, rfl, hX9, hb9⟩ := hcut
            have HL9 := hide (box_step HLc.out hb9)
            have HI9 := hide (box_step HIc.out hb9)
            have HY9 := hide (box_step HYc.out hb9)
            have HB9 := hide (HBc.out.trans (hb9.mono HBc.out.size))
            have HX9 := hide hX9
            clear hX9 hb9 HLc HBc1 HIc HYc HXc HBc m1 x0
            have l0 := boxk_cell HL9.out 0 _ rfl
            have t0 := boxk_cell HX9.out 0 _ rfl
            have t1 := boxk_cell HX9.out 1 _ rfl
            have t2 := boxk_cell HX9.out 2 _ rfl
            have it0 := boxk_cell HI9.out 0 _ rfl
            go_wp2_with fail
            go_cut [49] from 45 to 48 (fun i49 wx => ∃ (B1 B2 B3 : Nat) (al : Option Addr) (cl' : Nat), i49 = .func (.func 113) #[] #[.pointer (some ⟨B1, 0, none⟩), .pointer (some ⟨B2, 0, none⟩), .pointer (some ⟨B3, 0, none⟩)] ∧ wx.heap[B1]? = some (.cells #[.slice al 0 cl'] 45 (0, 0)) ∧ wx.heap[B2]? = some (.cells #[.int .i64 0, .slice (some ⟨g5, 0, none⟩) 1 c5, .slice aB R.length cB] 30 (0, 0)) ∧ Below V.heap.size V wx ∧ wx.heap[W.heap.size]? = some (.cells #[.func (.yield l) #[] #[]] 183 (0, 0)))
            case first =>
              go_region_law (first
                | (rw [if_pos (by simp [Region.wanted])]; go_simp; go_at_call 76; refine (rowsFrom_any 0 _ _ _ _ _ _ _ _ _ _ _ _ _).mono ?_; rintro e w4 ⟨rfl, rfl⟩))
              all_goals
                go_wp2
                go_meet
                exact ⟨_, _, _, _, _, rfl, (rows_boxes _ _ _ _ _ _ _).1, (rows_boxes _ _ _ _ _ _ _).2.1, HB9.out.trans (((rows_boxes _ _ _ _ _ _ _).2.2.2).drew.mono HB9.out.size), box_step HY9.out ((rows_boxes _ _ _ _ _ _ _).2.2.2).drew⟩
            case rest =>
              obtain ⟨B1, B2, B3, al, cl', rfl, h1, h2, hbx, hyx⟩ := hcut
              have hWV : W.heap.size ≤ V.heap.size := bV.size
              have hVx := hbx.size
              have HYx := hide hyx
              clear HL9 HI9 HY9 HB9 HX9 l0 t0 t1 t2 it0 hyx
              go_wp2_with fail
              refine wpFirstBox 10 30 (lb := #[.pointer (some ⟨B1, 0, none⟩), .pointer (some ⟨B2, 0, none⟩), .pointer (some ⟨B3, 0, none⟩)]) (gf := 113) rfl (enters_of Try.func113 (by kernel_rfl) rfl) (rowsEmpty wc B1 B2 B3 al cl' ⟨0, some ⟨g5, 0, none⟩, 1, c5, aB, R.length, cB⟩ h1 h2) rfl
                (fun Wx => JJ Wx ∧ Wx.heap[W.heap.size]? = some (.cells #[.func (.yield l) #[] #[]] 183 (0, 0))) Jx ?hI ?hIx ?h0 ?assign ?body ?done ?stop
              case hI => exact (HJ.out.more (by omega)).and Ab.cells
              case hIx => exact HJx.out.more (by omega)
              case h0 => exact ⟨HJ.out.grown HJ0.out (grown_below' (bV.trans (hbx.mono bV.size)) none), HYx.out⟩
              case assign =>
                intro l' m x Wx K hi hK
                unfold Tri.val
                gi_wp2
                have hK2 := hK Wx.heap.size _ ((KeepsOthers.alloc _ _).from _) ⟨HJ.out.grown hi.1 (World.grownBy_alloc Wx _ none), box_step hi.2 (below_al Wx _)⟩ (boxk_new Wx #[.int .i64 x.r, .slice x.a1 x.n1 x.c1, .slice x.a2 x.n2 x.c2] 30)
                simp [Tri.val] at hK2
                exact hK2
              case body =>
                intro l' m x B Wx hl' hi hB
                have y0 := boxk_cell hi.2 0 _ rfl
                have z0 := boxk_cell hB 0 _ rfl
                have z1 := boxk_cell hB 1 _ rfl
                have z2 := boxk_cell hB 2 _ rfl
                obtain ⟨fn, tmps, assign, body, hy, hR⟩ := HY.out (m - 1) x Wx hi.1
                unfold Tri.val at hy ⊢
                gi_wp2
                refine ⟨(fun h => by cases h), ?_⟩
                refine RoundIn.mono (show RoundIn (Fence.wide.inRound l') _ _ _ _ _ _ _ _ _ from hR) ?_
                rintro e W3 ⟨rfl, hk, hx⟩
                gi_wp2
                exact ⟨⟨hk.size, fun k o hB h1 h2 => hk.same k o (by omega) h1 h2⟩, hx⟩
              case done => exact fun D Wx _ h _ _ => absurd trivial h
              case stop =>
                intro D Wx hD _ hx hK
                go_wp2
                refine ⟨by simp, .inl ⟨_, _, rfl, run_takeDeferred hK, ?_⟩⟩
                exact ⟨_, results_none rfl _ _ _, ⟨_, rfl⟩, .inr ⟨HZt.out, OwnFrom.putObj (s := ()) HJx.out _ hx (by omega) hK rfl⟩⟩
    · have HZf : Hid (¬ TakesI kd L M0 J) := fun ⟨j, hj, h⟩ => by
        have := HNo.out j (by rw [HN.out] at hj; omega)
        rw [this] at h; cases h
      have HJr : Hid (JJ wr) := HJ.out.grown HJ0.out (grown_below' (bV.trans (hbel.mono bV.size)) none)
      go_wp2
      exact ⟨_, results_none rfl _ _ _, ⟨_, rfl⟩, .inl ⟨HZf.out, HJr.out⟩⟩
end Go.Proofs.Ytfgigcdfmkfkjaa
/-
  Rows of elements that hold lists of their own: each element's lists lie in blocks between two numbers, and these rise from element to element (OwnD). What is changed between two numbers alone (Out).
-/
namespace Go.Proofs.Ytfgigcdfmkfkjaa
open Go.RowKit
set_option linter.unusedVariables false

theorem eAt_set {α : Type} [Inhabited α] {L : List α} {k : Nat} (h : k < L.length) (x : α) (i : Nat) : eAt (L.set k x) i = if i = k then x else eAt L i := by
  unfold eAt List.getD
  rw [List.getElem?_set]
  by_cases e : k = i
  · subst e; rw [if_pos rfl, if_pos rfl, if_pos h]; rfl
  · rw [if_neg e, if_neg (fun h => e h.symm)]
theorem map_len {α β : Type} {p : α → β} {K J : List α} (h : K.map p = J.map p) : K.length = J.length := by simpa using congrArg List.length h
theorem map_at {α β : Type} [Inhabited α] {p : α → β} {K J : List α} (h : K.map p = J.map p) {i : Nat} (hi : i < K.length) : p (eAt K i) = p (eAt J i) := by
  have hk : i < J.length := by rw [← map_len h]; exact hi
  have e : (K.map p)[i]? = (J.map p)[i]? := by rw [h]
  rw [List.getElem?_map, List.getElem?_map, List.getElem?_eq_getElem hi, List.getElem?_eq_getElem hk] at e
  simp only [Option.map_some, Option.some.injEq] at e
  rw [eAt_in hi, eAt_in hk]; exact e
theorem map_ext {α β : Type} [Inhabited α] {p : α → β} {K J : List α} (hl : K.length = J.length) (h : ∀ i, i < K.length → p (eAt K i) = p (eAt J i)) : K.map p = J.map p := by
  apply List.ext_getElem (by simpa using hl)
  intro i h1 h2
  have hi : i < K.length := by simpa using h1
  have := h i hi
  rw [eAt_in hi, eAt_in (by omega)] at this
  simpa using this
/-- the weights of the first j -/
def totW {α : Type} (wt : α → Nat) (K : List α) (j : Nat) : Nat := ((K.take j).map wt).sum
theorem totW_zero {α : Type} (wt : α → Nat) (K : List α) : totW wt K 0 = 0 := by simp [totW]
theorem totW_step {α : Type} [Inhabited α] {wt : α → Nat} {K : List α} {j : Nat} (h : j < K.length) : totW wt K (j + 1) = totW wt K j + wt (eAt K j) := by
  unfold totW; rw [List.take_succ_eq_append_getElem h, eAt_in h, List.map_append, List.sum_append]; simp only [List.map_cons, List.map_nil, List.sum_cons, List.sum_nil, Nat.add_zero]
theorem totW_end {α : Type} (wt : α → Nat) (K : List α) : totW wt K K.length = (K.map wt).sum := by unfold totW; rw [List.take_length]
theorem totW_le {α : Type} (wt : α → Nat) (K : List α) (j : Nat) : totW wt K j ≤ (K.map wt).sum := by
  unfold totW
  have : (K.map wt).sum = ((K.take j).map wt).sum + ((K.drop j).map wt).sum := by rw [← List.sum_append, ← List.map_append, List.take_append_drop]
  omega
theorem totW_pl {α β : Type} {wt : α → Nat} {p : α → β} {v : β → Nat} (hv : ∀ x, wt x = v (p x)) {K J : List α} (h : K.map p = J.map p) : (K.map wt).sum = (J.map wt).sum := by
  have e : wt = v ∘ p := funext hv
  rw [e, ← List.map_map, ← List.map_map, h]
theorem totW_mul {α : Type} {wt v : α → Nat} {c : Nat} (h : ∀ x, wt x ≤ c * (v x + 1)) : ∀ K : List α, (K.map wt).sum ≤ c * (K.length + (K.map v).sum)
  | [] => by simp
  | x :: r => by
    have := totW_mul h r
    have := h x
    simp only [List.map_cons, List.sum_cons, List.length_cons, Nat.mul_add] at *
    omega
theorem sum_mem {α : Type} [Inhabited α] (wt : α → Nat) {K : List α} {i : Nat} (hi : i < K.length) : wt (eAt K i) ≤ (K.map wt).sum := by
  have h1 := totW_step (wt := wt) hi
  have h2 := totW_le wt K (i + 1)
  omega

theorem ownsRow_sameD {w w' : World} {base n size : Nat} {T : TypeId} {v : Value} {xs : List Value} (h : w.ownsRow base T size v n xs) (hs : ∀ k, v.ownBlock = some k → w'.heap[k]? = w.heap[k]?) : w'.ownsRow base T size v n xs := by
  refine ⟨h.1, ?_⟩
  rcases h.2 with h2 | ⟨g, cap, cur, rfl, hb, hg, rest⟩
  · exact .inl h2
  · exact .inr ⟨g, cap, cur, rfl, hb, by rw [hs g rfl]; exact hg, rest⟩
theorem OwnK.same {α : Type} [Inhabited α] {T : TypeId} {f : α → List Value} {k : Nat} {w w' : World} {g cap : Nat} {L : List α} (h : OwnK T f k w g cap L) (hs : w'.heap[g]? = w.heap[g]?) : OwnK T f k w' g cap L :=
  ownsRow_sameD h (fun q hq => by simp only [Value.ownBlock, Option.some.injEq] at hq; rw [← hq]; exact hs)

/-- what an element's lists are, between two numbers -/
structure Inn {α : Type} (I : World → Nat → Nat → α → Prop) : Prop where
  wide : ∀ {w : World} {s e s' e' : Nat} {x : α}, I w s e x → s' ≤ s → e ≤ e' → I w s' e' x
  same : ∀ {w w' : World} {s e : Nat} {x : α}, I w s e x → (∀ q, s ≤ q → q < e → w'.heap[q]? = w.heap[q]?) → I w' s e x
/-- one list, of plain elements -/
def InK {α β : Type} [Inhabited β] (T : TypeId) (f : β → List Value) (k : Nat) (ad : α → Option Addr) (cp : α → Nat) (ls : α → List β) (w : World) (s e : Nat) (x : α) : Prop :=
  ∃ q, ad x = some ⟨q, 0, none⟩ ∧ s ≤ q ∧ q < e ∧ OwnK T f k w q (cp x) (ls x)
theorem inn_K {α β : Type} [Inhabited β] (T : TypeId) (f : β → List Value) (k : Nat) (ad : α → Option Addr) (cp : α → Nat) (ls : α → List β) : Inn (InK T f k ad cp ls) :=
  ⟨fun ⟨q, h1, h2, h3, h4⟩ hs he => ⟨q, h1, Nat.le_trans hs h2, Nat.lt_of_lt_of_le h3 he, h4⟩, fun ⟨q, h1, h2, h3, h4⟩ h => ⟨q, h1, h2, h3, h4.same (h q h2 h3)⟩⟩
/-- block g holds the elements K, at its head; the lists of the first m lie behind it, each element's behind those of the ones ahead, all ahead of 'hi' -/
structure OwnD {α : Type} [Inhabited α] (T : TypeId) (f : α → List Value) (k : Nat) (I : World → Nat → Nat → α → Prop) (w : World) (lo hi g cp : Nat) (K : List α) (m : Nat) : Prop where
  own : OwnK T f k w g cp K
  low : lo ≤ g
  top : hi ≤ w.heap.size
  lth : g < hi
  bnd : ∃ s : Nat → Nat, (∀ i, i ≤ m → g < s i ∧ s i ≤ hi) ∧ ∀ i, i < m → s i ≤ s (i + 1) ∧ I w (s i) (s (i + 1)) (eAt K i)
section
variable {α : Type} [Inhabited α] {T : TypeId} {f : α → List Value} {k : Nat} {I : World → Nat → Nat → α → Prop}
theorem OwnD.zero {w : World} {lo hi g cp : Nat} {K : List α} (h : OwnK T f k w g cp K) (hl : lo ≤ g) (ht : hi ≤ w.heap.size) (hg : g < hi) : OwnD T f k I w lo hi g cp K 0 :=
  ⟨h, hl, ht, hg, fun _ => g + 1, fun i _ => ⟨Nat.lt_succ_self _, hg⟩, fun i hi => absurd hi (Nat.not_lt_zero _)⟩
theorem OwnD.step (hI : Inn I) {w w1 w2 : World} {lo hi g cp m : Nat} {K : List α} {x : α} (h : OwnD T f k I w lo hi g cp K m) (hm : m < K.length) (hb : Below w.heap.size w w1) (hx : I w1 w.heap.size w1.heap.size x) (hg : w1.grownBy w2 (some g)) (ho : OwnK T f k w2 g cp (K.set m x)) :
    OwnD T f k I w2 lo w1.heap.size g cp (K.set m x) (m + 1) := by
  obtain ⟨s, hs, hin⟩ := h.bnd
  have hsz := hb.size
  have ht := h.top
  have hgl := h.lth
  refine ⟨ho, h.low, hg.size, by omega, fun i => if i ≤ m then s i else w1.heap.size, fun i hi => ?_, fun i hi => ?_⟩
  · by_cases e : i ≤ m
    · simp only [if_pos e]
      have := hs i e
      omega
    · simp only [if_neg e]
      omega
  · by_cases e : i = m
    · subst e
      have := hs i (Nat.le_refl _)
      simp only [if_pos (Nat.le_refl _), if_neg (Nat.not_succ_le_self _)]
      refine ⟨by omega, ?_⟩
      rw [eAt_set hm, if_pos rfl]
      refine hI.same (hI.wide hx (by omega) (Nat.le_refl _)) (fun q h1 h2 => hg.block q h2 (by simp; omega))
    · have hlt : i < m := by omega
      have h1 := hs i (by omega)
      have h2 := hs (i + 1) (by omega)
      have h3 := hin i hlt
      simp only [if_pos (Nat.le_of_lt hlt), if_pos (Nat.succ_le_of_lt hlt)]
      refine ⟨h3.1, ?_⟩
      rw [eAt_set hm, if_neg e]
      refine hI.same h3.2 (fun q hq1 hq2 => ?_)
      rw [hg.block q (by omega) (by simp; omega), hb.block q (by omega)]
theorem OwnD.keep (hI : Inn I) {w w' : World} {lo hi g cp m : Nat} {K : List α} (h : OwnD T f k I w lo hi g cp K m) (hsz : w.heap.size ≤ w'.heap.size) (hs : ∀ q, lo ≤ q → q < hi → w'.heap[q]? = w.heap[q]?) : OwnD T f k I w' lo hi g cp K m := by
  obtain ⟨s, h1, h2⟩ := h.bnd
  have hl := h.low
  refine ⟨h.own.same (hs g hl h.lth), h.low, Nat.le_trans h.top hsz, h.lth, s, h1, fun i hi => ⟨(h2 i hi).1, hI.same (h2 i hi).2 (fun q hq1 hq2 => hs q ?_ ?_)⟩⟩
  · have := h1 i (by omega); omega
  · have := h1 (i + 1) (by omega); omega
theorem OwnD.later (hI : Inn I) {w w' : World} {lo hi g cp m : Nat} {K : List α} (h : OwnD T f k I w lo hi g cp K m) (hb : Below w.heap.size w w') : OwnD T f k I w' lo hi g cp K m :=
  h.keep hI hb.size (fun q _ hq => hb.block q (Nat.lt_of_lt_of_le hq h.top))
theorem OwnD.grown (hI : Inn I) {w w' : World} {lo hi g cp m p : Nat} {K : List α} (h : OwnD T f k I w lo hi g cp K m) (hg : w.grownBy w' (some p)) (hp : p < lo ∨ hi ≤ p) : OwnD T f k I w' lo hi g cp K m :=
  h.keep hI hg.size (fun q h1 h2 => hg.block q (Nat.lt_of_lt_of_le h2 h.top) (by simp; omega))
theorem OwnD.weaken {w : World} {lo lo' hi hi' g cp m : Nat} {K : List α} (h : OwnD T f k I w lo hi g cp K m) (hl : lo' ≤ lo) (hh : hi ≤ hi') (ht : hi' ≤ w.heap.size) : OwnD T f k I w lo' hi' g cp K m := by
  obtain ⟨s, h1, h2⟩ := h.bnd
  exact ⟨h.own, Nat.le_trans hl h.low, ht, Nat.lt_of_lt_of_le h.lth hh, s, fun i hi => ⟨(h1 i hi).1, Nat.le_trans (h1 i hi).2 hh⟩, h2⟩
theorem OwnD.at {w : World} {lo hi g cp m : Nat} {K : List α} (h : OwnD T f k I w lo hi g cp K m) {i : Nat} (hi : i < m) : ∃ s e, I w s e (eAt K i) := by
  obtain ⟨s, h1, h2⟩ := h.bnd
  exact ⟨_, _, (h2 i hi).2⟩
end

/-- nothing is changed but between lo and hi -/
structure Out (lo hi : Nat) (w w' : World) : Prop where
  os : w'.os = w.os
  tape : w'.tape = w.tape
  output : w'.output = w.output
  size : w.heap.size ≤ w'.heap.size
  blk : ∀ q, q < w.heap.size → (q < lo ∨ hi ≤ q) → w'.heap[q]? = w.heap[q]?
theorem Out.refl (lo hi : Nat) (w : World) : Out lo hi w w := ⟨rfl, rfl, rfl, Nat.le_refl _, fun _ _ _ => rfl⟩
theorem Out.trans {lo hi : Nat} {a b c : World} (h : Out lo hi a b) (k : Out lo hi b c) : Out lo hi a c :=
  ⟨k.os.trans h.os, k.tape.trans h.tape, k.output.trans h.output, Nat.le_trans h.size k.size, fun q hq ho => (k.blk q (Nat.lt_of_lt_of_le hq h.size) ho).trans (h.blk q hq ho)⟩
theorem Out.grown {lo hi : Nat} {a b c : World} {g : Nat} (h : Out lo hi a b) (k : b.grownBy c (some g)) (hl : lo ≤ g) (hh : g < hi) : Out lo hi a c :=
  ⟨k.os.trans h.os, k.tape.trans h.tape, k.output.trans h.output, Nat.le_trans h.size k.size, fun q hq ho => (k.block q (Nat.lt_of_lt_of_le hq h.size) (by simp; omega)).trans (h.blk q hq ho)⟩
theorem Out.below {lo hi : Nat} {a b c : World} (h : Out lo hi a b) (k : Below b.heap.size b c) : Out lo hi a c :=
  ⟨k.os.trans h.os, k.tape.trans h.tape, k.output.trans h.output, Nat.le_trans h.size k.size, fun q hq ho => (k.block q (Nat.lt_of_lt_of_le hq h.size)).trans (h.blk q hq ho)⟩
theorem Out.wide {lo hi lo' hi' : Nat} {a b : World} (h : Out lo hi a b) (hl : lo' ≤ lo) (hh : hi ≤ hi') : Out lo' hi' a b :=
  ⟨h.os, h.tape, h.output, h.size, fun q hq ho => h.blk q hq (by omega)⟩
theorem Out.bel {lo hi : Nat} {a b : World} (h : Out lo hi a b) (hl : lo ≤ a.heap.size) : Below lo a b :=
  ⟨h.os, h.tape, h.output, h.size, fun q hq => h.blk q (Nat.lt_of_lt_of_le hq hl) (.inl hq)⟩
theorem mono_le {s : Nat → Nat} {n : Nat} (h : ∀ i, i < n → s i ≤ s (i + 1)) : ∀ {a b : Nat}, a ≤ b → b ≤ n → s a ≤ s b := by
  intro a b hab
  induction hab with
  | refl => intro _; exact Nat.le_refl _
  | step _ ih => intro hb; exact Nat.le_trans (ih (by omega)) (h _ (by omega))
/-- nothing is changed but block g and what lies between a and b -/
structure Out2 (g a b : Nat) (w w' : World) : Prop where
  os : w'.os = w.os
  tape : w'.tape = w.tape
  output : w'.output = w.output
  size : w.heap.size ≤ w'.heap.size
  blk : ∀ q, q < w.heap.size → q ≠ g → (q < a ∨ b ≤ q) → w'.heap[q]? = w.heap[q]?
theorem Out2.of {g a b : Nat} {w w' : World} (k : w.grownBy w' (some g)) : Out2 g a b w w' :=
  ⟨k.os, k.tape, k.output, k.size, fun q hq hne _ => k.block q hq (by simp; omega)⟩
theorem Out2.at {g a b : Nat} {w w1 w2 : World} (h : Out2 g a b w w1) (k : w1.grownBy w2 (some g)) : Out2 g a b w w2 :=
  ⟨k.os.trans h.os, k.tape.trans h.tape, k.output.trans h.output, Nat.le_trans h.size k.size, fun q hq hne ho => (k.block q (Nat.lt_of_lt_of_le hq h.size) (by simp; omega)).trans (h.blk q hq hne ho)⟩
theorem Out2.inner {g a b p : Nat} {w w1 w2 : World} (h : Out2 g a b w w1) (k : w1.grownBy w2 (some p)) (h1 : a ≤ p) (h2 : p < b) : Out2 g a b w w2 :=
  ⟨k.os.trans h.os, k.tape.trans h.tape, k.output.trans h.output, Nat.le_trans h.size k.size, fun q hq hne ho => (k.block q (Nat.lt_of_lt_of_le hq h.size) (by simp; omega)).trans (h.blk q hq hne ho)⟩
theorem Out2.below {g a b : Nat} {w w1 w2 : World} (h : Out2 g a b w w1) (k : Below w1.heap.size w1 w2) : Out2 g a b w w2 :=
  ⟨k.os.trans h.os, k.tape.trans h.tape, k.output.trans h.output, Nat.le_trans h.size k.size, fun q hq hne ho => (k.block q (Nat.lt_of_lt_of_le hq h.size)).trans (h.blk q hq hne ho)⟩
/-- a row on its way to be marked: from the j-th element on all is as it was -/
structure MkD {α : Type} [Inhabited α] (T : TypeId) (f : α → List Value) (k : Nat) (I : World → Nat → Nat → α → Prop) (w : World) (lo hi g cp : Nat) (K : List α) (s : Nat → Nat) (j : Nat) (W : World) : Prop where
  row : ∃ K', K'.length = K.length ∧ OwnK T f k W g cp K' ∧ ∀ i, j ≤ i → i < K.length → eAt K' i = eAt K i
  inn : ∀ i, j ≤ i → i < K.length → I W (s i) (s (i + 1)) (eAt K i)
  out : Out lo hi w W
theorem MkD.step {α : Type} [Inhabited α] {T : TypeId} {f : α → List Value} {k : Nat} {I : World → Nat → Nat → α → Prop} (hI : Inn I) {w W W2 : World} {lo hi g cp : Nat} {K : List α} {s : Nat → Nat} {j : Nat} (h : MkD T f k I w lo hi g cp K s j W)
    (hs : ∀ i, i ≤ K.length → g < s i ∧ s i ≤ hi) (hm : ∀ i, i < K.length → s i ≤ s (i + 1)) (hlo : lo ≤ g) (hg : g < hi) (ht : hi ≤ w.heap.size) (hj : j < K.length) (h2 : Out2 g (s j) (s (j + 1)) W W2)
    (hrow : ∃ K', K'.length = K.length ∧ OwnK T f k W2 g cp K' ∧ ∀ i, j + 1 ≤ i → i < K.length → eAt K' i = eAt K i) : MkD T f k I w lo hi g cp K s (j + 1) W2 := by
  have hsz := h.out.size
  have hj1 := hs j (by omega)
  have hj2 := hs (j + 1) (by omega)
  refine ⟨hrow, fun i h1 hi' => hI.same (h.inn i (by omega) hi') (fun q hq1 hq2 => ?_), ⟨h2.os.trans h.out.os, h2.tape.trans h.out.tape, h2.output.trans h.out.output, Nat.le_trans hsz h2.size, fun q hq ho => ?_⟩⟩
  · have a1 := mono_le hm h1 (Nat.le_of_lt hi')
    have a2 := hs i (by omega)
    have a3 := hs (i + 1) (by omega)
    exact h2.blk q (by omega) (by omega) (.inr (by omega))
  · rw [h2.blk q (by omega) (by omega) (by omega)]
    exact h.out.blk q hq ho
end Go.Proofs.Ytfgigcdfmkfkjaa
/-
  Rows of Pats, each with a list of its own: what a slice of them reads as, what came in.
-/
namespace Go.Proofs.Ytfgigcdfmkfkjaa
open Go.ChangeShapes Go.WideShapes Go.ChangeAt Go.RowKit Go.Joins Go.Deep
set_option linter.unusedVariables false

set_option maxRecDepth 100000

structure PE where
  kd : ByteArray
  a : Option Addr
  cap : Nat
  L : List A5
  nt : Bool
instance : Inhabited PE := ⟨⟨⟨#[]⟩, none, 0, [], false⟩⟩
def PE.zero : PE := ⟨⟨#[]⟩, none, 0, [], false⟩
/-- the same, plainly -/
structure PP where
  kd : ByteArray
  L : List A5
  nt : Bool
instance : Inhabited PP := ⟨⟨⟨#[]⟩, [], false⟩⟩
def PE.pl (x : PE) : PP := ⟨x.kd, x.L, x.nt⟩
theorem PE.pl_inj {x y : PE} (h : x.pl = y.pl) : x.kd = y.kd ∧ x.L = y.L ∧ x.nt = y.nt := by simpa [PE.pl] using h
def PE.cs (x : PE) : List Value := [.string x.kd, .slice x.a x.L.length x.cap, .bool x.nt]
theorem PE.len (x : PE) : x.cs.length = 3 := rfl
def PE.ok (x : PE) : Prop := x.kd.size ≤ maxLen ∧ x.L.length ≤ maxLen ∧ ∀ v ∈ x.L, v.fits
/-- how great one is -/
def PE.sz (x : PE) : Nat := x.kd.size + x.L.length
def PE.small (x : PE) : Prop := x.kd.size ≤ 1048576 ∧ x.L.length ≤ 1048576 ∧ ∀ v ∈ x.L, v.small
theorem PE.small_of {x y : PE} (h : x.small) (e : y.pl = x.pl) : y.small := by
  obtain ⟨e0, e1, e2⟩ := PE.pl_inj e
  unfold PE.small at *
  rw [e0, e1]; exact h
/-- what the slice at 'a' reads as -/
def RdPatS (w : World) (a : Option Addr) (J : List PE) : Prop := RdK PE.cs 3 w a J ∧ ∀ i, i < J.length → RdArg w (eAt J i).a (eAt J i).L
theorem RdPatS.cells {w : World} {a : Option Addr} {J : List PE} (h : RdPatS w a J) (hp : 0 < J.length) :
    ∃ b off, a = some ⟨b, off, none⟩ ∧ b < w.heap.size ∧ ∀ i, i < J.length → w.cell? ⟨b, off + i * 3, none⟩ = some (.string (eAt J i).kd) ∧ w.cell? ⟨b, off + i * 3 + 1, none⟩ = some (.slice (eAt J i).a (eAt J i).L.length (eAt J i).cap) ∧ w.cell? ⟨b, off + i * 3 + 2, none⟩ = some (.bool (eAt J i).nt) ∧ RdArg w (eAt J i).a (eAt J i).L := by
  obtain ⟨b, off, e, hb, hc⟩ := RdK.open PE.len (by decide) h.1 hp
  refine ⟨b, off, e, hb, fun i hi => ?_⟩
  have hc := hc i hi
  exact ⟨hc 0 _ rfl, hc 1 _ rfl, hc 2 _ rfl, h.2 i hi⟩
theorem RdPatS.below {w w' : World} {a : Option Addr} {J : List PE} (h : RdPatS w a J) (hb : Below w.heap.size w w') : RdPatS w' a J := ⟨h.1.below hb, fun i hi => (h.2 i hi).below hb⟩
theorem RdPatS.heap {w w' : World} {a : Option Addr} {J : List PE} (h : RdPatS w a J) (hb : w'.heap = w.heap) : RdPatS w' a J := ⟨h.1.heap hb, fun i hi => (h.2 i hi).heap hb⟩
theorem RdPatS.nil (w : World) (a : Option Addr) : RdPatS w a [] := ⟨RdK.nil _ _ _ _, fun i hi => absurd hi (Nat.not_lt_zero _)⟩
def IsPatS (w : World) (a : Option Addr) (len cap : Nat) (J : List PE) : Prop := J.length = len ∧ len ≤ maxLen ∧ RdPatS w a J ∧ ∀ x ∈ J, x.ok
abbrev InPat : World → Nat → Nat → PE → Prop := InK 157 A5.cs 5 PE.a PE.cap PE.L
theorem innPat : Inn (InPat) := inn_K _ _ _ _ _ _
abbrev OwnPatS (w : World) (lo hi g cp : Nat) (K : List PE) (m : Nat) : Prop := OwnD 79 PE.cs 3 InPat w lo hi g cp K m
theorem rdOwnPatS {w : World} {lo hi g cp : Nat} {K : List PE} (h : OwnPatS w lo hi g cp K K.length) : RdPatS w (some ⟨g, 0, none⟩) K :=
  ⟨OwnK.rd PE.len (by decide) h.own, fun i hi => by obtain ⟨s, e, q, h1, -, -, h4⟩ := h.at hi; rw [h1]; exact rdOwnArg h4⟩
theorem pat_cells' {H : Type} {enc : TypeId × Value → H} {w : World} {spare : Nat → Bool} {held : Bool} {n : Nat} {cs : List Value} {x : DataW H × List MemPlace}
    (h : DataW.trod enc Try.prog w 0 spare held n 139 cs = some x) : ∃ y : PE, cs = y.cs ∧ RdArg w y.a y.L ∧ y.ok := by
  obtain ⟨y0, y1, y2, m, -, hl, h0, h1, h2⟩ := trod_struct3 Try.underlying139 h
  have hc : Try.prog.cellsOf 139 = 3 := by kernel_rfl
  have e0 : Try.prog.cellsOf 9 = 1 := by kernel_rfl
  have e1 : Try.prog.cellsOf 137 = 1 := by kernel_rfl
  have e2 : Try.prog.cellsOf 4 = 1 := by kernel_rfl
  rw [hc] at hl
  match cs, hl with
  | [c0, c1, c2], _ =>
    simp only [e0, e1, e2, List.drop_zero, List.drop_succ_cons, List.take_succ_cons, List.take_zero] at h0 h1 h2
    obtain ⟨v0, q0, _, w0⟩ := DataW.trod_string Try.underlying9 h0
    obtain ⟨aa, len, cap, L, qL, hlen, hm, hr, hf⟩ := args_in h1
    obtain ⟨v2, q2, _⟩ := DataW.trod_bool Try.underlying4 h2
    simp only [List.cons.injEq, and_true] at q0 q2
    exact ⟨⟨v0, aa, cap, L, v2⟩, by rw [q0, q2, qL, ← hlen]; rfl, hr, w0, by rw [hlen]; exact hm, hf⟩
theorem pats_in {H : Type} {enc : TypeId × Value → H} {w : World} {spare : Nat → Bool} {held : Bool} {n : Nat} {v : Value} {x : DataW H × List MemPlace}
    (h : DataW.trod enc Try.prog w 0 spare held n 33 [v] = some x) : ∃ a len cap J, v = .slice a len cap ∧ IsPatS w a len cap J := by
  have hc : Try.prog.cellsOf 139 = 3 := by kernel_rfl
  rcases open_slice Try.underlying33 h with ⟨h0, _⟩ | ⟨a, len, cap, m, n', D, Pl, h0, hb, hl, hm, hmm, _, hx⟩
  · simp only [List.cons.injEq, and_true] at h0
    exact ⟨none, 0, 0, [], h0, rfl, Nat.zero_le _, RdPatS.nil _ _, fun v hv => by cases hv⟩
  · simp only [List.cons.injEq, and_true] at h0
    have hlm : len ≤ m := by rw [hmm]; split <;> omega
    obtain ⟨F, hF⟩ := choose_lt (α := PE) (n := len) (p := fun i v => w.cells? 0 (a.add (i * 3)) 3 = some v.cs ∧ RdArg w v.a v.L ∧ v.ok) (fun i hi => by
      obtain ⟨cs', h1, h2⟩ := hx i (by omega)
      rw [hc] at h1
      obtain ⟨y, rfl, hs⟩ := pat_cells' h2
      exact ⟨y, h1, hs⟩)
    refine ⟨some a, len, cap, (List.range len).map F, h0, by simp, Nat.le_trans hl hm, ⟨fun i hi => ?_, fun i hi => ?_⟩, fun v hv => ?_⟩
    · have hi2 : i < len := by simpa using hi
      obtain ⟨_, _, hcell⟩ := World.cells?_some (hF i hi2).1
      obtain ⟨b, off, spot⟩ := a
      have hs : spot = none := by
        obtain ⟨_, _, hcell0⟩ := World.cells?_some (hF 0 (by omega)).1
        have e := hcell0 0 (by omega)
        rw [add_add] at e
        simp only [PE.cs, List.getElem?_cons_zero] at e
        simpa [Addr.add] using World.cell?_spot e
      subst hs
      have ev : eAt ((List.range len).map F) i = F i := by rw [eAt_in hi]; simp
      rw [ev]
      refine ⟨b, off, rfl, fun j c hj => ?_⟩
      have hjk : j < 3 := by rw [← (F i).len]; exact (List.getElem?_eq_some_iff.1 hj).1
      have e := hcell j hjk
      rw [add_add, Addr.add_lit, hj] at e
      simpa [Nat.add_assoc] using e
    · have ev : eAt ((List.range len).map F) i = F i := by rw [eAt_in hi]; simp
      rw [ev]
      exact (hF i (by simpa using hi)).2.1
    · obtain ⟨i, hi, rfl⟩ := List.mem_map.1 hv
      exact (hF i (List.mem_range.1 hi)).2.2
theorem rowOf_set_PE (x : PE) : ∀ (L : List PE) (i : Nat), i < L.length →
    ((((rowOf PE.cs L).set (i * 3) (.string x.kd)).set (i * 3 + 1) (.slice x.a x.L.length x.cap)).set (i * 3 + 2) (.bool x.nt)) = rowOf PE.cs (L.set i x)
  | [], i, hi => absurd hi (Nat.not_lt_zero _)
  | y :: r, 0, hi => by
    rw [List.set_cons_zero, rowOf_cons, rowOf_cons]
    rfl
  | y :: r, i + 1, hi => by
    have ih := rowOf_set_PE x r i (by simpa using hi)
    rw [List.set_cons_succ, rowOf_cons, rowOf_cons, ← ih]
    simp only [Nat.succ_mul, PE.cs]
    rfl
theorem rowOf_set_PE_kd (v : ByteArray) : ∀ (L : List PE) (i : Nat), i < L.length → (rowOf PE.cs L).set (i * 3) (.string v) = rowOf PE.cs (L.set i { eAt L i with kd := v })
  | [], i, hi => absurd hi (Nat.not_lt_zero _)
  | y :: r, 0, hi => by
    rw [List.set_cons_zero, rowOf_cons, rowOf_cons]
    rfl
  | y :: r, i + 1, hi => by
    have ih := rowOf_set_PE_kd v r i (by simpa using hi)
    rw [List.set_cons_succ, rowOf_cons, rowOf_cons, show eAt (y :: r) (i + 1) = eAt r i from rfl, ← ih]
    simp only [Nat.succ_mul, PE.cs]
    rfl
theorem rowOf_set_PE_nt (v : Bool) : ∀ (L : List PE) (i : Nat), i < L.length → (rowOf PE.cs L).set (i * 3 + 2) (.bool v) = rowOf PE.cs (L.set i { eAt L i with nt := v })
  | [], i, hi => absurd hi (Nat.not_lt_zero _)
  | y :: r, 0, hi => by
    rw [List.set_cons_zero, rowOf_cons, rowOf_cons]
    rfl
  | y :: r, i + 1, hi => by
    have ih := rowOf_set_PE_nt v r i (by simpa using hi)
    rw [List.set_cons_succ, rowOf_cons, rowOf_cons, show eAt (y :: r) (i + 1) = eAt r i from rfl, ← ih]
    simp only [Nat.succ_mul, PE.cs]
    rfl
end Go.Proofs.Ytfgigcdfmkfkjaa
/-
  Rows of Exprs: what a slice of them reads as, what came in.
-/
namespace Go.Proofs.Ytfgigcdfmkfkjaa
open Go.ChangeShapes Go.WideShapes Go.ChangeAt Go.RowKit Go.Joins Go.Deep
set_option linter.unusedVariables false
set_option maxRecDepth 100000

structure X11 where
  Op : ByteArray
  L : A5
  R : A5
instance : Inhabited X11 := ⟨⟨⟨#[]⟩, default, default⟩⟩
def X11.cs (x : X11) : List Value := [.string x.Op, .int .i64 x.L.K, .string x.L.S, .int .i64 x.L.V.K, .int .i64 x.L.V.N, .string x.L.V.S, .int .i64 x.R.K, .string x.R.S, .int .i64 x.R.V.K, .int .i64 x.R.V.N, .string x.R.V.S]
theorem X11.len (x : X11) : x.cs.length = 11 := rfl
def X11.fits (x : X11) : Prop := x.Op.size ≤ maxLen ∧ x.L.fits ∧ x.R.fits
def X11.small (x : X11) : Prop := x.Op.size ≤ 1048576 ∧ x.L.small ∧ x.R.small
def X11.zero : X11 := ⟨⟨#[]⟩, A5.zero, A5.zero⟩
abbrev RdExpr (w : World) (a : Option Addr) (L : List X11) : Prop := RdK X11.cs 11 w a L
theorem RdExpr.cells {w : World} {a : Option Addr} {L : List X11} (h : RdExpr w a L) (hp : 0 < L.length) :
    ∃ b off, a = some ⟨b, off, none⟩ ∧ b < w.heap.size ∧ ∀ i, i < L.length → w.cell? ⟨b, off + i * 11, none⟩ = some (.string (eAt L i).Op) ∧ w.cell? ⟨b, off + i * 11 + 1, none⟩ = some (.int .i64 (eAt L i).L.K) ∧ w.cell? ⟨b, off + i * 11 + 2, none⟩ = some (.string (eAt L i).L.S) ∧ w.cell? ⟨b, off + i * 11 + 3, none⟩ = some (.int .i64 (eAt L i).L.V.K) ∧ w.cell? ⟨b, off + i * 11 + 4, none⟩ = some (.int .i64 (eAt L i).L.V.N) ∧ w.cell? ⟨b, off + i * 11 + 5, none⟩ = some (.string (eAt L i).L.V.S) ∧ w.cell? ⟨b, off + i * 11 + 6, none⟩ = some (.int .i64 (eAt L i).R.K) ∧ w.cell? ⟨b, off + i * 11 + 7, none⟩ = some (.string (eAt L i).R.S) ∧ w.cell? ⟨b, off + i * 11 + 8, none⟩ = some (.int .i64 (eAt L i).R.V.K) ∧ w.cell? ⟨b, off + i * 11 + 9, none⟩ = some (.int .i64 (eAt L i).R.V.N) ∧ w.cell? ⟨b, off + i * 11 + 10, none⟩ = some (.string (eAt L i).R.V.S) := by
  obtain ⟨b, off, e, hb, hc⟩ := RdK.open X11.len (by decide) h hp
  refine ⟨b, off, e, hb, fun i hi => ?_⟩
  have hc := hc i hi
  exact ⟨hc 0 _ rfl, hc 1 _ rfl, hc 2 _ rfl, hc 3 _ rfl, hc 4 _ rfl, hc 5 _ rfl, hc 6 _ rfl, hc 7 _ rfl, hc 8 _ rfl, hc 9 _ rfl, hc 10 _ rfl⟩
def IsExprs (w : World) (a : Option Addr) (len cap : Nat) (L : List X11) : Prop := L.length = len ∧ len ≤ maxLen ∧ RdExpr w a L ∧ ∀ x ∈ L, x.fits

theorem expr_cells {H : Type} {enc : TypeId × Value → H} {w : World} {base : Nat} {spare : Nat → Bool} {held : Bool} {n : Nat} {cs : List Value} {x : DataW H × List MemPlace}
    (h : DataW.trod enc Try.prog w base spare held n 219 cs = some x) : ∃ y : X11, cs = y.cs ∧ y.fits := by
  obtain ⟨y0, y1, y2, m, -, hl, h0, h1, h2⟩ := trod_struct3 Try.underlying219 h
  have hc : Try.prog.cellsOf 219 = 11 := by kernel_rfl
  have hi : Try.prog.cellsOf 9 = 1 := by kernel_rfl
  have ha : Try.prog.cellsOf 142 = 5 := by kernel_rfl
  rw [hc] at hl
  match cs, hl with
  | [c0, c1, c2, c3, c4, c5, c6, c7, c8, c9, c10], _ =>
    simp only [hi, ha, List.drop_zero, List.drop_succ_cons, List.take_succ_cons, List.take_zero] at h0 h1 h2
    obtain ⟨O, eO, _, wO⟩ := DataW.trod_string Try.underlying9 h0
    obtain ⟨l, el, fl⟩ := arg_cells h1
    obtain ⟨r, er, fr⟩ := arg_cells h2
    simp only [A5.cs, List.cons.injEq, and_true] at eO el er
    obtain ⟨e1, e2, e3, e4, e5⟩ := el
    obtain ⟨e6, e7, e8, e9, e10⟩ := er
    exact ⟨⟨O, l, r⟩, by rw [eO, e1, e2, e3, e4, e5, e6, e7, e8, e9, e10]; rfl, wO, fl, fr⟩

theorem expr_in {H : Type} {enc : TypeId × Value → H} {w : World} {base b0 : Nat} {spare : Nat → Bool} {held : Bool} {r : Reach} {v : Value} {d : DataW H} {p : List MemPlace}
    (hv : Value.okWide Try.prog w r b0 219 v) (h : DataW.Trod enc Try.prog w base spare held 219 v d p) : ∃ x : X11, v = .agg #[.string x.Op, .int .i64 x.L.K, .string x.L.S, .int .i64 x.L.V.K, .int .i64 x.L.V.N, .string x.L.V.S, .int .i64 x.R.K, .string x.R.S, .int .i64 x.R.V.K, .int .i64 x.R.V.N, .string x.R.V.S] ∧ x.fits := by
  obtain ⟨cs, rfl, hsz⟩ := okWide_struct Try.underlying219 hv
  obtain ⟨fuel, hf⟩ := h
  obtain ⟨y, e, hy⟩ := expr_cells hf
  refine ⟨y, ?_, hy⟩
  have e2 : cs.toList = y.cs := e
  rw [← Array.toArray_toList (xs := cs), e2]
  rfl
theorem exprs_in {H : Type} {enc : TypeId × Value → H} {w : World} {spare : Nat → Bool} {held : Bool} {n : Nat} {v : Value} {x : DataW H × List MemPlace}
    (h : DataW.trod enc Try.prog w 0 spare held n 146 [v] = some x) : ∃ a len cap L, v = .slice a len cap ∧ IsExprs w a len cap L := by
  have hc : Try.prog.cellsOf 219 = 11 := by kernel_rfl
  rcases open_slice Try.underlying146 h with ⟨h0, _⟩ | ⟨a, len, cap, m, n', D, Pl, h0, hb, hl, hm, hmm, _, hx⟩
  · simp only [List.cons.injEq, and_true] at h0
    exact ⟨none, 0, 0, [], h0, rfl, Nat.zero_le _, RdK.nil _ _ _ _, fun v hv => by cases hv⟩
  · simp only [List.cons.injEq, and_true] at h0
    have hlm : len ≤ m := by rw [hmm]; split <;> omega
    obtain ⟨F, hF⟩ := choose_lt (α := X11) (n := len) (p := fun i v => w.cells? 0 (a.add (i * 11)) 11 = some v.cs ∧ v.fits) (fun i hi => by
      obtain ⟨cs', h1, h2⟩ := hx i (by omega)
      rw [hc] at h1
      obtain ⟨y, rfl, hs⟩ := expr_cells h2
      exact ⟨y, h1, hs⟩)
    refine ⟨some a, len, cap, (List.range len).map F, h0, by simp, Nat.le_trans hl hm, fun i hi => ?_, fun v hv => ?_⟩
    · have hi2 : i < len := by simpa using hi
      obtain ⟨_, _, hcell⟩ := World.cells?_some (hF i hi2).1
      obtain ⟨b, off, spot⟩ := a
      have hs : spot = none := by
        obtain ⟨_, _, hcell0⟩ := World.cells?_some (hF 0 (by omega)).1
        have e := hcell0 0 (by omega)
        rw [add_add] at e
        simp only [X11.cs, List.getElem?_cons_zero] at e
        simpa [Addr.add] using World.cell?_spot e
      subst hs
      have ev : eAt ((List.range len).map F) i = F i := by rw [eAt_in hi]; simp
      rw [ev]
      refine ⟨b, off, rfl, fun j c hj => ?_⟩
      have hjk : j < 11 := by rw [← (F i).len]; exact (List.getElem?_eq_some_iff.1 hj).1
      have e := hcell j hjk
      rw [add_add, Addr.add_lit, hj] at e
      simpa [Nat.add_assoc] using e
    · obtain ⟨i, hi, rfl⟩ := List.mem_map.1 hv
      exact (hF i (List.mem_range.1 hi)).2
theorem rowOf_set_X11 (x : X11) : ∀ (L : List X11) (i : Nat), i < L.length →
    ((((((((((((rowOf X11.cs L).set (i * 11) (.string x.Op)).set (i * 11 + 1) (.int .i64 x.L.K)).set (i * 11 + 2) (.string x.L.S)).set (i * 11 + 3) (.int .i64 x.L.V.K)).set (i * 11 + 4) (.int .i64 x.L.V.N)).set (i * 11 + 5) (.string x.L.V.S)).set (i * 11 + 6) (.int .i64 x.R.K)).set (i * 11 + 7) (.string x.R.S)).set (i * 11 + 8) (.int .i64 x.R.V.K)).set (i * 11 + 9) (.int .i64 x.R.V.N)).set (i * 11 + 10) (.string x.R.V.S)) = rowOf X11.cs (L.set i x)
  | [], i, hi => absurd hi (Nat.not_lt_zero _)
  | y :: r, 0, hi => by
    rw [List.set_cons_zero, rowOf_cons, rowOf_cons]
    rfl
  | y :: r, i + 1, hi => by
    have ih := rowOf_set_X11 x r i (by simpa using hi)
    rw [List.set_cons_succ, rowOf_cons, rowOf_cons, ← ih]
    simp only [Nat.succ_mul, X11.cs]
    rfl
abbrev OwnExpr (w : World) (g cap : Nat) (L : List X11) : Prop := OwnK 206 X11.cs 11 w g cap L
theorem rdOwnExpr {w : World} {g cap : Nat} {L : List X11} (h : OwnExpr w g cap L) : RdExpr w (some ⟨g, 0, none⟩) L := OwnK.rd X11.len (by decide) h
end Go.Proofs.Ytfgigcdfmkfkjaa
/-
  An act as it came in.
-/
namespace Go.Proofs.Ytfgigcdfmkfkjaa
open Go.ChangeShapes Go.WideShapes Go.ChangeAt Go.RowKit Go.Joins Go.Deep
set_option linter.unusedVariables false
set_option maxRecDepth 100000

theorem array5 {α : Type} {cs : Array α} (h : cs.size = 5) : ∃ c0 c1 c2 c3 c4, cs = #[c0, c1, c2, c3, c4] := by
  obtain ⟨l⟩ := cs
  match l, h with
  | [c0, c1, c2, c3, c4], _ => exact ⟨c0, c1, c2, c3, c4, rfl⟩
theorem trod_struct5 {H : Type} {enc : TypeId × Value → H} {P : Program} {w : World} {base : Nat} {spare : Nat → Bool} {held : Bool} {t : TypeId} {f0 f1 f2 f3 f4 : Field} {fuel : Nat} {cs : List Value} {x : DataW H × List MemPlace} (ht : P.underlying t = some (.struct #[f0, f1, f2, f3, f4])) (h : DataW.trod enc P w base spare held fuel t cs = some x) :
    ∃ y0 y1 y2 y3 y4 n, cs.length = P.cellsOf t ∧ DataW.trod enc P w base spare held n f0.type ((cs.drop f0.offset).take (P.cellsOf f0.type)) = some y0 ∧
      DataW.trod enc P w base spare held n f1.type ((cs.drop f1.offset).take (P.cellsOf f1.type)) = some y1 ∧ DataW.trod enc P w base spare held n f2.type ((cs.drop f2.offset).take (P.cellsOf f2.type)) = some y2 ∧
      DataW.trod enc P w base spare held n f3.type ((cs.drop f3.offset).take (P.cellsOf f3.type)) = some y3 ∧ DataW.trod enc P w base spare held n f4.type ((cs.drop f4.offset).take (P.cellsOf f4.type)) = some y4 := by
  obtain ⟨xs, n, _, rfl, hl, hlen, hf⟩ := DataW.trod_struct ht h
  match xs, hlen with
  | [y0, y1, y2, y3, y4], _ => exact ⟨y0, y1, y2, y3, y4, n, hl, by simpa using hf 0 f0 rfl, by simpa using hf 1 f1 rfl, by simpa using hf 2 f2 rfl, by simpa using hf 3 f3 rfl, by simpa using hf 4 f4 rfl⟩
theorem act_in {H : Type} {enc : TypeId × Value → H} {w : World} {b0 : Nat} {spare : Nat → Bool} {held : Bool} {r : Reach} {v : Value} {d : DataW H} {p : List MemPlace}
    (hv : Value.okWide Try.prog w r b0 148 v) (h : DataW.Trod enc Try.prog w 0 spare held 148 v d p) :
    ∃ (K : Int) (nm : ByteArray) (a : Option Addr) (len cap : Nat) (L : List X11) (N : Int) (un : ByteArray), v = .agg #[.int .i64 K, .string nm, .slice a len cap, .int .i64 N, .string un] ∧ nm.size ≤ maxLen ∧ un.size ≤ maxLen ∧ IsExprs w a len cap L := by
  obtain ⟨cs, rfl, hsz⟩ := okWide_struct Try.underlying148 hv
  obtain ⟨c0, c1, c2, c3, c4, rfl⟩ := array5 (hsz.trans (by kernel_rfl))
  obtain ⟨fuel, hf⟩ := h
  obtain ⟨y0, y1, y2, y3, y4, n, _, h0, h1, h2, h3, h4⟩ := trod_struct5 Try.underlying148 hf
  have e0 : Try.prog.cellsOf 3 = 1 := by kernel_rfl
  have e1 : Try.prog.cellsOf 9 = 1 := by kernel_rfl
  have e2 : Try.prog.cellsOf 146 = 1 := by kernel_rfl
  simp only [e0, e1, e2, Value.cells, List.drop_zero, List.drop_succ_cons, List.take_succ_cons, List.take_zero] at h0 h1 h2 h3 h4
  obtain ⟨K, eK, _, _⟩ := DataW.trod_int Try.underlying3 h0
  obtain ⟨S, eS, _, wS⟩ := DataW.trod_string Try.underlying9 h1
  obtain ⟨N, eN, _, _⟩ := DataW.trod_int Try.underlying3 h3
  obtain ⟨U, eU, _, wU⟩ := DataW.trod_string Try.underlying9 h4
  obtain ⟨a, len, cap, L, eL, wL⟩ := exprs_in h2
  simp only [List.cons.injEq, and_true] at eK eS eN eU
  exact ⟨K, S, a, len, cap, L, N, U, by rw [eK, eS, eN, eU, eL], wS, wU, wL⟩
end Go.Proofs.Ytfgigcdfmkfkjaa
/-
  Rows of Acts, each with a list of its own: what a slice of them reads as, what came in.
-/
namespace Go.Proofs.Ytfgigcdfmkfkjaa
open Go.ChangeShapes Go.WideShapes Go.ChangeAt Go.RowKit Go.Joins Go.Deep
set_option linter.unusedVariables false

set_option maxRecDepth 100000

structure QE where
  K : Int
  nm : ByteArray
  a : Option Addr
  cap : Nat
  L : List X11
  N : Int
  un : ByteArray
instance : Inhabited QE := ⟨⟨0, ⟨#[]⟩, none, 0, [], 0, ⟨#[]⟩⟩⟩
def QE.zero : QE := ⟨0, ⟨#[]⟩, none, 0, [], 0, ⟨#[]⟩⟩
/-- the same, plainly -/
structure QP where
  K : Int
  nm : ByteArray
  L : List X11
  N : Int
  un : ByteArray
instance : Inhabited QP := ⟨⟨0, ⟨#[]⟩, [], 0, ⟨#[]⟩⟩⟩
def QE.pl (x : QE) : QP := ⟨x.K, x.nm, x.L, x.N, x.un⟩
theorem QE.pl_inj {x y : QE} (h : x.pl = y.pl) : x.K = y.K ∧ x.nm = y.nm ∧ x.L = y.L ∧ x.N = y.N ∧ x.un = y.un := by simpa [QE.pl] using h
def QE.cs (x : QE) : List Value := [.int .i64 x.K, .string x.nm, .slice x.a x.L.length x.cap, .int .i64 x.N, .string x.un]
theorem QE.len (x : QE) : x.cs.length = 5 := rfl
def QE.ok (x : QE) : Prop := x.nm.size ≤ maxLen ∧ x.un.size ≤ maxLen ∧ x.L.length ≤ maxLen ∧ ∀ v ∈ x.L, v.fits
/-- how great one is -/
def QE.sz (x : QE) : Nat := x.nm.size + x.L.length + x.un.size
def QE.small (x : QE) : Prop := x.nm.size ≤ 1048576 ∧ x.un.size ≤ 1048576 ∧ x.L.length ≤ 1048576 ∧ ∀ v ∈ x.L, v.small
theorem QE.small_of {x y : QE} (h : x.small) (e : y.pl = x.pl) : y.small := by
  obtain ⟨e0, e1, e2, e3, e4⟩ := QE.pl_inj e
  unfold QE.small at *
  rw [e1, e2, e4]; exact h
/-- what the slice at 'a' reads as -/
def RdActS (w : World) (a : Option Addr) (J : List QE) : Prop := RdK QE.cs 5 w a J ∧ ∀ i, i < J.length → RdExpr w (eAt J i).a (eAt J i).L
theorem RdActS.cells {w : World} {a : Option Addr} {J : List QE} (h : RdActS w a J) (hp : 0 < J.length) :
    ∃ b off, a = some ⟨b, off, none⟩ ∧ b < w.heap.size ∧ ∀ i, i < J.length → w.cell? ⟨b, off + i * 5, none⟩ = some (.int .i64 (eAt J i).K) ∧ w.cell? ⟨b, off + i * 5 + 1, none⟩ = some (.string (eAt J i).nm) ∧ w.cell? ⟨b, off + i * 5 + 2, none⟩ = some (.slice (eAt J i).a (eAt J i).L.length (eAt J i).cap) ∧ w.cell? ⟨b, off + i * 5 + 3, none⟩ = some (.int .i64 (eAt J i).N) ∧ w.cell? ⟨b, off + i * 5 + 4, none⟩ = some (.string (eAt J i).un) ∧ RdExpr w (eAt J i).a (eAt J i).L := by
  obtain ⟨b, off, e, hb, hc⟩ := RdK.open QE.len (by decide) h.1 hp
  refine ⟨b, off, e, hb, fun i hi => ?_⟩
  have hc := hc i hi
  exact ⟨hc 0 _ rfl, hc 1 _ rfl, hc 2 _ rfl, hc 3 _ rfl, hc 4 _ rfl, h.2 i hi⟩
theorem RdActS.below {w w' : World} {a : Option Addr} {J : List QE} (h : RdActS w a J) (hb : Below w.heap.size w w') : RdActS w' a J := ⟨h.1.below hb, fun i hi => (h.2 i hi).below hb⟩
theorem RdActS.heap {w w' : World} {a : Option Addr} {J : List QE} (h : RdActS w a J) (hb : w'.heap = w.heap) : RdActS w' a J := ⟨h.1.heap hb, fun i hi => (h.2 i hi).heap hb⟩
theorem RdActS.nil (w : World) (a : Option Addr) : RdActS w a [] := ⟨RdK.nil _ _ _ _, fun i hi => absurd hi (Nat.not_lt_zero _)⟩
def IsActS (w : World) (a : Option Addr) (len cap : Nat) (J : List QE) : Prop := J.length = len ∧ len ≤ maxLen ∧ RdActS w a J ∧ ∀ x ∈ J, x.ok
abbrev InAct : World → Nat → Nat → QE → Prop := InK 206 X11.cs 11 QE.a QE.cap QE.L
theorem innAct : Inn (InAct) := inn_K _ _ _ _ _ _
abbrev OwnActS (w : World) (lo hi g cp : Nat) (K : List QE) (m : Nat) : Prop := OwnD 166 QE.cs 5 InAct w lo hi g cp K m
theorem rdOwnActS {w : World} {lo hi g cp : Nat} {K : List QE} (h : OwnActS w lo hi g cp K K.length) : RdActS w (some ⟨g, 0, none⟩) K :=
  ⟨OwnK.rd QE.len (by decide) h.own, fun i hi => by obtain ⟨s, e, q, h1, -, -, h4⟩ := h.at hi; rw [h1]; exact rdOwnExpr h4⟩
theorem act_cells' {H : Type} {enc : TypeId × Value → H} {w : World} {spare : Nat → Bool} {held : Bool} {n : Nat} {cs : List Value} {x : DataW H × List MemPlace}
    (h : DataW.trod enc Try.prog w 0 spare held n 148 cs = some x) : ∃ y : QE, cs = y.cs ∧ RdExpr w y.a y.L ∧ y.ok := by
  obtain ⟨y0, y1, y2, y3, y4, m, hl, h0, h1, h2, h3, h4⟩ := trod_struct5 Try.underlying148 h
  have hc : Try.prog.cellsOf 148 = 5 := by kernel_rfl
  have e0 : Try.prog.cellsOf 3 = 1 := by kernel_rfl
  have e1 : Try.prog.cellsOf 9 = 1 := by kernel_rfl
  have e2 : Try.prog.cellsOf 146 = 1 := by kernel_rfl
  rw [hc] at hl
  match cs, hl with
  | [c0, c1, c2, c3, c4], _ =>
    simp only [e0, e1, e2, List.drop_zero, List.drop_succ_cons, List.take_succ_cons, List.take_zero] at h0 h1 h2 h3 h4
    obtain ⟨v0, q0, _, _⟩ := DataW.trod_int Try.underlying3 h0
    obtain ⟨v1, q1, _, w1⟩ := DataW.trod_string Try.underlying9 h1
    obtain ⟨aa, len, cap, L, qL, hlen, hm, hr, hf⟩ := exprs_in h2
    obtain ⟨v3, q3, _, _⟩ := DataW.trod_int Try.underlying3 h3
    obtain ⟨v4, q4, _, w4⟩ := DataW.trod_string Try.underlying9 h4
    simp only [List.cons.injEq, and_true] at q0 q1 q3 q4
    exact ⟨⟨v0, v1, aa, cap, L, v3, v4⟩, by rw [q0, q1, q3, q4, qL, ← hlen]; rfl, hr, w1, w4, by rw [hlen]; exact hm, hf⟩
theorem acts_in {H : Type} {enc : TypeId × Value → H} {w : World} {spare : Nat → Bool} {held : Bool} {n : Nat} {v : Value} {x : DataW H × List MemPlace}
    (h : DataW.trod enc Try.prog w 0 spare held n 35 [v] = some x) : ∃ a len cap J, v = .slice a len cap ∧ IsActS w a len cap J := by
  have hc : Try.prog.cellsOf 148 = 5 := by kernel_rfl
  rcases open_slice Try.underlying35 h with ⟨h0, _⟩ | ⟨a, len, cap, m, n', D, Pl, h0, hb, hl, hm, hmm, _, hx⟩
  · simp only [List.cons.injEq, and_true] at h0
    exact ⟨none, 0, 0, [], h0, rfl, Nat.zero_le _, RdActS.nil _ _, fun v hv => by cases hv⟩
  · simp only [List.cons.injEq, and_true] at h0
    have hlm : len ≤ m := by rw [hmm]; split <;> omega
    obtain ⟨F, hF⟩ := choose_lt (α := QE) (n := len) (p := fun i v => w.cells? 0 (a.add (i * 5)) 5 = some v.cs ∧ RdExpr w v.a v.L ∧ v.ok) (fun i hi => by
      obtain ⟨cs', h1, h2⟩ := hx i (by omega)
      rw [hc] at h1
      obtain ⟨y, rfl, hs⟩ := act_cells' h2
      exact ⟨y, h1, hs⟩)
    refine ⟨some a, len, cap, (List.range len).map F, h0, by simp, Nat.le_trans hl hm, ⟨fun i hi => ?_, fun i hi => ?_⟩, fun v hv => ?_⟩
    · have hi2 : i < len := by simpa using hi
      obtain ⟨_, _, hcell⟩ := World.cells?_some (hF i hi2).1
      obtain ⟨b, off, spot⟩ := a
      have hs : spot = none := by
        obtain ⟨_, _, hcell0⟩ := World.cells?_some (hF 0 (by omega)).1
        have e := hcell0 0 (by omega)
        rw [add_add] at e
        simp only [QE.cs, List.getElem?_cons_zero] at e
        simpa [Addr.add] using World.cell?_spot e
      subst hs
      have ev : eAt ((List.range len).map F) i = F i := by rw [eAt_in hi]; simp
      rw [ev]
      refine ⟨b, off, rfl, fun j c hj => ?_⟩
      have hjk : j < 5 := by rw [← (F i).len]; exact (List.getElem?_eq_some_iff.1 hj).1
      have e := hcell j hjk
      rw [add_add, Addr.add_lit, hj] at e
      simpa [Nat.add_assoc] using e
    · have ev : eAt ((List.range len).map F) i = F i := by rw [eAt_in hi]; simp
      rw [ev]
      exact (hF i (by simpa using hi)).2.1
    · obtain ⟨i, hi, rfl⟩ := List.mem_map.1 hv
      exact (hF i (List.mem_range.1 hi)).2.2
theorem rowOf_set_QE (x : QE) : ∀ (L : List QE) (i : Nat), i < L.length →
    ((((((rowOf QE.cs L).set (i * 5) (.int .i64 x.K)).set (i * 5 + 1) (.string x.nm)).set (i * 5 + 2) (.slice x.a x.L.length x.cap)).set (i * 5 + 3) (.int .i64 x.N)).set (i * 5 + 4) (.string x.un)) = rowOf QE.cs (L.set i x)
  | [], i, hi => absurd hi (Nat.not_lt_zero _)
  | y :: r, 0, hi => by
    rw [List.set_cons_zero, rowOf_cons, rowOf_cons]
    rfl
  | y :: r, i + 1, hi => by
    have ih := rowOf_set_QE x r i (by simpa using hi)
    rw [List.set_cons_succ, rowOf_cons, rowOf_cons, ← ih]
    simp only [Nat.succ_mul, QE.cs]
    rfl
theorem rowOf_set_QE_K (v : Int) : ∀ (L : List QE) (i : Nat), i < L.length → (rowOf QE.cs L).set (i * 5) (.int .i64 v) = rowOf QE.cs (L.set i { eAt L i with K := v })
  | [], i, hi => absurd hi (Nat.not_lt_zero _)
  | y :: r, 0, hi => by
    rw [List.set_cons_zero, rowOf_cons, rowOf_cons]
    rfl
  | y :: r, i + 1, hi => by
    have ih := rowOf_set_QE_K v r i (by simpa using hi)
    rw [List.set_cons_succ, rowOf_cons, rowOf_cons, show eAt (y :: r) (i + 1) = eAt r i from rfl, ← ih]
    simp only [Nat.succ_mul, QE.cs]
    rfl
theorem rowOf_set_QE_nm (v : ByteArray) : ∀ (L : List QE) (i : Nat), i < L.length → (rowOf QE.cs L).set (i * 5 + 1) (.string v) = rowOf QE.cs (L.set i { eAt L i with nm := v })
  | [], i, hi => absurd hi (Nat.not_lt_zero _)
  | y :: r, 0, hi => by
    rw [List.set_cons_zero, rowOf_cons, rowOf_cons]
    rfl
  | y :: r, i + 1, hi => by
    have ih := rowOf_set_QE_nm v r i (by simpa using hi)
    rw [List.set_cons_succ, rowOf_cons, rowOf_cons, show eAt (y :: r) (i + 1) = eAt r i from rfl, ← ih]
    simp only [Nat.succ_mul, QE.cs]
    rfl
theorem rowOf_set_QE_N (v : Int) : ∀ (L : List QE) (i : Nat), i < L.length → (rowOf QE.cs L).set (i * 5 + 3) (.int .i64 v) = rowOf QE.cs (L.set i { eAt L i with N := v })
  | [], i, hi => absurd hi (Nat.not_lt_zero _)
  | y :: r, 0, hi => by
    rw [List.set_cons_zero, rowOf_cons, rowOf_cons]
    rfl
  | y :: r, i + 1, hi => by
    have ih := rowOf_set_QE_N v r i (by simpa using hi)
    rw [List.set_cons_succ, rowOf_cons, rowOf_cons, show eAt (y :: r) (i + 1) = eAt r i from rfl, ← ih]
    simp only [Nat.succ_mul, QE.cs]
    rfl
theorem rowOf_set_QE_un (v : ByteArray) : ∀ (L : List QE) (i : Nat), i < L.length → (rowOf QE.cs L).set (i * 5 + 4) (.string v) = rowOf QE.cs (L.set i { eAt L i with un := v })
  | [], i, hi => absurd hi (Nat.not_lt_zero _)
  | y :: r, 0, hi => by
    rw [List.set_cons_zero, rowOf_cons, rowOf_cons]
    rfl
  | y :: r, i + 1, hi => by
    have ih := rowOf_set_QE_un v r i (by simpa using hi)
    rw [List.set_cons_succ, rowOf_cons, rowOf_cons, show eAt (y :: r) (i + 1) = eAt r i from rfl, ← ih]
    simp only [Nat.succ_mul, QE.cs]
    rfl
end Go.Proofs.Ytfgigcdfmkfkjaa
/-
  Rows of Conds: what a slice of them reads as, what came in.
-/
namespace Go.Proofs.Ytfgigcdfmkfkjaa
open Go.ChangeShapes Go.WideShapes Go.ChangeAt Go.RowKit Go.Joins Go.Deep
set_option linter.unusedVariables false
set_option maxRecDepth 100000

structure C11 where
  Op : Int
  L : A5
  R : A5
instance : Inhabited C11 := ⟨⟨0, default, default⟩⟩
def C11.cs (x : C11) : List Value := [.int .i64 x.Op, .int .i64 x.L.K, .string x.L.S, .int .i64 x.L.V.K, .int .i64 x.L.V.N, .string x.L.V.S, .int .i64 x.R.K, .string x.R.S, .int .i64 x.R.V.K, .int .i64 x.R.V.N, .string x.R.V.S]
theorem C11.len (x : C11) : x.cs.length = 11 := rfl
def C11.fits (x : C11) : Prop := x.L.fits ∧ x.R.fits
def C11.small (x : C11) : Prop := x.L.small ∧ x.R.small
def C11.zero : C11 := ⟨0, A5.zero, A5.zero⟩
abbrev RdCond (w : World) (a : Option Addr) (L : List C11) : Prop := RdK C11.cs 11 w a L
theorem RdCond.cells {w : World} {a : Option Addr} {L : List C11} (h : RdCond w a L) (hp : 0 < L.length) :
    ∃ b off, a = some ⟨b, off, none⟩ ∧ b < w.heap.size ∧ ∀ i, i < L.length → w.cell? ⟨b, off + i * 11, none⟩ = some (.int .i64 (eAt L i).Op) ∧ w.cell? ⟨b, off + i * 11 + 1, none⟩ = some (.int .i64 (eAt L i).L.K) ∧ w.cell? ⟨b, off + i * 11 + 2, none⟩ = some (.string (eAt L i).L.S) ∧ w.cell? ⟨b, off + i * 11 + 3, none⟩ = some (.int .i64 (eAt L i).L.V.K) ∧ w.cell? ⟨b, off + i * 11 + 4, none⟩ = some (.int .i64 (eAt L i).L.V.N) ∧ w.cell? ⟨b, off + i * 11 + 5, none⟩ = some (.string (eAt L i).L.V.S) ∧ w.cell? ⟨b, off + i * 11 + 6, none⟩ = some (.int .i64 (eAt L i).R.K) ∧ w.cell? ⟨b, off + i * 11 + 7, none⟩ = some (.string (eAt L i).R.S) ∧ w.cell? ⟨b, off + i * 11 + 8, none⟩ = some (.int .i64 (eAt L i).R.V.K) ∧ w.cell? ⟨b, off + i * 11 + 9, none⟩ = some (.int .i64 (eAt L i).R.V.N) ∧ w.cell? ⟨b, off + i * 11 + 10, none⟩ = some (.string (eAt L i).R.V.S) := by
  obtain ⟨b, off, e, hb, hc⟩ := RdK.open C11.len (by decide) h hp
  refine ⟨b, off, e, hb, fun i hi => ?_⟩
  have hc := hc i hi
  exact ⟨hc 0 _ rfl, hc 1 _ rfl, hc 2 _ rfl, hc 3 _ rfl, hc 4 _ rfl, hc 5 _ rfl, hc 6 _ rfl, hc 7 _ rfl, hc 8 _ rfl, hc 9 _ rfl, hc 10 _ rfl⟩
def IsConds (w : World) (a : Option Addr) (len cap : Nat) (L : List C11) : Prop := L.length = len ∧ len ≤ maxLen ∧ RdCond w a L ∧ ∀ x ∈ L, x.fits

theorem cond_cells {H : Type} {enc : TypeId × Value → H} {w : World} {base : Nat} {spare : Nat → Bool} {held : Bool} {n : Nat} {cs : List Value} {x : DataW H × List MemPlace}
    (h : DataW.trod enc Try.prog w base spare held n 144 cs = some x) : ∃ y : C11, cs = y.cs ∧ y.fits := by
  obtain ⟨y0, y1, y2, m, -, hl, h0, h1, h2⟩ := trod_struct3 Try.underlying144 h
  have hc : Try.prog.cellsOf 144 = 11 := by kernel_rfl
  have hi : Try.prog.cellsOf 3 = 1 := by kernel_rfl
  have ha : Try.prog.cellsOf 142 = 5 := by kernel_rfl
  rw [hc] at hl
  match cs, hl with
  | [c0, c1, c2, c3, c4, c5, c6, c7, c8, c9, c10], _ =>
    simp only [hi, ha, List.drop_zero, List.drop_succ_cons, List.take_succ_cons, List.take_zero] at h0 h1 h2
    obtain ⟨O, eO, _, _⟩ := DataW.trod_int Try.underlying3 h0
    obtain ⟨l, el, fl⟩ := arg_cells h1
    obtain ⟨r, er, fr⟩ := arg_cells h2
    simp only [A5.cs, List.cons.injEq, and_true] at eO el er
    obtain ⟨e1, e2, e3, e4, e5⟩ := el
    obtain ⟨e6, e7, e8, e9, e10⟩ := er
    exact ⟨⟨O, l, r⟩, by rw [eO, e1, e2, e3, e4, e5, e6, e7, e8, e9, e10]; rfl, fl, fr⟩

theorem cond_in {H : Type} {enc : TypeId × Value → H} {w : World} {base b0 : Nat} {spare : Nat → Bool} {held : Bool} {r : Reach} {v : Value} {d : DataW H} {p : List MemPlace}
    (hv : Value.okWide Try.prog w r b0 144 v) (h : DataW.Trod enc Try.prog w base spare held 144 v d p) : ∃ x : C11, v = .agg #[.int .i64 x.Op, .int .i64 x.L.K, .string x.L.S, .int .i64 x.L.V.K, .int .i64 x.L.V.N, .string x.L.V.S, .int .i64 x.R.K, .string x.R.S, .int .i64 x.R.V.K, .int .i64 x.R.V.N, .string x.R.V.S] ∧ x.fits := by
  obtain ⟨cs, rfl, hsz⟩ := okWide_struct Try.underlying144 hv
  obtain ⟨fuel, hf⟩ := h
  obtain ⟨y, e, hy⟩ := cond_cells hf
  refine ⟨y, ?_, hy⟩
  have e2 : cs.toList = y.cs := e
  rw [← Array.toArray_toList (xs := cs), e2]
  rfl
theorem conds_in {H : Type} {enc : TypeId × Value → H} {w : World} {spare : Nat → Bool} {held : Bool} {n : Nat} {v : Value} {x : DataW H × List MemPlace}
    (h : DataW.trod enc Try.prog w 0 spare held n 34 [v] = some x) : ∃ a len cap L, v = .slice a len cap ∧ IsConds w a len cap L := by
  have hc : Try.prog.cellsOf 144 = 11 := by kernel_rfl
  rcases open_slice Try.underlying34 h with ⟨h0, _⟩ | ⟨a, len, cap, m, n', D, Pl, h0, hb, hl, hm, hmm, _, hx⟩
  · simp only [List.cons.injEq, and_true] at h0
    exact ⟨none, 0, 0, [], h0, rfl, Nat.zero_le _, RdK.nil _ _ _ _, fun v hv => by cases hv⟩
  · simp only [List.cons.injEq, and_true] at h0
    have hlm : len ≤ m := by rw [hmm]; split <;> omega
    obtain ⟨F, hF⟩ := choose_lt (α := C11) (n := len) (p := fun i v => w.cells? 0 (a.add (i * 11)) 11 = some v.cs ∧ v.fits) (fun i hi => by
      obtain ⟨cs', h1, h2⟩ := hx i (by omega)
      rw [hc] at h1
      obtain ⟨y, rfl, hs⟩ := cond_cells h2
      exact ⟨y, h1, hs⟩)
    refine ⟨some a, len, cap, (List.range len).map F, h0, by simp, Nat.le_trans hl hm, fun i hi => ?_, fun v hv => ?_⟩
    · have hi2 : i < len := by simpa using hi
      obtain ⟨_, _, hcell⟩ := World.cells?_some (hF i hi2).1
      obtain ⟨b, off, spot⟩ := a
      have hs : spot = none := by
        obtain ⟨_, _, hcell0⟩ := World.cells?_some (hF 0 (by omega)).1
        have e := hcell0 0 (by omega)
        rw [add_add] at e
        simp only [C11.cs, List.getElem?_cons_zero] at e
        simpa [Addr.add] using World.cell?_spot e
      subst hs
      have ev : eAt ((List.range len).map F) i = F i := by rw [eAt_in hi]; simp
      rw [ev]
      refine ⟨b, off, rfl, fun j c hj => ?_⟩
      have hjk : j < 11 := by rw [← (F i).len]; exact (List.getElem?_eq_some_iff.1 hj).1
      have e := hcell j hjk
      rw [add_add, Addr.add_lit, hj] at e
      simpa [Nat.add_assoc] using e
    · obtain ⟨i, hi, rfl⟩ := List.mem_map.1 hv
      exact (hF i (List.mem_range.1 hi)).2
theorem rowOf_set_C11 (x : C11) : ∀ (L : List C11) (i : Nat), i < L.length →
    ((((((((((((rowOf C11.cs L).set (i * 11) (.int .i64 x.Op)).set (i * 11 + 1) (.int .i64 x.L.K)).set (i * 11 + 2) (.string x.L.S)).set (i * 11 + 3) (.int .i64 x.L.V.K)).set (i * 11 + 4) (.int .i64 x.L.V.N)).set (i * 11 + 5) (.string x.L.V.S)).set (i * 11 + 6) (.int .i64 x.R.K)).set (i * 11 + 7) (.string x.R.S)).set (i * 11 + 8) (.int .i64 x.R.V.K)).set (i * 11 + 9) (.int .i64 x.R.V.N)).set (i * 11 + 10) (.string x.R.V.S)) = rowOf C11.cs (L.set i x)
  | [], i, hi => absurd hi (Nat.not_lt_zero _)
  | y :: r, 0, hi => by
    rw [List.set_cons_zero, rowOf_cons, rowOf_cons]
    rfl
  | y :: r, i + 1, hi => by
    have ih := rowOf_set_C11 x r i (by simpa using hi)
    rw [List.set_cons_succ, rowOf_cons, rowOf_cons, ← ih]
    simp only [Nat.succ_mul, C11.cs]
    rfl
abbrev OwnCond (w : World) (g cap : Nat) (L : List C11) : Prop := OwnK 162 C11.cs 11 w g cap L
theorem rdOwnCond {w : World} {g cap : Nat} {L : List C11} (h : OwnCond w g cap L) : RdCond w (some ⟨g, 0, none⟩) L := OwnK.rd C11.len (by decide) h
end Go.Proofs.Ytfgigcdfmkfkjaa
/-
  A rule as it lies in memory (RE), what it reads as, and a rule that came in.
-/
namespace Go.Proofs.Ytfgigcdfmkfkjaa
open Go.ChangeShapes Go.WideShapes Go.ChangeAt Go.RowKit Go.Joins Go.Deep
set_option linter.unusedVariables false
set_option maxRecDepth 100000

structure RE where
  nm : ByteArray
  sal : Int
  aP : Option Addr
  nP : Nat
  cP : Nat
  P : List PE
  aC : Option Addr
  nC : Nat
  cC : Nat
  C : List C11
  aA : Option Addr
  nA : Nat
  cA : Nat
  A : List QE
/-- a rule, plainly -/
structure RP where
  nm : ByteArray
  sal : Int
  P : List PP
  C : List C11
  A : List QP
def RE.pl (x : RE) : RP := ⟨x.nm, x.sal, x.P.map PE.pl, x.C, x.A.map QE.pl⟩
theorem RE.pl_inj {x y : RE} (h : x.pl = y.pl) : x.nm = y.nm ∧ x.sal = y.sal ∧ x.P.map PE.pl = y.P.map PE.pl ∧ x.C = y.C ∧ x.A.map QE.pl = y.A.map QE.pl := by simpa [RE.pl] using h
def RE.arr (x : RE) : Array Value := #[.string x.nm, .int .i64 x.sal, .slice x.aP x.nP x.cP, .slice x.aC x.nC x.cC, .slice x.aA x.nA x.cA]
/-- what a rule reads as -/
structure RdRule (w : World) (x : RE) : Prop where
  p : RdPatS w x.aP x.P
  c : RdCond w x.aC x.C
  a : RdActS w x.aA x.A
  np : x.P.length = x.nP
  nc : x.C.length = x.nC
  na : x.A.length = x.nA
theorem RdRule.below {w w' : World} {x : RE} (h : RdRule w x) (hb : Below w.heap.size w w') : RdRule w' x := ⟨h.p.below hb, h.c.below hb, h.a.below hb, h.np, h.nc, h.na⟩
theorem RdRule.heap {w w' : World} {x : RE} (h : RdRule w x) (hb : w'.heap = w.heap) : RdRule w' x := ⟨h.p.heap hb, h.c.heap hb, h.a.heap hb, h.np, h.nc, h.na⟩
def RE.ok (x : RE) : Prop := x.nm.size ≤ maxLen ∧ x.nP ≤ maxLen ∧ (∀ p ∈ x.P, p.ok) ∧ x.nC ≤ maxLen ∧ (∀ c ∈ x.C, c.fits) ∧ x.nA ≤ maxLen ∧ ∀ a ∈ x.A, a.ok
/-- how great a rule is -/
def RE.sz (x : RE) : Nat := x.nm.size + (x.P.length + (x.P.map PE.sz).sum) + x.C.length + (x.A.length + (x.A.map QE.sz).sum)
def RE.small (x : RE) : Prop := x.sz ≤ 1048576 ∧ (∀ p ∈ x.P, p.small) ∧ (∀ c ∈ x.C, c.small) ∧ ∀ a ∈ x.A, a.small
theorem mem_eAt {α : Type} [Inhabited α] {L : List α} {x : α} (h : x ∈ L) : ∃ i, i < L.length ∧ eAt L i = x := by
  obtain ⟨i, hi, rfl⟩ := List.getElem_of_mem h
  exact ⟨i, hi, eAt_in hi⟩
theorem eAt_mem {α : Type} [Inhabited α] {L : List α} {i : Nat} (h : i < L.length) : eAt L i ∈ L := by rw [eAt_in h]; exact List.getElem_mem h
theorem small_pls {K J : List PE} (h : K.map PE.pl = J.map PE.pl) (hs : ∀ p ∈ J, p.small) : ∀ p ∈ K, p.small := fun p hp => by
  obtain ⟨i, hi, rfl⟩ := mem_eAt hp
  exact PE.small_of (hs _ (eAt_mem (by rw [← map_len h]; exact hi))) (map_at h hi)
theorem small_qls {K J : List QE} (h : K.map QE.pl = J.map QE.pl) (hs : ∀ p ∈ J, p.small) : ∀ p ∈ K, p.small := fun p hp => by
  obtain ⟨i, hi, rfl⟩ := mem_eAt hp
  exact QE.small_of (hs _ (eAt_mem (by rw [← map_len h]; exact hi))) (map_at h hi)
theorem RE.small_of {x y : RE} (h : x.small) (e : y.pl = x.pl) : y.small := by
  obtain ⟨e1, e2, e3, e4, e5⟩ := RE.pl_inj e
  obtain ⟨h1, h2, h3, h4⟩ := h
  have f1 := map_len e3
  have f2 := map_len e5
  have f3 := totW_pl (wt := PE.sz) (p := PE.pl) (v := fun x => x.kd.size + x.L.length) (fun _ => rfl) e3
  have f4 := totW_pl (wt := QE.sz) (p := QE.pl) (v := fun x => x.nm.size + x.L.length + x.un.size) (fun _ => rfl) e5
  refine ⟨?_, small_pls e3 h2, by rw [e4]; exact h3, small_qls e5 h4⟩
  unfold RE.sz at *
  rw [e1, f1, f3, e4, f2, f4]; exact h1
/-- a rule's lists lie in blocks of the calls' own, between two numbers -/
structure OwnRule (w : World) (lo hi : Nat) (x : RE) : Prop where
  own : ∃ gP gC gA m1 m2, x.aP = some ⟨gP, 0, none⟩ ∧ OwnPatS w lo m1 gP x.cP x.P x.P.length ∧ x.aC = some ⟨gC, 0, none⟩ ∧ OwnCond w gC x.cC x.C ∧ m1 ≤ gC ∧ gC < m2 ∧ x.aA = some ⟨gA, 0, none⟩ ∧ OwnActS w m2 hi gA x.cA x.A x.A.length
  np : x.P.length = x.nP
  nc : x.C.length = x.nC
  na : x.A.length = x.nA
theorem OwnRule.rd {w : World} {lo hi : Nat} {x : RE} (h : OwnRule w lo hi x) : RdRule w x := by
  obtain ⟨gP, gC, gA, m1, m2, e1, o1, e2, o2, -, -, e3, o3⟩ := h.own
  exact ⟨by rw [e1]; exact rdOwnPatS o1, by rw [e2]; exact rdOwnCond o2, by rw [e3]; exact rdOwnActS o3, h.np, h.nc, h.na⟩
theorem OwnRule.top {w : World} {lo hi : Nat} {x : RE} (h : OwnRule w lo hi x) : hi ≤ w.heap.size := by
  obtain ⟨gP, gC, gA, m1, m2, e1, o1, e2, o2, -, -, e3, o3⟩ := h.own
  exact o3.top
theorem OwnRule.lohi {w : World} {lo hi : Nat} {x : RE} (h : OwnRule w lo hi x) : lo < hi := by
  obtain ⟨gP, gC, gA, m1, m2, e1, o1, e2, o2, h1, h2, e3, o3⟩ := h.own
  have := o1.low
  have := o1.lth
  have := o3.low
  have := o3.lth
  omega
theorem OwnRule.keep {w w' : World} {lo hi : Nat} {x : RE} (h : OwnRule w lo hi x) (hsz : w.heap.size ≤ w'.heap.size) (hs : ∀ q, lo ≤ q → q < hi → w'.heap[q]? = w.heap[q]?) : OwnRule w' lo hi x := by
  obtain ⟨gP, gC, gA, m1, m2, e1, o1, e2, o2, h1, h2, e3, o3⟩ := h.own
  have a1 := o1.low
  have a2 := o1.lth
  have a3 := o3.low
  have a4 := o3.lth
  exact ⟨⟨gP, gC, gA, m1, m2, e1, o1.keep innPat hsz (fun q q1 q2 => hs q q1 (by omega)), e2, o2.same (hs gC (by omega) (by omega)), h1, h2, e3, o3.keep innAct hsz (fun q q1 q2 => hs q (by omega) q2)⟩, h.np, h.nc, h.na⟩
theorem OwnRule.later {w w' : World} {lo hi : Nat} {x : RE} (h : OwnRule w lo hi x) (hb : Below w.heap.size w w') : OwnRule w' lo hi x :=
  h.keep hb.size (fun q _ hq => hb.block q (Nat.lt_of_lt_of_le hq h.top))
theorem OwnRule.grown {w w' : World} {lo hi p : Nat} {x : RE} (h : OwnRule w lo hi x) (hg : w.grownBy w' (some p)) (hp : p < lo ∨ hi ≤ p) : OwnRule w' lo hi x :=
  h.keep hg.size (fun q h1 h2 => hg.block q (Nat.lt_of_lt_of_le h2 h.top) (by simp; omega))
theorem OwnRule.weaken {w : World} {lo lo' hi hi' : Nat} {x : RE} (h : OwnRule w lo hi x) (hl : lo' ≤ lo) (hh : hi ≤ hi') (ht : hi' ≤ w.heap.size) : OwnRule w lo' hi' x := by
  obtain ⟨gP, gC, gA, m1, m2, e1, o1, e2, o2, h1, h2, e3, o3⟩ := h.own
  have := o3.top
  have := o3.low
  have := o3.lth
  exact ⟨⟨gP, gC, gA, m1, m2, e1, o1.weaken hl (Nat.le_refl _) o1.top, e2, o2, h1, h2, e3, o3.weaken (Nat.le_refl _) hh ht⟩, h.np, h.nc, h.na⟩

theorem rule_cells {H : Type} {enc : TypeId × Value → H} {w : World} {spare : Nat → Bool} {held : Bool} {n : Nat} {cs : List Value} {x : DataW H × List MemPlace}
    (h : DataW.trod enc Try.prog w 0 spare held n 37 cs = some x) : ∃ y : RE, cs = y.arr.toList ∧ RdRule w y ∧ y.ok := by
  obtain ⟨y0, y1, y2, y3, y4, m, hl, h0, h1, h2, h3, h4⟩ := trod_struct5 Try.underlying37 h
  have hc : Try.prog.cellsOf 37 = 5 := by kernel_rfl
  have e0 : Try.prog.cellsOf 9 = 1 := by kernel_rfl
  have e1 : Try.prog.cellsOf 3 = 1 := by kernel_rfl
  have e2 : Try.prog.cellsOf 33 = 1 := by kernel_rfl
  have e3 : Try.prog.cellsOf 34 = 1 := by kernel_rfl
  have e4 : Try.prog.cellsOf 35 = 1 := by kernel_rfl
  rw [hc] at hl
  match cs, hl with
  | [c0, c1, c2, c3, c4], _ =>
    simp only [e0, e1, e2, e3, e4, List.drop_zero, List.drop_succ_cons, List.take_succ_cons, List.take_zero] at h0 h1 h2 h3 h4
    obtain ⟨v0, q0, _, w0⟩ := DataW.trod_string Try.underlying9 h0
    obtain ⟨v1, q1, _, _⟩ := DataW.trod_int Try.underlying3 h1
    obtain ⟨aP, nP, cP, P, qP, lP, mP, rP, okP⟩ := pats_in h2
    obtain ⟨aC, nC, cC, C, qC, lC, mC, rC, okC⟩ := conds_in h3
    obtain ⟨aA, nA, cA, A, qA, lA, mA, rA, okA⟩ := acts_in h4
    simp only [List.cons.injEq, and_true] at q0 q1
    exact ⟨⟨v0, v1, aP, nP, cP, P, aC, nC, cC, C, aA, nA, cA, A⟩, by rw [q0, q1, qP, qC, qA]; rfl, ⟨rP, rC, rA, lP, lC, lA⟩, w0, mP, okP, mC, okC, mA, okA⟩
theorem rule_in {H : Type} {enc : TypeId × Value → H} {w : World} {b0 : Nat} {spare : Nat → Bool} {held : Bool} {r : Reach} {v : Value} {d : DataW H} {p : List MemPlace}
    (hv : Value.okWide Try.prog w r b0 37 v) (h : DataW.Trod enc Try.prog w 0 spare held 37 v d p) : ∃ x : RE, v = .agg x.arr ∧ RdRule w x ∧ x.ok := by
  obtain ⟨cs, rfl, hsz⟩ := okWide_struct Try.underlying37 hv
  obtain ⟨fuel, hf⟩ := h
  obtain ⟨y, e, hr, hy⟩ := rule_cells hf
  refine ⟨y, ?_, hr, hy⟩
  have e2 : cs.toList = y.arr.toList := e
  rw [← Array.toArray_toList (xs := cs), e2]
end Go.Proofs.Ytfgigcdfmkfkjaa
/-
  Boxes of eleven cells, and two or three boxes side by side: their cells set, what stands.
-/
namespace Go.Proofs.Ytfgigcdfmkfkjaa
open Go.RowKit
set_option linter.unusedVariables false

theorem boxes3 (w : World) (c1 c2 c3 : Array Value) (T1 T2 T3 : TypeId) : (((w.alloc (.cells c1 T1)).alloc (.cells c2 T2)).alloc (.cells c3 T3)).heap[w.heap.size]? = some (.cells c1 T1 (0, 0)) ∧ (((w.alloc (.cells c1 T1)).alloc (.cells c2 T2)).alloc (.cells c3 T3)).heap[w.heap.size + 1]? = some (.cells c2 T2 (0, 0)) ∧ (((w.alloc (.cells c1 T1)).alloc (.cells c2 T2)).alloc (.cells c3 T3)).heap[w.heap.size + 1 + 1]? = some (.cells c3 T3 (0, 0)) ∧ Below w.heap.size w (((w.alloc (.cells c1 T1)).alloc (.cells c2 T2)).alloc (.cells c3 T3)) := by
  have b0 := below_al w (.cells c1 T1)
  have b1 := b0.alloc b0.size (.cells c2 T2)
  have b2 := b1.alloc b1.size (.cells c3 T3)
  have hA := box_old (box_old (boxk_new w c1 T1) (by simp) (.cells c2 T2)) (by simp; omega) (.cells c3 T3)
  have hR := box_old (boxk_new (w.alloc (.cells c1 T1)) c2 T2) (by simp) (.cells c3 T3)
  have hX := boxk_new ((w.alloc (.cells c1 T1)).alloc (.cells c2 T2)) c3 T3
  simp only [World.size_alloc] at hR hX
  exact ⟨hA, hR, hX, b2⟩
theorem boxes2 (w : World) (c1 c2 : Array Value) (T1 T2 : TypeId) : ((w.alloc (.cells c1 T1)).alloc (.cells c2 T2)).heap[w.heap.size]? = some (.cells c1 T1 (0, 0)) ∧ ((w.alloc (.cells c1 T1)).alloc (.cells c2 T2)).heap[w.heap.size + 1]? = some (.cells c2 T2 (0, 0)) ∧ Below w.heap.size w ((w.alloc (.cells c1 T1)).alloc (.cells c2 T2)) := by
  have b0 := below_al w (.cells c1 T1)
  have b1 := b0.alloc b0.size (.cells c2 T2)
  have hA := box_old (boxk_new w c1 T1) (by simp) (.cells c2 T2)
  have hX := boxk_new (w.alloc (.cells c1 T1)) c2 T2
  simp only [World.size_alloc] at hX
  exact ⟨hA, hX, b1⟩
theorem box11_set {w : World} {q : Nat} {c0 c1 c2 c3 c4 c5 c6 c7 c8 c9 c10 : Value} {T : TypeId} (h : w.heap[q]? = some (.cells #[c0, c1, c2, c3, c4, c5, c6, c7, c8, c9, c10] T (0, 0))) (v0 v1 v2 v3 v4 v5 v6 v7 v8 v9 v10 : Value) :
    (((((((((((w.setCell ⟨q, 0, none⟩ v0).setCell ⟨q, 1, none⟩ v1).setCell ⟨q, 2, none⟩ v2).setCell ⟨q, 3, none⟩ v3).setCell ⟨q, 4, none⟩ v4).setCell ⟨q, 5, none⟩ v5).setCell ⟨q, 6, none⟩ v6).setCell ⟨q, 7, none⟩ v7).setCell ⟨q, 8, none⟩ v8).setCell ⟨q, 9, none⟩ v9).setCell ⟨q, 10, none⟩ v10).heap[q]? = some (.cells #[v0, v1, v2, v3, v4, v5, v6, v7, v8, v9, v10] T (0, 0)) ∧ w.grownBy (((((((((((w.setCell ⟨q, 0, none⟩ v0).setCell ⟨q, 1, none⟩ v1).setCell ⟨q, 2, none⟩ v2).setCell ⟨q, 3, none⟩ v3).setCell ⟨q, 4, none⟩ v4).setCell ⟨q, 5, none⟩ v5).setCell ⟨q, 6, none⟩ v6).setCell ⟨q, 7, none⟩ v7).setCell ⟨q, 8, none⟩ v8).setCell ⟨q, 9, none⟩ v9).setCell ⟨q, 10, none⟩ v10) (some q) := by
  have g0 := (boxk_set h 0 v0).2
  have h0 : (w.setCell ⟨q, 0, none⟩ v0).heap[q]? = some (.cells #[v0, c1, c2, c3, c4, c5, c6, c7, c8, c9, c10] T (0, 0)) := (boxk_set h 0 v0).1
  have g1 := (boxk_set h0 1 v1).2
  have h1 : ((w.setCell ⟨q, 0, none⟩ v0).setCell ⟨q, 1, none⟩ v1).heap[q]? = some (.cells #[v0, v1, c2, c3, c4, c5, c6, c7, c8, c9, c10] T (0, 0)) := (boxk_set h0 1 v1).1
  have g2 := (boxk_set h1 2 v2).2
  have h2 : (((w.setCell ⟨q, 0, none⟩ v0).setCell ⟨q, 1, none⟩ v1).setCell ⟨q, 2, none⟩ v2).heap[q]? = some (.cells #[v0, v1, v2, c3, c4, c5, c6, c7, c8, c9, c10] T (0, 0)) := (boxk_set h1 2 v2).1
  have g3 := (boxk_set h2 3 v3).2
  have h3 : ((((w.setCell ⟨q, 0, none⟩ v0).setCell ⟨q, 1, none⟩ v1).setCell ⟨q, 2, none⟩ v2).setCell ⟨q, 3, none⟩ v3).heap[q]? = some (.cells #[v0, v1, v2, v3, c4, c5, c6, c7, c8, c9, c10] T (0, 0)) := (boxk_set h2 3 v3).1
  have g4 := (boxk_set h3 4 v4).2
  have h4 : (((((w.setCell ⟨q, 0, none⟩ v0).setCell ⟨q, 1, none⟩ v1).setCell ⟨q, 2, none⟩ v2).setCell ⟨q, 3, none⟩ v3).setCell ⟨q, 4, none⟩ v4).heap[q]? = some (.cells #[v0, v1, v2, v3, v4, c5, c6, c7, c8, c9, c10] T (0, 0)) := (boxk_set h3 4 v4).1
  have g5 := (boxk_set h4 5 v5).2
  have h5 : ((((((w.setCell ⟨q, 0, none⟩ v0).setCell ⟨q, 1, none⟩ v1).setCell ⟨q, 2, none⟩ v2).setCell ⟨q, 3, none⟩ v3).setCell ⟨q, 4, none⟩ v4).setCell ⟨q, 5, none⟩ v5).heap[q]? = some (.cells #[v0, v1, v2, v3, v4, v5, c6, c7, c8, c9, c10] T (0, 0)) := (boxk_set h4 5 v5).1
  have g6 := (boxk_set h5 6 v6).2
  have h6 : (((((((w.setCell ⟨q, 0, none⟩ v0).setCell ⟨q, 1, none⟩ v1).setCell ⟨q, 2, none⟩ v2).setCell ⟨q, 3, none⟩ v3).setCell ⟨q, 4, none⟩ v4).setCell ⟨q, 5, none⟩ v5).setCell ⟨q, 6, none⟩ v6).heap[q]? = some (.cells #[v0, v1, v2, v3, v4, v5, v6, c7, c8, c9, c10] T (0, 0)) := (boxk_set h5 6 v6).1
  have g7 := (boxk_set h6 7 v7).2
  have h7 : ((((((((w.setCell ⟨q, 0, none⟩ v0).setCell ⟨q, 1, none⟩ v1).setCell ⟨q, 2, none⟩ v2).setCell ⟨q, 3, none⟩ v3).setCell ⟨q, 4, none⟩ v4).setCell ⟨q, 5, none⟩ v5).setCell ⟨q, 6, none⟩ v6).setCell ⟨q, 7, none⟩ v7).heap[q]? = some (.cells #[v0, v1, v2, v3, v4, v5, v6, v7, c8, c9, c10] T (0, 0)) := (boxk_set h6 7 v7).1
  have g8 := (boxk_set h7 8 v8).2
  have h8 : (((((((((w.setCell ⟨q, 0, none⟩ v0).setCell ⟨q, 1, none⟩ v1).setCell ⟨q, 2, none⟩ v2).setCell ⟨q, 3, none⟩ v3).setCell ⟨q, 4, none⟩ v4).setCell ⟨q, 5, none⟩ v5).setCell ⟨q, 6, none⟩ v6).setCell ⟨q, 7, none⟩ v7).setCell ⟨q, 8, none⟩ v8).heap[q]? = some (.cells #[v0, v1, v2, v3, v4, v5, v6, v7, v8, c9, c10] T (0, 0)) := (boxk_set h7 8 v8).1
  have g9 := (boxk_set h8 9 v9).2
  have h9 : ((((((((((w.setCell ⟨q, 0, none⟩ v0).setCell ⟨q, 1, none⟩ v1).setCell ⟨q, 2, none⟩ v2).setCell ⟨q, 3, none⟩ v3).setCell ⟨q, 4, none⟩ v4).setCell ⟨q, 5, none⟩ v5).setCell ⟨q, 6, none⟩ v6).setCell ⟨q, 7, none⟩ v7).setCell ⟨q, 8, none⟩ v8).setCell ⟨q, 9, none⟩ v9).heap[q]? = some (.cells #[v0, v1, v2, v3, v4, v5, v6, v7, v8, v9, c10] T (0, 0)) := (boxk_set h8 9 v9).1
  have g10 := (boxk_set h9 10 v10).2
  have h10 : (((((((((((w.setCell ⟨q, 0, none⟩ v0).setCell ⟨q, 1, none⟩ v1).setCell ⟨q, 2, none⟩ v2).setCell ⟨q, 3, none⟩ v3).setCell ⟨q, 4, none⟩ v4).setCell ⟨q, 5, none⟩ v5).setCell ⟨q, 6, none⟩ v6).setCell ⟨q, 7, none⟩ v7).setCell ⟨q, 8, none⟩ v8).setCell ⟨q, 9, none⟩ v9).setCell ⟨q, 10, none⟩ v10).heap[q]? = some (.cells #[v0, v1, v2, v3, v4, v5, v6, v7, v8, v9, v10] T (0, 0)) := (boxk_set h9 10 v10).1
  exact ⟨h10, (grown_tt (grown_tt (grown_tt (grown_tt (grown_tt (grown_tt (grown_tt (grown_tt (grown_tt (grown_tt g0 g1) g2) g3) g4) g5) g6) g7) g8) g9) g10)⟩
theorem box11_setL {w : World} {q : Nat} {c0 c1 c2 c3 c4 c5 c6 c7 c8 c9 c10 : Value} {T : TypeId} (h : w.heap[q]? = some (.cells #[c0, c1, c2, c3, c4, c5, c6, c7, c8, c9, c10] T (0, 0))) (v1 v2 v3 v4 v5 : Value) :
    (((((w.setCell ⟨q, 1, none⟩ v1).setCell ⟨q, 2, none⟩ v2).setCell ⟨q, 3, none⟩ v3).setCell ⟨q, 4, none⟩ v4).setCell ⟨q, 5, none⟩ v5).heap[q]? = some (.cells #[c0, v1, v2, v3, v4, v5, c6, c7, c8, c9, c10] T (0, 0)) ∧ w.grownBy (((((w.setCell ⟨q, 1, none⟩ v1).setCell ⟨q, 2, none⟩ v2).setCell ⟨q, 3, none⟩ v3).setCell ⟨q, 4, none⟩ v4).setCell ⟨q, 5, none⟩ v5) (some q) := by
  have g1 := (boxk_set h 1 v1).2
  have h1 : (w.setCell ⟨q, 1, none⟩ v1).heap[q]? = some (.cells #[c0, v1, c2, c3, c4, c5, c6, c7, c8, c9, c10] T (0, 0)) := (boxk_set h 1 v1).1
  have g2 := (boxk_set h1 2 v2).2
  have h2 : ((w.setCell ⟨q, 1, none⟩ v1).setCell ⟨q, 2, none⟩ v2).heap[q]? = some (.cells #[c0, v1, v2, c3, c4, c5, c6, c7, c8, c9, c10] T (0, 0)) := (boxk_set h1 2 v2).1
  have g3 := (boxk_set h2 3 v3).2
  have h3 : (((w.setCell ⟨q, 1, none⟩ v1).setCell ⟨q, 2, none⟩ v2).setCell ⟨q, 3, none⟩ v3).heap[q]? = some (.cells #[c0, v1, v2, v3, c4, c5, c6, c7, c8, c9, c10] T (0, 0)) := (boxk_set h2 3 v3).1
  have g4 := (boxk_set h3 4 v4).2
  have h4 : ((((w.setCell ⟨q, 1, none⟩ v1).setCell ⟨q, 2, none⟩ v2).setCell ⟨q, 3, none⟩ v3).setCell ⟨q, 4, none⟩ v4).heap[q]? = some (.cells #[c0, v1, v2, v3, v4, c5, c6, c7, c8, c9, c10] T (0, 0)) := (boxk_set h3 4 v4).1
  have g5 := (boxk_set h4 5 v5).2
  have h5 : (((((w.setCell ⟨q, 1, none⟩ v1).setCell ⟨q, 2, none⟩ v2).setCell ⟨q, 3, none⟩ v3).setCell ⟨q, 4, none⟩ v4).setCell ⟨q, 5, none⟩ v5).heap[q]? = some (.cells #[c0, v1, v2, v3, v4, v5, c6, c7, c8, c9, c10] T (0, 0)) := (boxk_set h4 5 v5).1
  exact ⟨h5, (grown_tt (grown_tt (grown_tt (grown_tt g1 g2) g3) g4) g5)⟩
theorem box11_setR {w : World} {q : Nat} {c0 c1 c2 c3 c4 c5 c6 c7 c8 c9 c10 : Value} {T : TypeId} (h : w.heap[q]? = some (.cells #[c0, c1, c2, c3, c4, c5, c6, c7, c8, c9, c10] T (0, 0))) (v6 v7 v8 v9 v10 : Value) :
    (((((w.setCell ⟨q, 6, none⟩ v6).setCell ⟨q, 7, none⟩ v7).setCell ⟨q, 8, none⟩ v8).setCell ⟨q, 9, none⟩ v9).setCell ⟨q, 10, none⟩ v10).heap[q]? = some (.cells #[c0, c1, c2, c3, c4, c5, v6, v7, v8, v9, v10] T (0, 0)) ∧ w.grownBy (((((w.setCell ⟨q, 6, none⟩ v6).setCell ⟨q, 7, none⟩ v7).setCell ⟨q, 8, none⟩ v8).setCell ⟨q, 9, none⟩ v9).setCell ⟨q, 10, none⟩ v10) (some q) := by
  have g6 := (boxk_set h 6 v6).2
  have h6 : (w.setCell ⟨q, 6, none⟩ v6).heap[q]? = some (.cells #[c0, c1, c2, c3, c4, c5, v6, c7, c8, c9, c10] T (0, 0)) := (boxk_set h 6 v6).1
  have g7 := (boxk_set h6 7 v7).2
  have h7 : ((w.setCell ⟨q, 6, none⟩ v6).setCell ⟨q, 7, none⟩ v7).heap[q]? = some (.cells #[c0, c1, c2, c3, c4, c5, v6, v7, c8, c9, c10] T (0, 0)) := (boxk_set h6 7 v7).1
  have g8 := (boxk_set h7 8 v8).2
  have h8 : (((w.setCell ⟨q, 6, none⟩ v6).setCell ⟨q, 7, none⟩ v7).setCell ⟨q, 8, none⟩ v8).heap[q]? = some (.cells #[c0, c1, c2, c3, c4, c5, v6, v7, v8, c9, c10] T (0, 0)) := (boxk_set h7 8 v8).1
  have g9 := (boxk_set h8 9 v9).2
  have h9 : ((((w.setCell ⟨q, 6, none⟩ v6).setCell ⟨q, 7, none⟩ v7).setCell ⟨q, 8, none⟩ v8).setCell ⟨q, 9, none⟩ v9).heap[q]? = some (.cells #[c0, c1, c2, c3, c4, c5, v6, v7, v8, v9, c10] T (0, 0)) := (boxk_set h8 9 v9).1
  have g10 := (boxk_set h9 10 v10).2
  have h10 : (((((w.setCell ⟨q, 6, none⟩ v6).setCell ⟨q, 7, none⟩ v7).setCell ⟨q, 8, none⟩ v8).setCell ⟨q, 9, none⟩ v9).setCell ⟨q, 10, none⟩ v10).heap[q]? = some (.cells #[c0, c1, c2, c3, c4, c5, v6, v7, v8, v9, v10] T (0, 0)) := (boxk_set h9 10 v10).1
  exact ⟨h10, (grown_tt (grown_tt (grown_tt (grown_tt g6 g7) g8) g9) g10)⟩
theorem box11_post {P : Program} {f : Func} {Q : Ending → World → Prop} {x : Exit} {act : Act} {w : World} {q : Nat} {c0 c1 c2 c3 c4 c5 c6 c7 c8 c9 c10 v0 v1 v2 v3 v4 v5 v6 v7 v8 v9 v10 : Value} {T : TypeId} (h : w.heap[q]? = some (.cells #[c0, c1, c2, c3, c4, c5, c6, c7, c8, c9, c10] T (0, 0)))
    (k : ∀ w2, w2.heap[q]? = some (.cells #[v0, v1, v2, v3, v4, v5, v6, v7, v8, v9, v10] T (0, 0)) → w.grownBy w2 (some q) → bodyPost P f Q x act w2) : bodyPost P f Q x act (((((((((((w.setCell ⟨q, 0, none⟩ v0).setCell ⟨q, 1, none⟩ v1).setCell ⟨q, 2, none⟩ v2).setCell ⟨q, 3, none⟩ v3).setCell ⟨q, 4, none⟩ v4).setCell ⟨q, 5, none⟩ v5).setCell ⟨q, 6, none⟩ v6).setCell ⟨q, 7, none⟩ v7).setCell ⟨q, 8, none⟩ v8).setCell ⟨q, 9, none⟩ v9).setCell ⟨q, 10, none⟩ v10) :=
  k _ (box11_set h v0 v1 v2 v3 v4 v5 v6 v7 v8 v9 v10).1 (box11_set h v0 v1 v2 v3 v4 v5 v6 v7 v8 v9 v10).2
end Go.Proofs.Ytfgigcdfmkfkjaa
