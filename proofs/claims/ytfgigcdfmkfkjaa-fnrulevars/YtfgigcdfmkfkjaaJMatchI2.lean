/-
  What the tested MatchPat answers: matchR, in a row of the call's own.
-/
import Derived.Test.YtfgigcdfmkfkjaaJoined4
import Derived.Test.YtfgigcdfmkfkjaaJoined2
import Derived.Deep.RegionLaw
namespace Go.Proofs.Ytfgigcdfmkfkjaa
open Go.RowKit
set_option linter.unusedVariables false

theorem matchVal_m (S : ByteArray) (V u : V3) (a : Option Addr) (cap base : Nat) (M : List B4) (w : World) (hbase : base ≤ w.heap.size) (h : BL base w a cap M) :
    Calls Try.prog 132 #[.agg #[.int .i64 2, .string S, .int .i64 V.K, .int .i64 V.N, .string V.S], .agg #[.int .i64 u.K, .int .i64 u.N, .string u.S], .slice a M.length cap] w fun e w' =>
      GivesM e w' base w (stepM M ⟨2, S, V⟩ u) :=
  (matchVal_any 2 S V u _ w).mono fun e w' hh => by
    rw [stepM_K2]
    exact ⟨a, cap, hh.1, h.below hh.2, hh.2.mono hbase⟩
theorem matchAny_m (K : Int) (S : ByteArray) (V u : V3) (a : Option Addr) (cap base : Nat) (M : List B4) (w : World) (h1 : K ≠ 1) (h2 : K ≠ 2) (hbase : base ≤ w.heap.size) (h : BL base w a cap M) :
    Calls Try.prog 133 #[.agg #[.int .i64 K, .string S, .int .i64 V.K, .int .i64 V.N, .string V.S], .agg #[.int .i64 u.K, .int .i64 u.N, .string u.S], .slice a M.length cap] w fun e w' =>
      GivesM e w' base w (stepM M ⟨K, S, V⟩ u) :=
  (matchAny_any K S V u _ w).mono fun e w' hh => by
    rw [stepM_no h1 h2]
    exact ⟨a, cap, hh.1, h.below hh.2, hh.2.mono hbase⟩

/-- the method value that holds this argument against a value -/
def fnOf (K : Int) (S : ByteArray) (V : V3) : Value :=
  .func (.func (if K = 1 then 131 else if K = 2 then 132 else 133)) #[.agg #[.int .i64 K, .string S, .int .i64 V.K, .int .i64 V.N, .string V.S]] #[]
set_option maxRecDepth 100000 in
set_option maxHeartbeats 1600000 in
theorem matchingOf_any (K : Int) (S : ByteArray) (V : V3) (w : World) :
    Calls Try.prog 100 #[.agg #[.int .i64 K, .string S, .int .i64 V.K, .int .i64 V.N, .string V.S]] w fun e w' => e = .returned (fnOf K S V) ∧ Below w.heap.size w w' := by
  have b0 := below_al w (.cells #[.int .i64 K, .string S, .int .i64 V.K, .int .i64 V.N, .string V.S] 157)
  by_cases h1 : K = 1
  · subst h1
    go_enter Try.func100, Try.ntmps100
    go_wp2
    go_ret
    exact ⟨rfl, b0⟩
  · have k1 : (K == 1) = false := by simpa using h1
    by_cases h2 : K = 2
    · subst h2
      go_enter Try.func100, Try.ntmps100
      go_wp2
      go_ret
      exact ⟨rfl, b0⟩
    · have k2 : (K == 2) = false := by simpa using h2
      have HF : Hid (fnOf K S V = .func (.func 133) #[.agg #[.int .i64 K, .string S, .int .i64 V.K, .int .i64 V.N, .string V.S]] #[]) := by unfold Hid fnOf; rw [if_neg h1, if_neg h2]
      clear h1 h2
      go_enter Try.func100, Try.ntmps100
      go_wp2
      go_ret
      exact ⟨by rw [HF.out]; rfl, b0⟩

theorem capBL {base : Nat} {W : World} {a : Option Addr} {cap : Nat} {M : List B4} (h : BL base W a cap M) : M.length ≤ cap := by
  rcases h.2 with ⟨h1, -⟩ | h1
  · omega
  · obtain ⟨a', c', e, -, -, hl, -⟩ := rdK_owns B4.len (by decide) h1
    simp only [Value.slice.injEq] at e
    omega
/-- what bindFields answers -/
def GivesF (e : Ending) (w' : World) (w : World) (r : List B4 × Bool) : Prop := ∃ a' cap', e = .returned (.tuple #[.slice a' r.1.length cap', .bool r.2]) ∧ RdBind w' a' r.1 ∧ r.1.length ≤ cap' ∧ Below w.heap.size w w'

set_option maxRecDepth 100000 in
set_option maxHeartbeats 6400000 in
theorem bindFields_any (kd : ByteArray) (a1 : Option Addr) (c1 : Nat) (L : List A5) (nt : Bool) (kd' : ByteArray) (a2 : Option Addr) (c2 : Nat) (F : List V3) (a3 : Option Addr) (c3 : Nat) (M0 : List B4) (w : World)
    (hr1 : RdArg w a1 L) (hr2 : RdV w a2 F) (hr3 : RdBind w a3 M0) (hcap : M0.length ≤ c3) (hs1 : ∀ x ∈ L, x.small) (hs2 : ∀ u ∈ F, u.S.size ≤ 1048576) (hs3 : ∀ x ∈ M0, x.small) (hn1 : L.length + M0.length ≤ 1048576) (hn2 : F.length ≤ 1048576) :
    Calls Try.prog 62 #[.agg #[.string kd, .slice a1 L.length c1, .bool nt], .agg #[.string kd', .slice a2 F.length c2], .slice a3 M0.length c3] w fun e w' => GivesF e w' w (matchR kd kd' L F M0) := by
  have HCap := hide hcap
  have b0 := below_al w (.cells #[.string kd, .slice a1 L.length c1, .bool nt] 79)
  have b1 := b0.alloc b0.size (.cells #[.string kd', .slice a2 F.length c2] 89)
  have hP := box_old (boxk_new w #[.string kd, .slice a1 L.length c1, .bool nt] 79) (by simp) (.cells #[.string kd', .slice a2 F.length c2] 89)
  have hQ := boxk_new (w.alloc (.cells #[.string kd, .slice a1 L.length c1, .bool nt] 79)) #[.string kd', .slice a2 F.length c2] 89
  simp only [World.size_alloc] at hQ
  have hz : w.heap.size + 2 ≤ ((w.alloc (.cells #[.string kd, .slice a1 L.length c1, .bool nt] 79)).alloc (.cells #[.string kd', .slice a2 F.length c2] 89)).heap.size := by simp
  by_cases hkd : kd = kd'
  · subst hkd
    have k1 : (kd.toList == kd.toList) = true := by simp
    by_cases hl : L.length = F.length
    · have hnn : ((L.length : Int) != (F.length : Int)) = false := by rw [hl]; simp
      have HClip := hide (fun W (h : RdBind W a3 M0) => clip_any a3 c3 M0 W h hcap (by omega))
      obtain ⟨n, hN⟩ : ∃ n, n = L.length := ⟨_, rfl⟩
      have HFl : Hid (F.length = n) := by unfold Hid; rw [hN, hl]
      have HS := hide (fun k M (hk : k ≤ L.length) (h : matchK L F M0 k = some M) => matchK_small hs3 hs1 hs2 hl hk h)
      have HLen := hide (fun k M (h : matchK L F M0 k = some M) => matchK_len h)
      have HNo := hide (fun k (hk : k ≤ L.length) (h : matchK L F M0 k = none) => (matchR_fail (kd := kd) hl hk h))
      have HYes := hide (fun M (h : matchK L F M0 L.length = some M) => (matchR_yes (kd := kd) hl h))
      rw [HFl.out] at b1 hP hQ hz hn2 hnn ⊢
      rw [← hN] at b0 b1 hP hQ hz hn1 hnn ⊢
      have HN := hide hN
      clear hN hl hs1 hs2 hs3
      go_enter Try.func62, Try.ntmps62
      go_wp2_with fail
      refine (HClip.out _ (hr3.below b1)).mono ?_
      generalize (w.alloc (.cells #[.string kd, .slice a1 n c1, .bool nt] 79)).alloc (.cells #[.string kd, .slice a2 n c2] 89) = w1 at b1 hP hQ hz
      rintro e w2 ⟨⟨a', rfl, rd2⟩, rfl⟩
      have HP := hide hP
      have HQ := hide hQ
      have p1 := boxk_cell hP 1 _ rfl
      clear hP hQ HClip b0
      go_wp2
      go_loopw [8, 33] (fun v i wr => ∃ (k : Nat) (M : List B4) (a : Option Addr) (cap : Nat), k ≤ n ∧ i = .int .i64 k ∧ v = .slice a M.length cap ∧ matchK L F M0 k = some M ∧ BL (w.heap.size + 2) wr a cap M ∧ Below (w.heap.size + 2) w2 wr) (fun _ i _ => n - (intOf i).toNat)
      case atStart => exact ⟨0, M0, a', _, Nat.zero_le _, rfl, rfl, rfl, ⟨rd2, .inl ⟨rfl, fun e => by
          by_cases h0 : M0.length = 0
          · exact h0
          · obtain ⟨b, off, e2, -⟩ := rd2 0 (by omega)
            rw [e2] at e; cases e⟩⟩, Below.refl _ _⟩
      case round =>
        clear rd2 p1
        obtain ⟨k, M, a, cap, hk, rfl, rfl, hM, hbl, hbel⟩ := hrel
        have hB : Below w.heap.size w wr := b1.trans (hbel.mono (by omega))
        have hzr : w.heap.size + 2 ≤ wr.heap.size := Nat.le_trans hz hbel.size
        have hMl := HLen.out k M hM
        have HSm := hide (HS.out k M (by rw [← HN.out]; exact hk) hM)
        have HM := hide hM
        clear hM
        by_cases hlt : k < n
        · obtain ⟨b, off, hab, hbw, hc⟩ := RdArg.cells (hr1.below hB) (by rw [← HN.out]; omega)
          obtain ⟨c0', c1', c2', c3', c4'⟩ := hc k (by rw [← HN.out]; exact hlt)
          clear hc
          obtain ⟨b', off', hab', hbw', hd⟩ := (hr2.below hB).open (by rw [HFl.out]; omega)
          obtain ⟨d0, d1, d2⟩ := hd k (by rw [HFl.out]; exact hlt)
          clear hd
          have HStep := hide (fun hb => matchK_step (L := L) (F := F) HM.out hb)
          have HFail := hide (fun hb => matchK_fail (L := L) (F := F) HM.out hb)
          generalize eAt L k = x at c0' c1' c2' c3' c4' HStep HFail
          generalize vAt F k = u at d0 d1 d2 HStep HFail
          obtain ⟨K, S, V⟩ := x
          simp only at c0' c1' c2' c3' c4'
          subst hab hab'
          have bA := hbel.alloc hzr (.cells #[.int .i64 K, .string S, .int .i64 V.K, .int .i64 V.N, .string V.S] 157)
          go_wp2_with fail
          refine (matchingOf_any K S V _).mono ?_
          rintro e w3 ⟨rfl, hb3⟩
          have b3 := (below_al wr (.cells #[.int .i64 K, .string S, .int .i64 V.K, .int .i64 V.N, .string V.S] 157)).trans (hb3.mono (by simp))
          have hB3 : Below (w.heap.size + 2) w2 w3 := hbel.trans (b3.mono hzr)
          have hz3 : w.heap.size + 2 ≤ w3.heap.size := Nat.le_trans hzr b3.size
          have hbl3 := hbl.below b3
          have q1 := boxk_cell (box_below HQ.out hB3 (by omega)) 1 _ rfl
          rw [← b3.cell (p := ⟨b', off' + k * 3, none⟩) hbw'] at d0
          rw [← b3.cell (p := ⟨b', off' + k * 3 + 1, none⟩) hbw'] at d1
          rw [← b3.cell (p := ⟨b', off' + k * 3 + 2, none⟩) hbw'] at d2
          clear hb3 b3 bA c0' c1' c2' c3' c4' hbl hbel hB
          by_cases h1 : K = 1
          · subst h1
            rw [show fnOf 1 S V = .func (.func 131) #[.agg #[.int .i64 1, .string S, .int .i64 V.K, .int .i64 V.N, .string V.S]] #[] from rfl]
            go_wp2_with fail
            refine (matchVar_any S V u a cap (w.heap.size + 2) M _ hz3 hbl3 HSm.out (by omega)).mono ?_
            rintro e w4 ⟨a4, cap4, rfl, hbl4, hB4'⟩
            have hB4 : Below (w.heap.size + 2) w2 w4 := hB3.trans hB4'
            have hBw : Below w.heap.size w w4 := b1.trans (hB4.mono (by omega))
            clear hbl3 hB3 hB4' d0 d1 d2 q1
            generalize stepM M ⟨1, S, V⟩ u = r at hbl4 HStep HFail ⊢
            obtain ⟨M', bb⟩ := r
            cases bb
            · have HG : Hid (GivesF (.returned (.tuple #[.slice a3 M0.length c3, .bool false])) w4 w (matchR kd kd L F M0)) := by
                unfold Hid
                rw [HNo.out (k + 1) (by rw [← HN.out]; omega) (HFail.out rfl)]
                exact ⟨a3, c3, rfl, hr3.below hBw, HCap.out, hBw⟩
              clear hbl4 HStep HFail
              go_wp2
              go_returns
              exact HG.out
            · have HG := hide (HStep.out rfl)
              have HBl := hide hbl4
              clear hbl4 HStep HFail
              go_wp2
              go_roundw
              case rel => exact ⟨k + 1, M', a4, cap4, by omega, by go_num, rfl, HG.out, HBl.out, hB4⟩
              case measure => simp [intOf]; omega
          · by_cases h2 : K = 2
            · subst h2
              rw [show fnOf 2 S V = .func (.func 132) #[.agg #[.int .i64 2, .string S, .int .i64 V.K, .int .i64 V.N, .string V.S]] #[] from rfl]
              go_wp2_with fail
              refine (matchVal_m S V u a cap (w.heap.size + 2) M _ hz3 hbl3).mono ?_
              rintro e w4 ⟨a4, cap4, rfl, hbl4, hB4'⟩
              have hB4 : Below (w.heap.size + 2) w2 w4 := hB3.trans hB4'
              have hBw : Below w.heap.size w w4 := b1.trans (hB4.mono (by omega))
              clear hbl3 hB3 hB4' d0 d1 d2 q1
              generalize stepM M ⟨2, S, V⟩ u = r at hbl4 HStep HFail ⊢
              obtain ⟨M', bb⟩ := r
              cases bb
              · have HG : Hid (GivesF (.returned (.tuple #[.slice a3 M0.length c3, .bool false])) w4 w (matchR kd kd L F M0)) := by
                  unfold Hid
                  rw [HNo.out (k + 1) (by rw [← HN.out]; omega) (HFail.out rfl)]
                  exact ⟨a3, c3, rfl, hr3.below hBw, HCap.out, hBw⟩
                clear hbl4 HStep HFail
                go_wp2
                go_returns
                exact HG.out
              · have HG := hide (HStep.out rfl)
                have HBl := hide hbl4
                clear hbl4 HStep HFail
                go_wp2
                go_roundw
                case rel => exact ⟨k + 1, M', a4, cap4, by omega, by go_num, rfl, HG.out, HBl.out, hB4⟩
                case measure => simp [intOf]; omega
            · rw [show fnOf K S V = .func (.func 133) #[.agg #[.int .i64 K, .string S, .int .i64 V.K, .int .i64 V.N, .string V.S]] #[] from by unfold fnOf; rw [if_neg h1, if_neg h2]]
              go_wp2_with fail
              refine (matchAny_m K S V u a cap (w.heap.size + 2) M _ h1 h2 hz3 hbl3).mono ?_
              rintro e w4 ⟨a4, cap4, rfl, hbl4, hB4'⟩
              have hB4 : Below (w.heap.size + 2) w2 w4 := hB3.trans hB4'
              have hBw : Below w.heap.size w w4 := b1.trans (hB4.mono (by omega))
              clear hbl3 hB3 hB4' d0 d1 d2 q1
              generalize stepM M ⟨K, S, V⟩ u = r at hbl4 HStep HFail ⊢
              obtain ⟨M', bb⟩ := r
              cases bb
              · have HG : Hid (GivesF (.returned (.tuple #[.slice a3 M0.length c3, .bool false])) w4 w (matchR kd kd L F M0)) := by
                  unfold Hid
                  rw [HNo.out (k + 1) (by rw [← HN.out]; omega) (HFail.out rfl)]
                  exact ⟨a3, c3, rfl, hr3.below hBw, HCap.out, hBw⟩
                clear hbl4 HStep HFail
                go_wp2
                go_returns
                exact HG.out
              · have HG := hide (HStep.out rfl)
                have HBl := hide hbl4
                clear hbl4 HStep HFail
                go_wp2
                go_roundw
                case rel => exact ⟨k + 1, M', a4, cap4, by omega, by go_num, rfl, HG.out, HBl.out, hB4⟩
                case measure => simp [intOf]; omega
        · obtain rfl : k = n := by omega
          have HG : Hid (GivesF (.returned (.tuple #[.slice a M.length cap, .bool true])) wr w (matchR kd kd L F M0)) := by
            unfold Hid
            rw [HYes.out M (by rw [← HN.out]; exact HM.out)]
            exact ⟨a, cap, rfl, hbl.1, capBL hbl, hB⟩
          clear hbl
          go_wp2
          go_returns
          exact HG.out
    · have hnn : ((L.length : Int) != (F.length : Int)) = true := by simp only [bne_iff_ne, ne_eq]; omega
      have HG : Hid (GivesF (.returned (.tuple #[.slice a3 M0.length c3, .bool false])) ((w.alloc (.cells #[.string kd, .slice a1 L.length c1, .bool nt] 79)).alloc (.cells #[.string kd, .slice a2 F.length c2] 89)) w (matchR kd kd L F M0)) := by
        unfold Hid
        rw [matchR_len hl]
        exact ⟨a3, c3, rfl, hr3.below b1, HCap.out, b1⟩
      clear hl
      go_enter Try.func62, Try.ntmps62
      go_wp2
      go_returns
      exact HG.out
  · have k1 : (kd.toList == kd'.toList) = false := beq_ne hkd
    have HG : Hid (GivesF (.returned (.tuple #[.slice a3 M0.length c3, .bool false])) ((w.alloc (.cells #[.string kd, .slice a1 L.length c1, .bool nt] 79)).alloc (.cells #[.string kd', .slice a2 F.length c2] 89)) w (matchR kd kd' L F M0)) := by
      unfold Hid
      rw [matchR_kind hkd]
      exact ⟨a3, c3, rfl, hr3.below b1, HCap.out, b1⟩
    clear hkd
    go_enter Try.func62, Try.ntmps62
    go_wp2
    go_returns
    exact HG.out

theorem keptB {W w' : World} {p : Addr} {v : Value} (hb : Below W.heap.size W w') (h : W.cell? p = some v) : w'.cell? p = some v := by rw [hb.cell (World.block_lt_of_cell? W _ h)]; exact h
/-- what MatchPat answers -/
def GivesR (e : Ending) (w' : World) (w : World) (r : List B4 × Bool) : Prop := ∃ g c, e = .returned (.tuple #[.slice (some ⟨g, 0, none⟩) r.1.length c, .bool r.2]) ∧ w.heap.size ≤ g ∧ OwnBind w' g c r.1 ∧ Below w.heap.size w w'
/-- a row of binds of the call's own -/
def GivesC (e : Ending) (w' : World) (w : World) (M : List B4) : Prop := ∃ g c, e = .returned (.slice (some ⟨g, 0, none⟩) M.length c) ∧ w.heap.size ≤ g ∧ OwnBind w' g c M ∧ Below w.heap.size w w'
theorem take_row {M : List B4} {k : Nat} (h : k < M.length) : rowOf B4.cs (M.take k) ++ (eAt M k).cs = rowOf B4.cs (M.take (k + 1)) := by
  rw [List.take_succ_eq_append_getElem h, rowOf_append, eAt_in h]; simp [rowOf]

set_option maxRecDepth 100000 in
set_option maxHeartbeats 6400000 in
theorem copyBinds_any (a : Option Addr) (cap : Nat) (M : List B4) (w : World) (hr : RdBind w a M) (hs : ∀ x ∈ M, x.small) (hm : M.length ≤ 1048576) :
    Calls Try.prog 63 #[.slice a M.length cap] w fun e w' => GivesC e w' w M := by
  obtain ⟨i0, hi, hz0, hz1, hz2⟩ := info_parts Try.info107
  obtain ⟨n, hN⟩ : ∃ n, n = M.length := ⟨_, rfl⟩
  rw [← hN] at hm ⊢
  have HN := hide hN
  have HS := hide hs
  have HE : Hid (M.take n = M) := by unfold Hid; rw [hN, List.take_length]
  clear hN hs
  have hz3 : (i0.bytes * n) = 48 * n := by rw [hz2]
  go_enter Try.func63, Try.ntmps63
  go_wp2_with (at_make; refine wpList_make_own _ rfl _ _ 28 rfl w.heap.size 107 i0 (.agg #[.string ⟨#[]⟩, .int .i64 0, .int .i64 0, .string ⟨#[]⟩]) 4 Try.underlying28 hi hz0 hz1 _ _ _ n rfl rfl (by omega) ?b2 ?b3 (Nat.le_refl _) ?_)
  case b2 => rw [hz2]; omega
  case b3 => unfold maxLen; omega
  intro w2 ho2 hg2
  have b2 : Below w.heap.size w w2 := (Below.refl _ _).grown hg2 (Nat.le_refl _) (fun k hk => by cases hk)
  clear hg2
  go_wp2
  go_loopw [3, 11] (fun v i wr => ∃ (k g c : Nat), k ≤ n ∧ i = .int .i64 k ∧ v = .slice (some ⟨g, 0, none⟩) k c ∧ wr.ownsRow w.heap.size 107 4 (.slice (some ⟨g, 0, none⟩) k c) k (rowOf B4.cs (M.take k)) ∧ Below w.heap.size w wr) (fun _ i _ => n - (intOf i).toNat)
  case atStart => exact ⟨0, w.heap.size, n, Nat.zero_le _, rfl, rfl, by rw [List.take_zero]; exact ho2, b2⟩
  case round =>
    clear ho2 b2
    obtain ⟨k, g, c, hk, rfl, rfl, hown, hbel⟩ := hrel
    by_cases hlt : k < n
    · have hlL : k < M.length := by rw [← HN.out]; exact hlt
      obtain ⟨b, off, hab, hbw, hc⟩ := RdBind.cells (hr.below hbel) (by omega)
      obtain ⟨c0, c1, c2, c3⟩ := hc k hlL
      clear hc
      have hS : (eAt M k).small := by rw [eAt_in hlL]; exact HS.out _ (List.getElem_mem _)
      have HT := hide (take_row hlL)
      generalize eAt M k = x at c0 c1 c2 c3 hS HT
      obtain ⟨N, V⟩ := x
      obtain ⟨hS0, hS1⟩ := hS
      simp only at c0 c1 c2 c3 hS0 hS1
      subst hab
      have hx := boxk_new wr #[.string N, .int .i64 V.K, .int .i64 V.N, .string V.S] 107
      have x0 := boxk_cell hx 0 _ rfl
      have x1 := boxk_cell hx 1 _ rfl
      have x2 := boxk_cell hx 2 _ rfl
      have x3 := boxk_cell hx 3 _ rfl
      have HX := hide hx
      have HO := hide (hown.alloc (.cells #[.string N, .int .i64 V.K, .int .i64 V.N, .string V.S] 107))
      have HB := hide (hbel.alloc hbel.size (.cells #[.string N, .int .i64 V.K, .int .i64 V.N, .string V.S] 107))
      clear hx hown hbel hlL
      go_wp2_with fail
      generalize wr.alloc (.cells #[.string N, .int .i64 V.K, .int .i64 V.N, .string V.S] 107) = wb at x0 x1 x2 x3 HX HO HB
      clear HX c0 c1 c2 c3
      go_region_law (first
        | (refine step_append_lies _ rfl (.tmp 15) (.tmp 23) 28 rfl w.heap.size 107 i0 (.agg #[.string ⟨#[]⟩, .int .i64 0, .int .i64 0, .string ⟨#[]⟩]) 4 48 Try.underlying28 hi hz0 hz1 hz2 rfl (by omega) (.slice (some ⟨g, 0, none⟩) k c) k (rowOf B4.cs (M.take k)) (by simp [Act.eval]) (HO4.out.alloc _) ⟨w4.heap.size, 0, none⟩ 1 1 (B4.cs ⟨N, V⟩) (by simp [Act.eval]) rfl (src4 w4 ⟨N, V⟩) (one4 _) (by omega) (by unfold maxLen; omega) (by omega) (by have := HB4.out.size; simp; omega) _ rfl ?_; intro g5 c5 w5 ho5 hg5 hat5 hlt5)
        | (rw [if_pos (by simp [Region.wanted])]; go_simp; go_at_call 101; refine (cloneS_any _ _ (by omega)).mono ?_; rintro e w3 ⟨rfl, hb3⟩; have y1 := keptB (below_dr hb3) x1; have y2 := keptB (below_dr hb3) x2; have y3 := keptB (below_dr hb3) x3; have HO3 := hide (ownsRow_below' HO.out (below_dr hb3)); have HB3 := hide (below_step HB.out (below_dr hb3)))
        | (rw [if_pos (by simp [Region.wanted])]; go_simp; go_at_call 102; refine (copyVal_any _ _ _ _ (by omega)).mono ?_; rintro e w4 ⟨rfl, hb4⟩; have HO4 := hide (ownsRow_below' HO3.out hb4); have HB4 := hide (below_step HB3.out hb4)))
      all_goals
        rw [HT.out] at ho5
        have HO5 := hide ho5
        have HB5 := hide ((HB4.out.alloc HB4.out.size _).grown hg5 (HB4.out.alloc HB4.out.size _).size (fun k hk => (HO4.out.lt k hk).1))
        clear ho5 hg5 hat5 hlt5 HO4 HB4 HO3 HB3 HO HB x0 x1 x2 x3 y1 y2 y3 hb3 hb4
        go_wp2
        go_roundw
        case rel => exact ⟨k + 1, g5, c5, by omega, by go_num, rfl, HO5.out, HB5.out⟩
        case measure => simp [intOf]; omega
    · obtain rfl : k = n := by omega
      rw [HE.out] at hown
      have HG : Hid (GivesC (.returned (.slice (some ⟨g, 0, none⟩) k c)) wr w M) := by
        refine ⟨g, c, by rw [← HN.out], (hown.lt g rfl).1, OwnK.of B4.len (by decide) hown, hbel⟩
      clear hown
      go_wp2
      go_returns
      exact HG.out

end Go.Proofs.Ytfgigcdfmkfkjaa
