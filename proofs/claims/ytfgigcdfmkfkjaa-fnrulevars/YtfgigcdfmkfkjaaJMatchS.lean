/-
  What the model's MatchPat answers: matchR, in a row of the call's own.
-/
import Derived.Test.YtfgigcdfmkfkjaaJMatchI2
import Derived.Deep.Upon
import Derived.Deep.RegionLaw
namespace Go.Proofs.Ytfgigcdfmkfkjaa
open Go.RowKit
set_option linter.unusedVariables false

theorem src_zeroB {P : Program} {w : World} {size : Nat} {t e : TypeId} (hk : P.underlying t = some (.slice e)) (ad : Option Addr) (c : Nat) : Src P size t (.slice ad 0 c) 0 [] w := by
  cases ad with
  | none => exact Src.ofNil w hk c
  | some a => exact Src.ofSlice w hk a 0 c [] (by simp) (fun j u h => by simp at h) (fun _ h => by cases h)
theorem wpList_append_zeroB {P : Program} {w : World} {ops : Array Oper} {rest : List Oper} {o : Oper} {a : Act} {Q : Exit → Act → World → Prop} (hgd : o.guard = none) (s x : Operand) (t : TypeId)
    (ho : o.op = .call { callee := .builtin .append, args := #[s, x], argTypes := #[t, t] }) (e : TypeId) (i : TypeInfo) (ht : P.underlying t = some (.slice e)) (hi : P.info? e = some i)
    (b : Option Addr) (n cap : Nat) (hs : a.eval s = .slice b n cap) (hle : n ≤ cap) (ad : Option Addr) (c : Nat) (hx : a.eval x = .slice ad 0 c)
    (h : wpList P ops Q rest (a.put o.dst (.slice b n cap)) w) : wpList P ops Q (o :: rest) a w := by
  refine wpList_plain hgd fun K hK => ?_
  have hrun := run_append_nothing w t t o.type e i ht hi b n cap hle (.slice ad 0 c) (src_zeroB ht ad c)
  unfold Oper.wp
  simp [execOp, ho, resolve, invoke, builtin, hs, hx, hrun, Result.andThen]
  exact hK _ _ h
/-- binds copied: append onto an empty row of the call's own -/
theorem wpList_copyB {w : World} {ops : Array Oper} {rest : List Oper} {o : Oper} {act : Act} {Q : Exit → Act → World → Prop} (hgd : o.guard = none) (s x : Operand)
    (ho : o.op = .call { callee := .builtin .append, args := #[s, x], argTypes := #[28, 28] })
    (base q : Nat) (hs : act.eval s = .slice (some ⟨q, 0, none⟩) 0 0) (hE : w.ownsRow base 107 4 (.slice (some ⟨q, 0, none⟩) 0 0) 0 []) (a3 : Option Addr) (c3 n : Nat) (M0 : List B4) (hn : M0.length = n) (hx : act.eval x = .slice a3 n c3) (hr : RdBind w a3 M0) (hm : n ≤ 1048576) (hbase : base ≤ w.heap.size)
    (h : ∀ g c w', w'.ownsRow base 107 4 (.slice (some ⟨g, 0, none⟩) n c) n (rowOf B4.cs M0) → w.grownBy w' (some q) → wpList Try.prog ops Q rest (act.put o.dst (.slice (some ⟨g, 0, none⟩) n c)) w') : wpList Try.prog ops Q (o :: rest) act w := by
  obtain ⟨i0, hi, hz0, hz1, hz2⟩ := info_parts Try.info107
  subst hn
  by_cases hL : M0 = []
  · subst hL
    refine wpList_append_zeroB hgd s x 28 ho 107 i0 Try.underlying28 hi (some ⟨q, 0, none⟩) 0 0 hs (Nat.le_refl _) a3 c3 hx ?_
    exact h q 0 w hE (World.grownBy.refl _ _)
  · obtain ⟨b, off, rfl, hbw, -⟩ := RdBind.cells hr (List.length_pos_iff.2 hL)
    have hpos : 0 < M0.length := List.length_pos_iff.2 hL
    refine wpList_append_lies _ hgd s x 28 ho base 107 i0 (.agg #[.string ⟨#[]⟩, .int .i64 0, .int .i64 0, .string ⟨#[]⟩]) 4 48 Try.underlying28 hi hz0 hz1 hz2 rfl (by omega) (.slice (some ⟨q, 0, none⟩) 0 0) 0 [] hs hE ⟨b, off, none⟩ M0.length c3 (rowOf B4.cs M0) hx (rowOf_length B4.len M0) (rdK_src B4.len (by decide) hr) ?one hpos (by unfold maxLen; omega) (by omega) hbase _ rfl ?_
    · intro u hu
      obtain ⟨y, hy, hu2⟩ := List.mem_flatMap.1 hu
      exact one4 y u hu2
    · intro g c w' h1 h2 h3 h4
      rw [Nat.zero_add, List.nil_append] at h1
      have := h g c w' h1 h2
      rw [Nat.zero_add]
      exact this

set_option maxRecDepth 100000 in
set_option maxHeartbeats 6400000 in
theorem specMatchPat_any (kd : ByteArray) (a1 : Option Addr) (c1 : Nat) (L : List A5) (nt : Bool) (kd' : ByteArray) (a2 : Option Addr) (c2 : Nat) (F : List V3) (a3 : Option Addr) (c3 : Nat) (M0 : List B4) (w : World)
    (hr1 : RdArg w a1 L) (hr2 : RdV w a2 F) (hr3 : RdBind w a3 M0) (hn1 : L.length + M0.length ≤ 1048576) (hn2 : F.length ≤ 1048576) :
    Calls Try.prog 54 #[.agg #[.string kd, .slice a1 L.length c1, .bool nt], .agg #[.string kd', .slice a2 F.length c2], .slice a3 M0.length c3] w fun e w' => GivesR e w' w (matchR kd kd' L F M0) := by
  obtain ⟨i0, hi, hz0, hz1, hz2'⟩ := info_parts Try.info107
  have b0 := below_al w (.cells #[.string kd, .slice a1 L.length c1, .bool nt] 79)
  have b1 := b0.alloc b0.size (.cells #[.string kd', .slice a2 F.length c2] 89)
  have hP := box_old (boxk_new w #[.string kd, .slice a1 L.length c1, .bool nt] 79) (by simp) (.cells #[.string kd', .slice a2 F.length c2] 89)
  have hQ := boxk_new (w.alloc (.cells #[.string kd, .slice a1 L.length c1, .bool nt] 79)) #[.string kd', .slice a2 F.length c2] 89
  simp only [World.size_alloc] at hQ
  have hz : ((w.alloc (.cells #[.string kd, .slice a1 L.length c1, .bool nt] 79)).alloc (.cells #[.string kd', .slice a2 F.length c2] 89)).heap.size = w.heap.size + 2 := by simp
  obtain ⟨nM, hNM⟩ : ∃ n, n = M0.length := ⟨_, rfl⟩
  obtain ⟨nF, hNF⟩ : ∃ n, n = F.length := ⟨_, rfl⟩
  obtain ⟨n, hN⟩ : ∃ n, n = L.length := ⟨_, rfl⟩
  have HLen := hide (fun k M (h : matchK L F M0 k = some M) => matchK_len h)
  have HNo := hide (fun k (hk : k ≤ L.length) (hkd : kd = kd') (hl : L.length = F.length) (h : matchK L F M0 k = none) => (show matchR kd kd' L F M0 = (M0, false) by subst hkd; exact matchR_fail hl hk h))
  have HYes := hide (fun M (hkd : kd = kd') (hl : L.length = F.length) (h : matchK L F M0 L.length = some M) => (show matchR kd kd' L F M0 = (M, true) by subst hkd; exact matchR_yes hl h))
  have HKd := hide (fun (h : kd ≠ kd') => matchR_kind (L := L) (F := F) (M0 := M0) h)
  have HLn := hide (fun (h : L.length ≠ F.length) => matchR_len (kd := kd) (kd' := kd') (M0 := M0) h)
  rw [← hN, ← hNM] at hn1
  rw [← hNF] at hn2
  rw [← hN, ← hNF] at b1 hP hQ hz
  rw [← hN] at b0
  rw [← hN, ← hNF, ← hNM]
  have HN := hide hN
  have HNF := hide hNF
  have HNM := hide hNM
  clear hN hNF hNM
  have b2 := b1.alloc b1.size (.cells #[] 107)
  have hE := World.ownsRow_lit (base := w.heap.size + 2) (e := 107) (size := 4) ((w.alloc (.cells #[.string kd, .slice a1 n c1, .bool nt] 79)).alloc (.cells #[.string kd', .slice a2 nF c2] 89)) #[] 0 (by omega) (Nat.zero_le _) rfl
  rw [hz] at hE
  have hP2 := box_old hP (by omega) (.cells #[] 107)
  have hQ2 := box_old hQ (by omega) (.cells #[] 107)
  have hz2 : w.heap.size + 3 ≤ (((w.alloc (.cells #[.string kd, .slice a1 n c1, .bool nt] 79)).alloc (.cells #[.string kd', .slice a2 nF c2] 89)).alloc (.cells #[] 107)).heap.size := by rw [World.size_alloc, hz]; omega
  clear b0 b1 hP hQ hz
  go_enter Try.func54, Try.ntmps54
  go_wp2_with (at_builtin; refine wpList_copyB rfl (.tmp 13) (.tmp 14) rfl (w.heap.size + 2) (w.heap.size + 2) ?hs hE a3 c3 nM M0 HNM.out.symm ?hx (hr3.below b2) (by omega) (by omega) ?_)
  generalize ((w.alloc (.cells #[.string kd, .slice a1 n c1, .bool nt] 79)).alloc (.cells #[.string kd', .slice a2 nF c2] 89)).alloc (.cells #[] 107) = w1 at b2 hE hP2 hQ2 hz2
  intro g2 k2 w2 ho2 gr2
  have hB2 : Below w.heap.size w w2 := b2.grown gr2 b2.size (fun k hk => by cases hk; omega)
  have HP := hide (box_gr hP2 gr2 (by omega))
  have HQ := hide (box_gr hQ2 gr2 (by omega))
  have hz3 : w.heap.size + 2 ≤ w2.heap.size := by have := gr2.size; omega
  have HO2 := hide ho2
  have p0 := boxk_cell HP.out 0 _ rfl
  have p1 := boxk_cell HP.out 1 _ rfl
  have q0 := boxk_cell HQ.out 0 _ rfl
  have q1 := boxk_cell HQ.out 1 _ rfl
  clear hE hP2 hQ2 hz2 b2 gr2 ho2
  have HRet : Hid (GivesR (.returned (.tuple #[.slice (some ⟨g2, 0, none⟩) nM k2, .bool false])) w2 w (M0, false)) :=
    ⟨g2, k2, by rw [HNM.out], Nat.le_trans (by omega) (HO2.out.lt g2 rfl).1, OwnK.of B4.len (by decide) HO2.out, hB2⟩
  by_cases hkd : kd = kd'
  · subst hkd
    have k1 : (kd.toList == kd.toList) = true := by simp
    by_cases hl : n = nF
    · subst hl
      have hnn : ((n : Int) != (n : Int)) = false := by simp
      have HNo2 := hide (fun k (hk : k ≤ L.length) (h : matchK L F M0 k = none) => HNo.out k hk rfl (by rw [← HN.out, ← HNF.out]) h)
      have HYes2 := hide (fun M (h : matchK L F M0 L.length = some M) => HYes.out M rfl (by rw [← HN.out, ← HNF.out]) h)
      clear HKd HLn HRet HNo HYes
      go_wp2
      go_loopw [8, 9] (fun v i wr => ∃ (k : Nat) (M : List B4) (g c : Nat), k ≤ n ∧ i = .int .i64 k ∧ v = .slice (some ⟨g, 0, none⟩) M.length c ∧ matchK L F M0 k = some M ∧ wr.ownsRow (w.heap.size + 2) 107 4 (.slice (some ⟨g, 0, none⟩) M.length c) M.length (rowOf B4.cs M) ∧ Below (w.heap.size + 2) w2 wr) (fun _ i _ => n - (intOf i).toNat)
      case atStart => exact ⟨0, M0, g2, k2, Nat.zero_le _, rfl, by rw [HNM.out], rfl, by rw [← HNM.out]; exact HO2.out, Below.refl _ _⟩
      case round =>
        clear p0 p1 q0 q1
        obtain ⟨k, M, g, c, hk, rfl, rfl, hM, hown, hbel⟩ := hrel
        have hB : Below w.heap.size w wr := hB2.trans (hbel.mono (by omega))
        have hzr : w.heap.size + 2 ≤ wr.heap.size := Nat.le_trans hz3 hbel.size
        have hMl := HLen.out k M hM
        rw [← HNM.out] at hMl
        have HM := hide hM
        clear hM
        have p1 := boxk_cell (box_below HP.out hbel (by omega)) 1 _ rfl
        by_cases hlt : k < n
        · obtain ⟨b, off, hab, hbw, hc⟩ := RdArg.cells (hr1.below hB) (by rw [← HN.out]; omega)
          obtain ⟨c0', c1', c2', c3', c4'⟩ := hc k (by rw [← HN.out]; exact hlt)
          clear hc
          obtain ⟨b', off', hab', hbw', hd⟩ := (hr2.below hB).open (by rw [← HNF.out]; omega)
          obtain ⟨d0, d1, d2⟩ := hd k (by rw [← HNF.out]; exact hlt)
          clear hd
          have HStep := hide (fun hb => matchK_step (L := L) (F := F) HM.out hb)
          have HFail := hide (fun hb => matchK_fail (L := L) (F := F) HM.out hb)
          generalize eAt L k = x at c0' c1' c2' c3' c4' HStep HFail
          generalize vAt F k = u at d0 d1 d2 HStep HFail
          obtain ⟨K, S, V⟩ := x
          simp only at c0' c1' c2' c3' c4'
          subst hab hab'
          have rd := (RdK.below (OwnK.rd B4.len (by decide) (OwnK.of B4.len (by decide) hown)) (below_al wr (.cells #[.int .i64 K, .string S, .int .i64 V.K, .int .i64 V.N, .string V.S] 157)))
          have hxb := boxk_new wr #[.int .i64 K, .string S, .int .i64 V.K, .int .i64 V.N, .string V.S] 157
          go_wp2_with fail
          refine (specBindOf_any _ _ M S _ rd (by omega)).mono ?_
          rintro e w3 ⟨rfl, hb3⟩
          have b3 := (below_al wr (.cells #[.int .i64 K, .string S, .int .i64 V.K, .int .i64 V.N, .string V.S] 157)).trans (hb3.mono (by simp))
          have HX := hide (box_step hxb hb3)
          have hzx : wr.heap.size < w3.heap.size := Nat.lt_of_lt_of_le (by simp) hb3.size
          have hB3 : Below (w.heap.size + 2) w2 w3 := hbel.trans (b3.mono hzr)
          have hz4 : w.heap.size + 2 ≤ w3.heap.size := Nat.le_trans hzr b3.size
          have HO3 := hide (ownsRow_below' hown b3)
          rw [← b3.cell (p := ⟨b', off' + k * 3, none⟩) hbw'] at d0
          rw [← b3.cell (p := ⟨b', off' + k * 3 + 1, none⟩) hbw'] at d1
          rw [← b3.cell (p := ⟨b', off' + k * 3 + 2, none⟩) hbw'] at d2
          have hbw3 : b' < w3.heap.size := World.block_lt_of_cell? w3 _ d0
          clear hb3 b3 c0' c1' c2' c3' c4' rd hxb hown hbel hB p1
          cases hb : bindO M S with
          | some v =>
            have hBv := hB3.alloc hz4 (.cells #[.int .i64 v.K, .int .i64 v.N, .string v.S] 105)
            have hy := boxk_new w3 #[.int .i64 v.K, .int .i64 v.N, .string v.S] 105
            have hx := box_old HX.out (by omega) (.cells #[.int .i64 v.K, .int .i64 v.N, .string v.S] 105)
            have hq := box_old (box_below HQ.out hB3 (by omega)) (by omega) (.cells #[.int .i64 v.K, .int .i64 v.N, .string v.S] 105)
            have ho := HO3.out.alloc (.cells #[.int .i64 v.K, .int .i64 v.N, .string v.S] 105)
            have e0 := keptB (below_al w3 (.cells #[.int .i64 v.K, .int .i64 v.N, .string v.S] 105)) d0
            have e1 := keptB (below_al w3 (.cells #[.int .i64 v.K, .int .i64 v.N, .string v.S] 105)) d1
            have e2 := keptB (below_al w3 (.cells #[.int .i64 v.K, .int .i64 v.N, .string v.S] 105)) d2
            have hzv : w.heap.size + 2 ≤ (w3.alloc (.cells #[.int .i64 v.K, .int .i64 v.N, .string v.S] 105)).heap.size := by simp; omega
            simp only [bindA]
            go_wp2_with fail
            generalize w3.alloc (.cells #[.int .i64 v.K, .int .i64 v.N, .string v.S] 105) = w4 at hBv hy hx hq ho e0 e1 e2 hzv
            have x0 := boxk_cell hx 0 _ rfl
            have x1 := boxk_cell hx 1 _ rfl
            have x2 := boxk_cell hx 2 _ rfl
            have x3 := boxk_cell hx 3 _ rfl
            have x4 := boxk_cell hx 4 _ rfl
            have q1 := boxk_cell hq 1 _ rfl
            obtain ⟨y0, y1, y2, -, -, -⟩ := box_cell hy
            have HO := hide ho
            clear hx hq hy ho d0 d1 d2
            have HSz := hide (fun d e => (show w.heap.size + 2 ≤ ((w4.drewN d).alloc e).heap.size from by rw [World.size_alloc]; exact Nat.le_succ_of_le hzv))
            have HOd := hide (fun d => (show (w4.drewN d).ownsRow (w.heap.size + 2) 107 4 (.slice (some ⟨g, 0, none⟩) M.length c) M.length (rowOf B4.cs M) from HO.out))
            have HBd := hide (fun d => (show Below (w.heap.size + 2) w2 (w4.drewN d) from hBv.trans ⟨rfl, rfl, rfl, Nat.le_refl _, fun _ _ => rfl⟩))
            by_cases h2 : K = 2
            · subst h2
              rw [show ∀ V, stepM M ⟨2, S, V⟩ u = (M, decide (V = u)) from fun V => stepM_K2] at HStep HFail
              rcases v3_cases V u with he | ⟨hne, hv⟩
              · subst he
                have HS2 := hide (HStep.out (by simp))
                have k1 : (V.K == V.K) = true := by simp
                have k2' : (V.N == V.N) = true := by simp
                have k3 : (V.S.toList == V.S.toList) = true := by simp
                clear HStep HFail
                go_quiet (fail)
                go_wp2
                go_roundw
                case rel => exact ⟨k + 1, M, g, c, by omega, by go_num, rfl, HS2.out, HOd.out _, HBd.out _⟩
                case measure => simp [intOf]; omega
              · have HF2 := hide (HFail.out (by simpa using hne))
                clear hne HStep HFail
                rcases hv with k1 | ⟨k1, k2'⟩ | ⟨k1, k2', k3⟩
                all_goals
                  have HEd := hide (fun d => (show ((w4.drewN d).alloc (.cells #[] 107)).ownsRow (w.heap.size + 2) 107 4 (.slice (some ⟨w4.heap.size, 0, none⟩) 0 0) 0 [] from World.ownsRow_lit (base := w.heap.size + 2) (w4.drewN d) #[] 0 hzv (Nat.zero_le _) rfl))
                  have HWd := hide (fun d => (show Below w.heap.size w ((w4.drewN d).alloc (.cells #[] 107)) from (hB2.trans ((HBd.out d).mono (by omega))).alloc (by show w.heap.size ≤ w4.heap.size; omega) _))
                  go_quiet (fail)
                  go_wp2_with (at_builtin; refine wpList_copyB rfl (.tmp 80) (.tmp 81) rfl (w.heap.size + 2) w4.heap.size (by simp [Act.eval]) (HEd.out _) a3 c3 nM M0 HNM.out.symm (by simp [Act.eval]) (hr3.below (HWd.out _)) (by omega) (HSz.out _ _) ?_)
                  intro g5 k5 w5 ho5 gr5
                  have HG : Hid (GivesR (.returned (.tuple #[.slice (some ⟨g5, 0, none⟩) nM k5, .bool false])) w5 w (matchR kd kd L F M0)) := by
                    unfold Hid
                    rw [HNo2.out (k + 1) (by rw [← HN.out]; omega) HF2.out]
                    exact ⟨g5, k5, by rw [HNM.out], Nat.le_trans (by omega) (ho5.lt g5 rfl).1, OwnK.of B4.len (by decide) ho5, (HWd.out _).grown gr5 (HWd.out _).size (fun k hk => by cases hk; omega)⟩
                  clear ho5 gr5
                  go_wp2
                  go_returns
                  exact HG.out
            · have kk2 : (K == 2) = false := by simpa using h2
              by_cases h1 : K = 1
              · subst h1
                rw [show ∀ V, stepM M ⟨1, S, V⟩ u = (M, decide (v = u)) from fun V => stepM_K1 hb] at HStep HFail
                clear hb
                rcases v3_cases v u with he | ⟨hne, hv⟩
                · subst he
                  have HS2 := hide (HStep.out (by simp))
                  have k1 : (v.K == v.K) = true := by simp
                  have k2' : (v.N == v.N) = true := by simp
                  have k3 : (v.S.toList == v.S.toList) = true := by simp
                  clear HStep HFail
                  go_quiet (fail)
                  go_wp2
                  go_roundw
                  case rel => exact ⟨k + 1, M, g, c, by omega, by go_num, rfl, HS2.out, HOd.out _, HBd.out _⟩
                  case measure => simp [intOf]; omega
                · have HF2 := hide (HFail.out (by simpa using hne))
                  clear hne HStep HFail
                  rcases hv with k1 | ⟨k1, k2'⟩ | ⟨k1, k2', k3⟩
                  all_goals
                    have HEd := hide (fun d => (show ((w4.drewN d).alloc (.cells #[] 107)).ownsRow (w.heap.size + 2) 107 4 (.slice (some ⟨w4.heap.size, 0, none⟩) 0 0) 0 [] from World.ownsRow_lit (base := w.heap.size + 2) (w4.drewN d) #[] 0 hzv (Nat.zero_le _) rfl))
                    have HWd := hide (fun d => (show Below w.heap.size w ((w4.drewN d).alloc (.cells #[] 107)) from (hB2.trans ((HBd.out d).mono (by omega))).alloc (by show w.heap.size ≤ w4.heap.size; omega) _))
                    go_quiet (fail)
                    go_wp2_with (at_builtin; refine wpList_copyB rfl (.tmp 80) (.tmp 81) rfl (w.heap.size + 2) w4.heap.size (by simp [Act.eval]) (HEd.out _) a3 c3 nM M0 HNM.out.symm (by simp [Act.eval]) (hr3.below (HWd.out _)) (by omega) (HSz.out _ _) ?_)
                    intro g5 k5 w5 ho5 gr5
                    have HG : Hid (GivesR (.returned (.tuple #[.slice (some ⟨g5, 0, none⟩) nM k5, .bool false])) w5 w (matchR kd kd L F M0)) := by
                      unfold Hid
                      rw [HNo2.out (k + 1) (by rw [← HN.out]; omega) HF2.out]
                      exact ⟨g5, k5, by rw [HNM.out], Nat.le_trans (by omega) (ho5.lt g5 rfl).1, OwnK.of B4.len (by decide) ho5, (HWd.out _).grown gr5 (HWd.out _).size (fun k hk => by cases hk; omega)⟩
                    clear ho5 gr5
                    go_wp2
                    go_returns
                    exact HG.out
              · rw [show ∀ V, stepM M ⟨K, S, V⟩ u = (M, true) from fun V => stepM_no h1 h2] at HStep HFail
                have HS2 := hide (HStep.out rfl)
                have kk1 : (K == 1) = false := by simpa using h1
                clear HStep HFail h1 h2
                go_quiet (fail)
                go_wp2
                go_roundw
                case rel => exact ⟨k + 1, M, g, c, by omega, by go_num, rfl, HS2.out, HOd.out _, HBd.out _⟩
                case measure => simp [intOf]; omega
          | none =>
            have hBv := hB3.alloc hz4 (.cells #[.int .i64 0, .int .i64 0, .string ⟨#[]⟩] 105)
            have hy := boxk_new w3 #[.int .i64 0, .int .i64 0, .string ⟨#[]⟩] 105
            have hx := box_old HX.out (by omega) (.cells #[.int .i64 0, .int .i64 0, .string ⟨#[]⟩] 105)
            have hq := box_old (box_below HQ.out hB3 (by omega)) (by omega) (.cells #[.int .i64 0, .int .i64 0, .string ⟨#[]⟩] 105)
            have ho := HO3.out.alloc (.cells #[.int .i64 0, .int .i64 0, .string ⟨#[]⟩] 105)
            have e0 := keptB (below_al w3 (.cells #[.int .i64 0, .int .i64 0, .string ⟨#[]⟩] 105)) d0
            have e1 := keptB (below_al w3 (.cells #[.int .i64 0, .int .i64 0, .string ⟨#[]⟩] 105)) d1
            have e2 := keptB (below_al w3 (.cells #[.int .i64 0, .int .i64 0, .string ⟨#[]⟩] 105)) d2
            have hzv : w.heap.size + 2 ≤ (w3.alloc (.cells #[.int .i64 0, .int .i64 0, .string ⟨#[]⟩] 105)).heap.size := by simp; omega
            simp only [bindA]
            go_wp2_with fail
            generalize w3.alloc (.cells #[.int .i64 0, .int .i64 0, .string ⟨#[]⟩] 105) = w4 at hBv hy hx hq ho e0 e1 e2 hzv
            have x0 := boxk_cell hx 0 _ rfl
            have x1 := boxk_cell hx 1 _ rfl
            have x2 := boxk_cell hx 2 _ rfl
            have x3 := boxk_cell hx 3 _ rfl
            have x4 := boxk_cell hx 4 _ rfl
            have q1 := boxk_cell hq 1 _ rfl
            obtain ⟨y0, y1, y2, -, -, -⟩ := box_cell hy
            have HO := hide ho
            clear hx hq hy ho d0 d1 d2
            have HSz := hide (fun d e => (show w.heap.size + 2 ≤ ((w4.drewN d).alloc e).heap.size from by rw [World.size_alloc]; exact Nat.le_succ_of_le hzv))
            have HOd := hide (fun d => (show (w4.drewN d).ownsRow (w.heap.size + 2) 107 4 (.slice (some ⟨g, 0, none⟩) M.length c) M.length (rowOf B4.cs M) from HO.out))
            have HBd := hide (fun d => (show Below (w.heap.size + 2) w2 (w4.drewN d) from hBv.trans ⟨rfl, rfl, rfl, Nat.le_refl _, fun _ _ => rfl⟩))
            by_cases h2 : K = 2
            · subst h2
              rw [show ∀ V, stepM M ⟨2, S, V⟩ u = (M, decide (V = u)) from fun V => stepM_K2] at HStep HFail
              rcases v3_cases V u with he | ⟨hne, hv⟩
              · subst he
                have HS2 := hide (HStep.out (by simp))
                have k1 : (V.K == V.K) = true := by simp
                have k2' : (V.N == V.N) = true := by simp
                have k3 : (V.S.toList == V.S.toList) = true := by simp
                clear HStep HFail
                go_quiet (fail)
                go_wp2
                go_roundw
                case rel => exact ⟨k + 1, M, g, c, by omega, by go_num, rfl, HS2.out, HOd.out _, HBd.out _⟩
                case measure => simp [intOf]; omega
              · have HF2 := hide (HFail.out (by simpa using hne))
                clear hne HStep HFail
                rcases hv with k1 | ⟨k1, k2'⟩ | ⟨k1, k2', k3⟩
                all_goals
                  have HEd := hide (fun d => (show ((w4.drewN d).alloc (.cells #[] 107)).ownsRow (w.heap.size + 2) 107 4 (.slice (some ⟨w4.heap.size, 0, none⟩) 0 0) 0 [] from World.ownsRow_lit (base := w.heap.size + 2) (w4.drewN d) #[] 0 hzv (Nat.zero_le _) rfl))
                  have HWd := hide (fun d => (show Below w.heap.size w ((w4.drewN d).alloc (.cells #[] 107)) from (hB2.trans ((HBd.out d).mono (by omega))).alloc (by show w.heap.size ≤ w4.heap.size; omega) _))
                  go_quiet (fail)
                  go_wp2_with (at_builtin; refine wpList_copyB rfl (.tmp 80) (.tmp 81) rfl (w.heap.size + 2) w4.heap.size (by simp [Act.eval]) (HEd.out _) a3 c3 nM M0 HNM.out.symm (by simp [Act.eval]) (hr3.below (HWd.out _)) (by omega) (HSz.out _ _) ?_)
                  intro g5 k5 w5 ho5 gr5
                  have HG : Hid (GivesR (.returned (.tuple #[.slice (some ⟨g5, 0, none⟩) nM k5, .bool false])) w5 w (matchR kd kd L F M0)) := by
                    unfold Hid
                    rw [HNo2.out (k + 1) (by rw [← HN.out]; omega) HF2.out]
                    exact ⟨g5, k5, by rw [HNM.out], Nat.le_trans (by omega) (ho5.lt g5 rfl).1, OwnK.of B4.len (by decide) ho5, (HWd.out _).grown gr5 (HWd.out _).size (fun k hk => by cases hk; omega)⟩
                  clear ho5 gr5
                  go_wp2
                  go_returns
                  exact HG.out
            · have kk2 : (K == 2) = false := by simpa using h2
              by_cases h1 : K = 1
              · subst h1
                rw [show ∀ V, stepM M ⟨1, S, V⟩ u = (M ++ [⟨S, u⟩], true) from fun V => stepM_K1n hb] at HStep HFail
                have HS2 := hide (HStep.out rfl)
                clear HStep HFail hb
                have HAd := hide (fun d e => (show ((w4.drewN d).alloc e).ownsRow (w.heap.size + 2) 107 4 (.slice (some ⟨g, 0, none⟩) M.length c) M.length (rowOf B4.cs M) from (HOd.out d).alloc e))
                have HBa := hide (fun d e => (show Below (w.heap.size + 2) w2 ((w4.drewN d).alloc e) from (HBd.out d).alloc hzv e))
                have HApp : Hid (rowOf B4.cs M ++ B4.cs ⟨S, u⟩ = rowOf B4.cs (M ++ [⟨S, u⟩])) := by unfold Hid; rw [rowOf_append]; simp [rowOf]
                go_quiet (fail)
                go_wp2_with fail
                go_region_law (refine step_append_lies _ rfl (.tmp 90) (.tmp 99) 28 rfl (w.heap.size + 2) 107 i0 (.agg #[.string ⟨#[]⟩, .int .i64 0, .int .i64 0, .string ⟨#[]⟩]) 4 48 Try.underlying28 hi hz0 hz1 hz2' rfl (by omega) (.slice (some ⟨g, 0, none⟩) M.length c) M.length (rowOf B4.cs M) (by simp [Act.eval]) (HAd.out _ _) ⟨w4.heap.size, 0, none⟩ 1 1 (B4.cs ⟨S, u⟩) (by simp [Act.eval]) rfl (src4 (w4.drewN _) ⟨S, u⟩) (one4 _) (by omega) (by unfold maxLen; omega) (by omega) (HSz.out _ _) _ rfl ?_; intro g5 c5 w5 ho5 hg5 hat5 hlt5)
                all_goals
                  rw [HApp.out] at ho5
                  have HO5 := hide ho5
                  have HB5 := hide ((HBa.out _ _).grown hg5 (HSz.out _ _) (fun k hk => ((HOd.out 0).lt k hk).1))
                  clear ho5 hg5 hat5 hlt5
                  go_wp2
                  go_roundw
                  case rel => exact ⟨k + 1, M ++ [⟨S, u⟩], g5, c5, by omega, by go_num, by simp, HS2.out, by rw [show (M ++ [(⟨S, u⟩ : B4)]).length = M.length + 1 by simp]; exact HO5.out, HB5.out⟩
                  case measure => simp [intOf]; omega
              · rw [show ∀ V, stepM M ⟨K, S, V⟩ u = (M, true) from fun V => stepM_no h1 h2] at HStep HFail
                have HS2 := hide (HStep.out rfl)
                have kk1 : (K == 1) = false := by simpa using h1
                clear HStep HFail h1 h2
                go_quiet (fail)
                go_wp2
                go_roundw
                case rel => exact ⟨k + 1, M, g, c, by omega, by go_num, rfl, HS2.out, HOd.out _, HBd.out _⟩
                case measure => simp [intOf]; omega
        · obtain rfl : k = n := by omega
          have HG : Hid (GivesR (.returned (.tuple #[.slice (some ⟨g, 0, none⟩) M.length c, .bool true])) wr w (matchR kd kd L F M0)) := by
            unfold Hid
            rw [HYes2.out M (by rw [← HN.out]; exact HM.out)]
            exact ⟨g, c, rfl, Nat.le_trans (by omega) (hown.lt g rfl).1, OwnK.of B4.len (by decide) hown, hB⟩
          clear hown
          go_wp2
          go_returns
          exact HG.out
    · have hnn : ((n : Int) != (nF : Int)) = true := by simp only [bne_iff_ne, ne_eq]; omega
      rw [← HLn.out (by rw [← HN.out, ← HNF.out]; exact hl)] at HRet
      clear hl
      go_wp2
      go_returns
      exact HRet.out
  · have k1 : (kd.toList == kd'.toList) = false := beq_ne hkd
    rw [← HKd.out hkd] at HRet
    clear hkd
    go_wp2
    go_returns
    exact HRet.out
end Go.Proofs.Ytfgigcdfmkfkjaa
