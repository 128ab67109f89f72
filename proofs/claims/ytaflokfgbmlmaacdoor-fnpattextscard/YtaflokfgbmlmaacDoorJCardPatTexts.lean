/-
  Proved: the row on FnPatTexts (for every row of bytes the law answers true: the variables of a drawn pattern are there once each, and its text is the model's; the row reads as it did, where the library's tables read as listed), and its tied card (what is listed is what the program's own text lays).
-/
import Derived.Test.YtaflokfgbmlmaacDoorJoined2
import Derived.Test.YtaflokfgbmlmaacDoorJDrawPk
import Derived.Test.YtaflokfgbmlmaacDoorJDrawAk
import Derived.Test.YtaflokfgbmlmaacDoorRows
import Derived.Test.YtaflokfgbmlmaacDoorCards
import Derived.Test.YtaflokfgbmlmaacDoorTie
import Derived.ProofKit
import Derived.LaidMore
import Derived.OpenShut
import Derived.ShutString
import Derived.ChangeOld
import Derived.Below
import Derived.Stop.Joined
import Derived.Stop.LaidErr
import Derived.Lib.LaidTab
import Derived.SevenTiedAt
import Derived.Lib.SmallJoins
import Derived.Deep.RegionHeld3
namespace Go.Proofs.YtaflokfgbmlmaacDoor.CardPatTexts
open Go.ChangeShapes Go.WideShapes Go.ChangeAt Go.RowKit Go.Joins
open Go.ChangeMaps (open_string shut_string)
set_option linter.unusedVariables false
set_option maxRecDepth 100000

theorem gT : Tryd.prog.globalNamed "internal/strconv.uint64pow10" = some 1 := by kernel_rfl
theorem gTType : (Tryd.prog.globals[1]?).map (·.type) = some 175 := by kernel_rfl
theorem tab_of {r : List (String × DataW Unit)} {a b : String × DataW Unit} {W : World} (h : laidMet Tryd.prog (a :: b :: ("internal/strconv.uint64pow10", Rows.laid_internal_strconv_uint64pow10) :: r) W) : Tab W :=
  Lib.tabIs_of_head (zs := Lib.pow10Tab) (rest := r) gT gTType Tryd.underlying175 Tryd.underlying158 (by kernel_rfl) (by kernel_rfl) h.tail.tail

set_option maxHeartbeats 400000 in
theorem big_any (a : Option Addr) (len cap : Nat) (w : World) (h : len ≤ 9223372036854775807) :
    Calls Tryd.prog 13 #[.slice a len cap] w fun e w' => e = .returned (.bool (decide ((1048576 : Int) < (len : Int)))) ∧ w' = w := by
  go_enter Tryd.func13, Tryd.ntmps13
  go_wp2
  go_ret
  exact ⟨rfl, rfl⟩

/-- the pattern in its block P, the argument in its block A, the pattern's arguments -/
structure PtAt (w0 : World) (P A : Nat) (kd : ByteArray) (v : Value) (nt : Bool) (x : A5) (a1 : Option Addr) (L : List A5) (W : World) : Prop where
  p : W.heap[P]? = some (.cells #[.string kd, v, .bool nt] 53 (0, 0))
  a : W.heap[A]? = some (.cells #[.int .i64 x.K, .string x.S, .int .i64 x.V.K, .int .i64 x.V.N, .string x.V.S] 39 (0, 0))
  rd : RdArg W a1 L
  bel : Below w0.heap.size w0 W
  tab : Tab w0
theorem PtAt.step {w0 W W' : World} {P A : Nat} {kd : ByteArray} {v : Value} {nt : Bool} {x : A5} {a1 : Option Addr} {L : List A5} (h : PtAt w0 P A kd v nt x a1 L W) (b : Below W.heap.size W W') : PtAt w0 P A kd v nt x a1 L W' :=
  ⟨box_step h.p b, box_step h.a b, h.rd.below b, h.bel.trans (b.mono h.bel.size), h.tab⟩
theorem PtAt.tb {w0 W : World} {P A : Nat} {kd : ByteArray} {v : Value} {nt : Bool} {x : A5} {a1 : Option Addr} {L : List A5} (h : PtAt w0 P A kd v nt x a1 L W) : Tab W := h.tab.later h.bel (Nat.le_refl _)
theorem PtAt.cells {w0 W : World} {P A : Nat} {kd : ByteArray} {v : Value} {nt : Bool} {x : A5} {a1 : Option Addr} {L : List A5} (h : PtAt w0 P A kd v nt x a1 L W) :
    W.cell? ⟨P, 0, none⟩ = some (.string kd) ∧ W.cell? ⟨P, 1, none⟩ = some v ∧ W.cell? ⟨P, 2, none⟩ = some (.bool nt) ∧ W.cell? ⟨A, 0, none⟩ = some (.int .i64 x.K) ∧ W.cell? ⟨A, 1, none⟩ = some (.string x.S) ∧ W.cell? ⟨A, 2, none⟩ = some (.int .i64 x.V.K) ∧ W.cell? ⟨A, 3, none⟩ = some (.int .i64 x.V.N) ∧ W.cell? ⟨A, 4, none⟩ = some (.string x.V.S) :=
  ⟨boxk_cell h.p 0 _ rfl, boxk_cell h.p 1 _ rfl, boxk_cell h.p 2 _ rfl, boxk_cell h.a 0 _ rfl, boxk_cell h.a 1 _ rfl, boxk_cell h.a 2 _ rfl, boxk_cell h.a 3 _ rfl, boxk_cell h.a 4 _ rfl⟩
theorem text_none (kd : ByteArray) (L : List A5) (nt : Bool) : (patT kd L nt).toList.isEmpty = !patB kd L := by
  cases h : patB kd L
  · rw [patT_no h, ByteArray.toList_eq]; rfl
  · rw [patT_yes h]
    have : ¬ (notT nt (kd ++ ⟨#[40]⟩) ++ ⟨(joinA L).toArray⟩ ++ ⟨#[41]⟩).size = 0 := by
      simp only [ByteArray.size_append, show (ByteArray.mk #[41]).size = 1 from rfl]
      omega
    rw [isEmpty_false this]; rfl

theorem cap_owns {w : World} {base n len cap : Nat} {T : TypeId} {a : Option Addr} {xs : List Value} (h : w.ownsRow base T 1 (.slice a len cap) n xs) : n ≤ cap := by
  rcases h.2 with ⟨-, h0⟩ | ⟨g, c, cur, h1, -, -, hnc, -⟩
  · omega
  · simp only [Value.slice.injEq] at h1
    omega
set_option maxRecDepth 100000 in
set_option maxHeartbeats 12800000 in
theorem law (a : Option Addr) (cap : Nat) (code : List UInt8) (w : World) (hr : Rd w a code) (hm : code.length ≤ maxLen) (ht : Tab w) :
    Calls Tryd.prog 6 #[.slice a code.length cap] w fun e w' => e = .returned (.bool true) ∧ Below w.heap.size w w' := by
  have HTab := hide ht
  clear ht
  unfold maxLen at hm
  by_cases hb : 1048576 < code.length
  · have hd : decide ((1048576 : Int) < (code.length : Int)) = true := by simp; omega
    go_enter Tryd.func6, Tryd.ntmps6
    go_wp2_with (go_at_call 13; refine (big_any _ _ _ _ (by omega)).mono ?_; rintro e w' ⟨rfl, rfl⟩)
    go_ret
    exact ⟨rfl, Below.refl _ _⟩
  · have hd : decide ((1048576 : Int) < (code.length : Int)) = false := by simp; omega
    go_enter Tryd.func6, Tryd.ntmps6
    go_wp2_with fail
    refine (big_any _ _ _ _ (by omega)).mono ?_
    rintro e w' ⟨rfl, rfl⟩
    go_wp2_with fail
    refine (drawPatOk_any a cap code w' hr (by omega)).mono ?_
    rintro e w1 ⟨kd, nt, a1, c1, L, rfl, hL, hkd, hsm, rL, B1⟩
    clear hd
    have HSm := hide hsm
    have HFit : Hid (∀ x ∈ L, x.fits) := fun x hx => by
      obtain ⟨h1, h2⟩ := hsm x hx
      unfold A5.fits maxLen
      exact ⟨by omega, by omega⟩
    clear hsm
    obtain ⟨hv1, hv2⟩ := varsL_ok L
    have HV1 := hide hv1
    have HV2 := hide hv2
    have hvl := varsL_len L L.length (Nat.le_refl _)
    rw [List.take_length] at hvl
    have HI := hide (fun W (h : RdArg W a1 L) => implVarsOf_any kd a1 c1 L nt W h HSm.out (by omega))
    generalize varsL L = l at HV1 HV2 hvl HI
    clear hv1 hv2
    obtain ⟨n, hN⟩ : ∃ n, n = L.length := ⟨_, rfl⟩
    rw [← hN] at HI hL hvl ⊢
    have HN := hide hN
    clear hN
    have b2 := B1.alloc B1.size (.cells #[.string kd, .slice a1 n c1, .bool nt] 53)
    have hP := boxk_new w1 #[.string kd, .slice a1 n c1, .bool nt] 53
    have rL2 := rL.below (below_al w1 (.cells #[.string kd, .slice a1 n c1, .bool nt] 53))
    have hz : w1.heap.size < (w1.alloc (.cells #[.string kd, .slice a1 n c1, .bool nt] 53)).heap.size := by simp
    clear B1 rL
    go_wp2_with fail
    refine (HI.out _ rL2).mono ?_
    generalize w1.alloc (.cells #[.string kd, .slice a1 n c1, .bool nt] 53) = w2 at b2 hP rL2 hz
    rintro e w3 ⟨⟨v3, rfl, o3⟩, hb3⟩
    obtain ⟨s3, c3, rfl, rS3, hnl⟩ := rdS_owns o3
    have hcap : l.length ≤ c3 := by have := cap_owns o3; omega
    clear hnl
    have HP3 := hide (box_step hP hb3)
    have rL3 := rL2.below hb3
    have B3 : Below w'.heap.size w' w3 := b2.trans (hb3.mono b2.size)
    have hz3 : w1.heap.size < w3.heap.size := Nat.lt_of_lt_of_le hz hb3.size
    clear hb3 b2 hP rL2 hz o3 HI
    go_wp2
    go_loopw [5] (fun i wr => ∃ (j nd : Nat), j ≤ l.length ∧ i = .int .i64 j ∧ wr = w3.drewN nd) (fun i _ => l.length - (intOf i).toNat)
    case atStart => exact ⟨0, 0, Nat.zero_le _, rfl, rfl⟩
    case round =>
      obtain ⟨j, nd, hj, rfl, rfl⟩ := hrel
      by_cases hlt : j < l.length
      · obtain ⟨bs, os, hbs, -, hcs⟩ := rS3.open (by omega)
        have sj := hcs j hlt
        subst hbs
        have hjl : (j : Int) < (l.length : Int) := by omega
        have HMem : Hid (sAt l j ∈ l) := by unfold Hid; rw [sAt_in hlt]; exact List.getElem_mem _
        have HUniq := hide (HV2.out j hlt)
        have HTakeRd : Hid (∀ d, RdS (w3.drewN d) (some ⟨bs, os, none⟩) (l.take j)) := fun d i hi => by
          rw [List.length_take] at hi
          have e : sAt (l.take j) i = sAt l i := by rw [sAt_in (by rw [List.length_take]; omega), sAt_in (by omega)]; simp
          exact ⟨bs, os, rfl, by rw [e]; exact hcs i (by omega)⟩
        clear hcs
        have p1 := boxk_cell HP3.out 1 _ rfl
        generalize sAt l j = S0 at sj HMem HUniq
        go_wp2
        go_loopw [6, 7] (fun c k wr => ∃ (m kk nd : Nat), kk ≤ n ∧ m ≤ kk ∧ k = .int .i64 kk ∧ c = .int .i64 m ∧ (m = 0 → ∀ t, t < kk → ¬ ((eAt L t).K = 1 ∧ (eAt L t).S = S0)) ∧ wr = w3.drewN nd) (fun _ k _ => n - (intOf k).toNat)
        case atStart => exact ⟨0, 0, nd, Nat.zero_le _, Nat.le_refl _, rfl, rfl, fun _ t h => absurd h (Nat.not_lt_zero _), rfl⟩
        case round =>
          obtain ⟨m, kk, nd2, hkk, hmk, rfl, rfl, hno, rfl⟩ := hrel
          have HNo := hide hno
          clear hno
          by_cases hlt2 : kk < n
          · obtain ⟨b, off, hab, hbw, hc⟩ := RdArg.cells rL3 (by rw [← HN.out]; omega)
            obtain ⟨e0, e1, -, -, -⟩ := hc kk (by rw [← HN.out]; exact hlt2)
            clear hc
            subst hab
            have hkl : (kk : Int) < (n : Int) := by omega
            by_cases h1 : (eAt L kk).K = 1
            · rw [h1] at e0
              by_cases h2 : (eAt L kk).S = S0
              · rw [h2] at e1
                have k1 : (S0.toList == S0.toList) = true := by simp
                go_wp2
                go_quiet (fail)
                go_wp2
                go_roundw
                case rel => exact ⟨m + 1, kk + 1, _, by omega, by omega, by go_num, by go_num, fun h => by omega, rfl⟩
                case measure => simp [intOf]; omega
              · have k1 := beq_neS h2
                have H2 := hide h2
                clear h2
                go_wp2
                go_quiet (fail)
                go_wp2
                go_roundw
                case rel => exact ⟨m, kk + 1, _, by omega, by omega, by go_num, rfl, fun h t ht => by
                    by_cases htk : t = kk
                    · rw [htk]; exact fun e => H2.out e.2
                    · exact HNo.out h t (by omega), rfl⟩
                case measure => simp [intOf]; omega
            · have H1 := hide h1
              generalize (eAt L kk).K = K0 at e0 h1
              have k1 : (K0 == 1) = false := by simpa using h1
              clear h1
              go_wp2
              go_quiet (fail)
              go_wp2
              go_roundw
              case rel => exact ⟨m, kk + 1, _, by omega, by omega, by go_num, rfl, fun h t ht => by
                  by_cases htk : t = kk
                  · rw [htk]; exact fun e => H1.out e.1
                  · exact HNo.out h t (by omega), rfl⟩
              case measure => simp [intOf]; omega
          · have hm0 : m ≠ 0 := fun h0 => by
              obtain ⟨x, hx, hx1, hx2⟩ := HV1.out S0 HMem.out
              obtain ⟨t, ht, rfl⟩ := List.getElem_of_mem hx
              have htn : t < kk := by have := HN.out; omega
              exact HNo.out h0 t htn (by rw [eAt_in ht]; exact ⟨hx1, hx2⟩)
            have kz : ((m : Int) == 0) = false := by simp; omega
            clear hm0
            have HH := hide (fun d => hasText_any (some ⟨bs, os, none⟩) j c3 (l.take j) S0 (w3.drewN d) (by rw [List.length_take]; omega) (HTakeRd.out d) (by omega))
            rw [HUniq.out] at HH
            have hj0 : (0 : Int) ≤ (j : Int) := by omega
            have hjc : (j : Int) ≤ (c3 : Int) := by omega
            have hc0 : ¬ c3 = 0 := by omega
            go_wp2_with fail
            go_quiet (first | (go_at_call 27; exact (HH.out _).mono (fun _ _ h => ⟨h.1, _, h.2⟩)))
            go_wp2
            go_roundw
            case rel => exact ⟨j + 1, _, by omega, by go_num, rfl⟩
            case measure => simp [intOf]; omega
      · have Bd : Below w'.heap.size w' (w3.drewN nd) := B3.trans ((show Below w3.heap.size w3 (w3.drewN nd) from ⟨rfl, rfl, rfl, Nat.le_refl _, fun _ _ => rfl⟩).mono B3.size)
        have rLd : RdArg (w3.drewN nd) a1 L := rL3.below (show Below w3.heap.size w3 (w3.drewN nd) from ⟨rfl, rfl, rfl, Nat.le_refl _, fun _ _ => rfl⟩)
        have HPd := hide (show (w3.drewN nd).heap[w1.heap.size]? = _ from HP3.out)
        go_wp2_with fail
        generalize w3.drewN nd = w3' at Bd rLd HPd
        refine (drawArgOk_any a cap code w3' (hr.below Bd) (by omega)).mono ?_
        rintro e w4 ⟨x, rfl, hx, hb4⟩
        have T0' : PtAt w' w1.heap.size w4.heap.size kd (.slice a1 n c1) nt x a1 L (w4.alloc (.cells #[.int .i64 x.K, .string x.S, .int .i64 x.V.K, .int .i64 x.V.N, .string x.V.S] 39)) :=
          ⟨box_step (box_step HPd.out hb4) (below_al w4 _), boxk_new w4 _ _, (rLd.below hb4).below (below_al w4 _), (Bd.trans (hb4.mono Bd.size)).trans ((below_al w4 _).mono (Bd.trans (hb4.mono Bd.size)).size), HTab.out⟩
        have hxf : x.S.size ≤ maxLen ∧ x.V.S.size ≤ maxLen := ⟨Nat.le_trans hx.1 (by unfold maxLen; omega), Nat.le_trans hx.2 (by unfold maxLen; omega)⟩
        have hkm : kd.size ≤ maxLen := Nat.le_trans hkd (by unfold maxLen; omega)
        have hLl : L.length = n := HN.out.symm
        have HIo := hide (fun W (h : RdArg W a1 L) => implPatOk_any kd a1 c1 L nt W hkm h HFit.out (by omega))
        have HSo := hide (fun W (h : RdArg W a1 L) => specPatOk_any kd a1 c1 L nt W hkm h HFit.out (by omega))
        have HIt := hide (fun W (h : RdArg W a1 L) (ht : Tab W) => implPatText_any kd a1 c1 L nt W hkm h HFit.out (by omega) ht)
        have HSt := hide (fun W (h : RdArg W a1 L) => specPatText_any kd a1 c1 L nt W hkm h HFit.out (by omega))
        have HIa := hide (fun W => implArgOk_any x.K x.S x.V.K x.V.N x.V.S W hxf.1 hxf.2)
        have HSa := hide (fun W => specArgOk_any x.K x.S x.V.K x.V.N x.V.S W hxf.1 hxf.2)
        have hE0 := text_none kd L nt
        obtain ⟨tx, htx⟩ : ∃ t, t = patT kd L nt := ⟨_, rfl⟩
        obtain ⟨pb, hpb⟩ : ∃ t, t = patB kd L := ⟨_, rfl⟩
        obtain ⟨ab, hab⟩ : ∃ t, t = argB x.K x.S ⟨x.V.K, x.V.N, x.V.S⟩ := ⟨_, rfl⟩
        rw [← htx, ← hpb] at hE0
        rw [← htx] at HIt HSt
        rw [← hpb] at HIo HSo
        rw [← hab] at HIa HSa
        rw [hLl] at HIo HSo HIt HSt
        clear htx hpb hab hx hb4 Bd rLd HPd hxf hkm hLl HFit HSm HV1 HV2 hvl rL3 B3 hz3 rS3 HTab
        have k1 : (pb == pb) = true := by simp
        have k2 : ((!pb) == (!pb)) = true := by simp
        have k3 : (ab == ab) = true := by simp
        have k4 : (tx.toList == tx.toList) = true := by simp
        go_wp2_with fail
        generalize w4.alloc (.cells #[.int .i64 x.K, .string x.S, .int .i64 x.V.K, .int .i64 x.V.N, .string x.V.S] 39) = w5 at T0'
        have T0 := hide (T0'.step (show Below w5.heap.size w5 w5.drew from (Below.refl _ _).drew))
        clear T0'
        go_region_held3 (fun W => W.cell? ⟨w1.heap.size, 0, none⟩ = some (.string kd) ∧ W.cell? ⟨w1.heap.size, 1, none⟩ = some (.slice a1 n c1) ∧ W.cell? ⟨w1.heap.size, 2, none⟩ = some (.bool nt) ∧ W.cell? ⟨w4.heap.size, 0, none⟩ = some (.int .i64 x.K) ∧ W.cell? ⟨w4.heap.size, 1, none⟩ = some (.string x.S) ∧ W.cell? ⟨w4.heap.size, 2, none⟩ = some (.int .i64 x.V.K) ∧ W.cell? ⟨w4.heap.size, 3, none⟩ = some (.int .i64 x.V.N) ∧ W.cell? ⟨w4.heap.size, 4, none⟩ = some (.string x.V.S)) (first | exact T0.out.cells | exact (T0.out.step b1).cells | exact ((T0.out.step b1).step b2).cells | exact (((T0.out.step b1).step b2).step b3).cells | exact ((((T0.out.step b1).step b2).step b3).step b4).cells | exact (((((T0.out.step b1).step b2).step b3).step b4).step b5).cells | exact ((((((T0.out.step b1).step b2).step b3).step b4).step b5).step b6).cells | exact (((((((T0.out.step b1).step b2).step b3).step b4).step b5).step b6).step b7).cells | exact ((((((((T0.out.step b1).step b2).step b3).step b4).step b5).step b6).step b7).step b8).cells)
          (first | (go_at_call 29; refine (HIo.out _ ?_).mono ?_; (with_reducible exact T0.out.rd); rintro e u1 ⟨rfl, b1⟩) | (go_at_call 30; refine (HSo.out _ ?_).mono ?_; (with_reducible exact (T0.out.step b1).rd); rintro e u2 ⟨rfl, b2⟩) | (go_at_call 23; refine (HIt.out _ ?_ ?_).mono ?_; (with_reducible exact ((T0.out.step b1).step b2).rd); (with_reducible exact ((T0.out.step b1).step b2).tb); rintro e u3 ⟨rfl, b3⟩) | (go_at_call 30; refine (HSo.out _ ?_).mono ?_; (with_reducible exact (((T0.out.step b1).step b2).step b3).rd); rintro e u4 ⟨rfl, b4⟩) | (go_at_call 31; refine (HIa.out _).mono ?_; rintro e u5 ⟨rfl, b5⟩) | (go_at_call 32; refine (HSa.out _).mono ?_; rintro e u6 ⟨rfl, b6⟩) | (go_at_call 23; refine (HIt.out _ ?_ ?_).mono ?_; (with_reducible exact ((((((T0.out.step b1).step b2).step b3).step b4).step b5).step b6).rd); (with_reducible exact ((((((T0.out.step b1).step b2).step b3).step b4).step b5).step b6).tb); rintro e u7 ⟨rfl, b7⟩) | (go_at_call 21; refine (HSt.out _ ?_).mono ?_; (with_reducible exact (((((((T0.out.step b1).step b2).step b3).step b4).step b5).step b6).step b7).rd); rintro e u8 ⟨rfl, b8⟩))
        all_goals
          have BE := ((((((((T0.out.step b1).step b2).step b3).step b4).step b5).step b6).step b7).step b8).bel
          clear b1 b2 b3 b4 b5 b6 b7 b8 T0
          go_wp2
          go_ret
          exact ⟨rfl, BE⟩

theorem walk (a0 : Option Addr) (len0 cap0 : Nat) (z0 : List Int) (w : World) (w0 : IsRow .u8 w a0 len0 cap0 z0) (ht : Tab w) :
    Calls Tryd.prog 6 #[.slice a0 len0 cap0] w fun e w' => e = .returned (.bool true) ∧ Below w.heap.size w w' := by
  obtain ⟨bs, hl, hr⟩ := rd_row w0
  have hm : len0 ≤ maxLen := isRow_len w0
  subst hl
  exact law a0 cap0 bs w hr hm ht

theorem own : ownKnob Tryd.prog.godebug = none := by kernel_rfl
theorem laidOut : laidOutB Tryd.prog = true := by kernel_rfl

theorem door_met (os : Os) (args : Array Value) : laidMetH Tryd.prog Rows.fnPatTextsRow.laid ((World.doorLaid Tryd.prog 400 os).forCall (fun _ _ => 0) ⟨#[], args, []⟩).memory :=
  laidMetH_of_parts3 (fuel := 8) (laidMet_of_run' 8 (by kernel_rfl) (by kernel_rfl)) (by kernel_rfl) (by kernel_rfl)
theorem laid_plain {W : World} (h : laidMetH Tryd.prog Rows.fnPatTextsRow.laid W) : laidMet Tryd.prog Rows.fnPatTextsRow.laid W := by
  rw [MakeChecks.laidMetH_plain _ _ _ (by kernel_rfl)] at h
  exact h

set_option maxRecDepth 100000 in
theorem lifted (os : Os) (started : os.Started) (H : Type) (enc : TypeId × Value → H) :
    ReturnsInHanded {} Tryd.checked os 6 .any (fun w args => (Rows.fnPatTextsSpec.pre enc Tryd.prog Tryd.f6 [] false w args ∧ laidMetH Tryd.prog Rows.fnPatTextsRow.laid w) ∧ sizedMet enc Tryd.prog Tryd.f6 (OpenSpec.ofChange Rows.fnPatTextsSpec) false w args)
      (Rows.fnPatTextsSpec.post enc Tryd.prog Tryd.f6 false true false false) := by
  refine returnsInHanded_of_change_and (C := Tryd.checked) (X := fun w _ => laidMetH Tryd.prog Rows.fnPatTextsRow.laid w) (fun _ _ _ hh h => h.of_heap hh) own started (by kernel_rfl) Tryd.func6
    (ChangeSpec.witness_shaped (enc := enc) (C := Tryd.checked) (os := os) (X := fun w _ => laidMetH Tryd.prog Rows.fnPatTextsRow.laid w) false (World.doorLaid Tryd.prog 400 os) #[.slice none 0 0] 8 rfl (World.shaped_of_RefB (by kernel_rfl) (by kernel_rfl)) (by kernel_rfl) (by kernel_rfl) (by kernel_rfl) (door_met os _)) ?_
  intro W base args ds gs before hval0 hW _ _ hL _
  have hval : ∀ (j : Nat) t v, Tryd.f6.params[j]? = some t → args[j]? = some v → Value.okWide Tryd.prog W .any base t v := hval0
  have hW' := hW
  obtain ⟨p, q, hA0, hV, rfl, hfz, hnd⟩ := hW
  have hA : DataW.TrodAll enc Tryd.prog W 0 (fun _ => true) true Tryd.f6.params.toList args.toList ds p := hA0
  rw [Tryd.params6] at hA hval
  obtain ⟨v0, vs0, d0, ds0, p0, q0, hargs, rfl, rfl, h0, r0⟩ := trodAll_cons hA
  obtain ⟨rfl, rfl, rfl⟩ := trodAll_nil r0
  obtain rfl : args = #[v0] := by cases args; simp_all
  obtain ⟨rfl, rfl⟩ := trodVars_none hV
  obtain ⟨a0, len0, cap0, rfl⟩ := okWide_slice Tryd.underlying33 (hval 0 33 v0 rfl rfl)
  have k0 := h0
  have lt0 : ∀ x ∈ p0, x.block < W.heap.size := by obtain ⟨m, hm⟩ := k0; exact DataW.trod_lt m _ _ _ hm
  obtain ⟨z0, w0⟩ : ∃ zs, IsRow .u8 W a0 len0 cap0 zs := by
    obtain ⟨fuel, hf⟩ := h0
    rcases open_ints Tryd.underlying33 Tryd.underlying5 (by kernel_rfl) hf with ⟨hcs, _⟩ | ⟨x, l, c, zs, hcs, _, hl, hm, hz, _, hcell, hwz⟩
    · simp [Value.cells] at hcs
      obtain ⟨rfl, rfl, rfl⟩ := hcs
      exact ⟨[], .inl ⟨rfl, rfl, rfl, rfl⟩⟩
    · simp [Value.cells] at hcs
      obtain ⟨rfl, rfl, rfl⟩ := hcs
      exact ⟨zs, .inr ⟨_, rfl, hl, hm, by simpa using hz, hcell, hwz⟩⟩
  clear hA0 hval0
  refine (walk a0 len0 cap0 z0 W w0 (tab_of (laid_plain hL))).mono fun e W' ⟨he, bel⟩ => ?_
  subst he
  exact ⟨_, rfl, _, _, _, [], _, [], hW', trodAll_mk1 (shut_bool Tryd.underlying4 _), (trodAll_cons_mk (Below.trod laidOut (by kernel_rfl) (of_decide_eq_true (by kernel_rfl)) k0 bel lt0) trodAll_mk0), rfl, bel.frame _, fun h => by cases h⟩

set_option maxRecDepth 100000 in
theorem over : Rows.fnPatTextsRow.holds Tryd.pinned (OpenSpec.ofChange Rows.fnPatTextsSpec) :=
  OpenClaim.holds_of_wide 6 Tryd.f6 rfl rfl rfl rfl rfl rfl rfl ⟨rfl, rfl, rfl, rfl, rfl⟩ rfl rfl rfl rfl rfl (by kernel_rfl) Tryd.func6 (by kernel_rfl)
    (of_decide_eq_true (by kernel_rfl)) (by unfold Func.isWrapper; first | (rw [if_pos (by decide +kernel)]; kernel_rfl) | (rw [if_neg (by decide +kernel)]; exact ⟨rfl, rfl⟩))
    (fun os started H enc _ => lifted os started H enc)

set_option maxRecDepth 100000 in
theorem card_over : Rows.FnPatTextsCardSaid :=
  Claim7.holds_tied_plain_at .later [] [.data, .data, .data] true Rows.fnPatTextsCard.stood.harness true
    over (fun _ h => by cases h) (by kernel_rfl) (fun _ h => by cases h) fnPatTexts_row_tie rfl ⟨rfl, rfl⟩ (by kernel_rfl) rfl
    (fun f fn hf hfn => by
      obtain rfl : f = 6 := Option.some.inj ((show Tryd.prog.funcNamed "loop.example/g00282/laws.FnPatTexts" = some 6 by kernel_rfl).symm.trans hf) |>.symm
      obtain rfl : fn = Tryd.f6 := (Option.some.inj (Tryd.func6.symm.trans hfn)).symm
      exact ⟨by kernel_rfl, fun j t ht => by
        rw [Tryd.params6] at ht
        have hm : t ∈ [33] := by simpa using Array.mem_of_getElem? ht
        have hall : ([33].all fun u => !Tryd.prog.wantsStandIn u) = true := by kernel_rfl
        exact (show Tryd.prog.wantsStandIn t = false by simpa using List.all_eq_true.1 hall t hm)⟩)
    (by kernel_rfl)
end Go.Proofs.YtaflokfgbmlmaacDoor.CardPatTexts
namespace Go.Proofs.YtaflokfgbmlmaacDoor
theorem fnPatTextsCard_holds : Rows.FnPatTextsCardSaid := CardPatTexts.card_over
#print axioms fnPatTextsCard_holds
end Go.Proofs.YtaflokfgbmlmaacDoor
