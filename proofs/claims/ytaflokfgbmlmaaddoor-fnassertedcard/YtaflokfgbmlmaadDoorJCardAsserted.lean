/-
  Proved: the row on FnAsserted (for every row of bytes the law answers true: a fact that is asserted is there once, and all others are as they were; asserted again nothing changes; the row reads as it did, where the library's tables read as listed), and its tied card (what is listed is what the program's own text lays).
-/
import Derived.Test.YtaflokfgbmlmaadDoorJoined4
import Derived.Test.YtaflokfgbmlmaadDoorJSameSt
import Derived.Test.YtaflokfgbmlmaadDoorJIdOf
import Derived.Test.YtaflokfgbmlmaadDoorJDrawAs
import Derived.BigQuiet
import Derived.Deep.DeepCutAuto
import Derived.Deep.CutRange
import Derived.Test.YtaflokfgbmlmaadDoorRows
import Derived.Test.YtaflokfgbmlmaadDoorCards
import Derived.Test.YtaflokfgbmlmaadDoorTie
import Derived.ProofKit
import Derived.LaidMore
import Derived.OpenShut
import Derived.ShutString
import Derived.ChangeOld
import Derived.Below
import Derived.Stop.Joined
import Derived.Stop.LaidErr
import Derived.Lib.LaidTab
import Derived.SevenTiedAt
import Derived.Lib.SmallJoins
import Derived.Deep.RegionHeld3
namespace Go.Proofs.YtaflokfgbmlmaadDoor.CardAsserted
open Go.ChangeShapes Go.WideShapes Go.ChangeAt Go.RowKit Go.Joins
open Go.ChangeMaps (open_string shut_string)
set_option linter.unusedVariables false
set_option maxRecDepth 100000

theorem gT : Tryd.prog.globalNamed "internal/strconv.uint64pow10" = some 1 := by kernel_rfl
theorem gTType : (Tryd.prog.globals[1]?).map (·.type) = some 154 := by kernel_rfl
theorem tab_of {r : List (String × DataW Unit)} {a b : String × DataW Unit} {W : World} (h : laidMet Tryd.prog (a :: b :: ("internal/strconv.uint64pow10", Rows.laid_internal_strconv_uint64pow10) :: r) W) : Tab W :=
  Lib.tabIs_of_head (zs := Lib.pow10Tab) (rest := r) gT gTType Tryd.underlying154 Tryd.underlying147 (by kernel_rfl) (by kernel_rfl) h.tail.tail

set_option maxHeartbeats 400000 in
theorem big_any (a : Option Addr) (len cap : Nat) (w : World) (h : len ≤ 9223372036854775807) :
    Calls Tryd.prog 20 #[.slice a len cap] w fun e w' => e = .returned (.bool (decide ((1048576 : Int) < (len : Int)))) ∧ w' = w := by
  go_enter Tryd.func20, Tryd.ntmps20
  go_wp2
  go_ret
  exact ⟨rfl, rfl⟩
theorem sm_at {K : List It} (h : ∀ x ∈ K.map It.pl, SmP x) : (∀ i, i < K.length → okI (iAt K i)) ∧ ∀ i, i < K.length → (iAt K i).L.length ≤ 1048580 := by
  have hh : ∀ i, i < K.length → SmP (iAt K i).pl := fun i hi => h _ (List.mem_map.2 ⟨_, by rw [iAt_in hi]; exact List.getElem_mem hi, rfl⟩)
  refine ⟨fun i hi => ?_, fun i hi => ?_⟩
  · obtain ⟨h1, h2, h3⟩ := hh i hi
    exact ⟨Nat.le_trans h1 (by unfold maxLen; omega), Nat.le_trans h2 (by unfold maxLen; omega), fun v hv => Nat.le_trans (h3 v hv) (by unfold maxLen; omega)⟩
  · obtain ⟨h1, h2, h3⟩ := hh i hi
    exact Nat.le_trans h2 (by omega)
/-- what asserting leaves has short texts, too -/
theorem sm_asR {J : List It} {nx : Int} {kd : ByteArray} {M : List V3} (h : ∀ x ∈ J.map It.pl, SmP x) (hf : SmP ⟨nx, kd, M⟩) : ∀ x ∈ (asR nx J kd M).2.2, SmP x := by
  unfold asR
  split
  · unfold assP
    split
    · exact h
    · split
      · exact h
      · intro x hx
        rcases List.mem_append.1 hx with hx | hx
        · exact h x hx
        · simp only [List.mem_cons, List.not_mem_nil, or_false] at hx
          rw [hx]; exact hf
  · exact h
theorem len_asR {J : List It} {nx : Int} {kd : ByteArray} {M : List V3} : (asR nx J kd M).2.2.length ≤ J.length + 1 := by
  unfold asR
  split
  · unfold assP
    split
    · simp
    · split
      · simp
      · simp
  · simp
theorem lies_hv {w : World} {lo n vc : Nat} {va : Option Addr} {K : List It} (h : HV w lo n va vc K) : ∀ i, i < K.length → LieV (iAt K i).a (iAt K i).L.length (iAt K i).cap := fun i hi => by
  rcases h with ⟨-, rfl, -, -⟩ | ⟨g, rfl, o⟩
  · exact absurd hi (Nat.not_lt_zero _)
  · exact o.lies i hi
/-- the store that was drawn, the fact, and what came of it, each in its block -/
structure Ast (w0 : World) (P F X : Nat) (va : Option Addr) (n vc : Nat) (nx : Int) (J : List It) (kd : ByteArray) (b : Option Addr) (cb : Nat) (M : List V3) (g xc : Nat) (ny : Int) (K : List It) (W : World) : Prop where
  p : W.heap[P]? = some (.cells #[.slice va n vc, .int .i64 nx] 29 (0, 0))
  f : W.heap[F]? = some (.cells #[.string kd, .slice b M.length cb] 41 (0, 0))
  x : W.heap[X]? = some (.cells #[.slice (some ⟨g, 0, none⟩) K.length xc, .int .i64 ny] 29 (0, 0))
  rj : RdI W va J
  rm : RdV W b M
  rk : RdI W (some ⟨g, 0, none⟩) K
  bel : Below w0.heap.size w0 W
  tab : Tab w0
theorem Ast.step {w0 W W' : World} {P F X : Nat} {va : Option Addr} {n vc : Nat} {nx : Int} {J : List It} {kd : ByteArray} {b : Option Addr} {cb : Nat} {M : List V3} {g xc : Nat} {ny : Int} {K : List It} (h : Ast w0 P F X va n vc nx J kd b cb M g xc ny K W) (hb : Below W.heap.size W W') : Ast w0 P F X va n vc nx J kd b cb M g xc ny K W' :=
  ⟨box_step h.p hb, box_step h.f hb, box_step h.x hb, h.rj.below hb, h.rm.below hb, h.rk.below hb, h.bel.trans (hb.mono h.bel.size), h.tab⟩
theorem Ast.tb {w0 W : World} {P F X : Nat} {va : Option Addr} {n vc : Nat} {nx : Int} {J : List It} {kd : ByteArray} {b : Option Addr} {cb : Nat} {M : List V3} {g xc : Nat} {ny : Int} {K : List It} (h : Ast w0 P F X va n vc nx J kd b cb M g xc ny K W) : Tab W := h.tab.later h.bel (Nat.le_refl _)

theorem late_below {w u u2 : World} {o : Obj} (hb : Below (w.alloc o).drew.heap.size (w.alloc o).drew u) (g : u.grownBy u2 (some w.heap.size)) : Below w.heap.size w u2 := by
  have h1 : Below w.heap.size w u := ((below_al w o).drew).trans (hb.mono (by show w.heap.size ≤ (w.alloc o).heap.size; simp))
  exact h1.grown g h1.size (fun k hk => by cases hk; exact Nat.le_refl _)
set_option maxRecDepth 100000 in
set_option maxHeartbeats 12800000 in
theorem law (a : Option Addr) (cap : Nat) (code : List UInt8) (w : World) (hr : Rd w a code) (hm : code.length ≤ maxLen) (ht : Tab w) :
    Calls Tryd.prog 5 #[.slice a code.length cap] w fun e w' => e = .returned (.bool true) ∧ Below w.heap.size w w' := by
  unfold maxLen at hm
  by_cases hb : 1048576 < code.length
  · have hd : decide ((1048576 : Int) < (code.length : Int)) = true := by simp; omega
    clear ht
    go_enter Tryd.func5, Tryd.ntmps5
    go_wp2_with (go_at_call 20; refine (big_any _ _ _ _ (by omega)).mono ?_; rintro e w' ⟨rfl, rfl⟩)
    go_ret
    exact ⟨rfl, Below.refl _ _⟩
  · have hd : decide ((1048576 : Int) < (code.length : Int)) = false := by simp; omega
    have HTab := hide ht
    clear ht
    go_enter Tryd.func5, Tryd.ntmps5
    go_wp2_with fail
    refine (big_any _ _ _ _ (by omega)).mono ?_
    rintro e w' ⟨rfl, rfl⟩
    go_wp2_with fail
    refine (drawAssert_any a cap code w' hr (by omega)).mono ?_
    rintro e w1 ⟨va, vc, nx, J, kd, b, cb, M, rfl, hJ, hsm, hkd, hM, hsM, hli, hlb, rJ, rM, B1⟩
    clear hd
    obtain ⟨hok, hll⟩ := sm_at hsm
    have hkm : kd.size ≤ maxLen := Nat.le_trans hkd (by unfold maxLen; omega)
    have hsMm : ∀ v ∈ M, v.S.size ≤ maxLen := fun v hv => Nat.le_trans (hsM v hv) (by unfold maxLen; omega)
    have HI := hide (fun W (h1 : RdI W va J) (h2 : RdV W b M) (h3 : Tab W) => implAssert_any va b J.length vc cb nx kd J M W h1 rfl (by omega) hok hll hli h2 hkm hsMm (by omega) hlb h3)
    have HSp := hide (fun W (h1 : RdI W va J) (h2 : RdV W b M) => specAssert_any va b J.length vc cb nx kd J M W h1 rfl (by omega) hok hll h2 hkm hsMm (by omega))
    have HSmA := hide (sm_asR (nx := nx) hsm (show SmP ⟨nx, kd, M⟩ from ⟨hkd, hM, hsM⟩))
    have HLenA := hide (len_asR (J := J) (nx := nx) (kd := kd) (M := M))
    have HPos := hide (fun K (hp : 0 < (asR nx J kd M).1) (hK : K.map It.pl = (asR nx J kd M).2.2) => asserted_all (K := K) hp hK)
    have HNeg := hide (fun (hp : ¬ 0 < (asR nx J kd M).1) => refused (J := J) (nx := nx) (kd := kd) (M := M) hp)
    have HLi := hide hli
    have HLb := hide hlb
    have HLl := hide hll
    have HKm := hide hkm
    have HSMm := hide hsMm
    obtain ⟨n, hN⟩ : ∃ n, n = J.length := ⟨_, rfl⟩
    rw [← hN] at HI HSp HLenA hJ ⊢
    have HN := hide hN
    obtain ⟨rr, hrr⟩ : ∃ r, r = asR nx J kd M := ⟨_, rfl⟩
    rw [← hrr] at HI HSp HSmA HLenA HPos HNeg
    obtain ⟨id, ny, PL⟩ := rr
    clear hrr hN hsm hkd hsM hli hlb hok hll hkm hsMm
    simp only at HSmA HLenA HPos HNeg HI HSp
    have b1 := below_al w1 (.cells #[.slice va n vc, .int .i64 nx] 29)
    have b2 := b1.alloc b1.size (.cells #[.string kd, .slice b M.length cb] 41)
    have hP := box_old (boxk_new w1 #[.slice va n vc, .int .i64 nx] 29) (by simp) (.cells #[.string kd, .slice b M.length cb] 41)
    have hF := boxk_new (w1.alloc (.cells #[.slice va n vc, .int .i64 nx] 29)) #[.string kd, .slice b M.length cb] 41
    simp only [World.size_alloc] at hF
    have rJ2 := rJ.below b2
    have rM2 := rM.below b2
    have B2 := B1.trans (b2.mono B1.size)
    clear rJ rM B1 b1 b2
    go_wp2_with fail
    generalize (w1.alloc (.cells #[.slice va n vc, .int .i64 nx] 29)).alloc (.cells #[.string kd, .slice b M.length cb] 41) = w2 at hP hF rJ2 rM2 B2
    refine (HI.out w2 rJ2 rM2 (HTab.out.later B2 (Nat.le_refl _))).mono ?_
    rintro e w3 ⟨g, xc, K, rfl, hhv, hpl, hb3⟩
    have HKl : Hid (K.length ≤ n + 1) := by
      unfold Hid
      have h1 := congrArg List.length hpl
      have h2 := HLenA.out
      simp only [List.length_map] at h1
      omega
    have T3 : Ast w' w1.heap.size (w1.heap.size + 1) w3.heap.size va n vc nx J kd b cb M g xc ny K (w3.alloc (.cells #[.slice (some ⟨g, 0, none⟩) K.length xc, .int .i64 ny] 29)) :=
      ⟨box_step (box_step hP hb3) (below_al w3 _), box_step (box_step hF hb3) (below_al w3 _), boxk_new w3 _ _, (rJ2.below hb3).below (below_al w3 _), (rM2.below hb3).below (below_al w3 _), hhv.rd.below (below_al w3 _), (B2.trans (hb3.mono B2.size)).trans ((below_al w3 _).mono (B2.trans (hb3.mono B2.size)).size), HTab.out⟩
    have HLK := hide (lies_hv hhv)
    have HPl := hide hpl
    have HT3 := hide T3
    clear hP hF rJ2 rM2 B2 hhv hpl hb3 T3
    obtain ⟨p0, p1, -, -⟩ := box2_cell HT3.out.p
    obtain ⟨f0, f1, -, -⟩ := box2_cell HT3.out.f
    go_wp2_with fail
    clear p0 p1 f0 f1
    generalize w3.alloc (.cells #[.slice (some ⟨g, 0, none⟩) K.length xc, .int .i64 ny] 29) = w4 at HT3
    refine (HSp.out w4 HT3.out.rj HT3.out.rm).mono ?_
    rintro e w5 ⟨vs, sc, Ks, rfl, -, -, hb5⟩
    have HT5 := hide ((HT3.out.step hb5).step (below_al w5 (.cells #[.slice vs Ks.length sc, .int .i64 ny] 29)))
    clear hb5 HT3 HSp
    have HSK := hide (show ∀ x ∈ K.map It.pl, SmP x by rw [HPl.out]; exact HSmA.out)
    obtain ⟨hokK, hllK⟩ := sm_at HSK.out
    have HOkK := hide hokK
    have HLlK := hide hllK
    have hKl := HKl.out
    clear hokK hllK HSmA HLenA HI HKl
    by_cases hpos : 0 < id
    · obtain ⟨hSK, -, hAg, hFac, hIdK, hLenK, hOld⟩ := HPos.out K hpos HPl.out
      have kp : decide (0 < id) = true := decide_eq_true hpos
      rw [kp]
      have kq : (true != true) = false := rfl
      have HI2 := hide (fun W (h1 : RdI W (some ⟨g, 0, none⟩) K) (h2 : RdV W b M) (h3 : Tab W) => implAssert_any (some ⟨g, 0, none⟩) b K.length xc cb ny kd K M W h1 rfl (by omega) HOkK.out HLlK.out HLK.out h2 HKm.out HSMm.out (by omega) HLb.out h3)
      rw [hAg] at HI2
      simp only [kp] at HI2
      have HFo := hide (fun W i (h1 : RdI W (some ⟨g, 0, none⟩) K) => implFactOf_any (some ⟨g, 0, none⟩) K.length xc ny i K W h1 rfl (by omega) HLlK.out HLK.out)
      have HFac := hide hFac
      have HOld := hide hOld
      have HIdK := hide hIdK
      have HSKb := hide hSK
      clear hSK hAg hFac hIdK hOld HPos HNeg
      obtain ⟨x0, x1, -, -⟩ := box2_cell HT5.out.x
      obtain ⟨f0, f1, -, -⟩ := box2_cell HT5.out.f
      go_wp2_with fail
      clear x0 x1 f0 f1
      generalize w5.alloc (.cells #[.slice vs Ks.length sc, .int .i64 ny] 29) = w6 at HT5
      refine (HI2.out w6 HT5.out.rk HT5.out.rm HT5.out.tb).mono ?_
      rintro e w7 ⟨gy, yc, Ky, rfl, hvy, hply, hb7⟩
      have HT7 := hide ((HT5.out.step hb7).step (below_al w7 (.cells #[.slice (some ⟨gy, 0, none⟩) Ky.length yc, .int .i64 ny] 29)))
      have HY7 := hide (boxk_new w7 #[.slice (some ⟨gy, 0, none⟩) Ky.length yc, .int .i64 ny] 29)
      have RY7 := hide (hvy.rd.below (below_al w7 (.cells #[.slice (some ⟨gy, 0, none⟩) Ky.length yc, .int .i64 ny] 29)))
      have HLY := hide (lies_hv hvy)
      have HPlY := hide hply
      clear hb7 HT5 hvy hply HI2
      obtain ⟨x0, x1, -, -⟩ := box2_cell HT7.out.x
      go_wp2_with fail
      clear x0 x1
      generalize w7.alloc (.cells #[.slice (some ⟨gy, 0, none⟩) Ky.length yc, .int .i64 ny] 29) = w8 at HT7 HY7 RY7
      refine (HFo.out w8 id HT7.out.rk).mono ?_
      rintro e w9 ⟨⟨ag, cg, hee, hng⟩, hb9⟩
      rw [HFac.out] at hee hng
      simp only [ansP] at hee hng
      subst hee
      have HT9 := hide ((HT7.out.step hb9).step (below_al w9 (.cells #[.string kd, .slice ag M.length cg] 41)))
      have HY9 := hide (box_step (box_step HY7.out hb9) (below_al w9 (.cells #[.string kd, .slice ag M.length cg] 41)))
      have RY9 := hide ((RY7.out.below hb9).below (below_al w9 (.cells #[.string kd, .slice ag M.length cg] 41)))
      have HG9 := hide (boxk_new w9 #[.string kd, .slice ag M.length cg] 41)
      have RG9 := hide ((hng.later (below_al w9 (.cells #[.string kd, .slice ag M.length cg] 41))).rd)
      have HLG := hide hng.2
      clear hb9 HT7 HY7 RY7 hng HFac
      go_wp2
      generalize w9.alloc (.cells #[.string kd, .slice ag M.length cg] 41) = wA at HT9 HY9 RY9 HG9 RG9
      go_loopw [16] (fun i wr => ∃ (k : Nat), k ≤ n ∧ i = .int .i64 k ∧ Below wA.heap.size wA wr) (fun i _ => n - (intOf i).toNat)
      case atStart => exact ⟨0, Nat.zero_le _, rfl, Below.refl _ _⟩
      case round =>
        obtain ⟨k, hk, rfl, hbel⟩ := hrel
        have HTr := hide (HT9.out.step hbel)
        obtain ⟨p0, p1, -, -⟩ := box2_cell HTr.out.p
        obtain ⟨x0, x1, -, -⟩ := box2_cell HTr.out.x
        by_cases hlt : k < n
        · obtain ⟨pj, oj, hvj, -, -⟩ := RdI.open HTr.out.rj (by rw [← HN.out]; omega)
          subst hvj
          have hkJ : k < J.length := by rw [← HN.out]; exact hlt
          obtain ⟨d0, d1, d2, rV⟩ := rdI_at HTr.out.rj hkJ
          have hOldk := HOld.out k hkJ
          have HKJ := hide hkJ
          have hl1 : (k : Int) < (n : Int) := by omega
          have hl2 : (0 : Int) ≤ (k : Int) := by omega
          have RK1 := hide (show RdI wr.drew (some ⟨g, 0, none⟩) K from HTr.out.rk.below ((Below.refl _ _).drew))
          have RK2 := hide (show RdI (wr.alloc (.cells #[.string ⟨#[]⟩, .slice none 0 0] 41)).drew (some ⟨g, 0, none⟩) K from (HTr.out.rk.below (below_al wr (.cells #[.string ⟨#[]⟩, .slice none 0 0] 41))).below ((Below.refl _ _).drew))
          have al := below_al wr (.cells #[.string ⟨#[]⟩, .slice none 0 0] 41)
          obtain ⟨d0a, d1a, d2a, -⟩ := rdI_at (HTr.out.rj.below al) hkJ
          obtain ⟨p0a, p1a, -, -⟩ := box2_cell (box_step HTr.out.p al)
          obtain ⟨x0a, x1a, -, -⟩ := box2_cell (box_step HTr.out.x al)
          have HZ := hide (show (wr.alloc (.cells #[.string ⟨#[]⟩, .slice none 0 0] 41)).drew.heap[wr.heap.size]? = some (.cells #[.string ⟨#[]⟩, .slice none 0 0] 41 (0, 0)) from box2_new wr (.string ⟨#[]⟩) (.slice none 0 0) 41)
          clear hkJ al
          go_upto_region 13 with fail
          go_cut [17, 18] from 72 to 102 (fun i17 i18 W => ∃ H ah ch, i17 = .pointer (some ⟨H, 0, none⟩) ∧ i18 = .bool true ∧ W.heap[H]? = some (.cells #[.string (iAt J k).kd, .slice ah (iAt J k).L.length ch] 41 (0, 0)) ∧ RdV W ah (iAt J k).L ∧ LieV ah (iAt J k).L.length ch ∧ Below wr.heap.size wr W)
          case first =>
            go_region_with (first
              | (go_at_call 23; refine (HFo.out _ _ ?_).mono ?_; (with_reducible exact RK1.out); rintro e u1 ⟨⟨ah, ch, hee, hnh⟩, hbh⟩; rw [hOldk] at hee hnh; simp only [ansP] at hee hnh; subst hee)
              | (go_at_call 23; refine (HFo.out _ _ ?_).mono ?_; (with_reducible exact RK2.out); rintro e u1 ⟨⟨ah, ch, hee, hnh⟩, hbh⟩; rw [hOldk] at hee hnh; simp only [ansP] at hee hnh; subst hee; obtain ⟨z0, z1, zf0, zf1⟩ := box2_cell (box_step HZ.out hbh)))
            all_goals
              go_wp2_with fail
              go_meet
              case rel =>
                first
                  | exact ⟨u1.heap.size, ah, ch, rfl, rfl, boxk_new u1 #[.string (iAt J k).kd, .slice ah (iAt J k).L.length ch] 41, (hnh.later (below_al u1 _)).rd, hnh.2, below_end (below_dr hbh) _⟩
                  | exact ⟨wr.heap.size, ah, ch, rfl, rfl, (box2_set (box_step HZ.out hbh) _ _).1, (hnh.grown (box2_set (box_step HZ.out hbh) (.string (iAt J k).kd) (.slice ah (iAt J k).L.length ch)).2 (by show _ < (wr.alloc _).heap.size; simp)).rd, hnh.2, late_below hbh (box2_set (box_step HZ.out hbh) _ _).2⟩
          case rest =>
            obtain ⟨H, ah, ch, rfl, rfl, hH, rH, hlH, hbW⟩ := hcut
            have HTc := hide ((HTr.out.step hbW).step (show Below wc.heap.size wc wc.drew from (Below.refl _ _).drew))
            have HHc := hide (show wc.drew.heap[H]? = _ from hH)
            have RHc := hide (rH.below (show Below wc.heap.size wc wc.drew from (Below.refl _ _).drew))
            have HBc := hide (show Below wA.heap.size wA wc.drew from (hbel.trans (hbW.mono hbel.size)).drew)
            have HSm := hide (fun W (h1 : RdV W ah (iAt J k).L) (h2 : RdV W (iAt J k).a (iAt J k).L) => implSameFact_any (iAt J k).kd (iAt J k).kd ah (iAt J k).a ch (iAt J k).cap (iAt J k).L (iAt J k).L W h1 h2 (HLl.out k HKJ.out) (HLl.out k HKJ.out) hlH (HLi.out k HKJ.out))
            rw [sameF_self] at HSm
            clear hH rH hbW p0 p1 x0 x1 d0 d1 d2 d0a d1a d2a p0a p1a x0a x1a rV hOldk RK1 RK2 HZ hlH
            go_upto_region 14 with fail
            go_region_held3 (fun W => W.cell? ⟨H, 0, none⟩ = some (.string (iAt J k).kd) ∧ W.cell? ⟨H, 1, none⟩ = some (.slice ah (iAt J k).L.length ch) ∧ W.cell? ⟨w1.heap.size, 0, none⟩ = some (.slice (some ⟨pj, oj, none⟩) n vc) ∧ W.cell? ⟨pj, oj + k * 3 + 1, none⟩ = some (.string (iAt J k).kd) ∧ W.cell? ⟨pj, oj + k * 3 + 2, none⟩ = some (.slice (iAt J k).a (iAt J k).L.length (iAt J k).cap)) (first | exact ⟨boxk_cell HHc.out 0 _ rfl, boxk_cell HHc.out 1 _ rfl, boxk_cell HTc.out.p 0 _ rfl, (rdI_at HTc.out.rj HKJ.out).2.1, (rdI_at HTc.out.rj HKJ.out).2.2.1⟩ | exact ⟨boxk_cell (box_step HHc.out u2b) 0 _ rfl, boxk_cell (box_step HHc.out u2b) 1 _ rfl, boxk_cell (HTc.out.step u2b).p 0 _ rfl, (rdI_at (HTc.out.step u2b).rj HKJ.out).2.1, (rdI_at (HTc.out.step u2b).rj HKJ.out).2.2.1⟩)
              (first | (go_at_call 24; refine (HSm.out _ ?_ ?_).mono ?_; (with_reducible exact RHc.out); (with_reducible exact (rdI_at HTc.out.rj HKJ.out).2.2.2); rintro e u2 ⟨rfl, u2b⟩))
            all_goals
              have HB2 := hide (HBc.out.trans (u2b.mono HBc.out.size))
              clear u2b HTc HHc RHc HBc HSm hbel HTr
              go_wp2
              go_roundw
              case rel => exact ⟨k + 1, by omega, by go_num, HB2.out⟩
              case measure => simp [intOf]; omega
        · have hKy : Ky.length = K.length := by have h1 := congrArg List.length HPlY.out; simpa using h1
          have HYr := hide (box_step HY9.out hbel)
          have RYr := hide (RY9.out.below hbel)
          have HGr := hide (box_step HG9.out hbel)
          have RGr := hide (RG9.out.below hbel)
          obtain ⟨y0, y1, -, -⟩ := box2_cell HYr.out
          rw [hKy] at y0
          have kid : (id == id) = true := by simp
          have hli : (K.length : Int) ≤ (n : Int) + 1 := by omega
          clear HT9 HY9 RY9 HG9 RG9
          go_wp2_with fail
          clear p0 p1 x0 x1 y0 y1
          refine (sameStore_same (some ⟨g, 0, none⟩) (some ⟨gy, 0, none⟩) K.length xc yc ny K Ky wr HTr.out.rk RYr.out rfl (by omega) HPlY.out HLlK.out HLK.out HLY.out).mono ?_
          rintro e u1 ⟨rfl, v1⟩
          have HT1 := hide (HTr.out.step v1)
          have HG1 := hide (box_step HGr.out v1)
          have RG1 := hide (RGr.out.below v1)
          clear v1 HTr HGr RGr HYr RYr hbel
          obtain ⟨g0, g1, -, -⟩ := box2_cell HG1.out
          obtain ⟨f0, f1, -, -⟩ := box2_cell HT1.out.f
          go_wp2_with fail
          clear g0 g1 f0 f1
          refine (implSameFact_any kd kd ag b cg cb M M u1 RG1.out HT1.out.rm (by omega) (by omega) HLG.out HLb.out).mono ?_
          rw [sameF_self]
          rintro e u2 ⟨rfl, v2⟩
          have HT2 := hide (HT1.out.step v2)
          clear v2 HT1 HG1 RG1
          obtain ⟨x0, x1, -, -⟩ := box2_cell HT2.out.x
          obtain ⟨f0, f1, -, -⟩ := box2_cell HT2.out.f
          go_wp2_with fail
          clear x0 x1 f0 f1
          refine (implIdOf_any (some ⟨g, 0, none⟩) b K.length xc cb ny kd K M u2 HT2.out.rk HT2.out.rm rfl (by omega) HLlK.out (by omega) HLK.out HLb.out).mono ?_
          rw [HIdK.out]
          rintro e u3 ⟨rfl, v3⟩
          have HT3 := hide (HT2.out.step v3)
          clear v3 HT2
          obtain ⟨x0, x1, -, -⟩ := box2_cell HT3.out.x
          go_wp2_with fail
          clear x0 x1
          refine (implStoreOk_any (some ⟨g, 0, none⟩) K.length xc ny K u3 HT3.out.rk rfl (by omega) HOkK.out HLlK.out HT3.out.tb).mono ?_
          rw [HSKb.out]
          rintro e u4 ⟨rfl, v4⟩
          have HT4 := hide (HT3.out.step v4)
          clear v4 HT3
          obtain ⟨x0, x1, -, -⟩ := box2_cell HT4.out.x
          obtain ⟨p0, p1, -, -⟩ := box2_cell HT4.out.p
          have BE := HT4.out.bel
          go_wp2
          go_ret
          exact ⟨rfl, BE⟩
    · obtain ⟨rfl, rfl, rfl⟩ := HNeg.out (by omega)
      have kp : decide (0 < (0 : Int)) = false := by decide
      rw [kp]
      have hKn : K.length = n := by have h1 := congrArg List.length HPl.out; have h2 := HN.out; simp only [List.length_map] at h1; omega
      obtain ⟨x0, x1, -, -⟩ := box2_cell HT5.out.x
      obtain ⟨p0, p1, -, -⟩ := box2_cell HT5.out.p
      have kq : (false != false) = false := rfl
      have kr : (false == false) = true := rfl
      rw [hKn] at x0
      go_wp2_with fail
      clear x0 x1 p0 p1
      generalize w5.alloc (.cells #[.slice vs Ks.length sc, .int .i64 ny] 29) = w6 at HT5
      refine (sameStore_same (some ⟨g, 0, none⟩) va n xc vc ny K J w6 HT5.out.rk HT5.out.rj hKn (by omega) HPl.out.symm HLlK.out HLK.out HLi.out).mono ?_
      rintro e w7 ⟨rfl, hb7⟩
      have B7 := HT5.out.bel.trans (hb7.mono HT5.out.bel.size)
      clear hb7
      go_wp2
      go_ret
      exact ⟨rfl, B7⟩

theorem walk (a0 : Option Addr) (len0 cap0 : Nat) (z0 : List Int) (w : World) (w0 : IsRow .u8 w a0 len0 cap0 z0) (ht : Tab w) :
    Calls Tryd.prog 5 #[.slice a0 len0 cap0] w fun e w' => e = .returned (.bool true) ∧ Below w.heap.size w w' := by
  obtain ⟨bs, hl, hr⟩ := rd_row w0
  have hm : len0 ≤ maxLen := isRow_len w0
  subst hl
  exact law a0 cap0 bs w hr hm ht

theorem own : ownKnob Tryd.prog.godebug = none := by kernel_rfl
theorem laidOut : laidOutB Tryd.prog = true := by kernel_rfl

theorem door_met (os : Os) (args : Array Value) : laidMetH Tryd.prog Rows.fnAssertedRow.laid ((World.doorLaid Tryd.prog 400 os).forCall (fun _ _ => 0) ⟨#[], args, []⟩).memory :=
  laidMetH_of_parts3 (fuel := 8) (laidMet_of_run' 8 (by kernel_rfl) (by kernel_rfl)) (by kernel_rfl) (by kernel_rfl)
theorem laid_plain {W : World} (h : laidMetH Tryd.prog Rows.fnAssertedRow.laid W) : laidMet Tryd.prog Rows.fnAssertedRow.laid W := by
  rw [MakeChecks.laidMetH_plain _ _ _ (by kernel_rfl)] at h
  exact h

set_option maxRecDepth 100000 in
theorem lifted (os : Os) (started : os.Started) (H : Type) (enc : TypeId × Value → H) :
    ReturnsInHanded {} Tryd.checked os 5 .any (fun w args => (Rows.fnAssertedSpec.pre enc Tryd.prog Tryd.f5 [] false w args ∧ laidMetH Tryd.prog Rows.fnAssertedRow.laid w) ∧ sizedMet enc Tryd.prog Tryd.f5 (OpenSpec.ofChange Rows.fnAssertedSpec) false w args)
      (Rows.fnAssertedSpec.post enc Tryd.prog Tryd.f5 false true false false) := by
  refine returnsInHanded_of_change_and (C := Tryd.checked) (X := fun w _ => laidMetH Tryd.prog Rows.fnAssertedRow.laid w) (fun _ _ _ hh h => h.of_heap hh) own started (by kernel_rfl) Tryd.func5
    (ChangeSpec.witness_shaped (enc := enc) (C := Tryd.checked) (os := os) (X := fun w _ => laidMetH Tryd.prog Rows.fnAssertedRow.laid w) false (World.doorLaid Tryd.prog 400 os) #[.slice none 0 0] 8 rfl (World.shaped_of_RefB (by kernel_rfl) (by kernel_rfl)) (by kernel_rfl) (by kernel_rfl) (by kernel_rfl) (door_met os _)) ?_
  intro W base args ds gs before hval0 hW _ _ hL _
  have hval : ∀ (j : Nat) t v, Tryd.f5.params[j]? = some t → args[j]? = some v → Value.okWide Tryd.prog W .any base t v := hval0
  have hW' := hW
  obtain ⟨p, q, hA0, hV, rfl, hfz, hnd⟩ := hW
  have hA : DataW.TrodAll enc Tryd.prog W 0 (fun _ => true) true Tryd.f5.params.toList args.toList ds p := hA0
  rw [Tryd.params5] at hA hval
  obtain ⟨v0, vs0, d0, ds0, p0, q0, hargs, rfl, rfl, h0, r0⟩ := trodAll_cons hA
  obtain ⟨rfl, rfl, rfl⟩ := trodAll_nil r0
  obtain rfl : args = #[v0] := by cases args; simp_all
  obtain ⟨rfl, rfl⟩ := trodVars_none hV
  obtain ⟨a0, len0, cap0, rfl⟩ := okWide_slice Tryd.underlying47 (hval 0 47 v0 rfl rfl)
  have k0 := h0
  have lt0 : ∀ x ∈ p0, x.block < W.heap.size := by obtain ⟨m, hm⟩ := k0; exact DataW.trod_lt m _ _ _ hm
  obtain ⟨z0, w0⟩ : ∃ zs, IsRow .u8 W a0 len0 cap0 zs := by
    obtain ⟨fuel, hf⟩ := h0
    rcases open_ints Tryd.underlying47 Tryd.underlying5 (by kernel_rfl) hf with ⟨hcs, _⟩ | ⟨x, l, c, zs, hcs, _, hl, hm, hz, _, hcell, hwz⟩
    · simp [Value.cells] at hcs
      obtain ⟨rfl, rfl, rfl⟩ := hcs
      exact ⟨[], .inl ⟨rfl, rfl, rfl, rfl⟩⟩
    · simp [Value.cells] at hcs
      obtain ⟨rfl, rfl, rfl⟩ := hcs
      exact ⟨zs, .inr ⟨_, rfl, hl, hm, by simpa using hz, hcell, hwz⟩⟩
  clear hA0 hval0
  refine (walk a0 len0 cap0 z0 W w0 (tab_of (laid_plain hL))).mono fun e W' ⟨he, bel⟩ => ?_
  subst he
  exact ⟨_, rfl, _, _, _, [], _, [], hW', trodAll_mk1 (shut_bool Tryd.underlying4 _), (trodAll_cons_mk (Below.trod laidOut (by kernel_rfl) (of_decide_eq_true (by kernel_rfl)) k0 bel lt0) trodAll_mk0), rfl, bel.frame _, fun h => by cases h⟩

set_option maxRecDepth 100000 in
theorem over : Rows.fnAssertedRow.holds Tryd.pinned (OpenSpec.ofChange Rows.fnAssertedSpec) :=
  OpenClaim.holds_of_wide 5 Tryd.f5 rfl rfl rfl rfl rfl rfl rfl ⟨rfl, rfl, rfl, rfl, rfl⟩ rfl rfl rfl rfl rfl (by kernel_rfl) Tryd.func5 (by kernel_rfl)
    (of_decide_eq_true (by kernel_rfl)) (by unfold Func.isWrapper; first | (rw [if_pos (by decide +kernel)]; kernel_rfl) | (rw [if_neg (by decide +kernel)]; exact ⟨rfl, rfl⟩))
    (fun os started H enc _ => lifted os started H enc)

set_option maxRecDepth 100000 in
theorem card_over : Rows.FnAssertedCardSaid :=
  Claim7.holds_tied_plain_at .later [] [.data, .data, .data] true Rows.fnAssertedCard.stood.harness true
    over (fun _ h => by cases h) (by kernel_rfl) (fun _ h => by cases h) fnAsserted_row_tie rfl ⟨rfl, rfl⟩ (by kernel_rfl) rfl
    (fun f fn hf hfn => by
      obtain rfl : f = 5 := Option.some.inj ((show Tryd.prog.funcNamed "loop.example/g00282/laws.FnAsserted" = some 5 by kernel_rfl).symm.trans hf) |>.symm
      obtain rfl : fn = Tryd.f5 := (Option.some.inj (Tryd.func5.symm.trans hfn)).symm
      exact ⟨by kernel_rfl, fun j t ht => by
        rw [Tryd.params5] at ht
        have hm : t ∈ [47] := by simpa using Array.mem_of_getElem? ht
        have hall : ([47].all fun u => !Tryd.prog.wantsStandIn u) = true := by kernel_rfl
        exact (show Tryd.prog.wantsStandIn t = false by simpa using List.all_eq_true.1 hall t hm)⟩)
    (by kernel_rfl)
end Go.Proofs.YtaflokfgbmlmaadDoor.CardAsserted
namespace Go.Proofs.YtaflokfgbmlmaadDoor
theorem fnAssertedCard_holds : Rows.FnAssertedCardSaid := CardAsserted.card_over
#print axioms fnAssertedCard_holds
end Go.Proofs.YtaflokfgbmlmaadDoor
