/-
  What the tested writer of facts makes: a row of the call's own that holds the bytes, and behind them encF of the fact; nothing that was there has turned.
-/
import Derived.Test.YtddcmifebhdgfabEncF
import Derived.Test.YtddcmifebhdgfabPutValI
import Derived.Test.YtddcmifebhdgfabBox2
import Derived.Test.YtddcmifebhdgfabKeep6
import Derived.Deep.RegionWith
import Derived.Deep.RegionHeld3
namespace Go.Proofs.Ytddcmifebhdgfab
open Go.RowKit
set_option linter.unusedVariables false

theorem RdV.belowB {w w' : World} {B : Nat} {a : Option Addr} {L : List V3} (h : RdV w a L) (hB : ∀ b off, a = some ⟨b, off, none⟩ → b < B) (hb : Below B w w') : RdV w' a L := by
  intro i hi
  obtain ⟨b, off, e, h0, h1, h2⟩ := h i hi
  have hlt := hB b off e
  exact ⟨b, off, e, by rw [hb.cell (p := ⟨b, off + i * 3, none⟩) hlt]; exact h0, by rw [hb.cell (p := ⟨b, off + i * 3 + 1, none⟩) hlt]; exact h1, by rw [hb.cell (p := ⟨b, off + i * 3 + 2, none⟩) hlt]; exact h2⟩

def roomL (L : List V3) (k : Nat) : Nat := 10 * k + sumS L k
set_option maxRecDepth 100000 in
set_option maxHeartbeats 1600000 in
theorem roomForFact_any (kd : ByteArray) (a : Option Addr) (cap : Nat) (L : List V3) (w : World) (hr : RdV w a L) (hk : kd.size ≤ 1048580) (hs : szL L ≤ 1048580) :
    Calls Try.prog 30 #[.agg #[.string kd, .slice a L.length cap]] w fun e w' =>
      e = .returned (.int .i64 ((10 + kd.size + roomL L L.length : Nat) : Int)) ∧ Below w.heap.size w w' := by
  have b0 := below_al w (.cells #[.string kd, .slice a L.length cap] 29)
  have hlL : L.length ≤ 1048580 := by unfold szL at hs; omega
  have HSt : Hid (∀ k, k < L.length → roomL L (k + 1) = roomL L k + (10 + (vAt L k).S.size)) := fun k h => by unfold roomL; rw [sumS_step h]; omega
  have HSl : Hid (∀ k, k ≤ L.length → roomL L k ≤ 12 * 1048580) := fun k h => by
    unfold roomL sumS
    have := take_sum L k
    unfold szL at hs
    omega
  have HSz : Hid (∀ k, k < L.length → (vAt L k).S.size ≤ 1048580) := fun k h => by
    rw [vAt_in h]; have := szL_mem (List.getElem_mem h); omega
  have H0 : Hid (roomL L 0 = 0) := by unfold Hid roomL; simp [sumS]
  obtain ⟨n, hN⟩ : ∃ n, n = L.length := ⟨_, rfl⟩
  rw [← hN] at hlL b0 ⊢
  have HN := hide hN
  clear hN hs
  go_enter Try.func30, Try.ntmps30
  go_wp2
  go_loopw [3, 13] (fun r i wr => ∃ (k : Nat), k ≤ n ∧ i = .int .i64 k ∧ r = .int .i64 ((10 + kd.size + roomL L k : Nat) : Int) ∧ Below w.heap.size w wr) (fun _ i _ => n - (intOf i).toNat)
  case atStart => exact ⟨0, Nat.zero_le _, rfl, by rw [H0.out]; go_num, b0⟩
  case round =>
    obtain ⟨k, hk', rfl, rfl, hbel⟩ := hrel
    have hl := HSl.out k (by rw [← HN.out]; exact hk')
    by_cases hlt : k < n
    · obtain ⟨b1, o1, e1, hbw1, hc1⟩ := hr.open (by rw [← HN.out]; omega)
      obtain ⟨c0, c1, c2⟩ := hc1 k (by rw [← HN.out]; exact hlt)
      clear hc1
      subst e1
      rw [← hbel.cell (p := ⟨b1, o1 + k * 3, none⟩) hbw1] at c0
      rw [← hbel.cell (p := ⟨b1, o1 + k * 3 + 1, none⟩) hbw1] at c1
      rw [← hbel.cell (p := ⟨b1, o1 + k * 3 + 2, none⟩) hbw1] at c2
      have hst := HSt.out k (by rw [← HN.out]; exact hlt)
      have hsz := HSz.out k (by rw [← HN.out]; exact hlt)
      generalize (vAt L k).S = S at c2 hst hsz
      have HB := hide (hbel.alloc hbel.size (.cells #[.int .i64 (vAt L k).K, .int .i64 (vAt L k).N, .string S] 44))
      go_wp2
      go_roundw
      case rel => exact ⟨k + 1, by omega, by go_num, by rw [hst]; go_num, HB.out⟩
      case measure => simp [intOf]; omega
    · obtain rfl : k = n := by omega
      go_wp2
      go_ret
      exact ⟨rfl, hbel⟩

theorem two_cells {W : World} {R : Nat} {c0 c1 : Value} {T : TypeId} (h : W.heap[R]? = some (.cells #[c0, c1] T (0, 0))) : W.cell? ⟨R, 0, none⟩ = some c0 ∧ W.cell? ⟨R, 1, none⟩ = some c1 := ⟨(box2_cell h).1, (box2_cell h).2.1⟩
theorem box_oldS {w : World} {q : Nat} {x : Obj} {o : Obj} (h : w.heap[q]? = some x) : (w.alloc o).heap[q]? = some x := box_old h (Array.getElem?_eq_some_iff.1 h).1 o
theorem one_old {w : World} {q : Nat} {c : Value} {T : TypeId} (h : w.heap[q]? = some (.cells #[c] T (0, 0))) : w.cell? ⟨q, 0, none⟩ = some c := by rw [cell_of_row w q 0 _ T (0, 0) h]; rfl
theorem one_new (w : World) (c : Value) {T : TypeId} : (w.alloc (.cells #[c] T)).cell? ⟨w.heap.size, 0, none⟩ = some c := one_old (T := T) (heap_alloc_new w _)

set_option maxRecDepth 100000 in
set_option maxHeartbeats 3200000 in
theorem addFact_any (v : Value) (len base : Nat) (kd : ByteArray) (a : Option Addr) (cap : Nat) (L : List V3) (bs F : List UInt8) (w : World) (hown : w.ownsRow base 5 1 v len (vals bs)) (hbase : base ≤ w.heap.size) (hr : RdV w a L) (hblk : ∀ b off, a = some ⟨b, off, none⟩ → b < base)
    (hn : bs.length ≤ 1048580) (hk : kd.size ≤ 1048580) (hs : szL L ≤ 1048580) (hF : bs ++ encF kd L = F) :
    Calls Try.prog 28 #[v, .agg #[.string kd, .slice a L.length cap]] w fun e w' =>
      ∃ v', e = .returned v' ∧ w'.ownsRow base 5 1 v' F.length (vals F) ∧ Below base w w' := by
  have hlL : L.length ≤ 1048580 := by unfold szL at hs; omega
  have hel := encN_length L.length
  have htl := encT_length kd
  obtain ⟨E, HE⟩ : ∃ E : Nat → List UInt8, Hid (∀ k, E k = bs ++ (encT kd ++ (encN L.length ++ encVs (L.take k)))) := ⟨_, fun k => rfl⟩
  obtain ⟨D, HD⟩ : ∃ D, Hid (bs ++ encT kd = D) := ⟨_, rfl⟩
  have HE0 : Hid (D ++ encN L.length = E 0) := by unfold Hid; rw [HE.out 0, ← HD.out]; simp [encVs]
  have HEn : Hid (E L.length = F) := by unfold Hid; rw [HE.out, List.take_length, ← hF]; rfl
  have HEs : Hid (∀ k, k < L.length → E k ++ encV (vAt L k).K (vAt L k).N (vAt L k).S = E (k + 1)) := fun k hk => by
    rw [HE.out, HE.out, encVs_step hk]; simp
  have HEl : Hid (∀ k, (E k).length ≤ 2097210 + 12 * 1048580) := fun k => by
    rw [HE.out]
    have := encVs_take L k
    simp only [List.length_append]; omega
  have hD : D.length ≤ 2097180 := by rw [← HD.out]; simp; omega
  have HS : Hid (∀ k, k < L.length → (vAt L k).S.size ≤ 1048580) := fun k hk => by
    rw [vAt_in hk]
    have := szL_mem (List.getElem_mem hk)
    omega
  clear HE hF hs hel htl
  obtain ⟨n, hN⟩ : ∃ n, n = L.length := ⟨_, rfl⟩
  rw [← hN] at hlL HE0 HEn ⊢
  have HN := hide hN
  clear hN
  have hX := box2_new w (.string kd) (.slice a n cap) 29
  have hO := hown.alloc (.cells #[.string kd, .slice a n cap] 29)
  have hB : Below base w (w.alloc (.cells #[.string kd, .slice a n cap] 29)) := (Below.refl base w).alloc hbase _
  have hz : base ≤ (w.alloc (.cells #[.string kd, .slice a n cap] 29)).heap.size := by simp; omega
  obtain ⟨x0, x1, -, -⟩ := box2_cell hX
  go_enter Try.func28, Try.ntmps28
  go_wp2_with fail
  generalize hw1 : w.alloc (.cells #[.string kd, .slice a n cap] 29) = w1 at hX hO hB hz x0 x1 ⊢
  have HX := hide hX
  have HO := hide hO
  clear hX hO hown hw1
  have HXd : Hid (w1.drew.heap[w.heap.size]? = some (.cells #[.string kd, .slice a n cap] 29 (0, 0))) := HX.out
  have HOd : Hid (w1.drew.ownsRow base 5 1 v len (vals bs)) := HO.out
  have hzd : base ≤ w1.drew.heap.size := hz
  have hBd : Below base w w1.drew := hB.drew
  have HXa : Hid ((w1.alloc (.cells #[.int .i64 (n : Int)] 3)).drew.heap[w.heap.size]? = some (.cells #[.string kd, .slice a n cap] 29 (0, 0))) := box_old HX.out (Array.getElem?_eq_some_iff.1 HX.out).1 (.cells #[.int .i64 (n : Int)] 3)
  have HOa : Hid ((w1.alloc (.cells #[.int .i64 (n : Int)] 3)).drew.ownsRow base 5 1 v len (vals bs)) := HO.out.alloc (.cells #[.int .i64 (n : Int)] 3)
  have HI : Hid ((w1.alloc (.cells #[.int .i64 (n : Int)] 3)).drew.heap[w1.heap.size]? = some (.cells #[.int .i64 (n : Int)] 3 (0, 0))) := heap_alloc_new w1 (.cells #[.int .i64 (n : Int)] 3)
  have hza : base ≤ (w1.alloc (.cells #[.int .i64 (n : Int)] 3)).drew.heap.size := by show base ≤ (w1.alloc _).heap.size; rw [World.size_alloc]; omega
  have hBa : Below base w (w1.alloc (.cells #[.int .i64 (n : Int)] 3)).drew := (hB.alloc hz _).drew
  go_region_held3 (fun W => W.cell? ⟨w.heap.size, 0, none⟩ = some (.string kd) ∧ W.cell? ⟨w.heap.size, 1, none⟩ = some (.slice a n cap)) (first | exact ⟨x0, x1⟩ | (with_reducible exact two_cells HXa.out) | exact two_cells (ht2 _ _ _ _ (by decide) HXd.out) | exact two_cells (ht2 _ _ _ _ (by decide) HXa.out) | exact two_cells (box_oldS (ht2 _ _ _ _ (by decide) HXd.out)) | exact two_cells (ht3 _ _ _ _ (by decide) (ht2 _ _ _ _ (by decide) HXa.out)) | exact two_cells (ht3 _ _ _ _ (by decide) (box_oldS (ht2 _ _ _ _ (by decide) HXd.out))))
    (first
    | (go_at_call 50; refine (addText_any v len base kd bs _ ?_ ?_ (by omega) hk).mono ?_; (with_reducible exact HOd.out); (with_reducible exact hzd); rw [HD.out]; rintro e w2 ⟨v2, rfl, ho2, hb2, ht2⟩; have B2 : Below base w w2 := hBd.trans hb2; have X2 := hide (ht2 _ _ _ _ (by decide) HXd.out))
    | (go_at_call 50; refine (addText_any v len base kd bs _ ?_ ?_ (by omega) hk).mono ?_; (with_reducible exact HOa.out); (with_reducible exact hza); rw [HD.out]; rintro e w2 ⟨v2, rfl, ho2, hb2, ht2⟩; have B2 : Below base w w2 := hBa.trans hb2; have X2 := hide (ht2 _ _ _ _ (by decide) HXa.out))
    | (go_at_call 49; refine (putNums_one v2 D.length base _ n D _ ?_ ?_ (by omega) ?_).mono ?_; (with_reducible exact ho2.alloc _); (rw [World.size_alloc]; exact Nat.le_succ_of_le (Nat.le_trans hbase B2.size)); (exact one_new _ _); rw [HE0.out]; rintro e w3 ⟨v3, rfl, ho3, hb3, ht3⟩; have B3 : Below base w w3 := (B2.alloc (Nat.le_trans hbase B2.size) _).trans hb3; have X3 := hide (ht3 _ _ _ _ (by decide) (box_oldS X2.out)))
    | (go_at_call 49; refine (putNums_one v2 D.length base _ n D _ ?_ ?_ (by omega) ?_).mono ?_; (with_reducible exact ho2); (exact Nat.le_trans hbase B2.size); (exact one_old (ht2 _ _ _ _ (by decide) HI.out)); rw [HE0.out]; rintro e w3 ⟨v3, rfl, ho3, hb3, ht3⟩; have B3 : Below base w w3 := B2.trans hb3; have X3 := hide (ht3 _ _ _ _ (by decide) X2.out)))
  all_goals
    have HO3 := hide ho3
    have HB3 := hide B3
    have HX3 := hide X3.out
    clear ho3 B3 X3 ho2 hb2 ht2 X2 B2 hb3 ht3 HX HO HXa HI HXd HOd HOa hzd hza hBd hBa x0 x1 hB
    obtain ⟨t0, t1, -, -⟩ := box2_cell HX3.out
    go_wp2
    go_loopw [0, 19] (fun b i wr => ∃ (k : Nat) (v' : Value), k ≤ n ∧ i = .int .i64 k ∧ b = v' ∧ wr.ownsRow base 5 1 v' (E k).length (vals (E k)) ∧ Below base w wr) (fun _ i _ => n - (intOf i).toNat)
    case atStart => exact ⟨0, _, Nat.zero_le _, rfl, rfl, HO3.out, HB3.out⟩
    case round =>
      obtain ⟨k, v', hk', rfl, rfl, ho, hbel⟩ := hrel
      clear HO3 HB3 HX3
      by_cases hlt : k < n
      · obtain ⟨b1, o1, e1, -, hc1⟩ := (hr.belowB hblk hbel).open (by rw [← HN.out]; omega)
        obtain ⟨c0, c1, c2⟩ := hc1 k (by rw [← HN.out]; exact hlt)
        clear hc1
        subst e1
        have hle := HEl.out k
        go_wp2_with fail
        refine (addVal_any _ (E k).length base _ _ _ (E k) _ (ho.alloc _) (by have := hbel.size; simp; omega) (by omega) (HS.out k (by rw [← HN.out]; exact hlt))).mono ?_
        rw [HEs.out k (by rw [← HN.out]; exact hlt)]
        rintro e w5 ⟨v5, rfl, ho5, hb5⟩
        have B5 : Below base w w5 := (hbel.alloc (Nat.le_trans hbase hbel.size) _).trans hb5
        have HO5 := hide ho5
        clear ho5 ho hb5 hbel c0 c1 c2
        go_wp2
        go_roundw
        case rel => exact ⟨k + 1, v5, by omega, by go_num, rfl, HO5.out, B5⟩
        case measure => simp [intOf]; omega
      · obtain rfl : k = n := by omega
        rw [HEn.out] at ho
        have HO5 := hide ho
        clear ho
        go_wp2
        go_ret
        exact ⟨_, rfl, HO5.out, hbel⟩

theorem roomForFact_o (kd : ByteArray) (a : Option Addr) (cap : Nat) (L : List V3) (w : World) (hr : RdV w a L) (hk : kd.size ≤ 1048580) (hs : szL L ≤ 1048580) :
    Calls Try.prog 30 #[.agg #[.string kd, .slice a L.length cap]] w fun e w' =>
      ∃ room : Nat, room ≤ 33554432 ∧ e = .returned (.int .i64 (room : Int)) ∧ Below w.heap.size w w' :=
  (roomForFact_any kd a cap L w hr hk hs).mono fun e w' h => ⟨_, by unfold roomL; rw [sumS_end]; unfold szL at hs; omega, h.1, h.2⟩
theorem copyWithRoom_o (a : Option Addr) (cap room : Nat) (bs : List UInt8) (w : World) (hr : Rd w a bs) (hn : bs.length ≤ 33554432) (hm : room ≤ 33554432) :
    Calls Try.prog 29 #[.slice a bs.length cap, .int .i64 (room : Int)] w fun e w' =>
      ∃ v, e = .returned v ∧ w'.ownsRow w.heap.size 5 1 v bs.length (vals bs) ∧ Below w.heap.size w w' :=
  (copyWithRoom_any a cap room bs w hr hn hm).mono fun e w' h => ⟨_, h.1, h.2.1, h.2.2⟩
theorem blk_of {w : World} {a : Option Addr} {L : List V3} (h : RdV w a L) (hp : 0 < L.length) : ∀ b off, a = some ⟨b, off, none⟩ → b < w.heap.size := by
  obtain ⟨b, off, e, hb, -⟩ := h.open hp
  intro b' off' e'
  rw [e] at e'
  simp only [Option.some.injEq, Addr.mk.injEq] at e'
  omega

set_option maxRecDepth 100000 in
set_option maxHeartbeats 3200000 in
theorem implPutFact_any (p : Option Addr) (cap : Nat) (kd : ByteArray) (a : Option Addr) (ca : Nat) (L : List V3) (bs F : List UInt8) (w : World) (h : Rd w p bs) (hr : RdV w a L) (hblk : ∀ b off, a = some ⟨b, off, none⟩ → b < w.heap.size) (hn : bs.length ≤ 1048580) (hk : kd.size ≤ 1048580) (hs : szL L ≤ 1048580) (hF : bs ++ encF kd L = F) :
    Calls Try.prog 13 #[.slice p bs.length cap, .agg #[.string kd, .slice a L.length ca]] w fun e w' =>
      ∃ v, e = .returned v ∧ w'.ownsRow w.heap.size 5 1 v F.length (vals F) ∧ Below w.heap.size w w' := by
  have hroom : 10 + kd.size + roomL L L.length ≤ 33554432 := by
    unfold roomL; rw [sumS_end]; unfold szL at hs; omega
  have b0 := below_al w (.cells #[.string kd, .slice a L.length ca] 29)
  have hX := box2_new w (.string kd) (.slice a L.length ca) 29
  obtain ⟨x0, x1, -, -⟩ := box2_cell hX
  have hr1 := hr.below b0
  have h1 := h.below b0
  have z1 : w.heap.size < (w.alloc (.cells #[.string kd, .slice a L.length ca] 29)).heap.size := by rw [World.size_alloc]; omega
  go_enter Try.func13, Try.ntmps13
  go_wp2_with fail
  generalize w.alloc (.cells #[.string kd, .slice a L.length ca] 29) = w1 at hX b0 x0 x1 hr1 h1 z1 ⊢
  have HXd : Hid (w1.drew.heap[w.heap.size]? = some (.cells #[.string kd, .slice a L.length ca] 29 (0, 0))) := hX
  have H1 : Hid (Rd w1.drew p bs) := h1
  have HR1 : Hid (RdV w1.drew a L) := hr1.heap rfl
  have bd : Below w.heap.size w w1.drew := b0.drew
  have zd : w.heap.size < w1.drew.heap.size := z1
  clear hX h1 hr1 b0 z1 h hr hroom
  go_region_held3 (fun W => W.cell? ⟨w.heap.size, 0, none⟩ = some (.string kd) ∧ W.cell? ⟨w.heap.size, 1, none⟩ = some (.slice a L.length ca)) (first | exact ⟨x0, x1⟩ | exact two_cells (box_step HXd.out hb2) | exact two_cells (box_step (box_step HXd.out hb2) hb3) | exact two_cells (box_below (box_step (box_step HXd.out hb2) hb3) hb4 (Nat.lt_of_lt_of_le zd hb2.size)))
    (first
    | (go_at_call 30; refine (roomForFact_o kd a ca L _ ?_ hk hs).mono ?_; (with_reducible exact HR1.out); rintro e w2 ⟨room, hroom, rfl, hb2⟩)
    | (go_at_call 29; refine (copyWithRoom_o p cap room bs _ ?_ (by omega) hroom).mono ?_; (exact H1.out.below hb2); rintro e w3 ⟨v3, rfl, ho3, hb3⟩)
    | (go_at_call 28; refine (addFact_any v3 bs.length w2.heap.size kd a ca L bs F _ ?_ hb3.size ((HR1.out.below hb2).below hb3) (fun b off e => Nat.lt_of_lt_of_le (hblk b off e) (Nat.le_trans (Nat.le_of_lt zd) hb2.size)) (by omega) hk hs hF).mono ?_; (with_reducible exact ho3); rintro e w4 ⟨v4, rfl, ho4, hb4⟩))
  all_goals
    have hz2 : w.heap.size ≤ w2.heap.size := Nat.le_trans (Nat.le_of_lt zd) hb2.size
    have B4 : Below w.heap.size w w4 := ((bd.trans (hb2.mono (Nat.le_of_lt zd))).trans (hb3.mono hz2)).trans (hb4.mono hz2)
    have HO := hide (ownsRow_base ho4 hz2)
    clear ho4 ho3 hb4 hb3 hb2
    go_wp2
    go_ret
    exact ⟨_, rfl, HO.out, B4⟩
end Go.Proofs.Ytddcmifebhdgfab
